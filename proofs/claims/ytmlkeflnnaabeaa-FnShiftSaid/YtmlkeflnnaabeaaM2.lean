/-
  Texts that the proofs over this seat rest on, one behind the other (2 of 5).
-/
import Derived.Test.YtmlkeflnnaabeaaM1
import Derived.StillTailTactics
import Derived.Deep.RegionHeld3

/-
  Contracts of the specification's builder: spec.l02Keep, l02Done.
-/
namespace Go.Proofs.Ytmlkeflnnaabeaa.low
open Go.RowKit
set_option linter.unusedVariables false

theorem below_new (w : World) (o : Obj) : Below w.heap.size w (w.alloc o) := (Below.refl _ _).alloc (Nat.le_refl _) o
def keepTo (q : List Pt) (n : Int) : List Pt :=
  match q.getLast? with
  | some p => if p.kind = 1 then q.set (q.length - 1) ⟨p.kind, p.n + n, p.signs⟩ else q ++ [⟨1, n, []⟩]
  | none => q ++ [⟨1, n, []⟩]
theorem keepTo_nil (n : Int) : keepTo [] n = [⟨1, n, []⟩] := rfl
theorem keepTo_t {r : List Pt} {p : Pt} (n : Int) (h : p.kind = 1) : keepTo (r ++ [p]) n = r ++ [⟨p.kind, p.n + n, p.signs⟩] := by
  simp [keepTo, h]
theorem keepTo_f {r : List Pt} {p : Pt} (n : Int) (h : ¬ p.kind = 1) : keepTo (r ++ [p]) n = r ++ [p] ++ [⟨1, n, []⟩] := by
  simp [keepTo, h]

theorem cellsOf_setN : ∀ (ps : List Pt) (us : List Value) (i : Nat) (p : Pt) (b : Int), us.length = ps.length → ps[i]? = some p →
    (cellsOf ps us).set (i * 3 + 1) (.int .i64 b) = cellsOf (ps.set i ⟨p.kind, b, p.signs⟩) us
  | [], us, i, p, b, _, h => by simp at h
  | _ :: _, [], i, p, b, hl, _ => by simp at hl
  | x :: ps, u :: us, 0, p, b, hl, h => by
    simp at h
    subst h
    rfl
  | x :: ps, u :: us, i + 1, p, b, hl, h => by
    have e0 : (i + 1) * 3 + 1 = i * 3 + 1 + 1 + 1 + 1 := by omega
    rw [e0]
    show .int .i64 x.kind :: .int .i64 x.n :: u :: (cellsOf ps us).set (i * 3 + 1) (.int .i64 b) = .int .i64 x.kind :: .int .i64 x.n :: u :: cellsOf (ps.set i ⟨p.kind, b, p.signs⟩) us
    rw [cellsOf_setN ps us i p b (by simpa using hl) (by simpa using h)]
theorem Apart.setN {lo hi : Nat} {w : World} {r : List Pt} {p q : Pt} {us : List Value} (h : Apart lo hi w (r ++ [p]) us) (hq : q.signs = p.signs) : Apart lo hi w (r ++ [q]) us := by
  refine ⟨by simpa using h.1, fun i x u hx hu => ?_, h.2.2⟩
  by_cases hi' : i < r.length
  · rw [List.getElem?_append_left hi'] at hx
    exact h.2.1 i x u (by rw [List.getElem?_append_left hi']; exact hx) hu
  · have e : i = r.length := by have := idx_lt hx; simp at this; omega
    subst e
    simp at hx
    subst hx
    have := h.2.1 r.length p u (by simp) hu
    rw [hq]
    exact this

/-- the last part's number is changed in place -/
theorem Box.setN {lo g gv cap : Nat} {T : TypeId} {w : World} {u : Value} {d b : Int} {r : List Pt} {p : Pt} {us : List Value} (h : Box lo g T w (.slice (some ⟨gv, 0, none⟩) (r.length + 1) cap) u d (r ++ [p]) us) (hT1 : ¬ T = 3) (hT2 : ¬ T = 80)
    (ha : Apart lo w.heap.size w (r ++ [p]) us) :
    Box lo g T (w.setCell ⟨gv, r.length * 3 + 1, none⟩ (.int .i64 b)) (.slice (some ⟨gv, 0, none⟩) (r.length + 1) cap) u d (r ++ [⟨p.kind, b, p.signs⟩]) us ∧
    Apart lo (w.setCell ⟨gv, r.length * 3 + 1, none⟩ (.int .i64 b)).heap.size (w.setCell ⟨gv, r.length * 3 + 1, none⟩ (.int .i64 b)) (r ++ [⟨p.kind, b, p.signs⟩]) us ∧
    Below lo w (w.setCell ⟨gv, r.length * 3 + 1, none⟩ (.int .i64 b)) := by
  have hgv := own_far h.row h.box hT2
  have hge := own_ge h.row gv rfl
  have hl : us.length = (r ++ [p]).length := h.len
  refine ⟨⟨?_, ?_, by simpa using hl, h.low⟩, ?_, (Below.refl _ _).setCell hge _⟩
  · rw [Below.heap_setCell _ _ _ _ (fun e => hgv (by simp [Value.ownBlock]; exact e.symm))]; exact h.box
  · have e1 := cellsOf_setN (r ++ [p]) us r.length p b hl (by simp)
    have e2 : (r ++ [p]).set r.length ⟨p.kind, b, p.signs⟩ = r ++ [⟨p.kind, b, p.signs⟩] := by simp
    rw [e2] at e1
    rw [← e1]
    have := (World.ownsRow.stored (n := r.length + 1) (by simpa using h.row) (r.length * 3 + 1) (.int .i64 b)).1
    simpa using this
  · refine Apart.setN (p := p) (ha.keep (by simp) (fun i x k hx hk1 hk2 => ?_)) rfl
    obtain ⟨q, hq⟩ := idx_some (l := r ++ [p]) (i := i) (by rw [← hl]; exact idx_lt hx)
    obtain ⟨c1, e1⟩ := own_blk (ha.2.1 i q x hq hx).1 hk1
    have hne : ¬ k = gv := fun e => by
      subst e
      exact own_far h.row e1 (by decide) rfl
    rw [Below.heap_setCell _ _ _ _ hne]

theorem setN_fr {S : Nat → Prop} {g gv n cap o : Nat} {us : List Value} {w : World} (h : OwnS S g (.slice (some ⟨gv, 0, none⟩) n cap) us) (x : Value) : Fr S w (w.setCell ⟨gv, o, none⟩ x) := (Fr.refl S w).setCell (p := ⟨gv, o, none⟩) (h.2.1 gv rfl) x
/-- the builder's end: the parts -/
def Gone (lo : Nat) (ps : List Pt) (w : World) (e : Ending) (w' : World) : Prop := ∃ v, e = .returned v ∧ PBuf lo w'.heap.size w' v ps ∧ Below lo w w'
def GoneS (S : Nat → Prop) (lo : Nat) (ps : List Pt) (w : World) (e : Ending) (w' : World) : Prop := ∃ v us, e = .returned v ∧ PBuf lo w'.heap.size w' v ps ∧ Below lo w w' ∧ Fr S w w' ∧ w'.ownsRow lo 80 3 v ps.length (cellsOf ps us) ∧ us.length = ps.length ∧ (∀ k, v.ownBlock = some k → S k) ∧ ∀ (i k : Nat) (x : Value), us[i]? = some x → x.ownBlock = some k → S k
theorem Box.parts {lo g : Nat} {T : TypeId} {w : World} {v u : Value} {d : Int} {ps : List Pt} {us : List Value} (h : Box lo g T w v u d ps us) (ha : Apart lo w.heap.size w ps us) : PBuf lo w.heap.size w v ps :=
  ⟨us, h.row, ha, fun k hk => by obtain ⟨c1, e1⟩ := own_blk h.row hk; exact lt_of_some e1, Nat.le_refl _, Nat.le_trans h.low (Nat.le_of_lt h.lt)⟩

set_option maxHeartbeats 1600000 in
theorem specDone_f (S : Nat → Prop) (lo g : Nat) (ps : List Pt) (put : List Int) (d : Int) (w : World) (hb : BAtS S lo g 114 w ps put d) (hS : ∀ b, w.heap.size ≤ b → S b) (hl : ps.length ≤ 4294967296) (hp : put.length ≤ 4294967296) :
    Calls Try.prog 91 #[.pointer (some ⟨g, 0, none⟩)] w (GoneS S lo (ps ++ putL put ++ dropL d) w) := by
  go_enter Try.func91, Try.ntmps91
  go_wp2_with fail
  refine (specFlush_f S lo g ps put d w hb hS hl hp).mono ?_
  rintro e w1 ⟨rfl, ⟨v, us, hx, ha, hos⟩, b1, fr1⟩
  have HS := Lib.hid hS
  have HOS := Lib.hid hos
  have HR := Lib.hid fr1
  clear hS hos fr1
  obtain ⟨Av, cv, rfl⟩ := own_form hx.row
  have c0 := hx.cell0
  have HX := Lib.hid hx
  have HA := Lib.hid ha
  clear hx ha
  generalize ps ++ putL put ++ dropL d = q at *
  go_wp2
  go_ret
  exact ⟨_, us, rfl, HX.out.parts HA.out, b1, HR.out, HX.out.row, HX.out.len, HOS.out.2.1, HOS.out.2.2⟩

set_option maxRecDepth 100000 in
set_option maxHeartbeats 3200000 in
theorem specKeep_f (S : Nat → Prop) (lo g : Nat) (ps : List Pt) (put : List Int) (d n : Int) (w : World) (hb : BAtS S lo g 114 w ps put d) (hS : ∀ b, w.heap.size ≤ b → S b) (hl : ps.length ≤ 4294967296) (hp : put.length ≤ 4294967296) (hn : ¬ n = 0) (hn0 : 0 ≤ n) (hn1 : n ≤ 1048576)
    (hq : ∀ p ∈ ps ++ putL put ++ dropL d, 0 ≤ p.n ∧ p.n ≤ 4611686018427387904) (hql : (ps ++ putL put ++ dropL d).length ≤ 4294967298) :
    Calls Try.prog 88 #[.pointer (some ⟨g, 0, none⟩), .int .i64 n] w (FlushedS S lo g 114 w (keepTo (ps ++ putL put ++ dropL d) n)) := by
  obtain ⟨i0, hi0, hz0, hz1, hz2⟩ := info_parts part_info
  go_enter Try.func88, Try.ntmps88
  go_wp2_with fail
  refine (specFlush_f S lo g ps put d w hb hS hl hp).mono ?_
  rintro e w1 ⟨rfl, ⟨v, us, hx, ha, hos⟩, b1, fr1⟩
  have HS := Lib.hid hS
  have HOS := Lib.hid hos
  have HR := Lib.hid fr1
  clear hS hos fr1
  generalize ps ++ putL put ++ dropL d = q at *
  have c0 := hx.cell0
  have f0 := hx.free 0
  have hne := own_far hx.row hx.box (by decide)
  have hlo : lo ≤ w1.heap.size := Nat.le_trans hx.low (Nat.le_of_lt hx.lt)
  rcases q.eq_nil_or_concat with rfl | ⟨r, p, rfl⟩
  · obtain ⟨Av, cv, rfl⟩ := own_form hx.row
    have HX := Lib.hid hx
    have HA := Lib.hid ha
    clear hx ha
    go_wp2_with (at_builtin; refine wpList_append_lies _ rfl (.tmp 51) (.tmp 54) 26 rfl lo 80 i0 _ 3 40 Try.underlying26 hi0 hz0 hz1 hz2 rfl (by omega) (.slice Av 0 cv) 0 (cellsOf [] us) rfl (HX.out.row.alloc _) ⟨w1.heap.size, 0, none⟩ 1 1 [.int .i64 1, .int .i64 n, .slice none 0 0] rfl rfl (World.news_of_block (cs := #[.int .i64 1, .int .i64 n, .slice none 0 0]) (t := 80) (fr := (0, 0)) (heap_alloc_new w1 _)) (by simp [Value.oneCell']) (by omega) (by unfold maxLen; omega) (by omega) (by simp; omega) (w1.heap.size + 1) (by simp) ?_; intro gg cap w2 hown1 hgrow hat hlt; have hf := free_grown (o := 0) HX.out.box (below_new w1 _) hgrow hne; have hc : w2.cell? ⟨g, 0, none⟩ = some (.slice Av 0 cv) := cell_grown 0 HX.out.box (below_new w1 _) hgrow hne)
    go_end0
    obtain ⟨hx2, ha2, b2⟩ := Box.push (p := ⟨1, n, []⟩) HX.out (by decide) (by decide) (Apart.bare 1 n HA.out) (below_new w1 _) hown1 hgrow
    refine ⟨rfl, ?_, b1.trans b2, HR.out.trans (push_fr HOS.out (below_new w1 _) hgrow _)⟩
    rw [keepTo_nil]
    exact ⟨_, _, hx2, ha2, HOS.out.push nil_own hat (HS.out _ (by have := HR.out.size; omega))⟩
  · rw [List.concat_eq_append] at *
    have hrl : (r ++ [p]).length = r.length + 1 := by simp
    rw [hrl] at hql
    have hp0 := hq p (by simp)
    clear hq
    rcases hx.row.2 with ⟨_, h0⟩ | ⟨gv, cap0, cur, rfl, hgv, hhv, hcap, hcap2, _, _⟩
    · simp at h0
    rw [hrl] at c0 hne hcap hx
    have hrow : w1.ownsRow lo 80 3 (.slice (some ⟨gv, 0, none⟩) (r.length + 1) cap0) (r.length + 1) (cellsOf (r ++ [p]) us) := by have := hx.row; rwa [hrl] at this
    have k0 : w1.cell? ⟨gv, r.length * 3, none⟩ = some (.int .i64 p.kind) := by
      have := hrow.cellAt (r.length * 3) (by omega)
      obtain ⟨u, hu⟩ := idx_some (l := us) (i := r.length) (by rw [hx.len]; simp)
      rw [this, (cellsOf_at (r ++ [p]) us r.length p u (by simp) hu).1]
    have k1 : w1.cell? ⟨gv, r.length * 3 + 1, none⟩ = some (.int .i64 p.n) := by
      have := hrow.cellAt (r.length * 3 + 1) (by omega)
      obtain ⟨u, hu⟩ := idx_some (l := us) (i := r.length) (by rw [hx.len]; simp)
      rw [this, (cellsOf_at (r ++ [p]) us r.length p u (by simp) hu).2.1]
    have fv := hrow.frozenAt (r.length * 3 + 1)
    have HRW := Lib.hid hrow
    clear hrow
    have HX := Lib.hid hx
    have HA := Lib.hid ha
    clear hx ha hhv
    by_cases hk : p.kind = 1
    · go_wp2_with fail
      have dx := Lib.hid HX.out.drew
      have da := Lib.hid HA.out.drewS
      have hw1 : IntKind.i64.wrap (r.length : Int) = (r.length : Int) := by rw [IntKind.wrap_i64]; omega
      have hw2 : IntKind.i64.wrap (p.n + n) = p.n + n := by rw [IntKind.wrap_i64]; omega
      have hi1 : (r.length : Int) < (r.length : Int) + 1 := by omega
      go_still_tail 19, (by kernel_rfl)
      clear hw1 hw2
      go_wp2
      go_end0

      obtain ⟨hx2, ha2, b2⟩ := Box.setN (b := p.n + n) dx.out (by decide) (by decide) da.out
      refine ⟨rfl, ?_, b1.trans ((Below.refl _ _).drew.trans b2), HR.out.drew.trans (setN_fr HOS.out _)⟩
      rw [keepTo_t n hk]
      exact ⟨_, _, hx2, ha2, HOS.out⟩
    · go_wp2_with (at_builtin; refine wpList_append_lies _ rfl (.tmp 51) (.tmp 54) 26 rfl lo 80 i0 _ 3 40 Try.underlying26 hi0 hz0 hz1 hz2 rfl (by omega) (.slice (some ⟨gv, 0, none⟩) (r.length + 1) cap0) (r.length + 1) (cellsOf (r ++ [p]) us) rfl (HRW.out.alloc _) ⟨w1.heap.size, 0, none⟩ 1 1 [.int .i64 1, .int .i64 n, .slice none 0 0] rfl rfl (World.news_of_block (cs := #[.int .i64 1, .int .i64 n, .slice none 0 0]) (t := 80) (fr := (0, 0)) (heap_alloc_new w1 _)) (by simp [Value.oneCell']) (by omega) (by unfold maxLen; omega) (by omega) (by simp; omega) (w1.heap.size + 1) (by simp) ?_; intro gg cap w2 hown1 hgrow hat hlt; have hf := free_grown (o := 0) HX.out.box (below_new w1 _) hgrow hne; have hc : w2.cell? ⟨g, 0, none⟩ = some (.slice (some ⟨gv, 0, none⟩) (r.length + 1) cap0) := cell_grown 0 HX.out.box (below_new w1 _) hgrow hne)
      go_end0
      obtain ⟨hx2, ha2, b2⟩ := Box.push (p := ⟨1, n, []⟩) HX.out (by decide) (by decide) (Apart.bare 1 n HA.out) (below_new w1 _) (by rw [hrl]; exact hown1) hgrow
      rw [hrl] at hx2 ha2 b2
      refine ⟨rfl, ?_, b1.trans b2, HR.out.trans (push_fr HOS.out (below_new w1 _) hgrow _)⟩
      rw [keepTo_f n hk]
      exact ⟨_, _, hx2, ha2, HOS.out.push nil_own hat (HS.out _ (by have := HR.out.size; omega))⟩
theorem GoneS.any {S : Nat → Prop} {lo : Nat} {ps : List Pt} {w w' : World} {e : Ending} (h : GoneS S lo ps w e w') : Gone lo ps w e w' := by
  obtain ⟨v, us, h1, h2, h3, _⟩ := h
  exact ⟨v, h1, h2, h3⟩
theorem specDone_any (lo g : Nat) (ps : List Pt) (put : List Int) (d : Int) (w : World) (hb : BAt lo g 114 w ps put d) (hl : ps.length ≤ 4294967296) (hp : put.length ≤ 4294967296) :
    Calls Try.prog 91 #[.pointer (some ⟨g, 0, none⟩)] w (Gone lo (ps ++ putL put ++ dropL d) w) :=
  (specDone_f (fun _ => True) lo g ps put d w hb.all (fun _ _ => trivial) hl hp).mono fun e w' h => h.any
theorem specKeep_any (lo g : Nat) (ps : List Pt) (put : List Int) (d n : Int) (w : World) (hb : BAt lo g 114 w ps put d) (hl : ps.length ≤ 4294967296) (hp : put.length ≤ 4294967296) (hn : ¬ n = 0) (hn0 : 0 ≤ n) (hn1 : n ≤ 1048576)
    (hq : ∀ p ∈ ps ++ putL put ++ dropL d, 0 ≤ p.n ∧ p.n ≤ 4611686018427387904) (hql : (ps ++ putL put ++ dropL d).length ≤ 4294967298) :
    Calls Try.prog 88 #[.pointer (some ⟨g, 0, none⟩), .int .i64 n] w (Flushed lo g 114 w (keepTo (ps ++ putL put ++ dropL d) n)) :=
  (specKeep_f (fun _ => True) lo g ps put d n w hb.all (fun _ _ => trivial) hl hp hn hn0 hn1 hq hql).mono fun e w' h => h.any
end Go.Proofs.Ytmlkeflnnaabeaa.low


/-
  The normal form as a fold over a builder's state: parts so far, what is to be put, how many are dropped.
-/
namespace Go.Proofs.Ytmlkeflnnaabeaa.low
open Go.RowKit
set_option linter.unusedVariables false

def stepN (s : List Pt × List Int × Int) (p : Pt) : List Pt × List Int × Int :=
  if p.kind = 1 then (if p.n = 0 then s else (keepTo (s.1 ++ putL s.2.1 ++ dropL s.2.2) p.n, [], 0))
  else if p.kind = 2 then (s.1, s.2.1 ++ p.signs, s.2.2) else (s.1, s.2.1, s.2.2 + p.n)
def foldN (ps : List Pt) : List Pt × List Int × Int := ps.foldl stepN ([], [], 0)
def doneN (s : List Pt × List Int × Int) : List Pt := s.1 ++ putL s.2.1 ++ dropL s.2.2
/-- the normal form -/
def normL (ps : List Pt) : List Pt := if okOp ps = true then doneN (foldN ps) else []
theorem foldN_snoc {ps : List Pt} {k : Nat} {p : Pt} (h : ps[k]? = some p) : foldN (ps.take (k + 1)) = stepN (foldN (ps.take k)) p := by
  unfold foldN
  rw [List.take_add_one, h]
  simp

theorem signsIn_app (a b : List Pt) : signsIn (a ++ b) = signsIn a + signsIn b := by simp [signsIn]
theorem putL_len (z : List Int) : (putL z).length ≤ 1 ∧ signsIn (putL z) = z.length ∧ ∀ p ∈ putL z, p.n = 0 := by
  unfold putL
  split
  · rename_i h; simp [signsIn, h]
  · simp [signsIn]
theorem dropL_len (d : Int) : (dropL d).length ≤ 1 ∧ signsIn (dropL d) = 0 ∧ ∀ p ∈ dropL d, p.n = d ∧ 0 ≤ d := by
  unfold dropL
  split
  · rename_i h; simp [signsIn]; omega
  · simp [signsIn]

/-- the state behind j valid parts that hold m characters -/
structure Fit (j m : Nat) (s : List Pt × List Int × Int) : Prop where
  len : s.1.length ≤ 3 * j
  signs : signsIn s.1 + s.2.1.length ≤ m
  d0 : 0 ≤ s.2.2
  d1 : s.2.2 ≤ 200 * (j : Int)
  ns : ∀ p ∈ s.1, 0 ≤ p.n ∧ p.n ≤ 200 * (j : Int)
theorem Fit.done {j m : Nat} {s : List Pt × List Int × Int} (h : Fit j m s) : (doneN s).length ≤ 3 * j + 2 ∧ signsIn (doneN s) ≤ m ∧ ∀ p ∈ doneN s, 0 ≤ p.n ∧ p.n ≤ 200 * (j : Int) := by
  obtain ⟨a1, a2, a3⟩ := putL_len s.2.1
  obtain ⟨b1, b2, b3⟩ := dropL_len s.2.2
  have h1 := h.len
  have h2 := h.signs
  have h3 := h.d0
  have h4 := h.d1
  refine ⟨by unfold doneN; simp; omega, by unfold doneN; rw [signsIn_app, signsIn_app]; omega, fun p hp => ?_⟩
  unfold doneN at hp
  rcases List.mem_append.1 hp with hp | hp
  · rcases List.mem_append.1 hp with hp | hp
    · exact h.ns p hp
    · have := a3 p hp; omega
  · have := b3 p hp; omega
theorem keepTo_fit {q : List Pt} {n M : Int} (hn : 0 ≤ n) (hM : 0 ≤ M) (hq : ∀ p ∈ q, 0 ≤ p.n ∧ p.n ≤ M) : (keepTo q n).length ≤ q.length + 1 ∧ signsIn (keepTo q n) = signsIn q ∧ ∀ p ∈ keepTo q n, 0 ≤ p.n ∧ p.n ≤ M + n := by
  rcases q.eq_nil_or_concat with rfl | ⟨r, p, rfl⟩
  · rw [keepTo_nil]
    refine ⟨by simp, by simp [signsIn], fun x hx => ?_⟩
    simp at hx
    subst hx
    simp only
    omega
  · rw [List.concat_eq_append] at *
    have hp := hq p (by simp)
    by_cases hk : p.kind = 1
    · rw [keepTo_t n hk]
      refine ⟨by simp, by rw [signsIn_app, signsIn_app]; simp [signsIn], fun x hx => ?_⟩
      rcases List.mem_append.1 hx with hx | hx
      · have := hq x (by simp [hx]); omega
      · simp at hx
        subst hx
        simp only
        omega
    · rw [keepTo_f n hk]
      refine ⟨by simp, by rw [signsIn_app, signsIn_app]; simp [signsIn], fun x hx => ?_⟩
      rcases List.mem_append.1 hx with hx | hx
      · have := hq x hx; omega
      · simp at hx
        subst hx
        simp only
        omega
theorem Fit.step {j m : Nat} {s : List Pt × List Int × Int} {p : Pt} (h : Fit j m s) (hp : okPt p = true) : Fit (j + 1) (m + p.signs.length) (stepN s p) := by
  have hok := of_okPt hp
  obtain ⟨d1, d2, d3⟩ := h.done
  have h1 := h.len
  have h2 := h.signs
  have h3 := h.d0
  have h4 := h.d1
  have hns := h.ns
  unfold stepN
  split
  · rename_i hk
    have hn : 0 ≤ p.n ∧ p.n ≤ 200 := by omega
    split
    · exact ⟨by omega, by omega, h3, by omega, fun x hx => by have := hns x hx; omega⟩
    · have hM : p.n ≤ 200 * ((j : Int) + 1) := by omega
      obtain ⟨k1, k2, k3⟩ := keepTo_fit (q := doneN s) hn.1 (M := 200 * (j : Int)) (by omega) d3
      refine ⟨?_, ?_, by simp, by simp; omega, fun x hx => ?_⟩
      · show (keepTo (doneN s) p.n).length ≤ _; omega
      · show signsIn (keepTo (doneN s) p.n) + 0 ≤ _; omega
      · have := k3 x hx; omega
  · split
    · rename_i hk
      refine ⟨by simp; omega, by simp; omega, h3, by simp; omega, fun x hx => by have := hns x hx; omega⟩
    · have hn : 0 ≤ p.n ∧ p.n ≤ 200 := by omega
      refine ⟨by simp; omega, by simp; omega, by simp; omega, by simp; omega, fun x hx => by have := hns x hx; omega⟩
theorem Fit.start : Fit 0 0 ([], [], 0) := ⟨by simp, by simp [signsIn], by simp, by simp, fun p hp => by simp at hp⟩
theorem foldN_fit {ps : List Pt} (h : okPs ps = true) : ∀ k, k ≤ ps.length → Fit k (signsIn (ps.take k)) (foldN (ps.take k))
  | 0, _ => by simpa [foldN, signsIn] using Fit.start
  | k + 1, hk => by
    obtain ⟨p, hp⟩ := idx_some (l := ps) (i := k) (by omega)
    rw [foldN_snoc hp, signsIn_snoc hp]
    exact (foldN_fit h k (by omega)).step (okPs_at hp h)
end Go.Proofs.Ytmlkeflnnaabeaa.low


/-
  The contract of spec.OpSame: two lists of parts are equal.
-/
namespace Go.Proofs.Ytmlkeflnnaabeaa.low
open Go.RowKit
set_option linter.unusedVariables false

theorem drewN_below (w : World) (n : Nat) : Below w.heap.size w (w.drewN n) := ⟨rfl, rfl, rfl, Nat.le_refl _, fun _ _ => rfl⟩

end Go.Proofs.Ytmlkeflnnaabeaa.low


/-
  Contracts of spec.OpNorm and spec.IsNorm.
-/
namespace Go.Proofs.Ytmlkeflnnaabeaa.low
open Go.RowKit
set_option linter.unusedVariables false

theorem BAt.past {lo g : Nat} {T : TypeId} {w w' : World} {ps : List Pt} {put : List Int} {d : Int} (h : BAt lo g T w ps put d) (hb : Below w.heap.size w w') : BAt lo g T w' ps put d := by
  obtain ⟨v, u, us, hx, ha⟩ := h
  exact ⟨v, u, us, ⟨(hb.block g hx.lt).trans hx.box, own_keep hx.row (fun k _ hk2 => hb.block k hk2), hx.len, hx.low⟩, ha.keep hb.size (fun i x k _ _ hk2 => hb.block k hk2)⟩
theorem BAt.new (lo : Nat) (T : TypeId) (w : World) (h : lo ≤ w.heap.size) : BAt lo w.heap.size T (w.alloc (.cells #[.slice none 0 0, .slice none 0 0, .int .i64 0] T)) [] [] 0 :=
  ⟨.slice none 0 0, .slice none 0 0, [], ⟨heap_alloc_new w _, World.ownsRow_nil _ _ _ _, rfl, h⟩, Apart.bare 2 0 ⟨rfl, fun i p u hp _ => by simp at hp, fun i j k u v hu _ _ _ => by simp at hu⟩⟩

set_option maxHeartbeats 1600000 in
theorem specKeep_zero (g : Nat) (w : World) : Calls Try.prog 88 #[.pointer (some ⟨g, 0, none⟩), .int .i64 0] w fun e w' => e = .returned (.tuple #[]) ∧ w = w' := by
  go_enter Try.func88, Try.ntmps88
  go_wp2
  first | go_end0 | (refine bodyPost_ret (results_none rfl _ _ _) rfl ?_)
  exact ⟨rfl, rfl⟩

set_option maxRecDepth 100000 in
set_option maxHeartbeats 3200000 in
theorem specOpNorm_any (A : Option Addr) (c : Nat) (ps : List Pt) (w : World) (hr : PRow w w.heap.size A ps) (hl : ps.length ≤ 4294967296) (hls : ∀ p ∈ ps, p.signs.length ≤ 4294967296) (hss : signsIn ps ≤ 1048576) :
    Calls Try.prog 67 #[.slice A ps.length c] w (PsPost (normL ps) w) := by
  cases hok : okOp ps
  · have e1 : normL ps = [] := by simp [normL, hok]
    rw [e1]
    go_enter Try.func67, Try.ntmps67
    go_wp2_with fail
    refine (specOpOk_any A c ps _ hr hl hls).mono ?_
    rintro e w1 ⟨rfl, b1⟩
    rw [hok] at *
    go_wp2
    go_ret
    refine ⟨_, rfl, ⟨[], World.ownsRow_nil _ _ _ _, ⟨rfl, fun i p u hp _ => by simp at hp, fun i j k u v hu _ _ _ => by simp at hu⟩, fun k hk => by simp [Value.ownBlock] at hk, Nat.le_refl _, b1.size⟩, b1⟩
  · have e1 : normL ps = doneN (foldN ps) := by simp [normL, hok]
    rw [e1]
    have hpb : partsB ps = true := by
      unfold okOp at hok
      cases h : partsB ps
      · rw [h] at hok; simp at hok
      · rfl
    have HPB := Lib.hid (partsB_of hpb)
    clear hpb
    go_enter Try.func67, Try.ntmps67
    go_wp2_with fail
    refine (specOpOk_any A c ps _ hr hl hls).mono ?_
    rintro e w1 ⟨rfl, b1⟩
    rw [hok] at *
    clear hok
    go_wp2
    have hnew := BAt.new w.heap.size 114 w1 b1.size
    have hbn := b1.trans ((alloc_below w1 (.cells #[.slice none 0 0, .slice none 0 0, .int .i64 0] 114)).mono b1.size)
    have hgl : w.heap.size ≤ w1.heap.size := b1.size
    generalize w1.alloc (.cells #[.slice none 0 0, .slice none 0 0, .int .i64 0] 114) = w2 at *
    generalize w1.heap.size = g at *
    clear b1
    go_loopw [13] (fun i wr => ∃ k : Nat, k ≤ ps.length ∧ i = .int .i64 k ∧ BAt w.heap.size g 114 wr (foldN (ps.take k)).1 (foldN (ps.take k)).2.1 (foldN (ps.take k)).2.2 ∧ Below w.heap.size w wr) (fun i _ => ps.length - (intOf i).toNat)
    case atStart => exact ⟨0, Nat.zero_le _, rfl, hnew, hbn⟩
    case round =>
      obtain ⟨k, hk, rfl, hat, hbel⟩ := hrel
      clear hnew hbn
      have hfit := foldN_fit HPB.out.1 k hk
      have hpl := HPB.out.2
      by_cases hlt : k < ps.length
      · obtain ⟨b, off, p, rfl, hb, hp, hc⟩ := hr.at_ hlt
        obtain ⟨x0, x1, A1, e1, x2, r1⟩ := hc.keep (w' := wr) hb (fun _ hq => hbel.cell hq)
        have hokp := okPs_at hp HPB.out.1
        have hok := of_okPt hokp
        have hsl := hls p (List.mem_of_getElem? hp)
        have K1 := Lib.hid (foldN_snoc hp)
        have hsg : signsIn (ps.take k) ≤ signsIn ps := signsIn_take ps k
        clear hp hc
        generalize foldN (ps.take k) = st at *
        obtain ⟨qs, put, d⟩ := st
        have hf1 := hfit.len
        have hf2 := hfit.signs
        have hf3 := hfit.d0
        have hf4 := hfit.d1
        have hdn := Lib.hid hfit.done
        simp only at hf1 hf2 hf3 hf4 hat
        obtain ⟨pk, pn, pz⟩ := p
        simp only at x0 x1 x2 hok r1 hsl
        rcases (show pk = 1 ∨ pk = 2 ∨ pk = 3 by omega) with rfl | rfl | rfl
        · have hn1 : 0 ≤ pn := by omega
          have hn2 : pn ≤ 200 := by omega
          clear hok
          by_cases hz : pn = 0
          · subst hz
            go_wp2_with fail
            refine (specKeep_zero g _).mono ?_
            rintro e w' ⟨rfl, rfl⟩
            go_wp2
            go_roundw
            case rel => exact ⟨k + 1, by omega, by go_num, by rw [K1.out]; exact hat.past (alloc_below wr _), hbel.trans ((alloc_below wr _).mono hbel.size)⟩
            case measure => simp [intOf]; omega
          · go_wp2_with fail
            refine (specKeep_any w.heap.size g qs put d pn _ (hat.past (alloc_below wr _)) (by omega) (by omega) hz hn1 (by omega) (fun p hp => by have := hdn.out.2.2 p hp; omega) (by have := hdn.out.1; exact Nat.le_trans this (by omega))).mono ?_
            rintro e w3 ⟨rfl, hn3, b3⟩
            go_wp2
            go_roundw
            case rel => exact ⟨k + 1, by omega, by go_num, by rw [K1.out]; simp only [stepN, if_neg hz]; exact hn3.at_, hbel.trans (((alloc_below wr _).mono hbel.size).trans b3)⟩
            case measure => simp [intOf]; omega
        · clear hok
          go_wp2_with fail
          refine (specPut_any w.heap.size g qs put d A1 e1 pz _ (hat.past (alloc_below wr _)) (Row.past_alloc (r1.more hbel.size) _) (by omega) (by omega)).mono ?_
          rintro e w3 ⟨rfl, hn3, b3⟩
          go_wp2
          go_roundw
          case rel => exact ⟨k + 1, by omega, by go_num, by rw [K1.out]; exact hn3, hbel.trans (((alloc_below wr _).mono hbel.size).trans b3)⟩
          case measure => simp [intOf]; omega
        · have hn1 : 0 ≤ pn := by omega
          have hn2 : pn ≤ 200 := by omega
          clear hok
          go_wp2_with fail
          refine (specDrop_any w.heap.size g qs put d pn _ (hat.past (alloc_below wr _)) (by omega) (by omega) (by omega) (by omega)).mono ?_
          rintro e w3 ⟨rfl, hn3, b3⟩
          go_wp2
          go_roundw
          case rel => exact ⟨k + 1, by omega, by go_num, by rw [K1.out]; exact hn3, hbel.trans (((alloc_below wr _).mono hbel.size).trans b3)⟩
          case measure => simp [intOf]; omega
      · have hke : ps.take k = ps := List.take_of_length_le (by omega)
        rw [hke] at hat hfit
        have hf1 := hfit.len
        have hf2 := hfit.signs
        go_wp2_with fail
        refine (specDone_any w.heap.size g _ _ _ _ hat (by omega) (by omega)).mono ?_
        rintro e w3 ⟨v, rfl, p3, b3⟩
        change PBuf _ _ _ _ (doneN (foldN ps)) at p3
        generalize doneN (foldN ps) = L at *
        obtain ⟨B3, d3, rfl, q3⟩ := p3.slice
        have HP3 := Lib.hid p3
        clear p3
        go_wp2
        go_ret
        exact ⟨_, rfl, HP3.out, hbel.trans b3⟩
theorem normL_fit {ps : List Pt} (hs : signsIn ps ≤ 1048576) : (normL ps).length ≤ 1802 ∧ signsIn (normL ps) ≤ 1048576 := by
  unfold normL
  split
  · rename_i hok
    have hpb : partsB ps = true := by
      unfold okOp at hok
      cases h : partsB ps
      · rw [h] at hok; simp at hok
      · rfl
    obtain ⟨h1, h2⟩ := partsB_of hpb
    have hf := (foldN_fit h1 ps.length (Nat.le_refl _)).done
    rw [List.take_length] at hf
    exact ⟨by have := hf.1; omega, Nat.le_trans hf.2.1 hs⟩
  · simp [signsIn]

/-- a normal operation -/
def isNormL (ps : List Pt) : Bool := okOp ps && samePs (normL ps) ps
end Go.Proofs.Ytmlkeflnnaabeaa.low


/-
  append(out, xs...) where out is a row of numbers of the caller's own and xs reads as numbers, nil and empty let in; a piece of a slice of numbers.
-/
namespace Go.Proofs.Ytmlkeflnnaabeaa.low
open Go.RowKit
set_option linter.unusedVariables false

theorem grown_refl (w : World) (r : Option Nat) : w.grownBy w r := ⟨rfl, rfl, rfl, Nat.le_refl _, fun _ _ _ => rfl⟩
theorem wpList_append_ints {w : World} {ops : Array Oper} {rest : List Oper} {o : Oper} {a : Act} {Q : Exit → Act → World → Prop} (hgd : o.guard = none) (s x : Operand)
    (ho : o.op = .call { callee := .builtin .append, args := #[s, x], argTypes := #[23, 23] })
    (base : Nat) (v : Value) (zs : List Int) (hs : a.eval s = v) (hown : w.ownsRow base 3 1 v zs.length (zs.map (Value.int .i64)))
    (A : Option Addr) (m c : Nat) (ys : List Int) (hx : a.eval x = .slice A m c) (hm : ys.length = m) (hr : Row (Value.int .i64) w w.heap.size A ys)
    (h63 : zs.length + m ≤ 1000000000) (hbase : base ≤ w.heap.size)
    (h : ∀ A' c' w', w'.ownsRow base 3 1 (.slice A' (zs.length + m) c') (zs ++ ys).length ((zs ++ ys).map (Value.int .i64)) → w.grownBy w' v.ownBlock → wpList Try.prog ops Q rest (a.put o.dst (.slice A' (zs.length + m) c')) w') : wpList Try.prog ops Q (o :: rest) a w := by
  obtain ⟨i0, hi0, hz0, hz1, hz2⟩ := info_parts ints_info
  by_cases h0 : 0 < m
  · obtain ⟨ad, rfl, hbk, hcs⟩ := hr (by omega)
    refine wpList_append_lies _ hgd s x 23 ho base 3 i0 (.int .i64 0) 1 8 Try.underlying23 hi0 hz0 hz1 hz2 rfl (by decide) v zs.length (zs.map (Value.int .i64)) hs hown ad m c (ys.map (Value.int .i64)) hx (by simp [hm]) (fun j u hu => ?_) (by simp [Value.oneCell']) h0 (by unfold maxLen; omega) (by omega) hbase w.heap.size rfl ?_
    · rw [List.getElem?_map] at hu
      obtain ⟨z, hz, rfl⟩ := Option.map_eq_some_iff.1 hu
      exact hcs j z hz
    · intro g cap w' hown' hg _ _
      exact h _ cap w' (by simpa [hm] using hown') hg
  · have e0 : ys = [] := List.eq_nil_of_length_eq_zero (by omega)
    subst e0
    obtain rfl : m = 0 := by omega
    refine wpList_append_zero hgd s x 23 ho base 3 i0 1 Try.underlying23 hi0 v zs.length (zs.map (Value.int .i64)) hs hown A c hx ?_
    obtain ⟨Av, cv, rfl⟩ := own_form hown
    exact h Av cv w (by simpa using hown) (grown_refl _ _)
theorem grown_cell {w w' : World} {r : Option Nat} {p : Addr} (h : w.grownBy w' r) (hb : p.block < w.heap.size) (hne : ¬ r = some p.block) : w'.cell? p = w.cell? p := World.cell?_of_block (w := w) (h.block p.block hb (fun e => hne e.symm))
/-- the box of a struct that was just made, behind a growth of an older row -/
theorem box_cell {w w' : World} {base n size : Nat} {v : Value} {e T : TypeId} {xs : List Value} {cs : Array Value} (ho : w.ownsRow base e size v n xs) (h : (w.alloc (.cells cs T)).grownBy w' v.ownBlock) (i : Nat) : w'.cell? ⟨w.heap.size, i, none⟩ = cs[i]? := by
  rw [grown_cell h (by simp) (fun e => by have := own_in ho e; simp at this)]
  exact cell_of_row _ _ i _ _ _ (heap_alloc_new w _)
/-- a piece of a slice of numbers -/
theorem Row.piece {w : World} {B : Nat} {ad : Addr} {zs : List Int} (h : Row (Value.int .i64) w B (some ad) zs) (at_ m : Nat) (hl : at_ + m ≤ zs.length) : Row (Value.int .i64) w B (some (ad.add at_)) ((zs.drop at_).take m) := fun hn => by
  have hlen : ((zs.drop at_).take m).length = m := by rw [List.length_take, List.length_drop]; omega
  obtain ⟨ad', e, hb, hc⟩ := h (by omega)
  injection e with e
  subst e
  refine ⟨_, rfl, by rw [block_of_add]; exact hb, fun k z hz => ?_⟩
  have hk : k < m := by have := idx_lt hz; omega
  rw [List.getElem?_take, if_pos hk, List.getElem?_drop] at hz
  have := hc (at_ + k) z hz
  rwa [show ∀ (p : Addr) (i j : Nat), (p.add i).add j = p.add (i + j) from fun p i j => by
    unfold Addr.add
    by_cases hi : i = 0
    · subst hi; simp
    · by_cases hj : j = 0
      · subst hj; simp [hi]
      · simp [hi, hj, Nat.add_assoc]]
theorem piece_len {zs : List Int} {at_ m : Nat} (hl : at_ + m ≤ zs.length) : ((zs.drop at_).take m).length = m := by rw [List.length_take, List.length_drop]; omega
end Go.Proofs.Ytmlkeflnnaabeaa.low


/-
  The builder in one word: Bld: at block g it holds what the parts L, added one by one, have made of it.
-/
namespace Go.Proofs.Ytmlkeflnnaabeaa.low
open Go.RowKit
set_option linter.unusedVariables false

/-- a part of bounded size -/
def szP_ (p : Pt) : Prop := (p.kind = 1 ∨ p.kind = 2 ∨ p.kind = 3) ∧ 0 ≤ p.n ∧ p.n ≤ 200 ∧ p.signs.length ≤ 200
theorem szP_of {p : Pt} (h : okPt p = true) : szP_ p := by
  have := of_okPt h
  unfold szP_
  omega
theorem Fit.stepZ {j m : Nat} {s : List Pt × List Int × Int} {p : Pt} (h : Fit j m s) (hp : szP_ p) : Fit (j + 1) (m + p.signs.length) (stepN s p) := by
  unfold szP_ at hp
  obtain ⟨d1, d2, d3⟩ := h.done
  have h1 := h.len
  have h2 := h.signs
  have h3 := h.d0
  have h4 := h.d1
  have hns := h.ns
  unfold stepN
  split
  · rename_i hk
    have hn : 0 ≤ p.n ∧ p.n ≤ 200 := by omega
    split
    · exact ⟨by omega, by omega, h3, by omega, fun x hx => by have := hns x hx; omega⟩
    · obtain ⟨k1, k2, k3⟩ := keepTo_fit (q := doneN s) hn.1 (M := 200 * (j : Int)) (by omega) d3
      refine ⟨?_, ?_, by simp, by simp; omega, fun x hx => ?_⟩
      · show (keepTo (doneN s) p.n).length ≤ _; omega
      · show signsIn (keepTo (doneN s) p.n) + 0 ≤ _; omega
      · have := k3 x hx; omega
  · split
    · refine ⟨by simp; omega, by simp; omega, h3, by simp; omega, fun x hx => by have := hns x hx; omega⟩
    · refine ⟨by simp; omega, by simp; omega, by simp; omega, by simp; omega, fun x hx => by have := hns x hx; omega⟩
theorem foldN_app (L : List Pt) (p : Pt) : foldN (L ++ [p]) = stepN (foldN L) p := by unfold foldN; simp
theorem foldN_fitZ {L : List Pt} (h : ∀ p ∈ L, szP_ p) : Fit L.length (signsIn L) (foldN L) := by
  have key : ∀ k, k ≤ L.length → Fit k (signsIn (L.take k)) (foldN (L.take k)) := by
    intro k
    induction k with
    | zero => intro _; simpa [foldN, signsIn] using Fit.start
    | succ k ih =>
      intro hk
      obtain ⟨p, hp⟩ := idx_some (l := L) (i := k) (by omega)
      rw [foldN_snoc hp, signsIn_snoc hp]
      exact (ih (by omega)).stepZ (h p (List.mem_of_getElem? hp))
  have := key L.length (Nat.le_refl _)
  rwa [List.take_length] at this
theorem OwnS.mono {S S' : Nat → Prop} {g : Nat} {v : Value} {us : List Value} (h : OwnS S g v us) (hs : ∀ b, S b → S' b) : OwnS S' g v us := ⟨hs _ h.1, fun k hk => hs k (h.2.1 k hk), fun i k x hx hk => hs k (h.2.2 i k x hx hk)⟩
theorem BAtS.mono {S S' : Nat → Prop} {lo g : Nat} {T : TypeId} {w : World} {ps : List Pt} {put : List Int} {d : Int} (h : BAtS S lo g T w ps put d) (hs : ∀ b, S b → S' b) : BAtS S' lo g T w ps put d := by
  obtain ⟨v, u, us, hx, ha, ho⟩ := h
  exact ⟨v, u, us, hx, ha, ho.mono hs⟩
/-- the builder's blocks exist -/
theorem BAtS.shrink {S : Nat → Prop} {lo g : Nat} {T : TypeId} {w : World} {ps : List Pt} {put : List Int} {d : Int} (h : BAtS S lo g T w ps put d) : BAtS (fun b => S b ∧ b < w.heap.size) lo g T w ps put d := by
  obtain ⟨v, u, us, hx, ha, ho⟩ := h
  refine ⟨v, u, us, hx, ha, ⟨ho.1, hx.lt⟩, fun k hk => ⟨ho.2.1 k hk, own_in hx.row hk⟩, fun i k x hxi hk => ⟨ho.2.2 i k x hxi hk, ?_⟩⟩
  obtain ⟨q, hq⟩ := idx_some (l := ps ++ [⟨2, 0, put⟩]) (i := i) (by rw [← ha.1]; exact idx_lt hxi)
  exact own_in (ha.2.1 i q x hq hxi).1 hk
theorem BAtS.keep {S : Nat → Prop} {lo g : Nat} {T : TypeId} {w w' : World} {ps : List Pt} {put : List Int} {d : Int} (h : BAtS S lo g T w ps put d) (hsz : w.heap.size ≤ w'.heap.size) (hk : ∀ b, b < w.heap.size → S b → w'.heap[b]? = w.heap[b]?) : BAtS S lo g T w' ps put d := by
  obtain ⟨v, u, us, hx, ha, ho⟩ := h
  exact ⟨v, u, us, ⟨(hk g hx.lt ho.1).trans hx.box, own_keep hx.row (fun k h1 h2 => hk k h2 (ho.2.1 k h1)), hx.len, hx.low⟩, ha.keep hsz (fun i x k hxi h1 h2 => hk k h2 (ho.2.2 i k x hxi h1)), ho⟩
/-- the builder at block g holds what the parts L have made of it; O: its blocks -/
structure Bld (O : Nat → Prop) (lo g : Nat) (T : TypeId) (w : World) (L : List Pt) : Prop where
  at_ : BAtS O lo g T w (foldN L).1 (foldN L).2.1 (foldN L).2.2
  sz : ∀ p ∈ L, szP_ p
  len : L.length ≤ 100000
  old : ∀ b, O b → b < w.heap.size
/-- blocks outside O are as they were; O' is O and new blocks -/
structure Grew (O O' : Nat → Prop) (w w' : World) : Prop where
  size : w.heap.size ≤ w'.heap.size
  block : ∀ b, b < w.heap.size → ¬ O b → w'.heap[b]? = w.heap[b]?
  more : ∀ b, O' b → O b ∨ w.heap.size ≤ b
def BldP (O : Nat → Prop) (lo g : Nat) (T : TypeId) (L : List Pt) (w : World) (e : Ending) (w' : World) : Prop := e = .returned (.tuple #[]) ∧ ∃ O', Bld O' lo g T w' L ∧ Below lo w w' ∧ Grew O O' w w'
theorem signsIn_le {L : List Pt} (h : ∀ p ∈ L, szP_ p) : signsIn L ≤ 200 * L.length := by
  induction L with
  | nil => simp [signsIn]
  | cons p L ih =>
    have h1 := (h p (by simp)).2.2.2
    have h2 := ih (fun q hq => h q (by simp [hq]))
    have e : signsIn (p :: L) = p.signs.length + signsIn L := by simp [signsIn]
    rw [e, List.length_cons]
    omega
theorem Bld.fit {O : Nat → Prop} {lo g : Nat} {T : TypeId} {w : World} {L : List Pt} (h : Bld O lo g T w L) : Fit L.length (signsIn L) (foldN L) := foldN_fitZ h.sz
theorem Bld.keep {O : Nat → Prop} {lo g : Nat} {T : TypeId} {w w' : World} {L : List Pt} (h : Bld O lo g T w L) (hsz : w.heap.size ≤ w'.heap.size) (hk : ∀ b, b < w.heap.size → O b → w'.heap[b]? = w.heap[b]?) : Bld O lo g T w' L := ⟨h.at_.keep hsz hk, h.sz, h.len, fun b hb => Nat.lt_of_lt_of_le (h.old b hb) hsz⟩
theorem Bld.past {O : Nat → Prop} {lo g : Nat} {T : TypeId} {w w' : World} {L : List Pt} (h : Bld O lo g T w L) (hb : Below w.heap.size w w') : Bld O lo g T w' L := h.keep hb.size (fun b hlt _ => hb.block b hlt)
/-- another builder's growth leaves this one alone -/
theorem Bld.apart {O P P' : Nat → Prop} {lo g : Nat} {T : TypeId} {w w' : World} {L : List Pt} (h : Bld O lo g T w L) (hg : Grew P P' w w') (hd : ∀ b, O b → ¬ P b) : Bld O lo g T w' L ∧ ∀ b, O b → ¬ P' b :=
  ⟨h.keep hg.size (fun b hlt ho => hg.block b hlt (hd b ho)), fun b ho hp => by
    rcases hg.more b hp with h1 | h1
    · exact hd b ho h1
    · have := h.old b ho; omega⟩
theorem Bld.new (lo : Nat) (T : TypeId) (w : World) (h : lo ≤ w.heap.size) : Bld (fun b => b = w.heap.size) lo w.heap.size T (w.alloc (.cells #[.slice none 0 0, .slice none 0 0, .int .i64 0] T)) [] :=
  ⟨show BAtS (fun b => b = w.heap.size) lo w.heap.size T (w.alloc (.cells #[.slice none 0 0, .slice none 0 0, .int .i64 0] T)) [] [] 0 from ⟨.slice none 0 0, .slice none 0 0, [], ⟨heap_alloc_new w _, World.ownsRow_nil _ _ _ _, rfl, h⟩, Apart.bare 2 0 ⟨rfl, fun i p u hp _ => by simp at hp, fun i j k u v hu _ _ _ => by simp at hu⟩, rfl, fun k hk => by simp [Value.ownBlock] at hk, fun i k x hx hk => by
      cases i with
      | zero => simp at hx; subst hx; simp [Value.ownBlock] at hk
      | succ i => simp at hx⟩, fun p hp => by simp at hp, by simp, fun b hb => by
      have hb' : b = w.heap.size := hb
      rw [hb']
      exact lt_of_some (heap_alloc_new w _)⟩
theorem Bld.low {O : Nat → Prop} {lo g : Nat} {T : TypeId} {w : World} {L : List Pt} (h : Bld O lo g T w L) : lo ≤ w.heap.size := by
  obtain ⟨v, u, us, hx, _⟩ := h.at_
  exact Nat.le_trans hx.low (Nat.le_of_lt hx.lt)
/-- what the contracts with frames give, in one word -/
theorem Bld.add {O : Nat → Prop} {lo g : Nat} {T : TypeId} {w w' : World} {L : List Pt} {p : Pt} (h : Bld O lo g T w L) (hl : L.length < 100000) (hp : szP_ p) (hb : Below lo w w') (hf : Fr (fun b => O b ∨ w.heap.size ≤ b) w w') (ha : BAtS (fun b => O b ∨ w.heap.size ≤ b) lo g T w' (stepN (foldN L) p).1 (stepN (foldN L) p).2.1 (stepN (foldN L) p).2.2) : ∃ O', Bld O' lo g T w' (L ++ [p]) ∧ Below lo w w' ∧ Grew O O' w w' :=
  ⟨fun b => (O b ∨ w.heap.size ≤ b) ∧ b < w'.heap.size, ⟨by rw [foldN_app]; exact ha.shrink, fun q hq => by rcases List.mem_append.1 hq with hq | hq; exact h.sz q hq; simp at hq; subst hq; exact hp, by simp; omega, fun b hb => hb.2⟩, hb, hf.size, fun b hlt ho => hf.block b hlt (fun hs => by rcases hs with hs | hs; exact ho hs; omega), fun b hb => hb.1⟩
theorem OwB.grew {O O' : Nat → Prop} {lo hi : Nat} {w w' : World} {d : Dat} {v : Value} {b : List Nat} (h : OwB lo hi w d v b) (hg : Grew O O' w w') (hO : ∀ x, O x → x < lo ∨ hi ≤ x) : OwB lo hi w' d v b :=
  ⟨OwC.keep d v b h.ow (fun x hx => hg.block x (OwC.lt d v b h.ow x hx) (fun ho => by have := h.rng x hx; have := hO x ho; omega)), h.nd, h.rng, Nat.le_trans h.top hg.size, h.le⟩
theorem Grew.out {O O' : Nat → Prop} {lo hi : Nat} {w w' : World} (hg : Grew O O' w w') (hO : ∀ x, O x → x < lo ∨ hi ≤ x) (hh : hi ≤ w.heap.size) : ∀ x, O' x → x < lo ∨ hi ≤ x := fun x hx => by
  rcases hg.more x hx with h | h
  · exact hO x h
  · exact .inr (Nat.le_trans hh h)
/-- it returns the built parts, in blocks of the builder or new ones -/
def DoneP (O : Nat → Prop) (lo : Nat) (L : List Pt) (w : World) (e : Ending) (w' : World) : Prop := ∃ v b, e = .returned v ∧ OwB lo w'.heap.size w' (encPs (doneN (foldN L))) v b ∧ (∀ x ∈ b, O x ∨ w.heap.size ≤ x) ∧ Below lo w w' ∧ Grew O (fun x => x ∈ b) w w'
theorem GoneS.done {O : Nat → Prop} {lo : Nat} {L : List Pt} {w w' : World} {e : Ending} (h : GoneS (fun b => O b ∨ w.heap.size ≤ b) lo (doneN (foldN L)) w e w') : DoneP O lo L w e w' := by
  obtain ⟨v, us, e1, p, b, fr, ho, hl, hv, hu⟩ := h
  have hp := p
  obtain ⟨us', ho', ha', _⟩ := p
  obtain ⟨bs, oc, nd, rng, top, le⟩ := own_parts hp
  have heq : ∀ x ∈ bs, O x ∨ w.heap.size ≤ x := fun x hx => by
    obtain ⟨xs, cs, hox, hor, hb⟩ := oc
    rw [hb] at hx
    rcases List.mem_append.1 hx with hx | hx
    · exact hv x (by simpa using hx)
    · obtain ⟨us2, k1, k2, k3, k4⟩ := owR_parts hor
      rw [k3] at hx
      obtain ⟨i, u, hui, hk⟩ := mem_blks.1 hx
      have e2 : cellsOf (doneN (foldN L)) us2 = cellsOf (doneN (foldN L)) us := by
        rw [← k2]
        rcases ho.2 with ⟨rfl, h0⟩ | ⟨g, cap, cur, rfl, _, hh, _, _, _, ht⟩
        · have : doneN (foldN L) = [] := List.eq_nil_of_length_eq_zero h0
          have l1 := hox.1
          have l2 := ho.1
          rw [this] at l1 l2 ⊢
          simp at l1
          rw [l1]
          rfl
        · rcases hox.2 with ⟨hn, _⟩ | ⟨g', cap', cur', hv', _, hh', _, _, _, ht'⟩
          · cases hn
          · injection hv' with q1 q2 q3
            injection q1 with q1
            injection q1 with q1
            subst q1
            rw [hh] at hh'
            injection hh' with hh'
            injection hh' with hc _ _
            subst hc
            rw [← ht', ← ht]
            simp
      have e3 : us2[i]? = us[i]? := by
        obtain ⟨q, hq⟩ := idx_some (l := doneN (foldN L)) (i := i) (by rw [← k1]; exact idx_lt hui)
        obtain ⟨u2, hu2⟩ := idx_some (l := us) (i := i) (by rw [hl, ← k1]; exact idx_lt hui)
        have a1 := (cellsOf_at _ us2 i q u hq hui).2.2
        have a2 := (cellsOf_at _ us i q u2 hq hu2).2.2
        rw [e2, a2] at a1
        rw [hui, hu2]
        exact a1.symm
      exact hu i x u (by rw [← e3]; exact hui) hk
  exact ⟨v, bs, e1, ⟨oc, nd, rng, top, le⟩, heq, b, fr.size, fun x hlt ho => fr.block x hlt (fun hs => by rcases hs with hs | hs; exact ho hs; omega), heq⟩
end Go.Proofs.Ytmlkeflnnaabeaa.low


/-
  The normal form as a function on lists: its sums are those of the operation, its parts are tidy and stand in order, it is no longer than the operation, and it is its own normal form.
-/
namespace Go.Proofs.Ytmlkeflnnaabeaa.low
open Go.RowKit
set_option linter.unusedVariables false

theorem sumOf_app {f : Pt → Int} (a b : List Pt) : sumOf f (a ++ b) = sumOf f a + sumOf f b := by unfold sumOf; simp
theorem sumOf_cons {f : Pt → Int} (p : Pt) (a : List Pt) : sumOf f (p :: a) = f p + sumOf f a := by unfold sumOf; simp
theorem sumOf_nil {f : Pt → Int} : sumOf f [] = 0 := rfl
theorem sum_done (s : List Pt × List Int × Int) (h : 0 ≤ s.2.2) : sumOf keepOf (doneN s) = sumOf keepOf s.1 ∧ sumOf putOf (doneN s) = sumOf putOf s.1 + (s.2.1.length : Int) ∧ sumOf dropOf (doneN s) = sumOf dropOf s.1 + s.2.2 := by
  unfold doneN putL dropL
  split <;> split <;> simp [sumOf_app, sumOf_cons, sumOf_nil, keepOf, putOf, dropOf] <;> omega
theorem sum_keepTo (q : List Pt) (n : Int) : sumOf keepOf (keepTo q n) = sumOf keepOf q + n ∧ sumOf putOf (keepTo q n) = sumOf putOf q ∧ sumOf dropOf (keepTo q n) = sumOf dropOf q := by
  rcases q.eq_nil_or_concat with rfl | ⟨r, p, rfl⟩
  · rw [keepTo_nil]
    simp [sumOf_cons, sumOf_nil, keepOf, putOf, dropOf]
  · rw [List.concat_eq_append]
    by_cases hk : p.kind = 1
    · rw [keepTo_t n hk]
      simp [sumOf_app, sumOf_cons, sumOf_nil, keepOf, putOf, dropOf, hk]
      omega
    · rw [keepTo_f n hk]
      simp [sumOf_app, sumOf_cons, sumOf_nil, keepOf, putOf, dropOf]
      omega
theorem sum_step {s : List Pt × List Int × Int} {p : Pt} (h : 0 ≤ s.2.2) (hp : szP_ p) : 0 ≤ (stepN s p).2.2 ∧ sumOf keepOf (doneN (stepN s p)) = sumOf keepOf (doneN s) + keepOf p ∧ sumOf putOf (doneN (stepN s p)) = sumOf putOf (doneN s) + putOf p ∧ sumOf dropOf (doneN (stepN s p)) = sumOf dropOf (doneN s) + dropOf p := by
  obtain ⟨hk, hn0, hn1, hz⟩ := hp
  rcases hk with e | e | e
  · by_cases h0 : p.n = 0
    · have : stepN s p = s := by unfold stepN; rw [if_pos e, if_pos h0]
      rw [this]
      simp [keepOf, putOf, dropOf, e, h0]
      exact h
    · have : stepN s p = (keepTo (doneN s) p.n, [], 0) := by unfold stepN; rw [if_pos e, if_neg h0]; rfl
      rw [this]
      obtain ⟨a1, a2, a3⟩ := sum_keepTo (doneN s) p.n
      obtain ⟨b1, b2, b3⟩ := sum_done (keepTo (doneN s) p.n, [], 0) (by simp)
      rw [b1, b2, b3]
      simp only [a1, a2, a3]
      simp [keepOf, putOf, dropOf, e]
  · have : stepN s p = (s.1, s.2.1 ++ p.signs, s.2.2) := by unfold stepN; rw [if_neg (by omega), if_pos e]
    rw [this]
    obtain ⟨b1, b2, b3⟩ := sum_done (s.1, s.2.1 ++ p.signs, s.2.2) h
    obtain ⟨c1, c2, c3⟩ := sum_done s h
    rw [b1, b2, b3, c1, c2, c3]
    simp [keepOf, putOf, dropOf, e]
    omega
  · have : stepN s p = (s.1, s.2.1, s.2.2 + p.n) := by unfold stepN; rw [if_neg (by omega), if_neg (by omega)]
    rw [this]
    have h' : 0 ≤ s.2.2 + p.n := by omega
    obtain ⟨b1, b2, b3⟩ := sum_done (s.1, s.2.1, s.2.2 + p.n) h'
    obtain ⟨c1, c2, c3⟩ := sum_done s h
    rw [b1, b2, b3, c1, c2, c3]
    simp [keepOf, putOf, dropOf, e]
    omega
theorem sum_fold : ∀ (L : List Pt) (s : List Pt × List Int × Int), 0 ≤ s.2.2 → (∀ p ∈ L, szP_ p) → 0 ≤ (L.foldl stepN s).2.2 ∧ sumOf keepOf (doneN (L.foldl stepN s)) = sumOf keepOf (doneN s) + sumOf keepOf L ∧ sumOf putOf (doneN (L.foldl stepN s)) = sumOf putOf (doneN s) + sumOf putOf L ∧ sumOf dropOf (doneN (L.foldl stepN s)) = sumOf dropOf (doneN s) + sumOf dropOf L
  | [], s, h, _ => by simp [sumOf_nil]; exact h
  | p :: L, s, h, hp => by
    obtain ⟨a0, a1, a2, a3⟩ := sum_step h (hp p (by simp))
    obtain ⟨b0, b1, b2, b3⟩ := sum_fold L (stepN s p) a0 (fun q hq => hp q (by simp [hq]))
    rw [List.foldl_cons, b1, b2, b3, a1, a2, a3, sumOf_cons, sumOf_cons, sumOf_cons]
    exact ⟨b0, by omega, by omega, by omega⟩
/-- the sums of the normal form -/
theorem sum_norm {L : List Pt} (h : ∀ p ∈ L, szP_ p) : sumOf keepOf (doneN (foldN L)) = sumOf keepOf L ∧ sumOf putOf (doneN (foldN L)) = sumOf putOf L ∧ sumOf dropOf (doneN (foldN L)) = sumOf dropOf L := by
  obtain ⟨_, h1, h2, h3⟩ := sum_fold L ([], [], 0) (by simp) h
  have e : doneN ([], [], 0) = [] := by simp [doneN, putL, dropL]
  rw [e] at h1 h2 h3
  simp only [sumOf_nil, Int.zero_add] at h1 h2 h3
  exact ⟨h1, h2, h3⟩

/-- a part with an effect, in its proper form -/
def tidy (p : Pt) : Prop := (p.kind = 1 ∧ 0 < p.n ∧ p.signs = []) ∨ (p.kind = 2 ∧ p.n = 0 ∧ 0 < p.signs.length) ∨ (p.kind = 3 ∧ 0 < p.n ∧ p.signs = [])
/-- which part may follow which -/
def nextOk (p q : Pt) : Prop := (p.kind = 1 → q.kind = 2 ∨ q.kind = 3) ∧ (p.kind = 2 → q.kind = 1 ∨ q.kind = 3) ∧ (p.kind = 3 → q.kind = 1)
/-- the parts stand in order -/
def inOrder : List Pt → Prop
  | [] => True
  | [_] => True
  | p :: q :: r => nextOk p q ∧ inOrder (q :: r)
/-- a normal operation -/
def normal (L : List Pt) : Prop := (∀ p ∈ L, tidy p) ∧ inOrder L
theorem inOrder_app : ∀ (a : List Pt) (p q : Pt) (b : List Pt), inOrder (a ++ [p]) → nextOk p q → inOrder (q :: b) → inOrder (a ++ p :: q :: b)
  | [], p, q, b, _, h2, h3 => ⟨h2, h3⟩
  | [x], p, q, b, h1, h2, h3 => ⟨h1.1, h2, h3⟩
  | x :: y :: a, p, q, b, h1, h2, h3 => ⟨h1.1, inOrder_app (y :: a) p q b h1.2 h2 h3⟩
theorem inOrder_init : ∀ (a b : List Pt), inOrder (a ++ b) → inOrder a
  | [], _, _ => trivial
  | [_], _, _ => trivial
  | x :: y :: a, b, h => ⟨h.1, inOrder_init (y :: a) b h.2⟩
/-- the last part's kind, 0 if there is none -/
def lastK (L : List Pt) : Int := match L.getLast? with | some p => p.kind | none => 0
theorem lastK_app (a : List Pt) (p : Pt) : lastK (a ++ [p]) = p.kind := by simp [lastK]
theorem normal_snoc {L : List Pt} {q : Pt} (h : normal L) (hq : tidy q) (hl : ∀ p, L.getLast? = some p → nextOk p q) : normal (L ++ [q]) := by
  refine ⟨fun p hp => ?_, ?_⟩
  · rcases List.mem_append.1 hp with hp | hp
    · exact h.1 p hp
    · simp at hp; subst hp; exact hq
  · rcases L.eq_nil_or_concat with rfl | ⟨a, p, rfl⟩
    · trivial
    · rw [List.concat_eq_append] at *
      have := inOrder_app a p q [] h.2 (hl p (by simp)) trivial
      simpa using this
/-- a builder's state: what is flushed ends with a retaining part -/
def okS_ (s : List Pt × List Int × Int) : Prop := normal s.1 ∧ (s.1 = [] ∨ lastK s.1 = 1) ∧ 0 ≤ s.2.2
theorem getLast_kind {L : List Pt} {p : Pt} (h : L = [] ∨ lastK L = 1) (hp : L.getLast? = some p) : p.kind = 1 := by
  rcases h with rfl | h
  · simp at hp
  · unfold lastK at h
    rw [hp] at h
    exact h
theorem normal_done {s : List Pt × List Int × Int} (h : okS_ s) : normal (doneN s) := by
  obtain ⟨h1, h2, h3⟩ := h
  unfold doneN putL dropL
  by_cases hp : s.2.1.length = 0
  · rw [if_pos hp, List.append_nil]
    by_cases hd : 0 < s.2.2
    · rw [if_pos hd]
      refine normal_snoc h1 (.inr (.inr ⟨rfl, hd, rfl⟩)) (fun p hp' => ?_)
      have := getLast_kind h2 hp'
      exact ⟨fun _ => .inr rfl, fun e => by omega, fun e => by omega⟩
    · rw [if_neg hd, List.append_nil]
      exact h1
  · rw [if_neg hp]
    have hn : normal (s.1 ++ [⟨2, 0, s.2.1⟩]) := normal_snoc h1 (.inr (.inl ⟨rfl, rfl, by simp; omega⟩)) (fun p hp' => by
      have := getLast_kind h2 hp'
      exact ⟨fun _ => .inl rfl, fun e => by omega, fun e => by omega⟩)
    by_cases hd : 0 < s.2.2
    · rw [if_pos hd]
      refine normal_snoc hn (.inr (.inr ⟨rfl, hd, rfl⟩)) (fun p hp' => ?_)
      simp at hp'
      subst hp'
      exact ⟨fun e => by simp at e, fun _ => .inr rfl, fun e => by simp at e⟩
    · rw [if_neg hd, List.append_nil]
      exact hn
theorem normal_keepTo {q : List Pt} {n : Int} (h : normal q) (hn : 0 < n) : normal (keepTo q n) ∧ lastK (keepTo q n) = 1 := by
  rcases q.eq_nil_or_concat with rfl | ⟨r, p, rfl⟩
  · rw [keepTo_nil]
    exact ⟨⟨fun p hp => by simp at hp; subst hp; exact .inl ⟨rfl, hn, rfl⟩, trivial⟩, rfl⟩
  · rw [List.concat_eq_append] at *
    by_cases hk : p.kind = 1
    · rw [keepTo_t n hk]
      have hp := h.1 p (by simp)
      refine ⟨⟨fun x hx => ?_, ?_⟩, by rw [lastK_app]; exact hk⟩
      · rcases List.mem_append.1 hx with hx | hx
        · exact h.1 x (by simp [hx])
        · simp at hx
          subst hx
          unfold tidy at *
          simp only
          rcases hp with ⟨a, b, c⟩ | ⟨a, b, c⟩ | ⟨a, b, c⟩
          · exact .inl ⟨a, by omega, c⟩
          · omega
          · omega
      · rcases r.eq_nil_or_concat with rfl | ⟨a, x, rfl⟩
        · trivial
        · rw [List.concat_eq_append] at *
          have h2 : inOrder (a ++ x :: p :: []) := by simpa using h.2
          have hx : nextOk x p := by
            clear hp hk h
            induction a with
            | nil => exact h2.1
            | cons y a ih =>
              cases a with
              | nil => exact h2.2.1
              | cons z a => exact ih h2.2
          have := inOrder_app a x ⟨p.kind, p.n + n, p.signs⟩ [] (inOrder_init (a ++ [x]) [p] (by simpa using h2)) hx trivial
          simpa using this
    · rw [keepTo_f n hk]
      refine ⟨normal_snoc h (.inl ⟨rfl, hn, rfl⟩) (fun x hx => ?_), by rw [lastK_app]⟩
      simp at hx
      subst hx
      exact ⟨fun e => absurd e hk, fun _ => .inl rfl, fun _ => rfl⟩
theorem okS_step {s : List Pt × List Int × Int} {p : Pt} (h : okS_ s) (hp : szP_ p) : okS_ (stepN s p) := by
  obtain ⟨hk, hn0, hn1, hz⟩ := hp
  rcases hk with e | e | e
  · by_cases h0 : p.n = 0
    · have : stepN s p = s := by unfold stepN; rw [if_pos e, if_pos h0]
      rw [this]; exact h
    · have : stepN s p = (keepTo (doneN s) p.n, [], 0) := by unfold stepN; rw [if_pos e, if_neg h0]; rfl
      rw [this]
      obtain ⟨a, b⟩ := normal_keepTo (normal_done h) (show 0 < p.n by omega)
      exact ⟨a, .inr b, by simp⟩
  · have : stepN s p = (s.1, s.2.1 ++ p.signs, s.2.2) := by unfold stepN; rw [if_neg (by omega), if_pos e]
    rw [this]; exact h
  · have : stepN s p = (s.1, s.2.1, s.2.2 + p.n) := by unfold stepN; rw [if_neg (by omega), if_neg (by omega)]
    rw [this]; exact ⟨h.1, h.2.1, by have := h.2.2; simp only; omega⟩
theorem okS_fold : ∀ (L : List Pt) (s : List Pt × List Int × Int), okS_ s → (∀ p ∈ L, szP_ p) → okS_ (L.foldl stepN s)
  | [], s, h, _ => h
  | p :: L, s, h, hp => okS_fold L (stepN s p) (okS_step h (hp p (by simp))) (fun q hq => hp q (by simp [hq]))
/-- the normal form is normal -/
theorem normal_fold {L : List Pt} (h : ∀ p ∈ L, szP_ p) : normal (doneN (foldN L)) := normal_done (okS_fold L ([], [], 0) ⟨⟨fun p hp => by simp at hp, trivial⟩, .inl rfl, by simp⟩ h)

theorem inOrder_mid : ∀ (a : List Pt) (p q : Pt) (b : List Pt), inOrder (a ++ p :: q :: b) → nextOk p q
  | [], p, q, b, h => h.1
  | [x], p, q, b, h => h.2.1
  | x :: y :: a, p, q, b, h => inOrder_mid (y :: a) p q b h.2
theorem last_done {s : List Pt × List Int × Int} : (0 < s.2.2 → ∃ a p, doneN s = a ++ [p] ∧ p.kind = 3) ∧ (¬ 0 < s.2.2 → ¬ s.2.1.length = 0 → ∃ a p, doneN s = a ++ [p] ∧ p.kind = 2) := by
  refine ⟨fun h => ⟨s.1 ++ putL s.2.1, ⟨3, s.2.2, []⟩, by simp [doneN, dropL, h], rfl⟩, fun h h' => ⟨s.1, ⟨2, 0, s.2.1⟩, by simp [doneN, dropL, putL, h, h'], rfl⟩⟩
/-- a normal list is built as it stands -/
theorem fold_normal : ∀ (L : List Pt) (s : List Pt × List Int × Int), 0 ≤ s.2.2 → (∀ p ∈ L, tidy p) → inOrder (doneN s ++ L) → doneN (L.foldl stepN s) = doneN s ++ L
  | [], s, _, _, _ => by simp
  | p :: L, s, h0, ht, ho => by
    have hp := ht p (by simp)
    have key : doneN (stepN s p) = doneN s ++ [p] ∧ 0 ≤ (stepN s p).2.2 := by
      have hlast : ∀ a q, doneN s = a ++ [q] → nextOk q p := fun a q e => by
        rw [e] at ho
        exact inOrder_mid a q p L (by simpa using ho)
      rcases hp with ⟨e, hn, hz⟩ | ⟨e, hn, hz⟩ | ⟨e, hn, hz⟩
      · have hs : stepN s p = (keepTo (doneN s) p.n, [], 0) := by unfold stepN; rw [if_pos e, if_neg (by omega)]; rfl
        rw [hs]
        refine ⟨?_, by simp⟩
        have hd : doneN (keepTo (doneN s) p.n, [], 0) = keepTo (doneN s) p.n := by simp [doneN, putL, dropL]
        have hpp : p = ⟨1, p.n, []⟩ := by obtain ⟨a, b, c⟩ := p; simp only at e hz; rw [e, hz]
        rw [hd]
        rcases (doneN s).eq_nil_or_concat with e0 | ⟨a, q, e0⟩
        · rw [e0, keepTo_nil, List.nil_append, ← hpp]
        · rw [List.concat_eq_append] at e0
          have := hlast a q e0
          have hq : ¬ q.kind = 1 := fun h1 => by have := this.1 h1; omega
          rw [e0, keepTo_f _ hq, ← hpp]
      · have hs : stepN s p = (s.1, s.2.1 ++ p.signs, s.2.2) := by unfold stepN; rw [if_neg (by omega), if_pos e]
        rw [hs]
        have hd0 : ¬ 0 < s.2.2 := fun h1 => by
          obtain ⟨a, q, e1, e2⟩ := last_done.1 h1
          have := (hlast a q e1).2.2 e2
          omega
        have hp0 : s.2.1.length = 0 := by
          rcases Nat.eq_zero_or_pos s.2.1.length with h1 | h1
          · exact h1
          · obtain ⟨a, q, e1, e2⟩ := last_done.2 hd0 (by omega)
            have := (hlast a q e1).2.1 e2
            omega
        refine ⟨?_, h0⟩
        have he : s.2.1 = [] := List.eq_nil_of_length_eq_zero hp0
        have hpp : p = ⟨2, 0, p.signs⟩ := by obtain ⟨a, b, c⟩ := p; simp only at e hn; rw [e, hn]
        unfold doneN putL dropL
        simp only [he, List.nil_append, List.length_nil, if_true, if_neg hd0, if_neg (show ¬ p.signs.length = 0 by omega), List.append_nil]
        rw [← hpp]
      · have hs : stepN s p = (s.1, s.2.1, s.2.2 + p.n) := by unfold stepN; rw [if_neg (by omega), if_neg (by omega)]
        rw [hs]
        have hd0 : ¬ 0 < s.2.2 := fun h1 => by
          obtain ⟨a, q, e1, e2⟩ := last_done.1 h1
          have := (hlast a q e1).2.2 e2
          omega
        refine ⟨?_, by simp only; omega⟩
        have hpp : p = ⟨3, p.n, []⟩ := by obtain ⟨a, b, c⟩ := p; simp only at e hz; rw [e, hz]
        have e0 : s.2.2 = 0 := by omega
        unfold doneN dropL
        simp only [e0, Int.zero_add, if_pos hn]
        simp only [show ¬ (0 : Int) < 0 by omega, if_false, List.append_nil]
        rw [← hpp]
    rw [List.foldl_cons, fold_normal L (stepN s p) key.2 (fun q hq => ht q (by simp [hq])) (by rw [key.1]; simpa using ho), key.1]
    simp
theorem norm_self {L : List Pt} (h : normal L) : doneN (foldN L) = L := by
  have e : doneN ([], [], 0) = [] := by simp [doneN, putL, dropL]
  have := fold_normal L ([], [], 0) (by simp) h.1 (by rw [e]; exact h.2)
  rw [e] at this
  exact this
theorem len_step (s : List Pt × List Int × Int) (p : Pt) (h0 : 0 ≤ s.2.2) : (doneN (stepN s p)).length ≤ (doneN s).length + 1 := by
  unfold stepN
  split
  · split
    · omega
    · have e : doneN (keepTo (s.1 ++ putL s.2.1 ++ dropL s.2.2) p.n, [], 0) = keepTo (doneN s) p.n := by simp [doneN, putL, dropL]
      rw [e]
      rcases (doneN s).eq_nil_or_concat with e0 | ⟨a, q, e0⟩
      · rw [e0, keepTo_nil]; simp
      · rw [List.concat_eq_append] at e0
        rw [e0]
        by_cases hk : q.kind = 1
        · rw [keepTo_t _ hk]; simp
        · rw [keepTo_f _ hk]; simp
  · split
    · unfold doneN
      have a1 : (putL (s.2.1 ++ p.signs)).length ≤ (putL s.2.1).length + 1 := by have := (putL_len (s.2.1 ++ p.signs)).1; omega
      simp only [List.length_append]
      omega
    · unfold doneN
      have a1 : (dropL (s.2.2 + p.n)).length ≤ (dropL s.2.2).length + 1 := by have := (dropL_len (s.2.2 + p.n)).1; omega
      simp only [List.length_append]
      omega
theorem len_fold : ∀ (L : List Pt) (s : List Pt × List Int × Int), 0 ≤ s.2.2 → (∀ p ∈ L, szP_ p) → (doneN (L.foldl stepN s)).length ≤ (doneN s).length + L.length
  | [], s, _, _ => by simp
  | p :: L, s, h, hp => by
    have a := len_step s p h
    have b := len_fold L (stepN s p) (sum_step h (hp p (by simp))).1 (fun q hq => hp q (by simp [hq]))
    rw [List.foldl_cons, List.length_cons]
    omega
theorem norm_length {L : List Pt} (h : ∀ p ∈ L, szP_ p) : (doneN (foldN L)).length ≤ L.length := by
  have e : doneN ([], [], 0) = [] := by simp [doneN, putL, dropL]
  have := len_fold L ([], [], 0) (by simp) h
  rw [e, List.length_nil, Nat.zero_add] at this
  exact this
theorem allB_app (a b : List Int) : allB (a ++ b) = (allB a && allB b) := by simp [allB]
def okA (s : List Pt × List Int × Int) : Prop := (∀ p ∈ s.1, allB p.signs = true) ∧ allB s.2.1 = true
theorem okA_done {s : List Pt × List Int × Int} (h : okA s) : ∀ p ∈ doneN s, allB p.signs = true := fun p hp => by
  unfold doneN putL dropL at hp
  rcases List.mem_append.1 hp with hp | hp
  · rcases List.mem_append.1 hp with hp | hp
    · exact h.1 p hp
    · split at hp
      · simp at hp
      · simp at hp; subst hp; exact h.2
  · split at hp
    · simp at hp; subst hp; rfl
    · simp at hp
theorem okA_step {s : List Pt × List Int × Int} {p : Pt} (h : okA s) (hp : allB p.signs = true) : okA (stepN s p) := by
  unfold stepN
  split
  · split
    · exact h
    · have hd := okA_done h
      refine ⟨?_, rfl⟩
      change ∀ q ∈ keepTo (doneN s) p.n, _
      rcases (doneN s).eq_nil_or_concat with e0 | ⟨a, q, e0⟩
      · rw [e0, keepTo_nil]; intro x hx; simp at hx; subst hx; rfl
      · rw [List.concat_eq_append] at e0
        rw [e0] at hd ⊢
        intro x hx
        by_cases hk : q.kind = 1
        · rw [keepTo_t _ hk] at hx
          rcases List.mem_append.1 hx with hx | hx
          · exact hd x (by simp [hx])
          · simp at hx; subst hx; exact hd q (by simp)
        · rw [keepTo_f _ hk] at hx
          rcases List.mem_append.1 hx with hx | hx
          · exact hd x hx
          · simp at hx; subst hx; rfl
  · split
    · exact ⟨h.1, by simp only; rw [allB_app, h.2, hp]; rfl⟩
    · exact h
theorem okA_fold : ∀ (L : List Pt) (s : List Pt × List Int × Int), okA s → (∀ p ∈ L, allB p.signs = true) → okA (L.foldl stepN s)
  | [], s, h, _ => h
  | p :: L, s, h, hp => okA_fold L (stepN s p) (okA_step h (hp p (by simp))) (fun q hq => hp q (by simp [hq]))
theorem norm_allB {L : List Pt} (h : ∀ p ∈ L, allB p.signs = true) : ∀ p ∈ doneN (foldN L), allB p.signs = true := okA_done (okA_fold L ([], [], 0) ⟨fun p hp => by simp at hp, rfl⟩ h)

theorem sumOf_mem {f : Pt → Int} : ∀ {L : List Pt} {p : Pt}, (∀ q ∈ L, 0 ≤ f q) → p ∈ L → f p ≤ sumOf f L
  | [], _, _, h => by simp at h
  | q :: L, p, h0, h => by
    rw [sumOf_cons]
    have hs : 0 ≤ sumOf f L := by
      have hL : ∀ q ∈ L, 0 ≤ f q := fun q hq => h0 q (by simp [hq])
      clear h h0
      induction L with
      | nil => simp [sumOf_nil]
      | cons x L ih => rw [sumOf_cons]; have := hL x (by simp); have := ih (fun q hq => hL q (by simp [hq])); omega
    rcases List.mem_cons.1 h with rfl | h
    · omega
    · have := sumOf_mem (f := f) (fun q hq => h0 q (by simp [hq])) h
      have := h0 q (by simp)
      omega
theorem tidy_nonneg {p : Pt} (h : tidy p) : 0 ≤ keepOf p ∧ 0 ≤ putOf p ∧ 0 ≤ dropOf p := by
  unfold keepOf putOf dropOf
  rcases h with ⟨a, b, c⟩ | ⟨a, b, c⟩ | ⟨a, b, c⟩ <;> simp [a] <;> omega
/-- tidy parts whose sums are bounded are valid -/
theorem tidy_ok {L : List Pt} (ht : ∀ p ∈ L, tidy p) (ha : ∀ p ∈ L, allB p.signs = true) (h1 : sumOf keepOf L ≤ 200) (h2 : sumOf putOf L ≤ 200) (h3 : sumOf dropOf L ≤ 200) : okPs L = true := by
  unfold okPs
  rw [List.all_eq_true]
  intro p hp
  have k1 := sumOf_mem (f := keepOf) (fun q hq => (tidy_nonneg (ht q hq)).1) hp
  have k2 := sumOf_mem (f := putOf) (fun q hq => (tidy_nonneg (ht q hq)).2.1) hp
  have k3 := sumOf_mem (f := dropOf) (fun q hq => (tidy_nonneg (ht q hq)).2.2) hp
  have k1 := Int.le_trans k1 h1
  have k2 := Int.le_trans k2 h2
  have k3 := Int.le_trans k3 h3
  unfold keepOf at k1
  unfold putOf at k2
  unfold dropOf at k3
  apply okPt_t
  rcases ht p hp with ⟨a, b, c⟩ | ⟨a, b, c⟩ | ⟨a, b, c⟩
  · rw [if_pos a] at k1
    exact .inl ⟨.inl a, ⟨by omega, by omega⟩, by rw [c]; rfl⟩
  · rw [if_pos a] at k2
    exact .inr ⟨a, b, ha p hp, by omega⟩
  · rw [if_pos a] at k3
    exact .inl ⟨.inr a, ⟨by omega, by omega⟩, by rw [c]; rfl⟩
/-- a valid operation: its parts and sums -/
theorem okOp_of {ps : List Pt} (h : okOp ps = true) : okPs ps = true ∧ ps.length ≤ 600 ∧ sumOf keepOf ps + sumOf dropOf ps ≤ 200 ∧ sumOf keepOf ps + sumOf putOf ps ≤ 200 ∧ 0 ≤ sumOf keepOf ps ∧ 0 ≤ sumOf putOf ps ∧ 0 ≤ sumOf dropOf ps := by
  unfold okOp at h
  rw [Bool.and_eq_true, Bool.and_eq_true] at h
  obtain ⟨⟨h4, h5⟩, h6⟩ := h
  have h7 := partsB_of h4
  obtain ⟨t1, t2, t3⟩ := sum_t h4
  have h5 := of_decide_eq_true h5
  have h6 := of_decide_eq_true h6
  rw [t1, t3] at h5
  rw [t1, t2] at h6
  have := sums_bd h7.1 h7.2
  exact ⟨h7.1, h7.2, h5, h6, this.1.1, this.2.1.1, this.2.2.1⟩
theorem of_okOp {ps : List Pt} (h1 : okPs ps = true) (h2 : ps.length ≤ 600) (h3 : sumOf keepOf ps + sumOf dropOf ps ≤ 200) (h4 : sumOf keepOf ps + sumOf putOf ps ≤ 200) : okOp ps = true := by
  have hb : partsB ps = true := by unfold partsB; rw [h1, decide_eq_true h2]; rfl
  obtain ⟨t1, t2, t3⟩ := sum_t hb
  unfold okOp
  rw [hb, t1, t2, t3, decide_eq_true h3, decide_eq_true h4]
  rfl
theorem okPs_sz {ps : List Pt} (h : okPs ps = true) : ∀ p ∈ ps, szP_ p := fun p hp => szP_of (by unfold okPs at h; exact List.all_eq_true.1 h p hp)
theorem okPs_allB {ps : List Pt} (h : okPs ps = true) : ∀ p ∈ ps, allB p.signs = true := fun p hp => by
  have := of_okPt (show okPt p = true by unfold okPs at h; exact List.all_eq_true.1 h p hp)
  rcases this with ⟨_, _, hz⟩ | ⟨_, _, ha, _⟩
  · rw [List.eq_nil_of_length_eq_zero hz]; rfl
  · exact ha
/-- the normal form of a valid operation: valid, normal, of the same sums, its own normal form -/
theorem norm_ok {ps : List Pt} (h : okOp ps = true) : okOp (normL ps) = true ∧ normal (normL ps) ∧ sumOf keepOf (normL ps) = sumOf keepOf ps ∧ sumOf putOf (normL ps) = sumOf putOf ps ∧ sumOf dropOf (normL ps) = sumOf dropOf ps := by
  obtain ⟨h1, h2, h3, h4, h5, h6, h7⟩ := okOp_of h
  have e : normL ps = doneN (foldN ps) := by unfold normL; rw [if_pos h]
  obtain ⟨s1, s2, s3⟩ := sum_norm (okPs_sz h1)
  have hn := normal_fold (okPs_sz h1)
  have hl := norm_length (okPs_sz h1)
  have ha := norm_allB (okPs_allB h1)
  rw [e]
  refine ⟨of_okOp (tidy_ok hn.1 ha (by omega) (by omega) (by omega)) (by omega) (by omega) (by omega), hn, s1, s2, s3⟩
theorem norm_norm {ps : List Pt} : normL (normL ps) = normL ps := by
  by_cases h : okOp ps = true
  · obtain ⟨h1, h2, _⟩ := norm_ok h
    have e : ∀ qs, okOp qs = true → normL qs = doneN (foldN qs) := fun qs hq => by unfold normL; rw [if_pos hq]
    rw [e (normL ps) h1, norm_self h2]
  · have e : normL ps = [] := by unfold normL; rw [if_neg h]
    rw [e]
    unfold normL
    split
    · simp [foldN, doneN, putL, dropL]
    · rfl
theorem norm_normal {L : List Pt} (h : normal L) (ho : okOp L = true) : normL L = L := by unfold normL; rw [if_pos ho, norm_self h]
end Go.Proofs.Ytmlkeflnnaabeaa.low


/-
  An operation as a list of unit actions: retain one character, insert one, delete one. The normal form is a function of that list; what applying, composing and transforming do to it.
-/
namespace Go.Proofs.Ytmlkeflnnaabeaa.low
open Go.RowKit
set_option linter.unusedVariables false

inductive U where
  | k
  | p (x : Int)
  | d
def unitsP (p : Pt) : List U := if p.kind = 1 then List.replicate p.n.toNat .k else if p.kind = 2 then p.signs.map .p else List.replicate p.n.toNat .d
def units (L : List Pt) : List U := L.flatMap unitsP
theorem units_nil : units [] = [] := rfl
theorem units_cons (p : Pt) (L : List Pt) : units (p :: L) = unitsP p ++ units L := by simp [units]
theorem units_app (a b : List Pt) : units (a ++ b) = units a ++ units b := by simp [units]
def stepU (s : List Pt × List Int × Int) : U → List Pt × List Int × Int
  | .k => (keepTo (doneN s) 1, [], 0)
  | .p x => (s.1, s.2.1 ++ [x], s.2.2)
  | .d => (s.1, s.2.1, s.2.2 + 1)
def foldU (us : List U) : List Pt × List Int × Int := us.foldl stepU ([], [], 0)
theorem done_plain (q : List Pt) : doneN (q, [], 0) = q := by simp [doneN, putL, dropL]
theorem keepTo_keepTo (q : List Pt) (m n : Int) : keepTo (keepTo q m) n = keepTo q (m + n) := by
  rcases q.eq_nil_or_concat with rfl | ⟨r, p, rfl⟩
  · rw [keepTo_nil, keepTo_nil]
    have := keepTo_t (r := []) (p := ⟨1, m, []⟩) n rfl
    simpa using this
  · rw [List.concat_eq_append]
    by_cases hk : p.kind = 1
    · rw [keepTo_t m hk, keepTo_t (m + n) hk, keepTo_t (p := ⟨p.kind, p.n + m, p.signs⟩) n hk]
      simp only [Int.add_assoc]
    · rw [keepTo_f m hk, keepTo_f (m + n) hk]
      have := keepTo_t (r := r ++ [p]) (p := ⟨1, m, []⟩) n rfl
      simpa using this
theorem fold_k : ∀ (m : Nat) (q : List Pt), (List.replicate m U.k).foldl stepU (q, [], 0) = if m = 0 then (q, [], 0) else (keepTo q (m : Int), [], 0)
  | 0, q => by simp
  | m + 1, q => by
    rw [List.replicate_succ, List.foldl_cons]
    show (List.replicate m U.k).foldl stepU (keepTo (doneN (q, [], 0)) 1, [], 0) = _
    rw [done_plain, fold_k m (keepTo q 1)]
    by_cases h : m = 0
    · subst h; simp
    · rw [if_neg h, if_neg (by omega), keepTo_keepTo]
      congr 2
      omega
theorem fold_p : ∀ (zs : List Int) (s : List Pt × List Int × Int), (zs.map U.p).foldl stepU s = (s.1, s.2.1 ++ zs, s.2.2)
  | [], s => by simp
  | z :: zs, s => by
    rw [List.map_cons, List.foldl_cons, fold_p zs]
    simp [stepU]
theorem fold_d : ∀ (m : Nat) (s : List Pt × List Int × Int), (List.replicate m U.d).foldl stepU s = (s.1, s.2.1, s.2.2 + (m : Int))
  | 0, s => by simp
  | m + 1, s => by
    rw [List.replicate_succ, List.foldl_cons, fold_d m]
    simp [stepU]
    omega
/-- a part is built as its units are -/
theorem stepN_units (s : List Pt × List Int × Int) {p : Pt} (hp : szP_ p) : stepN s p = (unitsP p).foldl stepU s := by
  obtain ⟨hk, h0, h1, _⟩ := hp
  obtain ⟨m, hm⟩ := Int.eq_ofNat_of_zero_le h0
  rcases hk with e | e | e
  · unfold stepN unitsP
    rw [if_pos e, if_pos e, hm]
    cases m with
    | zero => simp
    | succ m =>
      rw [if_neg (by omega), show ((m + 1 : Nat) : Int).toNat = m + 1 from rfl, List.replicate_succ, List.foldl_cons]
      show _ = (List.replicate m U.k).foldl stepU (keepTo (doneN s) 1, [], 0)
      rw [fold_k]
      by_cases h : m = 0
      · subst h; simp [doneN]
      · rw [if_neg h, keepTo_keepTo]
        have : (1 : Int) + (m : Int) = ((m + 1 : Nat) : Int) := by omega
        rw [this]
        rfl
  · unfold stepN unitsP
    rw [if_neg (by omega), if_pos e, if_neg (by omega), if_pos e, fold_p]
  · unfold stepN unitsP
    rw [if_neg (by omega), if_neg (by omega), if_neg (by omega), if_neg (by omega), fold_d, hm]
    rfl
theorem foldN_units {L : List Pt} (h : ∀ p ∈ L, szP_ p) : foldN L = foldU (units L) := by
  unfold foldN foldU
  generalize (([], [], 0) : List Pt × List Int × Int) = s
  induction L generalizing s with
  | nil => rfl
  | cons p L ih =>
    rw [List.foldl_cons, units_cons, List.foldl_append, ← stepN_units s (h p (by simp))]
    exact ih (fun q hq => h q (by simp [hq])) _
/-- the normal form is a function of the units -/
theorem norm_of_units {L L' : List Pt} (h : ∀ p ∈ L, szP_ p) (h' : ∀ p ∈ L', szP_ p) (e : units L = units L') : doneN (foldN L) = doneN (foldN L') := by rw [foldN_units h, foldN_units h', e]

/-- the units in the normal form's order: within a run of insertions and deletions the insertions first -/
def nfGo : List U → List Int → Nat → List U
  | [], ps, n => ps.map U.p ++ List.replicate n U.d
  | .k :: us, ps, n => ps.map U.p ++ (List.replicate n U.d ++ U.k :: nfGo us [] 0)
  | .p x :: us, ps, n => nfGo us (ps ++ [x]) n
  | .d :: us, ps, n => nfGo us ps (n + 1)
def nfU (us : List U) : List U := nfGo us [] 0
theorem unitsP_k (n : Nat) : unitsP ⟨1, (n : Int), []⟩ = List.replicate n .k := rfl
theorem units_putL (zs : List Int) : units (putL zs) = zs.map U.p := by
  unfold putL
  split
  · rename_i h
    rw [List.eq_nil_of_length_eq_zero h]
    rfl
  · simp [units, unitsP]
theorem units_dropL (n : Nat) : units (dropL (n : Int)) = List.replicate n U.d := by
  unfold dropL
  split
  · simp [units, unitsP]
  · rename_i h
    have : n = 0 := by omega
    subst this
    rfl
theorem units_keepTo (q : List Pt) (hq : ∀ p ∈ q, 0 ≤ p.n) : units (keepTo q 1) = units q ++ [U.k] := by
  rcases q.eq_nil_or_concat with rfl | ⟨r, p, rfl⟩
  · rw [keepTo_nil]; rfl
  · rw [List.concat_eq_append] at *
    by_cases hk : p.kind = 1
    · rw [keepTo_t 1 hk, units_app, units_app, units_cons, units_cons, units_nil, List.append_nil, List.append_nil, List.append_assoc]
      congr 1
      unfold unitsP
      simp only [hk, if_true]
      have := hq p (by simp)
      rw [show (p.n + 1).toNat = p.n.toNat + 1 by omega, List.replicate_succ']
    · rw [keepTo_f 1 hk, units_app, units_cons, units_nil]
      rfl
theorem units_done (q : List Pt) (ps : List Int) (n : Nat) : units (doneN (q, ps, (n : Int))) = units q ++ (ps.map U.p ++ List.replicate n U.d) := by
  unfold doneN
  rw [units_app, units_app, units_putL, units_dropL, List.append_assoc]
theorem done_nonneg {q : List Pt} (ps : List Int) (n : Nat) (hq : ∀ p ∈ q, 0 ≤ p.n) : ∀ p ∈ doneN (q, ps, (n : Int)), 0 ≤ p.n := fun p hp => by
  unfold doneN putL dropL at hp
  rcases List.mem_append.1 hp with hp | hp
  · rcases List.mem_append.1 hp with hp | hp
    · exact hq p hp
    · split at hp
      · simp at hp
      · simp at hp; subst hp; simp
  · split at hp
    · simp at hp; subst hp; simp
    · simp at hp
theorem keepTo_nonneg {q : List Pt} (hq : ∀ p ∈ q, 0 ≤ p.n) : ∀ p ∈ keepTo q 1, 0 ≤ p.n := fun x hx => by
  rcases q.eq_nil_or_concat with rfl | ⟨r, p, rfl⟩
  · rw [keepTo_nil] at hx; simp at hx; subst hx; simp
  · rw [List.concat_eq_append] at *
    by_cases hk : p.kind = 1
    · rw [keepTo_t 1 hk] at hx
      rcases List.mem_append.1 hx with hx | hx
      · exact hq x (by simp [hx])
      · simp at hx; subst hx; have := hq p (by simp); simp only; omega
    · rw [keepTo_f 1 hk] at hx
      rcases List.mem_append.1 hx with hx | hx
      · exact hq x hx
      · simp at hx; subst hx; simp
theorem units_fold : ∀ (us : List U) (q : List Pt) (ps : List Int) (n : Nat), (∀ p ∈ q, 0 ≤ p.n) → units (doneN (us.foldl stepU (q, ps, (n : Int)))) = units q ++ nfGo us ps n
  | [], q, ps, n, _ => by rw [List.foldl_nil, units_done, nfGo]
  | .k :: us, q, ps, n, hq => by
    have hd := done_nonneg ps n hq
    have := units_fold us (keepTo (doneN (q, ps, (n : Int))) 1) [] 0 (keepTo_nonneg hd)
    rw [List.foldl_cons]
    show units (doneN (us.foldl stepU (keepTo (doneN (q, ps, (n : Int))) 1, [], ((0 : Nat) : Int)))) = _
    rw [this, units_keepTo _ hd, units_done, nfGo]
    simp
  | .p x :: us, q, ps, n, hq => by
    rw [List.foldl_cons, nfGo]
    exact units_fold us q (ps ++ [x]) n hq
  | .d :: us, q, ps, n, hq => by
    rw [List.foldl_cons, nfGo]
    have := units_fold us q ps (n + 1) hq
    rw [← this]
    rfl
/-- the units of the normal form -/
theorem units_norm (us : List U) : units (doneN (foldU us)) = nfU us := by
  have := units_fold us [] [] 0 (fun p hp => by simp at hp)
  simpa [foldU, nfU, units_nil] using this

/-- applying units to a text -/
def applyU : List U → List Int → List Int
  | [], _ => []
  | .k :: us, t => t.take 1 ++ applyU us (t.drop 1)
  | .p x :: us, t => x :: applyU us t
  | .d :: us, t => applyU us (t.drop 1)
theorem applyU_ps : ∀ (ps : List Int) (us : List U) (t : List Int), applyU (ps.map U.p ++ us) t = ps ++ applyU us t
  | [], us, t => rfl
  | x :: ps, us, t => by
    show x :: applyU (ps.map U.p ++ us) t = _
    rw [applyU_ps ps us t]
    rfl
theorem applyU_ds : ∀ (n : Nat) (us : List U) (t : List Int), applyU (List.replicate n U.d ++ us) t = applyU us (t.drop n)
  | 0, us, t => by simp
  | n + 1, us, t => by
    rw [List.replicate_succ]
    show applyU (List.replicate n U.d ++ us) (t.drop 1) = _
    rw [applyU_ds n us, List.drop_drop, Nat.add_comm]
theorem applyU_ks : ∀ (n : Nat) (us : List U) (t : List Int), applyU (List.replicate n U.k ++ us) t = t.take n ++ applyU us (t.drop n)
  | 0, us, t => by simp
  | n + 1, us, t => by
    rw [List.replicate_succ]
    show t.take 1 ++ applyU (List.replicate n U.k ++ us) (t.drop 1) = _
    rw [applyU_ks n us, List.drop_drop, ← List.append_assoc, Nat.add_comm 1 n]
    congr 1
    rw [← List.take_add, Nat.add_comm]
theorem apply_go : ∀ (us : List U) (ps : List Int) (n : Nat) (t : List Int), applyU (nfGo us ps n) t = ps ++ applyU us (t.drop n)
  | [], ps, n, t => by
    rw [nfGo, applyU_ps]
    have := applyU_ds n [] t
    rw [List.append_nil] at this
    rw [this]
  | .k :: us, ps, n, t => by
    rw [nfGo, applyU_ps, applyU_ds]
    show ps ++ ((t.drop n).take 1 ++ applyU (nfGo us [] 0) ((t.drop n).drop 1)) = _
    rw [apply_go us [] 0]
    simp [applyU]
  | .p x :: us, ps, n, t => by
    rw [nfGo, apply_go us]
    simp [applyU]
  | .d :: us, ps, n, t => by
    rw [nfGo, apply_go us]
    simp only [applyU, List.drop_drop]
/-- the normal form has the same effect -/
theorem apply_nf (us : List U) (t : List Int) : applyU (nfU us) t = applyU us t := by
  have := apply_go us [] 0 t
  simpa [nfU] using this
end Go.Proofs.Ytmlkeflnnaabeaa.low


/-
  Applying operations, as functions on lists: a valid text, whether an operation fits it, the result.
-/
namespace Go.Proofs.Ytmlkeflnnaabeaa.low
open Go.RowKit
set_option linter.unusedVariables false

/-- a valid text -/
def okText (t : List Int) : Bool := allB t && decide (t.length ≤ 200)
/-- the operation applies to the text -/
def fitsB (ps : List Pt) (t : List Int) : Bool := okOp ps && okText t && decide (sumK ps + sumD ps = (t.length : Int))
def stepA (t : List Int) (s : Nat × List Int) (p : Pt) : Nat × List Int :=
  if p.kind = 1 then (s.1 + p.n.toNat, s.2 ++ (t.drop s.1).take p.n.toNat) else if p.kind = 2 then (s.1, s.2 ++ p.signs) else (s.1 + p.n.toNat, s.2)
def foldA (t : List Int) (ps : List Pt) : Nat × List Int := ps.foldl (stepA t) (0, [])
def applyT (ps : List Pt) (t : List Int) : List Int := if fitsB ps t = true then (foldA t ps).2 else []
theorem foldA_snoc {t : List Int} {ps : List Pt} {k : Nat} {p : Pt} (h : ps[k]? = some p) : foldA t (ps.take (k + 1)) = stepA t (foldA t (ps.take k)) p := by
  unfold foldA
  rw [List.take_add_one, h]
  simp
theorem okPs_mem' {ps : List Pt} (h : okPs ps = true) {p : Pt} (hp : p ∈ ps) : okPt p = true := by unfold okPs at h; exact List.all_eq_true.1 h p hp
/-- where the reading stands, and how much there is -/
theorem foldA_fit {t : List Int} {ps : List Pt} (hok : okPs ps = true) : ∀ k, k ≤ ps.length → ((foldA t (ps.take k)).1 : Int) = sumOf keepOf (ps.take k) + sumOf dropOf (ps.take k) ∧ ((foldA t (ps.take k)).2.length : Int) ≤ sumOf keepOf (ps.take k) + sumOf putOf (ps.take k)
  | 0, _ => by simp [foldA, sumOf]
  | k + 1, hk => by
    obtain ⟨p, hp⟩ := idx_some (l := ps) (i := k) (by omega)
    obtain ⟨i1, i2⟩ := foldA_fit (t := t) hok k (by omega)
    have hp' := of_okPt (okPs_at hp hok)
    rw [foldA_snoc hp, sumOf_snoc hp, sumOf_snoc hp, sumOf_snoc hp]
    generalize foldA t (ps.take k) = s at *
    generalize sumOf keepOf (ps.take k) = q1 at *
    generalize sumOf putOf (ps.take k) = q2 at *
    generalize sumOf dropOf (ps.take k) = q3 at *
    unfold stepA keepOf putOf dropOf
    rcases (show p.kind = 1 ∨ p.kind = 2 ∨ p.kind = 3 by omega) with e | e | e
    · simp only [e, if_true]
      refine ⟨by simp; omega, ?_⟩
      rw [List.length_append, List.length_take, List.length_drop]
      simp
      omega
    · simp only [e]
      simp
      omega
    · simp only [e]
      simp
      omega
theorem sumOf_take {f : Pt → Int} {ps : List Pt} (h : ∀ p ∈ ps, 0 ≤ f p) (k : Nat) : sumOf f (ps.take k) ≤ sumOf f ps := by
  have e : sumOf f ps = sumOf f (ps.take k) + sumOf f (ps.drop k) := by
    unfold sumOf
    rw [← List.sum_append, ← List.map_append, List.take_append_drop]
  have : 0 ≤ sumOf f (ps.drop k) := by
    unfold sumOf
    have hd : ∀ p ∈ ps.drop k, 0 ≤ f p := fun p hp => h p (List.mem_of_mem_drop hp)
    clear e
    generalize ps.drop k = qs at *
    induction qs with
    | nil => simp
    | cons q qs ih =>
      rw [List.map_cons, List.sum_cons]
      have h1 := hd q (by simp)
      have h2 := ih (fun p hp => hd p (by simp [hp]))
      omega
  omega
/-- what a fitting operation is -/
theorem fits_of {ps : List Pt} {t : List Int} (h : fitsB ps t = true) : okPs ps = true ∧ ps.length ≤ 600 ∧ sumOf keepOf ps + sumOf dropOf ps = (t.length : Int) ∧ sumOf keepOf ps + sumOf putOf ps ≤ 200 ∧ okText t = true ∧ t.length ≤ 200 ∧ okOp ps = true := by
  unfold fitsB at h
  rw [Bool.and_eq_true, Bool.and_eq_true] at h
  obtain ⟨⟨h1, h2⟩, h3⟩ := h
  have h1' := h1
  unfold okOp at h1
  rw [Bool.and_eq_true, Bool.and_eq_true] at h1
  obtain ⟨⟨h4, h5⟩, h6⟩ := h1
  have h7 := partsB_of h4
  obtain ⟨t1, t2, t3⟩ := sum_t h4
  have h3 := of_decide_eq_true h3
  have h6 := of_decide_eq_true h6
  rw [t1, t3] at h3
  rw [t1, t2] at h6
  have h2' := h2
  unfold okText at h2'
  rw [Bool.and_eq_true] at h2'
  exact ⟨h7.1, h7.2, h3, h6, h2, of_decide_eq_true h2'.2, h1'⟩
/-- the reading stays in the text -/
theorem foldA_in {t : List Int} {ps : List Pt} {k : Nat} {p : Pt} (h : fitsB ps t = true) (hp : ps[k]? = some p) (hk : p.kind = 1 ∨ p.kind = 3) : ((foldA t (ps.take k)).1 : Int) + p.n ≤ (t.length : Int) := by
  obtain ⟨h1, h2, h3, _⟩ := fits_of h
  have hlt := idx_lt hp
  have f := (foldA_fit (t := t) h1 k (by omega)).1
  have a1 := sumOf_take (f := keepOf) (ps := ps) (fun q hq => (ok_bd (okPs_mem' h1 hq)).1.1) (k + 1)
  have a2 := sumOf_take (f := dropOf) (ps := ps) (fun q hq => (ok_bd (okPs_mem' h1 hq)).2.2.1) (k + 1)
  rw [sumOf_snoc hp] at a1 a2
  have : keepOf p + dropOf p = p.n := by
    unfold keepOf dropOf
    rcases hk with e | e <;> simp [e]
  omega
theorem apply_len (ps : List Pt) (t : List Int) : (applyT ps t).length ≤ 200 := by
  unfold applyT
  split
  · rename_i h
    obtain ⟨h1, h2, h3, h4, _⟩ := fits_of h
    have f := (foldA_fit (t := t) h1 ps.length (Nat.le_refl _)).2
    rw [List.take_length] at f
    omega
  · simp
theorem apply_small {ps : List Pt} {t : List Int} (h0 : SmP ps) (h1 : SmI t) : SmI (applyT ps t) := by
  have := apply_len ps t
  unfold SmI
  omega
end Go.Proofs.Ytmlkeflnnaabeaa.low


/-
  Composition and transformation of unit actions: what they do to a text, in whichever order.
-/
namespace Go.Proofs.Ytmlkeflnnaabeaa.low
open Go.RowKit
set_option linter.unusedVariables false

/-- how long the texts are to which it applies, and the results -/
def src : List U → Nat
  | [] => 0
  | .k :: us => src us + 1
  | .p _ :: us => src us
  | .d :: us => src us + 1
def tgt : List U → Nat
  | [] => 0
  | .k :: us => tgt us + 1
  | .p _ :: us => tgt us + 1
  | .d :: us => tgt us
theorem src_app : ∀ a b : List U, src (a ++ b) = src a + src b
  | [], b => by simp [src]
  | .k :: a, b => by simp only [List.cons_append, src, src_app a b]; omega
  | .p _ :: a, b => by simp only [List.cons_append, src, src_app a b]
  | .d :: a, b => by simp only [List.cons_append, src, src_app a b]; omega
theorem tgt_app : ∀ a b : List U, tgt (a ++ b) = tgt a + tgt b
  | [], b => by simp [tgt]
  | .k :: a, b => by simp only [List.cons_append, tgt, tgt_app a b]; omega
  | .p _ :: a, b => by simp only [List.cons_append, tgt, tgt_app a b]; omega
  | .d :: a, b => by simp only [List.cons_append, tgt, tgt_app a b]
theorem apply_len_u : ∀ (us : List U) (t : List Int), src us = t.length → (applyU us t).length = tgt us
  | [], t, _ => rfl
  | .k :: us, [], h => by simp [src] at h
  | .k :: us, x :: t, h => by
    have := apply_len_u us t (by simpa [src] using h)
    simp [applyU, tgt, this]
  | .p x :: us, t, h => by
    have := apply_len_u us t h
    simp [applyU, tgt, this]
  | .d :: us, [], h => by simp [src] at h
  | .d :: us, x :: t, h => by
    have := apply_len_u us t (by simpa [src] using h)
    simp [applyU, tgt, this]

def comp : List U → List U → List U
  | [], [] => []
  | [], .p x :: b => .p x :: comp [] b
  | [], .k :: b => []
  | [], .d :: b => []
  | .d :: a, b => .d :: comp a b
  | .k :: a, [] => []
  | .k :: a, .p x :: b => .p x :: comp (.k :: a) b
  | .k :: a, .k :: b => .k :: comp a b
  | .k :: a, .d :: b => .d :: comp a b
  | .p y :: a, [] => []
  | .p y :: a, .p x :: b => .p x :: comp (.p y :: a) b
  | .p y :: a, .k :: b => .p y :: comp a b
  | .p y :: a, .d :: b => comp a b
termination_by a b => a.length + b.length

/-- a composition has the effect of the one and then the other -/
theorem apply_comp (a b : List U) : ∀ t : List Int, src a = t.length → tgt a = src b → applyU (comp a b) t = applyU b (applyU a t) ∧ src (comp a b) = src a ∧ tgt (comp a b) = tgt b := by
  induction a, b using comp.induct with
  | case1 => intro t h1 h2; simp [comp, applyU, src, tgt]
  | case2 x b ih =>
    intro t h1 h2
    obtain ⟨i1, i2, i3⟩ := ih t h1 (by simpa [tgt, src] using h2)
    simp [comp, applyU, src, tgt] at *
    exact ⟨i1, i2, i3⟩
  | case3 b => intro t h1 h2; simp [tgt, src] at h2
  | case4 b => intro t h1 h2; simp [tgt, src] at h2
  | case5 b a ih =>
    intro t h1 h2
    cases t with
    | nil => simp [src] at h1
    | cons y t =>
      obtain ⟨i1, i2, i3⟩ := ih t (by simpa [src] using h1) (by simpa [tgt] using h2)
      simp [comp, applyU, src, tgt, i1, i2, i3]
  | case6 a => intro t h1 h2; simp [tgt, src] at h2
  | case7 a x b ih =>
    intro t h1 h2
    obtain ⟨i1, i2, i3⟩ := ih t h1 (by simpa [src] using h2)
    rw [comp]
    refine ⟨?_, by simpa [src] using i2, by simp [tgt, i3]⟩
    show x :: applyU (comp (.k :: a) b) t = x :: applyU b (applyU (.k :: a) t)
    rw [i1]
  | case8 a b ih =>
    intro t h1 h2
    cases t with
    | nil => simp [src] at h1
    | cons y t =>
      obtain ⟨i1, i2, i3⟩ := ih t (by simpa [src] using h1) (by simpa [tgt, src] using h2)
      simp [comp, applyU, src, tgt, i1, i2, i3]
  | case9 a b ih =>
    intro t h1 h2
    cases t with
    | nil => simp [src] at h1
    | cons y t =>
      obtain ⟨i1, i2, i3⟩ := ih t (by simpa [src] using h1) (by simpa [tgt, src] using h2)
      simp [comp, applyU, src, tgt, i1, i2, i3]
  | case10 y a => intro t h1 h2; simp [tgt, src] at h2
  | case11 y a x b ih =>
    intro t h1 h2
    obtain ⟨i1, i2, i3⟩ := ih t h1 (by simpa [src] using h2)
    rw [comp]
    refine ⟨?_, by simpa [src] using i2, by simp [tgt, i3]⟩
    show x :: applyU (comp (.p y :: a) b) t = x :: applyU b (applyU (.p y :: a) t)
    rw [i1]
  | case12 y a b ih =>
    intro t h1 h2
    obtain ⟨i1, i2, i3⟩ := ih t (by simpa [src] using h1) (by simpa [tgt, src] using h2)
    simp [comp, applyU, src, tgt, i1, i2, i3]
  | case13 y a b ih =>
    intro t h1 h2
    obtain ⟨i1, i2, i3⟩ := ih t (by simpa [src] using h1) (by simpa [tgt, src] using h2)
    simp [comp, applyU, src, tgt, i1, i2, i3]

/-- two operations on one text, each led past the other: the first's insertions come first -/
def xf : List U → List U → List U × List U
  | [], [] => ([], [])
  | .p x :: a, b => (.p x :: (xf a b).1, .k :: (xf a b).2)
  | [], .p x :: b => (.k :: (xf [] b).1, .p x :: (xf [] b).2)
  | [], .k :: b => ([], [])
  | [], .d :: b => ([], [])
  | .k :: a, [] => ([], [])
  | .k :: a, .p x :: b => (.k :: (xf (.k :: a) b).1, .p x :: (xf (.k :: a) b).2)
  | .k :: a, .k :: b => (.k :: (xf a b).1, .k :: (xf a b).2)
  | .k :: a, .d :: b => ((xf a b).1, .d :: (xf a b).2)
  | .d :: a, [] => ([], [])
  | .d :: a, .p x :: b => (.k :: (xf (.d :: a) b).1, .p x :: (xf (.d :: a) b).2)
  | .d :: a, .k :: b => (.d :: (xf a b).1, (xf a b).2)
  | .d :: a, .d :: b => xf a b
termination_by a b => a.length + b.length

/-- both orders lead to one text -/
theorem xf_meet (a b : List U) : ∀ t : List Int, src a = t.length → src b = t.length →
    applyU (xf a b).2 (applyU a t) = applyU (xf a b).1 (applyU b t) ∧ src (xf a b).1 = tgt b ∧ src (xf a b).2 = tgt a ∧ tgt (xf a b).1 = tgt (xf a b).2 := by
  induction a, b using xf.induct with
  | case1 => intro t h1 h2; simp [xf, applyU, src, tgt]
  | case2 x a b ih =>
    intro t h1 h2
    obtain ⟨i1, i2, i3, i4⟩ := ih t (by simpa [src] using h1) h2
    rw [xf]
    refine ⟨?_, by simpa [src] using i2, by simp [src, tgt, i3], by simp [tgt, i4]⟩
    show applyU (.k :: (xf a b).2) (x :: applyU a t) = x :: applyU (xf a b).1 (applyU b t)
    simp [applyU, i1]
  | case3 x b ih =>
    intro t h1 h2
    obtain ⟨i1, i2, i3, i4⟩ := ih t h1 (by simpa [src] using h2)
    rw [xf]
    refine ⟨?_, by simp [src, tgt, i2], by simpa [src] using i3, by simp [tgt, i4]⟩
    show x :: applyU (xf [] b).2 (applyU [] t) = applyU (.k :: (xf [] b).1) (x :: applyU b t)
    simp [applyU] at i1 ⊢
    exact i1
  | case4 b => intro t h1 h2; simp [src] at h1 h2; omega
  | case5 b => intro t h1 h2; simp [src] at h1 h2; omega
  | case6 a => intro t h1 h2; simp [src] at h1 h2; omega
  | case7 a x b ih =>
    intro t h1 h2
    obtain ⟨i1, i2, i3, i4⟩ := ih t h1 (by simpa [src] using h2)
    rw [xf]
    refine ⟨?_, by simp [src, tgt, i2], by simpa [src] using i3, by simp [tgt, i4]⟩
    show x :: applyU (xf (.k :: a) b).2 (applyU (.k :: a) t) = applyU (.k :: (xf (.k :: a) b).1) (x :: applyU b t)
    rw [i1]
    simp [applyU]
  | case8 a b ih =>
    intro t h1 h2
    cases t with
    | nil => simp [src] at h1
    | cons y t =>
      obtain ⟨i1, i2, i3, i4⟩ := ih t (by simpa [src] using h1) (by simpa [src] using h2)
      simp [xf, applyU, src, tgt, i1, i2, i3, i4]
  | case9 a b ih =>
    intro t h1 h2
    cases t with
    | nil => simp [src] at h1
    | cons y t =>
      obtain ⟨i1, i2, i3, i4⟩ := ih t (by simpa [src] using h1) (by simpa [src] using h2)
      simp [xf, applyU, src, tgt, i1, i2, i3, i4]
  | case10 a => intro t h1 h2; simp [src] at h1 h2; omega
  | case11 a x b ih =>
    intro t h1 h2
    obtain ⟨i1, i2, i3, i4⟩ := ih t h1 (by simpa [src] using h2)
    rw [xf]
    refine ⟨?_, by simp [src, tgt, i2], by simpa [src] using i3, by simp [tgt, i4]⟩
    show x :: applyU (xf (.d :: a) b).2 (applyU (.d :: a) t) = applyU (.k :: (xf (.d :: a) b).1) (x :: applyU b t)
    rw [i1]
    simp [applyU]
  | case12 a b ih =>
    intro t h1 h2
    cases t with
    | nil => simp [src] at h1
    | cons y t =>
      obtain ⟨i1, i2, i3, i4⟩ := ih t (by simpa [src] using h1) (by simpa [src] using h2)
      simp [xf, applyU, src, tgt, i1, i2, i3, i4]
  | case13 a b ih =>
    intro t h1 h2
    cases t with
    | nil => simp [src] at h1
    | cons y t =>
      obtain ⟨i1, i2, i3, i4⟩ := ih t (by simpa [src] using h1) (by simpa [src] using h2)
      simp [xf, applyU, tgt, i1, i2, i3, i4]

theorem src_rk : ∀ n : Nat, src (List.replicate n U.k) = n ∧ tgt (List.replicate n U.k) = n
  | 0 => ⟨rfl, rfl⟩
  | n + 1 => by rw [List.replicate_succ]; simp [src, tgt, src_rk n]
theorem src_rd : ∀ n : Nat, src (List.replicate n U.d) = n ∧ tgt (List.replicate n U.d) = 0
  | 0 => ⟨rfl, rfl⟩
  | n + 1 => by rw [List.replicate_succ]; simp [src, tgt, src_rd n]
theorem src_mp : ∀ zs : List Int, src (zs.map U.p) = 0 ∧ tgt (zs.map U.p) = zs.length
  | [] => ⟨rfl, rfl⟩
  | z :: zs => by rw [List.map_cons]; simp [src, tgt, src_mp zs]
/-- the sums, as lengths of the units -/
theorem src_units {L : List Pt} (h : ∀ p ∈ L, szP_ p) : (src (units L) : Int) = sumOf keepOf L + sumOf dropOf L ∧ (tgt (units L) : Int) = sumOf keepOf L + sumOf putOf L := by
  induction L with
  | nil => simp [units_nil, src, tgt, sumOf_nil]
  | cons p L ih =>
    obtain ⟨i1, i2⟩ := ih (fun q hq => h q (by simp [hq]))
    obtain ⟨hk, h0, _, _⟩ := h p (by simp)
    rw [units_cons, src_app, tgt_app, sumOf_cons, sumOf_cons, sumOf_cons]
    generalize sumOf keepOf L = q1 at *
    generalize sumOf putOf L = q2 at *
    generalize sumOf dropOf L = q3 at *
    unfold unitsP keepOf putOf dropOf
    rcases hk with e | e | e
    · simp [e, src_rk]; omega
    · simp [e, src_mp]; omega
    · simp [e, src_rd]; omega
theorem apply_fold : ∀ (L : List Pt) (t : List Int) (s : Nat × List Int), (∀ p ∈ L, szP_ p) → (L.foldl (stepA t) s).2 = s.2 ++ applyU (units L) (t.drop s.1)
  | [], t, s, _ => by simp [units_nil, applyU]
  | p :: L, t, s, h => by
    obtain ⟨hk, h0, _, _⟩ := h p (by simp)
    rw [List.foldl_cons, apply_fold L t _ (fun q hq => h q (by simp [hq])), units_cons]
    unfold stepA unitsP
    rcases hk with e | e | e
    · simp only [e, if_true]
      rw [applyU_ks, List.append_assoc, List.drop_drop]
    · simp [e, applyU_ps]
    · simp [e, applyU_ds, List.drop_drop]
/-- applying an operation is applying its units -/
theorem applyT_units {ps : List Pt} {t : List Int} (h : fitsB ps t = true) : applyT ps t = applyU (units ps) t := by
  have := apply_fold ps t (0, []) (okPs_sz (fits_of h).1)
  unfold applyT foldA
  rw [if_pos h, this]
  simp
end Go.Proofs.Ytmlkeflnnaabeaa.low


/-
  The normal form is a function of what the units do to a text of marks; hence composition is associative up to the normal form, and so on.
-/
namespace Go.Proofs.Ytmlkeflnnaabeaa.low
open Go.RowKit
set_option linter.unusedVariables false

/-- applying units to a text of whatever kind -/
def applyG {α : Type} (f : Int → α) : List U → List α → List α
  | [], _ => []
  | .k :: us, t => t.take 1 ++ applyG f us (t.drop 1)
  | .p x :: us, t => f x :: applyG f us t
  | .d :: us, t => applyG f us (t.drop 1)
theorem applyG_id : ∀ (us : List U) (t : List Int), applyG id us t = applyU us t
  | [], t => rfl
  | .k :: us, t => by simp [applyG, applyU, applyG_id us]
  | .p x :: us, t => by simp [applyG, applyU, applyG_id us]
  | .d :: us, t => by simp [applyG, applyU, applyG_id us]
theorem applyG_len {α : Type} (f : Int → α) : ∀ (us : List U) (t : List α), src us = t.length → (applyG f us t).length = tgt us
  | [], t, _ => rfl
  | .k :: us, [], h => by simp [src] at h
  | .k :: us, x :: t, h => by
    have := applyG_len f us t (by simpa [src] using h)
    simp [applyG, tgt, this]
  | .p x :: us, t, h => by
    have := applyG_len f us t h
    simp [applyG, tgt, this]
  | .d :: us, [], h => by simp [src] at h
  | .d :: us, x :: t, h => by
    have := applyG_len f us t (by simpa [src] using h)
    simp [applyG, tgt, this]
theorem applyG_comp {α : Type} (f : Int → α) (a b : List U) : ∀ t : List α, src a = t.length → tgt a = src b → applyG f (comp a b) t = applyG f b (applyG f a t) := by
  induction a, b using comp.induct with
  | case1 => intro t h1 h2; simp [comp, applyG]
  | case2 x b ih =>
    intro t h1 h2
    have i1 := ih t h1 (by simpa [tgt, src] using h2)
    simp [comp, applyG] at *
    exact i1
  | case3 b => intro t h1 h2; simp [tgt, src] at h2
  | case4 b => intro t h1 h2; simp [tgt, src] at h2
  | case5 b a ih =>
    intro t h1 h2
    cases t with
    | nil => simp [src] at h1
    | cons y t =>
      have i1 := ih t (by simpa [src] using h1) (by simpa [tgt] using h2)
      simp [comp, applyG, i1]
  | case6 a => intro t h1 h2; simp [tgt, src] at h2
  | case7 a x b ih =>
    intro t h1 h2
    have i1 := ih t h1 (by simpa [src] using h2)
    rw [comp]
    show f x :: applyG f (comp (.k :: a) b) t = f x :: applyG f b (applyG f (.k :: a) t)
    rw [i1]
  | case8 a b ih =>
    intro t h1 h2
    cases t with
    | nil => simp [src] at h1
    | cons y t =>
      have i1 := ih t (by simpa [src] using h1) (by simpa [tgt, src] using h2)
      simp [comp, applyG, i1]
  | case9 a b ih =>
    intro t h1 h2
    cases t with
    | nil => simp [src] at h1
    | cons y t =>
      have i1 := ih t (by simpa [src] using h1) (by simpa [tgt, src] using h2)
      simp [comp, applyG, i1]
  | case10 y a => intro t h1 h2; simp [tgt, src] at h2
  | case11 y a x b ih =>
    intro t h1 h2
    have i1 := ih t h1 (by simpa [src] using h2)
    rw [comp]
    show f x :: applyG f (comp (.p y :: a) b) t = f x :: applyG f b (applyG f (.p y :: a) t)
    rw [i1]
  | case12 y a b ih =>
    intro t h1 h2
    have i1 := ih t (by simpa [src] using h1) (by simpa [tgt, src] using h2)
    simp [comp, applyG, i1]
  | case13 y a b ih =>
    intro t h1 h2
    have i1 := ih t (by simpa [src] using h1) (by simpa [tgt, src] using h2)
    simp [comp, applyG, i1]
theorem comp_ends {a b : List U} (h : tgt a = src b) : src (comp a b) = src a ∧ tgt (comp a b) = tgt b := (apply_comp a b (List.replicate (src a) 0) (by simp) h).2

/-- the marks from i to below i + m -/
def marksG (i : Nat) : Nat → List (Nat ⊕ Int)
  | 0 => []
  | m + 1 => .inl i :: marksG (i + 1) m
theorem marksG_len : ∀ (m i : Nat), (marksG i m).length = m
  | 0, _ => rfl
  | m + 1, i => by simp [marksG, marksG_len m]
/-- the normal units, read off what has become of the marks i to below n -/
def dec : List (Nat ⊕ Int) → Nat → Nat → List U
  | [], i, n => List.replicate (n - i) .d
  | .inr x :: l, i, n => .p x :: dec l i n
  | .inl j :: l, i, n => List.replicate (j - i) .d ++ .k :: dec l (j + 1) n
theorem dec_ps : ∀ (ps : List Int) (l : List (Nat ⊕ Int)) (i n : Nat), dec (ps.map .inr ++ l) i n = ps.map U.p ++ dec l i n
  | [], l, i, n => rfl
  | x :: ps, l, i, n => by
    show U.p x :: dec (ps.map .inr ++ l) i n = _
    rw [dec_ps ps]
    rfl
theorem dec_apply : ∀ (us : List U) (ps : List Int) (m i r : Nat), src us = r → dec (ps.map .inr ++ applyG .inr us (marksG (i + m) r)) i (i + m + r) = nfGo us ps m
  | [], ps, m, i, r, h => by
    have : r = 0 := by simpa [src] using h.symm
    subst this
    rw [dec_ps]
    simp [applyG, dec, nfGo]
  | .k :: us, ps, m, i, r, h => by
    cases r with
    | zero => simp [src] at h
    | succ r =>
      have ih := dec_apply us [] 0 (i + m + 1) r (by simpa [src] using h)
      rw [dec_ps]
      simp only [marksG, applyG, List.take_succ_cons, List.take_zero, List.drop_succ_cons, List.drop_zero, List.cons_append, List.nil_append, dec, nfGo]
      simp only [List.map_nil, List.nil_append, Nat.add_zero] at ih
      rw [show i + m + (r + 1) = i + m + 1 + r by omega, ih, show i + m - i = m by omega]
  | .p x :: us, ps, m, i, r, h => by
    have ih := dec_apply us (ps ++ [x]) m i r (by simpa [src] using h)
    rw [nfGo, ← ih]
    simp [applyG]
  | .d :: us, ps, m, i, r, h => by
    cases r with
    | zero => simp [src] at h
    | succ r =>
      have ih := dec_apply us ps (m + 1) i r (by simpa [src] using h)
      rw [nfGo, ← ih]
      simp only [marksG, applyG, List.drop_succ_cons, List.drop_zero]
      rw [show i + (m + 1) = i + m + 1 by omega, show i + m + 1 + r = i + m + (r + 1) by omega]
/-- the normal form is a function of what becomes of the marks -/
theorem nf_dec (us : List U) : nfU us = dec (applyG .inr us (marksG 0 (src us))) 0 (src us) := by
  have := dec_apply us [] 0 0 (src us) rfl
  simp only [List.map_nil, List.nil_append, Nat.add_zero, Nat.zero_add] at this
  exact this.symm
theorem nf_ext {us vs : List U} (h : src us = src vs) (he : applyG .inr us (marksG 0 (src us)) = applyG .inr vs (marksG 0 (src us))) : nfU us = nfU vs := by
  rw [nf_dec us, nf_dec vs, ← h, he]

theorem applyG_ps {α : Type} (f : Int → α) : ∀ (ps : List Int) (us : List U) (t : List α), applyG f (ps.map U.p ++ us) t = ps.map f ++ applyG f us t
  | [], us, t => rfl
  | x :: ps, us, t => by
    show f x :: applyG f (ps.map U.p ++ us) t = _
    rw [applyG_ps f ps us t]
    rfl
theorem applyG_ds {α : Type} (f : Int → α) : ∀ (n : Nat) (us : List U) (t : List α), applyG f (List.replicate n U.d ++ us) t = applyG f us (t.drop n)
  | 0, us, t => by simp
  | n + 1, us, t => by
    rw [List.replicate_succ]
    show applyG f (List.replicate n U.d ++ us) (t.drop 1) = _
    rw [applyG_ds f n us, List.drop_drop, Nat.add_comm]
theorem applyG_go {α : Type} (f : Int → α) : ∀ (us : List U) (ps : List Int) (n : Nat) (t : List α), applyG f (nfGo us ps n) t = ps.map f ++ applyG f us (t.drop n)
  | [], ps, n, t => by
    rw [nfGo, applyG_ps]
    have := applyG_ds f n [] t
    rw [List.append_nil] at this
    rw [this]
  | .k :: us, ps, n, t => by
    rw [nfGo, applyG_ps, applyG_ds]
    show ps.map f ++ ((t.drop n).take 1 ++ applyG f (nfGo us [] 0) ((t.drop n).drop 1)) = _
    rw [applyG_go f us [] 0]
    simp [applyG]
  | .p x :: us, ps, n, t => by
    rw [nfGo, applyG_go f us]
    simp [applyG]
  | .d :: us, ps, n, t => by
    rw [nfGo, applyG_go f us]
    simp only [applyG, List.drop_drop]
theorem applyG_nf {α : Type} (f : Int → α) (us : List U) (t : List α) : applyG f (nfU us) t = applyG f us t := by
  have := applyG_go f us [] 0 t
  simpa [nfU] using this
theorem nfGo_ends : ∀ (us : List U) (ps : List Int) (n : Nat), src (nfGo us ps n) = src us + n ∧ tgt (nfGo us ps n) = tgt us + ps.length
  | [], ps, n => by rw [nfGo, src_app, tgt_app, (src_mp ps).1, (src_mp ps).2, (src_rd n).1, (src_rd n).2]; simp [src, tgt]
  | .k :: us, ps, n => by
    obtain ⟨i1, i2⟩ := nfGo_ends us [] 0
    rw [nfGo, src_app, tgt_app, src_app, tgt_app, (src_mp ps).1, (src_mp ps).2, (src_rd n).1, (src_rd n).2]
    simp [src, tgt, i1, i2]
    omega
  | .p x :: us, ps, n => by
    obtain ⟨i1, i2⟩ := nfGo_ends us (ps ++ [x]) n
    rw [nfGo, i1, i2]
    simp [src, tgt]
    omega
  | .d :: us, ps, n => by
    obtain ⟨i1, i2⟩ := nfGo_ends us ps (n + 1)
    rw [nfGo, i1, i2]
    simp [src, tgt]
    omega
theorem nf_ends (us : List U) : src (nfU us) = src us ∧ tgt (nfU us) = tgt us := by
  have := nfGo_ends us [] 0
  simpa [nfU] using this
theorem nf_idem (us : List U) : nfU (nfU us) = nfU us := nf_ext (nf_ends us).1 (applyG_nf _ us _)

/-- composition of normal forms, and in whichever grouping -/
theorem comp_nf {a b : List U} (h : tgt a = src b) : nfU (comp (nfU a) (nfU b)) = nfU (comp a b) := by
  have h' : tgt (nfU a) = src (nfU b) := by rw [(nf_ends a).2, (nf_ends b).1, h]
  have e : src (comp (nfU a) (nfU b)) = src (comp a b) := by rw [(comp_ends h').1, (comp_ends h).1, (nf_ends a).1]
  refine nf_ext e ?_
  have l : (marksG 0 (src (comp (nfU a) (nfU b)))).length = src a := by rw [marksG_len, e, (comp_ends h).1]
  rw [applyG_comp _ _ _ _ (by rw [l, (nf_ends a).1]) h', applyG_comp _ _ _ _ (by rw [l]) h, applyG_nf, applyG_nf]
theorem comp_assoc {a b c : List U} (h1 : tgt a = src b) (h2 : tgt b = src c) : nfU (comp (comp a b) c) = nfU (comp a (comp b c)) := by
  have k1 : tgt (comp a b) = src c := by rw [(comp_ends h1).2, h2]
  have k2 : tgt a = src (comp b c) := by rw [(comp_ends h2).1, h1]
  have e : src (comp (comp a b) c) = src (comp a (comp b c)) := by rw [(comp_ends k1).1, (comp_ends h1).1, (comp_ends k2).1]
  refine nf_ext e ?_
  have l : (marksG 0 (src (comp (comp a b) c))).length = src a := by rw [marksG_len, (comp_ends k1).1, (comp_ends h1).1]
  generalize marksG 0 (src (comp (comp a b) c)) = t at *
  have la : (applyG (α := Nat ⊕ Int) .inr a t).length = tgt a := applyG_len _ a t (by rw [l])
  rw [applyG_comp _ _ _ _ (by rw [l, (comp_ends h1).1]) k1, applyG_comp _ _ _ _ (by rw [l]) h1, applyG_comp _ _ _ _ (by rw [l]) k2, applyG_comp _ _ _ _ (by rw [la, h1]) h2]
end Go.Proofs.Ytmlkeflnnaabeaa.low


/-
  Composition and transformation, several units at once.
-/
namespace Go.Proofs.Ytmlkeflnnaabeaa.low
open Go.RowKit
set_option linter.unusedVariables false

/-- the list does not begin with a deletion, with an insertion -/
def noD : List U → Prop
  | .d :: _ => False
  | _ => True
def noP : List U → Prop
  | .p _ :: _ => False
  | _ => True
theorem comp_ds : ∀ (n : Nat) (a b : List U), comp (List.replicate n .d ++ a) b = List.replicate n .d ++ comp a b
  | 0, a, b => rfl
  | n + 1, a, b => by rw [List.replicate_succ, List.cons_append, comp, comp_ds n a b]; rfl
theorem comp_put1 (a b : List U) (x : Int) (h : noD a) : comp a (.p x :: b) = .p x :: comp a b := by
  cases a with
  | nil => rw [comp]
  | cons u a =>
    cases u with
    | k => rw [comp]
    | p y => rw [comp]
    | d => exact absurd h (by simp [noD])
theorem comp_puts : ∀ (zs : List Int) (a b : List U), noD a → comp a (zs.map .p ++ b) = zs.map .p ++ comp a b
  | [], a, b, _ => rfl
  | z :: zs, a, b, h => by rw [List.map_cons, List.cons_append, comp_put1 a _ z h, comp_puts zs a b h]; rfl
theorem comp_kk : ∀ (n : Nat) (a b : List U), comp (List.replicate n .k ++ a) (List.replicate n .k ++ b) = List.replicate n .k ++ comp a b
  | 0, a, b => rfl
  | n + 1, a, b => by rw [List.replicate_succ, List.cons_append, List.cons_append, comp, comp_kk n a b]; rfl
theorem comp_kd : ∀ (n : Nat) (a b : List U), comp (List.replicate n .k ++ a) (List.replicate n .d ++ b) = List.replicate n .d ++ comp a b
  | 0, a, b => rfl
  | n + 1, a, b => by rw [List.replicate_succ, List.replicate_succ, List.cons_append, List.cons_append, comp, comp_kd n a b]; rfl
theorem comp_pk : ∀ (zs : List Int) (a b : List U), comp (zs.map .p ++ a) (List.replicate zs.length .k ++ b) = zs.map .p ++ comp a b
  | [], a, b => rfl
  | z :: zs, a, b => by rw [List.map_cons, List.length_cons, List.replicate_succ, List.cons_append, List.cons_append, comp, comp_pk zs a b]; rfl
theorem comp_pd : ∀ (zs : List Int) (a b : List U), comp (zs.map .p ++ a) (List.replicate zs.length .d ++ b) = comp a b
  | [], a, b => rfl
  | z :: zs, a, b => by rw [List.map_cons, List.length_cons, List.replicate_succ, List.cons_append, List.cons_append, comp, comp_pd zs a b]
theorem comp_nil : comp [] [] = [] := by rw [comp]

theorem xf_puts : ∀ (zs : List Int) (a b : List U), xf (zs.map .p ++ a) b = (zs.map .p ++ (xf a b).1, List.replicate zs.length .k ++ (xf a b).2)
  | [], a, b => rfl
  | z :: zs, a, b => by rw [List.map_cons, List.cons_append, xf, xf_puts zs a b]; rfl
theorem xf_put1 (a b : List U) (x : Int) (h : noP a) : xf a (.p x :: b) = (.k :: (xf a b).1, .p x :: (xf a b).2) := by
  cases a with
  | nil => rw [xf]
  | cons u a =>
    cases u with
    | k => rw [xf]
    | p y => exact absurd h (by simp [noP])
    | d => rw [xf]
theorem xf_putsB : ∀ (zs : List Int) (a b : List U), noP a → xf a (zs.map .p ++ b) = (List.replicate zs.length .k ++ (xf a b).1, zs.map .p ++ (xf a b).2)
  | [], a, b, _ => rfl
  | z :: zs, a, b, h => by rw [List.map_cons, List.cons_append, xf_put1 a _ z h, xf_putsB zs a b h]; rfl
theorem xf_kk : ∀ (n : Nat) (a b : List U), xf (List.replicate n .k ++ a) (List.replicate n .k ++ b) = (List.replicate n .k ++ (xf a b).1, List.replicate n .k ++ (xf a b).2)
  | 0, a, b => rfl
  | n + 1, a, b => by rw [List.replicate_succ, List.cons_append, List.cons_append, xf, xf_kk n a b]; rfl
theorem xf_kd : ∀ (n : Nat) (a b : List U), xf (List.replicate n .k ++ a) (List.replicate n .d ++ b) = ((xf a b).1, List.replicate n .d ++ (xf a b).2)
  | 0, a, b => rfl
  | n + 1, a, b => by rw [List.replicate_succ, List.replicate_succ, List.cons_append, List.cons_append, xf, xf_kd n a b]; rfl
theorem xf_dk : ∀ (n : Nat) (a b : List U), xf (List.replicate n .d ++ a) (List.replicate n .k ++ b) = (List.replicate n .d ++ (xf a b).1, (xf a b).2)
  | 0, a, b => rfl
  | n + 1, a, b => by rw [List.replicate_succ, List.replicate_succ, List.cons_append, List.cons_append, xf, xf_dk n a b]; rfl
theorem xf_dd : ∀ (n : Nat) (a b : List U), xf (List.replicate n .d ++ a) (List.replicate n .d ++ b) = xf a b
  | 0, a, b => rfl
  | n + 1, a, b => by rw [List.replicate_succ, List.cons_append, List.cons_append, xf, xf_dd n a b]
theorem xf_nil : xf [] [] = ([], []) := by rw [xf]

/-- the inverse of units, at a text -/
def invU : List U → List Int → List U
  | [], _ => []
  | .k :: us, t => .k :: invU us (t.drop 1)
  | .p _ :: us, t => .d :: invU us t
  | .d :: us, t => (t.take 1).map .p ++ invU us (t.drop 1)
/-- what is done is taken back -/
theorem inv_back : ∀ (us : List U) (t : List Int), src us = t.length → applyU (invU us t) (applyU us t) = t ∧ src (invU us t) = tgt us ∧ tgt (invU us t) = src us
  | [], t, h => by
    have : t = [] := List.eq_nil_of_length_eq_zero (by simpa [src] using h.symm)
    subst this
    simp [invU, applyU, src, tgt]
  | .k :: us, [], h => by simp [src] at h
  | .k :: us, x :: t, h => by
    obtain ⟨i1, i2, i3⟩ := inv_back us t (by simpa [src] using h)
    simp [invU, applyU, src, tgt, i1, i2, i3]
  | .p x :: us, t, h => by
    obtain ⟨i1, i2, i3⟩ := inv_back us t (by simpa [src] using h)
    simp [invU, applyU, src, tgt, i1, i2, i3]
  | .d :: us, [], h => by simp [src] at h
  | .d :: us, x :: t, h => by
    obtain ⟨i1, i2, i3⟩ := inv_back us t (by simpa [src] using h)
    simp [invU, applyU, src, tgt, i1, i2, i3]
/-- the inverse's inverse is the thing itself -/
theorem inv_inv : ∀ (us : List U) (t : List Int), src us = t.length → invU (invU us t) (applyU us t) = us
  | [], t, h => rfl
  | .k :: us, [], h => by simp [src] at h
  | .k :: us, x :: t, h => by
    have ih := inv_inv us t (by simpa [src] using h)
    simp [invU, applyU, ih]
  | .p x :: us, t, h => by
    have ih := inv_inv us t (by simpa [src] using h)
    simp [invU, applyU, ih]
  | .d :: us, [], h => by simp [src] at h
  | .d :: us, x :: t, h => by
    have ih := inv_inv us t (by simpa [src] using h)
    simp [invU, applyU, ih]
end Go.Proofs.Ytmlkeflnnaabeaa.low


/-
  The specification's cursor over the parts of an operation: l04Size, l04Kind, l04Left.
-/
namespace Go.Proofs.Ytmlkeflnnaabeaa.low
open Go.RowKit
set_option linter.unusedVariables false

/-- how many units a part has -/
def sizeP (p : Pt) : Nat := if p.kind = 2 then p.signs.length else p.n.toNat
theorem unitsP_len (p : Pt) : (unitsP p).length = sizeP p := by
  unfold unitsP sizeP
  by_cases h1 : p.kind = 1
  · simp [h1]
  · by_cases h2 : p.kind = 2
    · simp [h2]
    · simp [h1, h2]
theorem sizeP_le {p : Pt} (h : szP_ p) : sizeP p ≤ 200 := by
  obtain ⟨_, _, h1, h2⟩ := h
  unfold sizeP
  split <;> omega
/-- what is left of an operation: from the part at on, done units of it done -/
def rem (ps : List Pt) (at_ done : Nat) : List U := (units (ps.drop at_)).drop done
theorem drop_at {α : Type} {l : List α} {k : Nat} {x : α} (h : l[k]? = some x) : l.drop k = x :: l.drop (k + 1) := by
  have hk := idx_lt h
  rw [List.drop_eq_getElem_cons hk]
  congr 1
  have := List.getElem?_eq_getElem hk
  rw [h] at this
  injection this with this
  exact this.symm
theorem rem_next {ps : List Pt} {at_ : Nat} {p : Pt} (h : ps[at_]? = some p) : rem ps at_ (sizeP p) = rem ps (at_ + 1) 0 := by
  unfold rem
  rw [drop_at h, units_cons, ← unitsP_len p]
  simp
theorem rem_end {ps : List Pt} {at_ : Nat} (h : ps.length ≤ at_) (d : Nat) : rem ps at_ d = [] := by
  unfold rem
  rw [List.drop_eq_nil_of_le h]
  simp [units_nil]
theorem rem_in {ps : List Pt} {at_ done : Nat} {p : Pt} (h : ps[at_]? = some p) (hd : done ≤ sizeP p) : rem ps at_ done = (unitsP p).drop done ++ rem ps (at_ + 1) 0 := by
  unfold rem
  rw [drop_at h, units_cons, List.drop_append_of_le_length (by rw [unitsP_len]; exact hd)]
  simp

/-- a cursor at block g -/
structure Cur (g : Nat) (T : TypeId) (w : World) (A : Option Addr) (c : Nat) (ps : List Pt) (at_ done : Nat) : Prop where
  box : w.heap[g]? = some (.cells #[.slice A ps.length c, .int .i64 (at_ : Int), .int .i64 (done : Int)] T (0, 0))
  le : at_ ≤ ps.length
  part : ∀ p, ps[at_]? = some p → done ≤ sizeP p
  stop : at_ = ps.length → done = 0
theorem Cur.cell {g : Nat} {T : TypeId} {w : World} {A : Option Addr} {c : Nat} {ps : List Pt} {at_ done : Nat} (h : Cur g T w A c ps at_ done) (i : Nat) : w.cell? ⟨g, i, none⟩ = #[Value.slice A ps.length c, .int .i64 (at_ : Int), .int .i64 (done : Int)][i]? := cell_of_row _ _ i _ _ _ h.box
theorem Cur.free {g : Nat} {T : TypeId} {w : World} {A : Option Addr} {c : Nat} {ps : List Pt} {at_ done : Nat} (h : Cur g T w A c ps at_ done) (o : Nat) : w.frozen? ⟨g, o, none⟩ = false := by simp [World.frozen?, h.box]
theorem Cur.lt {g : Nat} {T : TypeId} {w : World} {A : Option Addr} {c : Nat} {ps : List Pt} {at_ done : Nat} (h : Cur g T w A c ps at_ done) : g < w.heap.size := lt_of_some h.box
theorem Cur.keep {g : Nat} {T : TypeId} {w w' : World} {A : Option Addr} {c : Nat} {ps : List Pt} {at_ done : Nat} (h : Cur g T w A c ps at_ done) (hk : w'.heap[g]? = w.heap[g]?) : Cur g T w' A c ps at_ done := ⟨hk.trans h.box, h.le, h.part, h.stop⟩
/-- the cursor is moved -/
theorem Cur.move {g : Nat} {T : TypeId} {w : World} {A : Option Addr} {c : Nat} {ps : List Pt} {at_ done : Nat} (h : Cur g T w A c ps at_ done) (at' done' : Nat) (h1 : at' ≤ ps.length) (h2 : ∀ p, ps[at']? = some p → done' ≤ sizeP p) (h3 : at' = ps.length → done' = 0) :
    Cur g T ((w.setCell ⟨g, 1, none⟩ (.int .i64 (at' : Int))).setCell ⟨g, 2, none⟩ (.int .i64 (done' : Int))) A c ps at' done' := by
  refine ⟨?_, h1, h2, h3⟩
  rw [heap_setCell_same _ _ _ _ _ _ (heap_setCell_same _ _ _ _ _ _ h.box)]
  rfl
/-- where the cursor stands, off the world -/
def atOf (g : Nat) (w : World) : Nat := match w.cell? ⟨g, 1, none⟩ with
  | some (.int _ n) => n.toNat
  | _ => 0
theorem Cur.atOf {g : Nat} {T : TypeId} {w : World} {A : Option Addr} {c : Nat} {ps : List Pt} {at_ done : Nat} (h : Cur g T w A c ps at_ done) : atOf g w = at_ := by
  unfold low.atOf
  rw [h.cell 1]
  rfl
theorem below_drewN {lo n : Nat} {w wr : World} (h : Below lo w wr) : Below lo w (wr.drewN n) := ⟨h.os, h.tape, h.output, h.size, h.block⟩
theorem fr_drewN {S : Nat → Prop} {n : Nat} {w wr : World} (h : Fr S w wr) : Fr S w (wr.drewN n) := ⟨h.size, h.block⟩
/-- the world has grown alone -/
def KS (wr W : World) : Prop := Below wr.heap.size wr W
theorem KS.start (wr : World) : KS wr wr.drew := (Below.refl _ _).drew
theorem sk_past {wr W W' : World} {g b o : Nat} {v0 v1 v2 u0 u1 u2 : Value} (hg : g < wr.heap.size) (hb : b < wr.heap.size)
    (h : W.cell? ⟨g, 0, none⟩ = some v0 ∧ W.cell? ⟨g, 1, none⟩ = some v1 ∧ W.cell? ⟨g, 2, none⟩ = some v2 ∧ W.cell? ⟨b, o, none⟩ = some u0 ∧ W.cell? ⟨b, o + 1, none⟩ = some u1 ∧ W.cell? ⟨b, o + 2, none⟩ = some u2 ∧ KS wr W) (h2 : Below W.heap.size W W') :
    W'.cell? ⟨g, 0, none⟩ = some v0 ∧ W'.cell? ⟨g, 1, none⟩ = some v1 ∧ W'.cell? ⟨g, 2, none⟩ = some v2 ∧ W'.cell? ⟨b, o, none⟩ = some u0 ∧ W'.cell? ⟨b, o + 1, none⟩ = some u1 ∧ W'.cell? ⟨b, o + 2, none⟩ = some u2 ∧ KS wr W' := by
  obtain ⟨a0, a1, a2, c0, c1, c2, hk⟩ := h
  have hs := hk.size
  have g' : g < W.heap.size := Nat.lt_of_lt_of_le hg hs
  have b' : b < W.heap.size := Nat.lt_of_lt_of_le hb hs
  exact ⟨(h2.cell (p := ⟨g, 0, none⟩) g').trans a0, (h2.cell (p := ⟨g, 1, none⟩) g').trans a1, (h2.cell (p := ⟨g, 2, none⟩) g').trans a2, (h2.cell (p := ⟨b, o, none⟩) b').trans c0, (h2.cell (p := ⟨b, o + 1, none⟩) b').trans c1, (h2.cell (p := ⟨b, o + 2, none⟩) b').trans c2, hk.trans (h2.mono hs)⟩
/-- behind a look at the cursor: it stands at a unit that is not done, or at the end -/
def KindP (lo g : Nat) (T : TypeId) (A : Option Addr) (c : Nat) (ps : List Pt) (R : List U) (w : World) (e : Ending) (w' : World) : Prop :=
  ∃ at_ done, Cur g T w' A c ps at_ done ∧ rem ps at_ done = R ∧ Below lo w w' ∧ Fr (fun b => b = g) w w' ∧
    ((at_ = ps.length ∧ e = .returned (.int .i64 0)) ∨ ∃ p, ps[at_]? = some p ∧ done < sizeP p ∧ e = .returned (.int .i64 p.kind))

end Go.Proofs.Ytmlkeflnnaabeaa.low


/-
  The specification's cursor: l04Left, l04Take, l04Min.
-/
namespace Go.Proofs.Ytmlkeflnnaabeaa.low
open Go.RowKit
set_option linter.unusedVariables false

theorem parts_at {w : World} {B : Nat} {A : Option Addr} {n c i : Nat} {ps : List Pt} (h : RdC w B (encPs ps) (.slice A n c)) (hi : i < ps.length) :
    ∃ b off p A1 e1, A = some ⟨b, off, none⟩ ∧ b < B ∧ ps[i]? = some p ∧ w.cell? ⟨b, off + i * 3, none⟩ = some (.int .i64 p.kind) ∧ w.cell? ⟨b, off + i * 3 + 1, none⟩ = some (.int .i64 p.n) ∧ w.cell? ⟨b, off + i * 3 + 2, none⟩ = some (.slice A1 p.signs.length e1) ∧ Row (Value.int .i64) w B A1 p.signs ∧ p.signs.length ≤ e1 := by
  obtain ⟨ad, r, hA, hb, hs, hr, hl⟩ := RdC.at_ (ds := ps.map encPt) h (by simpa using hi)
  rw [List.getElem?_map, List.getElem?_eq_getElem hi] at hr
  obtain rfl : encPt ps[i] = r := by simpa using hr
  obtain ⟨b, off, spot⟩ := ad
  obtain rfl : spot = none := by
    rcases hs with hs | hs
    · cases hs
    · exact hs
  obtain ⟨⟨v0, x0, rfl⟩, ⟨v1, x1, rfl⟩, ⟨v2, x2, r2⟩, _⟩ := hl
  obtain ⟨A1, e1, rfl, r3, hc⟩ := ints_rd r2
  rw [add_at] at x0 x1 x2
  exact ⟨b, off, ps[i], A1, e1, hA, hb, List.getElem?_eq_getElem hi, x0, by simpa [Nat.add_assoc] using x1, by simpa [Nat.add_assoc] using x2, r3, hc⟩

theorem Cur.step {g : Nat} {T : TypeId} {w : World} {A : Option Addr} {c : Nat} {ps : List Pt} {at_ done : Nat} (h : Cur g T w A c ps at_ done) (done' : Nat) (h1 : at_ < ps.length) (h2 : ∀ p, ps[at_]? = some p → done' ≤ sizeP p) :
    Cur g T (w.setCell ⟨g, 2, none⟩ (.int .i64 (done' : Int))) A c ps at_ done' := by
  refine ⟨?_, h.le, h2, fun e => by omega⟩
  rw [heap_setCell_same _ _ _ _ _ _ h.box]
  rfl
/-- behind a take: the piece, and the cursor moved -/
def TakeP (lo g : Nat) (T : TypeId) (A : Option Addr) (c : Nat) (ps : List Pt) (at_ done n : Nat) (p : Pt) (w : World) (e : Ending) (w' : World) : Prop :=
  ∃ A' c', e = .returned (.slice A' n c') ∧ Cur g T w' A c ps at_ (done + n) ∧ Row (Value.int .i64) w' w'.heap.size A' ((p.signs.drop done).take n) ∧ Below lo w w' ∧ Fr (fun b => b = g) w w'

end Go.Proofs.Ytmlkeflnnaabeaa.low


/-
  Contracts of spec.TextOk, spec.l03Fits and spec.Apply.
-/
namespace Go.Proofs.Ytmlkeflnnaabeaa.low
open Go.RowKit
set_option linter.unusedVariables false

theorem SmP.all4 {ps : List Pt} (h : SmP ps) : ∀ p ∈ ps, p.signs.length ≤ 4294967296 := fun p hp => Nat.le_trans (h.all p hp) (by omega)

end Go.Proofs.Ytmlkeflnnaabeaa.low


/-
  Applying several operations, and the idle operation: the functions on lists, and the contracts of spec.ApplyAll and spec.Idle.
-/
namespace Go.Proofs.Ytmlkeflnnaabeaa.low
open Go.RowKit
set_option linter.unusedVariables false

def idleB (ps : List Pt) : Bool := okOp ps && (putsN ps == 0) && (dropsN ps == 0)
def stepAll (s : Option (List Int)) (ps : List Pt) : Option (List Int) := match s with
  | none => none
  | some t => if fitsB ps t = true then some (applyT ps t) else none
def foldAll (l : List (List Pt)) (t : List Int) : Option (List Int) := l.foldl stepAll (some t)
def applyAllB (l : List (List Pt)) (t : List Int) : Bool := (foldAll l t).isSome && okText t
def applyAllT (l : List (List Pt)) (t : List Int) : List Int := if applyAllB l t = true then (foldAll l t).getD [] else []
theorem foldAll_snoc {l : List (List Pt)} {t : List Int} {k : Nat} {ps : List Pt} (h : l[k]? = some ps) : foldAll (l.take (k + 1)) t = stepAll (foldAll (l.take k) t) ps := by
  unfold foldAll
  rw [List.take_add_one, h]
  simp
theorem fold_none (l : List (List Pt)) : l.foldl stepAll none = none := by
  induction l with
  | nil => rfl
  | cons p l ih => exact ih
theorem foldAll_none {l : List (List Pt)} {t : List Int} {k : Nat} (h : foldAll (l.take k) t = none) : foldAll l t = none := by
  have e : foldAll l t = (l.drop k).foldl stepAll (foldAll (l.take k) t) := by
    unfold foldAll
    rw [← List.foldl_append, List.take_append_drop]
  rw [e, h, fold_none]
/-- what stands behind k operations is the text itself or short -/
theorem foldAll_len {l : List (List Pt)} {t cur : List Int} {k : Nat} (hk : k ≤ l.length) (h : foldAll (l.take k) t = some cur) : cur.length ≤ max t.length 200 := by
  cases k with
  | zero =>
    have : cur = t := by simpa [foldAll] using h.symm
    rw [this]
    omega
  | succ k =>
    obtain ⟨ps, hp⟩ := idx_some (l := l) (i := k) (by omega)
    rw [foldAll_snoc hp] at h
    cases hq : foldAll (l.take k) t with
    | none => rw [hq] at h; cases h
    | some u =>
      rw [hq] at h
      unfold stepAll at h
      simp only at h
      split at h
      · injection h with h
        rw [← h]
        have := apply_len ps u
        omega
      · cases h
theorem applyAll_small {l : List (List Pt)} {t : List Int} (h0 : SmPP l) (h1 : SmI t) : SmI (applyAllT l t) := by
  unfold SmI at *
  unfold applyAllT
  split
  · cases h : foldAll l t with
    | none => simp
    | some cur =>
      have := foldAll_len (l := l) (t := t) (k := l.length) (Nat.le_refl _) (by rw [List.take_length]; exact h)
      simp only [Option.getD_some]
      omega
  · simp

theorem nilOwn (d : Dat) {e : TypeId} {sz lo : Nat} (w : World) (hd : d = .rows e sz []) (h : lo ≤ w.heap.size) : Own lo w.heap.size w d (.slice none 0 0) := by
  subst hd
  exact ⟨[], ⟨[], [], World.ownsRow_nil _ _ _ _, ⟨rfl, rfl⟩, rfl⟩, by simp, fun b hb => by simp at hb, Nat.le_refl _, h⟩
theorem ownInts {lo : Nat} {w : World} {A : Option Addr} {n c : Nat} {zs : List Int} (h : w.ownsRow lo 3 1 (.slice A n c) zs.length (zs.map (Value.int .i64))) (hlo : lo ≤ w.heap.size) : Own lo w.heap.size w (encInts zs) (.slice A n c) :=
  ⟨_, ow_ints h, by cases A <;> simp [Value.ownBlock], fun b hb => by
    have hb' : (Value.slice A n c).ownBlock = some b := by simpa using hb
    exact ⟨own_ge h b hb', own_in h hb'⟩, Nat.le_refl _, hlo⟩

end Go.Proofs.Ytmlkeflnnaabeaa.low


/-
  The specification's builder in one word each: keep, put, drop, done.
-/
namespace Go.Proofs.Ytmlkeflnnaabeaa.low
open Go.RowKit
set_option linter.unusedVariables false

theorem specKeepB (O : Nat → Prop) (lo g : Nat) (L : List Pt) (n : Int) (w : World) (hb : Bld O lo g 114 w L) (h0 : 0 ≤ n) (h1 : n ≤ 200) (hl : L.length < 100000) :
    Calls Try.prog 88 #[.pointer (some ⟨g, 0, none⟩), .int .i64 n] w (BldP O lo g 114 (L ++ [⟨1, n, []⟩]) w) := by
  have hz : szP_ ⟨1, n, []⟩ := ⟨.inl rfl, h0, h1, by simp⟩
  by_cases hn : n = 0
  · subst hn
    refine (specKeep_zero g w).mono ?_
    rintro e w' ⟨rfl, rfl⟩
    exact ⟨rfl, hb.add hl hz (Below.refl _ _) (Fr.refl _ _) (hb.at_.mono (fun b h => .inl h))⟩
  · have hf := hb.fit
    have hd := hf.done
    have hsg := signsIn_le hb.sz
    have f1 := hf.len
    have f2 := hf.signs
    have hlen := hb.len
    refine (specKeep_f (fun b => O b ∨ w.heap.size ≤ b) lo g _ _ _ n w (hb.at_.mono (fun b h => .inl h)) (fun b h => .inr h) (by omega) (by omega) hn h0 (by omega) (fun p hp => by have := hd.2.2 p hp; omega) (by have := hd.1; exact Nat.le_trans this (by omega))).mono ?_
    rintro e w' ⟨rfl, hn', b, fr⟩
    refine ⟨rfl, hb.add hl hz b fr ?_⟩
    simp only [stepN, if_neg hn]
    exact hn'.at_
theorem specPutB (O : Nat → Prop) (lo g : Nat) (L : List Pt) (A : Option Addr) (c m : Nat) (zs : List Int) (w : World) (hb : Bld O lo g 114 w L) (hr : Row (Value.int .i64) w w.heap.size A zs) (hm : zs.length = m) (h1 : zs.length ≤ 200) (hl : L.length < 100000) :
    Calls Try.prog 89 #[.pointer (some ⟨g, 0, none⟩), .slice A m c] w (BldP O lo g 114 (L ++ [⟨2, 0, zs⟩]) w) := by
  subst hm
  have hz : szP_ ⟨2, 0, zs⟩ := ⟨.inr (.inl rfl), by simp, by simp, h1⟩
  have hsg := signsIn_le hb.sz
  have f2 := hb.fit.signs
  have hlen := hb.len
  refine (specPut_f (fun b => O b ∨ w.heap.size ≤ b) lo g _ _ _ A c zs w (hb.at_.mono (fun b h => .inl h)) (fun b h => .inr h) hr (by omega) (by omega)).mono ?_
  rintro e w' ⟨rfl, ha, b, fr⟩
  exact ⟨rfl, hb.add hl hz b fr ha⟩
theorem specDropB (O : Nat → Prop) (lo g : Nat) (L : List Pt) (n : Int) (w : World) (hb : Bld O lo g 114 w L) (h0 : 0 ≤ n) (h1 : n ≤ 200) (hl : L.length < 100000) :
    Calls Try.prog 90 #[.pointer (some ⟨g, 0, none⟩), .int .i64 n] w (BldP O lo g 114 (L ++ [⟨3, n, []⟩]) w) := by
  have hz : szP_ ⟨3, n, []⟩ := ⟨.inr (.inr rfl), h0, h1, by simp⟩
  have f3 := hb.fit.d0
  have f4 := hb.fit.d1
  have hlen := hb.len
  refine (specDrop_f (fun b => O b ∨ w.heap.size ≤ b) lo g _ _ _ n w (hb.at_.mono (fun b h => .inl h)) (fun b h => .inr h) f3 (by omega) h0 (by omega)).mono ?_
  rintro e w' ⟨rfl, ha, b, fr⟩
  exact ⟨rfl, hb.add hl hz b fr ha⟩
theorem specDoneB (O : Nat → Prop) (lo g : Nat) (L : List Pt) (w : World) (hb : Bld O lo g 114 w L) :
    Calls Try.prog 91 #[.pointer (some ⟨g, 0, none⟩)] w (DoneP O lo L w) := by
  have f1 := hb.fit.len
  have hlen := hb.len
  have hsg := signsIn_le hb.sz
  have f2 := hb.fit.signs
  refine (specDone_f (fun b => O b ∨ w.heap.size ≤ b) lo g _ _ _ w (hb.at_.mono (fun b h => .inl h)) (fun b h => .inr h) (by omega) (by omega)).mono ?_
  intro e w' h
  exact GoneS.done h
end Go.Proofs.Ytmlkeflnnaabeaa.low


/-
  The inverse of an operation: the function on lists, and the contract of spec.Invert.
-/
namespace Go.Proofs.Ytmlkeflnnaabeaa.low
open Go.RowKit
set_option linter.unusedVariables false

/-- the inverse of one part, at a position of the text -/
def invP (t : List Int) (at_ : Nat) (p : Pt) : Pt := if p.kind = 1 then ⟨1, p.n, []⟩ else if p.kind = 2 then ⟨3, (p.signs.length : Int), []⟩ else ⟨2, 0, (t.drop at_).take p.n.toNat⟩
def stepI (t : List Int) (s : Nat × List Pt) (p : Pt) : Nat × List Pt := (s.1 + (if p.kind = 2 then 0 else p.n.toNat), s.2 ++ [invP t s.1 p])
def foldI (t : List Int) (ps : List Pt) : Nat × List Pt := ps.foldl (stepI t) (0, [])
def invertT (ps : List Pt) (t : List Int) : List Pt := if fitsB ps t = true then doneN (foldN (foldI t (normL ps)).2) else []
theorem foldI_snoc {t : List Int} {ps : List Pt} {k : Nat} {p : Pt} (h : ps[k]? = some p) : foldI t (ps.take (k + 1)) = stepI t (foldI t (ps.take k)) p := by
  unfold foldI
  rw [List.take_add_one, h]
  simp
theorem invP_sz {t : List Int} {at_ : Nat} {p : Pt} (h : szP_ p) : szP_ (invP t at_ p) := by
  obtain ⟨hk, h0, h1, hz⟩ := h
  unfold invP
  split
  · exact ⟨.inl rfl, h0, h1, by simp⟩
  · split
    · exact ⟨.inr (.inr rfl), by simp, by simp only; omega, by simp⟩
    · exact ⟨.inr (.inl rfl), by simp, by simp, by rw [List.length_take]; omega⟩
theorem foldI_fit {t : List Int} {ps : List Pt} (hok : okPs ps = true) : ∀ k, k ≤ ps.length → ((foldI t (ps.take k)).1 : Int) = sumOf keepOf (ps.take k) + sumOf dropOf (ps.take k) ∧ (foldI t (ps.take k)).2.length = k ∧ ∀ p ∈ (foldI t (ps.take k)).2, szP_ p
  | 0, _ => by simp [foldI, sumOf]
  | k + 1, hk => by
    obtain ⟨p, hp⟩ := idx_some (l := ps) (i := k) (by omega)
    obtain ⟨i1, i2, i3⟩ := foldI_fit (t := t) hok k (by omega)
    have hok' := okPs_at hp hok
    have hp' := of_okPt hok'
    rw [foldI_snoc hp, sumOf_snoc hp, sumOf_snoc hp]
    generalize foldI t (ps.take k) = s at *
    generalize sumOf keepOf (ps.take k) = q1 at *
    generalize sumOf dropOf (ps.take k) = q3 at *
    refine ⟨?_, by simp [stepI, i2], fun q hq => ?_⟩
    · unfold stepI keepOf dropOf
      rcases (show p.kind = 1 ∨ p.kind = 2 ∨ p.kind = 3 by omega) with e | e | e
      · simp [e]; omega
      · simp [e]; omega
      · simp [e]; omega
    · rcases List.mem_append.1 hq with hq | hq
      · exact i3 q hq
      · simp at hq
        subst hq
        exact invP_sz (szP_of hok')
/-- the normal form of a fitting operation -/
theorem fits_norm {ps : List Pt} {t : List Int} (h : fitsB ps t = true) : okPs (normL ps) = true ∧ (normL ps).length ≤ 600 ∧ sumOf keepOf (normL ps) + sumOf dropOf (normL ps) = (t.length : Int) := by
  obtain ⟨_, _, h3, _, _, _, h7⟩ := fits_of h
  obtain ⟨n1, _, s1, s2, s3⟩ := norm_ok h7
  obtain ⟨a1, a2, _⟩ := okOp_of n1
  exact ⟨a1, a2, by rw [s1, s3]; exact h3⟩
theorem foldI_in {t : List Int} {qs : List Pt} {k : Nat} {p : Pt} (h1 : okPs qs = true) (h3 : sumOf keepOf qs + sumOf dropOf qs = (t.length : Int)) (hp : qs[k]? = some p) (hk : p.kind = 1 ∨ p.kind = 3) : ((foldI t (qs.take k)).1 : Int) + p.n ≤ (t.length : Int) := by
  have hlt := idx_lt hp
  have f := (foldI_fit (t := t) h1 k (by omega)).1
  have a1 := sumOf_take (f := keepOf) (ps := qs) (fun q hq => (ok_bd (okPs_mem' h1 hq)).1.1) (k + 1)
  have a2 := sumOf_take (f := dropOf) (ps := qs) (fun q hq => (ok_bd (okPs_mem' h1 hq)).2.2.1) (k + 1)
  rw [sumOf_snoc hp] at a1 a2
  have : keepOf p + dropOf p = p.n := by
    unfold keepOf dropOf
    rcases hk with e | e <;> simp [e]
  omega
theorem foldI_at {t : List Int} {qs : List Pt} (h1 : okPs qs = true) (h3 : sumOf keepOf qs + sumOf dropOf qs = (t.length : Int)) {k : Nat} (hk : k ≤ qs.length) : (foldI t (qs.take k)).1 ≤ t.length := by
  have f := (foldI_fit (t := t) h1 k hk).1
  have a1 := sumOf_take (f := keepOf) (ps := qs) (fun q hq => (ok_bd (okPs_mem' h1 hq)).1.1) k
  have a2 := sumOf_take (f := dropOf) (ps := qs) (fun q hq => (ok_bd (okPs_mem' h1 hq)).2.2.1) k
  omega
theorem built_small {L : List Pt} (h : ∀ p ∈ L, szP_ p) (hl : L.length ≤ 5000) : SmP (doneN (foldN L)) := by
  have := (foldN_fitZ h).done
  have := signsIn_le h
  exact ⟨by omega, by omega⟩
theorem invert_small {ps : List Pt} {t : List Int} (h0 : SmP ps) (h1 : SmI t) : SmP (invertT ps t) := by
  unfold invertT
  split
  · rename_i h
    obtain ⟨n1, n2, n3⟩ := fits_norm h
    have f := foldI_fit (t := t) n1 (normL ps).length (Nat.le_refl _)
    rw [List.take_length] at f
    exact built_small f.2.2 (by omega)
  · exact ⟨by simp, by simp [signsIn]⟩

theorem specOpNorm_d (v : Value) (ps : List Pt) (w : World) (h : RdC w w.heap.size (encPs ps) v) (hs : SmP ps) : Calls Try.prog 67 #[v] w (OwnPost (encPs (normL ps)) w) := by
  obtain ⟨A, c, rfl, hr, _⟩ := parts_rd h
  have hl := hs.1
  refine (specOpNorm_any A c ps w hr (by omega) hs.all4 hs.2).mono ?_
  rintro e w1 ⟨v1, rfl, p1, b1⟩
  exact ⟨v1, rfl, own_parts p1, b1⟩

end Go.Proofs.Ytmlkeflnnaabeaa.low


/-
  spec.Compose: the function on lists, and the contract.
-/
namespace Go.Proofs.Ytmlkeflnnaabeaa.low
open Go.RowKit
set_option linter.unusedVariables false

def kindOf : List U → Int
  | [] => 0
  | .k :: _ => 1
  | .p _ :: _ => 2
  | .d :: _ => 3
/-- the cursor stands at a unit of the part p that is not done, or at the end -/
def Stands (ps : List Pt) (at_ done : Nat) (R : List U) : Prop := (at_ = ps.length ∧ R = []) ∨ ∃ p, ps[at_]? = some p ∧ done < sizeP p ∧ kindOf R = p.kind ∧ R = (unitsP p).drop done ++ rem ps (at_ + 1) 0
def KindQ (lo g : Nat) (T : TypeId) (A : Option Addr) (c : Nat) (ps : List Pt) (R : List U) (w : World) (e : Ending) (w' : World) : Prop :=
  e = .returned (.int .i64 (kindOf R)) ∧ ∃ at_ done, Cur g T w' A c ps at_ done ∧ rem ps at_ done = R ∧ Stands ps at_ done R ∧ Below lo w w' ∧ Fr (fun b => b = g) w w'
theorem kind_unitsP {p : Pt} (h : szP_ p) {done : Nat} (hd : done < sizeP p) (r : List U) : kindOf ((unitsP p).drop done ++ r) = p.kind := by
  obtain ⟨pk, pn, pz⟩ := p
  obtain ⟨hk, _⟩ := h
  simp only at hk
  rcases hk with rfl | rfl | rfl
  · have hd' : done < pn.toNat := by simpa [sizeP] using hd
    have e : unitsP ⟨1, pn, pz⟩ = List.replicate pn.toNat .k := by simp [unitsP]
    rw [e, List.drop_replicate, show pn.toNat - done = (pn.toNat - done - 1) + 1 by omega, List.replicate_succ]
    rfl
  · have hd' : done < pz.length := by simpa [sizeP] using hd
    have e : unitsP ⟨2, pn, pz⟩ = pz.map .p := by simp [unitsP]
    obtain ⟨z, hz⟩ := idx_some (l := pz) (i := done) hd'
    rw [e, ← List.map_drop, drop_at hz]
    rfl
  · have hd' : done < pn.toNat := by simpa [sizeP] using hd
    have e : unitsP ⟨3, pn, pz⟩ = List.replicate pn.toNat .d := by simp [unitsP]
    rw [e, List.drop_replicate, show pn.toNat - done = (pn.toNat - done - 1) + 1 by omega, List.replicate_succ]
    rfl
/-- the composition -/
def compL (a b : List Pt) : List Pt := doneN (foldU (comp (units a) (units b)))
def composeB (a b : List Pt) : Bool := okOp a && okOp b && (sumK a + sumP a == sumK b + sumD b) && okOp (compL a b)
def composeT (a b : List Pt) : List Pt := if composeB a b = true then compL a b else []
end Go.Proofs.Ytmlkeflnnaabeaa.low


/-
  Composition: the loop's invariant on units, how a round goes on, what a chunk of units is.
-/
namespace Go.Proofs.Ytmlkeflnnaabeaa.low
open Go.RowKit
set_option linter.unusedVariables false

/-- the loop's invariant -/
structure CInv (a b : List Pt) (RX RY : List U) (L : List Pt) : Prop where
  eq : units L ++ comp RX RY = comp (units a) (units b)
  bal : tgt RX = src RY
  len : L.length + RX.length + RY.length ≤ 2000
theorem CInv.drop {a b : List Pt} {n : Nat} {RX RY : List U} {L : List Pt} (h : CInv a b (List.replicate n .d ++ RX) RY L) (hn : 0 < n) : CInv a b RX RY (L ++ [⟨3, (n : Int), []⟩]) := by
  refine ⟨?_, ?_, ?_⟩
  · rw [← h.eq, comp_ds, units_app]
    simp [units, unitsP]
  · have := h.bal; rwa [tgt_app, (src_rd n).2, Nat.zero_add] at this
  · have := h.len; simp at this ⊢; omega
theorem CInv.put {a b : List Pt} {zs : List Int} {RX RY : List U} {L : List Pt} (h : CInv a b RX (zs.map .p ++ RY) L) (hd : noD RX) (hn : 0 < zs.length) : CInv a b RX RY (L ++ [⟨2, 0, zs⟩]) := by
  refine ⟨?_, ?_, ?_⟩
  · rw [← h.eq, comp_puts zs _ _ hd, units_app]
    simp [units, unitsP]
  · have := h.bal; rwa [src_app, (src_mp zs).1, Nat.zero_add] at this
  · have := h.len; simp at this ⊢; omega
theorem CInv.kk {a b : List Pt} {n : Nat} {RX RY : List U} {L : List Pt} (h : CInv a b (List.replicate n .k ++ RX) (List.replicate n .k ++ RY) L) (hn : 0 < n) : CInv a b RX RY (L ++ [⟨1, (n : Int), []⟩]) := by
  refine ⟨?_, ?_, ?_⟩
  · rw [← h.eq, comp_kk, units_app]
    simp [units, unitsP]
  · have := h.bal; rw [tgt_app, src_app, (src_rk n).1, (src_rk n).2] at this; omega
  · have := h.len; simp at this ⊢; omega
theorem CInv.kd {a b : List Pt} {n : Nat} {RX RY : List U} {L : List Pt} (h : CInv a b (List.replicate n .k ++ RX) (List.replicate n .d ++ RY) L) (hn : 0 < n) : CInv a b RX RY (L ++ [⟨3, (n : Int), []⟩]) := by
  refine ⟨?_, ?_, ?_⟩
  · rw [← h.eq, comp_kd, units_app]
    simp [units, unitsP]
  · have := h.bal; rw [tgt_app, src_app, (src_rk n).2, (src_rd n).1] at this; omega
  · have := h.len; simp at this ⊢; omega
theorem CInv.pk {a b : List Pt} {zs : List Int} {RX RY : List U} {L : List Pt} (h : CInv a b (zs.map .p ++ RX) (List.replicate zs.length .k ++ RY) L) (hn : 0 < zs.length) : CInv a b RX RY (L ++ [⟨2, 0, zs⟩]) := by
  refine ⟨?_, ?_, ?_⟩
  · rw [← h.eq, comp_pk, units_app]
    simp [units, unitsP]
  · have := h.bal; rw [tgt_app, src_app, (src_mp zs).2, (src_rk zs.length).1] at this; omega
  · have := h.len; simp at this ⊢; omega
theorem CInv.pd {a b : List Pt} {zs : List Int} {RX RY : List U} {L : List Pt} (h : CInv a b (zs.map .p ++ RX) (List.replicate zs.length .d ++ RY) L) : CInv a b RX RY L := by
  refine ⟨?_, ?_, ?_⟩
  · rw [← h.eq, comp_pd]
  · have := h.bal; rw [tgt_app, src_app, (src_mp zs).2, (src_rd zs.length).1] at this; omega
  · have := h.len; simp at this ⊢; omega
theorem okOp_units {a : List Pt} (h : okOp a = true) : (units a).length ≤ 600 ∧ (∀ p ∈ a, szP_ p) ∧ a.length ≤ 600 := by
  obtain ⟨h1, h2, h3, h4, h5, h6, h7⟩ := okOp_of h
  have hz := okPs_sz h1
  obtain ⟨s1, s2⟩ := src_units hz
  refine ⟨?_, hz, h2⟩
  have : ∀ us : List U, us.length ≤ src us + tgt us := by
    intro us
    induction us with
    | nil => simp
    | cons u us ih => cases u <;> simp [src, tgt] <;> omega
  have := this (units a)
  omega
/-- how a round goes on -/
theorem comp_cases {RX RY : List U} (h : tgt RX = src RY) : (RX = [] ∧ RY = []) ∨ kindOf RX = 3 ∨ (noD RX ∧ kindOf RX = 0 ∧ kindOf RY = 2) ∨ (noD RX ∧ (kindOf RX = 1 ∨ kindOf RX = 2) ∧ kindOf RY = 2) ∨ (noD RX ∧ (kindOf RX = 1 ∨ kindOf RX = 2) ∧ (kindOf RY = 1 ∨ kindOf RY = 3)) := by
  rcases RX with _ | ⟨ux, RX⟩
  · rcases RY with _ | ⟨uy, RY⟩
    · exact .inl ⟨rfl, rfl⟩
    · cases uy with
      | k => simp [tgt, src] at h
      | p z => exact .inr (.inr (.inl ⟨trivial, rfl, rfl⟩))
      | d => simp [tgt, src] at h
  · cases ux with
    | d => exact .inr (.inl rfl)
    | k =>
      rcases RY with _ | ⟨uy, RY⟩
      · simp [tgt, src] at h
      · cases uy with
        | k => exact .inr (.inr (.inr (.inr ⟨trivial, .inl rfl, .inl rfl⟩)))
        | p z => exact .inr (.inr (.inr (.inl ⟨trivial, .inl rfl, rfl⟩)))
        | d => exact .inr (.inr (.inr (.inr ⟨trivial, .inl rfl, .inr rfl⟩)))
    | p z' =>
      rcases RY with _ | ⟨uy, RY⟩
      · simp [tgt, src] at h
      · cases uy with
        | k => exact .inr (.inr (.inr (.inr ⟨trivial, .inr rfl, .inl rfl⟩)))
        | p z => exact .inr (.inr (.inr (.inl ⟨trivial, .inr rfl, rfl⟩)))
        | d => exact .inr (.inr (.inr (.inr ⟨trivial, .inr rfl, .inr rfl⟩)))

theorem rem_chunk {ps : List Pt} {at_ d n : Nat} {p : Pt} (h : ps[at_]? = some p) (hd : d + n ≤ sizeP p) : rem ps at_ d = ((unitsP p).drop d).take n ++ rem ps at_ (d + n) := by
  rw [rem_in h (by omega), rem_in h hd, ← List.append_assoc]
  congr 1
  rw [← List.drop_drop, List.take_append_drop]
theorem chunk_k {p : Pt} {d n : Nat} (hk : p.kind = 1) (hd : d + n ≤ sizeP p) : ((unitsP p).drop d).take n = List.replicate n .k := by
  have e : unitsP p = List.replicate p.n.toNat .k := by simp [unitsP, hk]
  have hs : sizeP p = p.n.toNat := by simp [sizeP, hk]
  rw [e, List.drop_replicate, List.take_replicate]
  congr 1
  omega
theorem chunk_d {p : Pt} {d n : Nat} (hk : p.kind = 3) (hd : d + n ≤ sizeP p) : ((unitsP p).drop d).take n = List.replicate n .d := by
  have e : unitsP p = List.replicate p.n.toNat .d := by simp [unitsP, hk]
  have hs : sizeP p = p.n.toNat := by simp [sizeP, hk]
  rw [e, List.drop_replicate, List.take_replicate]
  congr 1
  omega
theorem chunk_p {p : Pt} {d n : Nat} (hk : p.kind = 2) : ((unitsP p).drop d).take n = ((p.signs.drop d).take n).map .p := by
  have e : unitsP p = p.signs.map .p := by simp [unitsP, hk]
  rw [e, ← List.map_drop, ← List.map_take]
theorem okOp_partsB {ps : List Pt} (h : okOp ps = true) : partsB ps = true := by
  unfold okOp at h
  cases hp : partsB ps
  · rw [hp] at h; simp at h
  · rfl
theorem rem_mono {ps : List Pt} {i j : Nat} (h : i ≤ j) : (rem ps j 0).length ≤ (rem ps i 0).length := by
  obtain ⟨k, rfl⟩ := Nat.le.dest h
  unfold rem
  simp only [List.drop_zero]
  rw [← List.drop_drop]
  generalize ps.drop i = qs
  have e : units qs = units (qs.take k) ++ units (qs.drop k) := by rw [← units_app, List.take_append_drop]
  rw [e, List.length_append]
  omega
theorem rem_le0 (ps : List Pt) (i d : Nat) : (rem ps i d).length ≤ (rem ps i 0).length := by
  unfold rem
  simp
/-- a cursor that stands at a unit that is not done stands at one place alone -/
theorem stand_unique {ps : List Pt} {i d i' d' : Nat} {p p' : Pt} (h : ps[i]? = some p) (hd : d < sizeP p) (h' : ps[i']? = some p') (hd' : d' < sizeP p') (e : rem ps i d = rem ps i' d') : i = i' ∧ d = d' := by
  have l := congrArg List.length e
  have l1 : (rem ps i d).length = sizeP p - d + (rem ps (i + 1) 0).length := by rw [rem_in h (Nat.le_of_lt hd), List.length_append, List.length_drop, unitsP_len]
  have l2 : (rem ps i' d').length = sizeP p' - d' + (rem ps (i' + 1) 0).length := by rw [rem_in h' (Nat.le_of_lt hd'), List.length_append, List.length_drop, unitsP_len]
  rcases Nat.lt_trichotomy i i' with hlt | rfl | hgt
  · have a1 := rem_mono (ps := ps) (i := i + 1) (j := i') (by omega)
    have a2 := rem_le0 ps i' d'
    omega
  · rw [h] at h'
    injection h' with h'
    subst h'
    exact ⟨rfl, by omega⟩
  · have a1 := rem_mono (ps := ps) (i := i' + 1) (j := i) (by omega)
    have a2 := rem_le0 ps i d
    omega
/-- m units of the part at which a cursor stands are left: the first m units of R are of one kind -/
def Lead (R : List U) (m : Nat) : Prop := (R = [] ∧ m = 0) ∨ (0 < m ∧ m ≤ 200 ∧ m ≤ R.length ∧ ((kindOf R = 1 ∧ R.take m = List.replicate m .k) ∨ (kindOf R = 3 ∧ R.take m = List.replicate m .d) ∨ (kindOf R = 2 ∧ ∃ zs : List Int, R.take m = zs.map .p)))
theorem take_rep {R : List U} {u : U} {m n : Nat} (h : R.take m = List.replicate m u) (hn : n ≤ m) : R = List.replicate n u ++ R.drop n := by
  have e : R.take n = List.replicate n u := by
    have := congrArg (List.take n) h
    rwa [List.take_take, Nat.min_eq_left hn, List.take_replicate, Nat.min_eq_left hn] at this
  rw [← e, List.take_append_drop]
theorem Lead.k {R : List U} {m n : Nat} (h : Lead R m) (hk : kindOf R = 1) (hn : n ≤ m) : R = List.replicate n .k ++ R.drop n := by
  rcases h with ⟨rfl, rfl⟩ | ⟨_, _, _, ⟨_, h⟩ | ⟨h, _⟩ | ⟨h, _⟩⟩
  · obtain rfl : n = 0 := by omega
    rfl
  · exact take_rep h hn
  · omega
  · omega
theorem Lead.d {R : List U} {m n : Nat} (h : Lead R m) (hk : kindOf R = 3) (hn : n ≤ m) : R = List.replicate n .d ++ R.drop n := by
  rcases h with ⟨rfl, rfl⟩ | ⟨_, _, _, ⟨h, _⟩ | ⟨_, h⟩ | ⟨h, _⟩⟩
  · obtain rfl : n = 0 := by omega
    rfl
  · omega
  · exact take_rep h hn
  · omega
theorem Lead.p {R : List U} {m n : Nat} (h : Lead R m) (hk : kindOf R = 2) (hn : n ≤ m) : ∃ zs : List Int, zs.length = n ∧ R = zs.map .p ++ R.drop n := by
  rcases h with ⟨rfl, rfl⟩ | ⟨_, _, hl, ⟨h, _⟩ | ⟨h, _⟩ | ⟨_, zs, h⟩⟩
  · obtain rfl : n = 0 := by omega
    exact ⟨[], rfl, rfl⟩
  · omega
  · omega
  · have e : R.take n = (zs.take n).map .p := by
      have := congrArg (List.take n) h
      rwa [List.take_take, Nat.min_eq_left hn, ← List.map_take] at this
    have l := congrArg List.length e
    rw [List.length_take, List.length_map] at l
    exact ⟨zs.take n, by omega, by rw [← e, List.take_append_drop]⟩
theorem Lead.pos {R : List U} {m : Nat} (h : Lead R m) (hk : ¬ kindOf R = 0) : 0 < m ∧ m ≤ 200 ∧ m ≤ R.length := by
  rcases h with ⟨rfl, _⟩ | ⟨h1, h2, h3, _⟩
  · exact absurd rfl hk
  · exact ⟨h1, h2, h3⟩
theorem Lead.of {ps : List Pt} {at_ d : Nat} {p : Pt} (h : ps[at_]? = some p) (hz : szP_ p) (hd : d < sizeP p) : Lead (rem ps at_ d) (sizeP p - d) := by
  have hs := sizeP_le hz
  have hl : ((unitsP p).drop d).length = sizeP p - d := by rw [List.length_drop, unitsP_len]
  have e := rem_in h (Nat.le_of_lt hd)
  have hk := kind_unitsP hz hd (rem ps (at_ + 1) 0)
  rw [← e] at hk
  have et : (rem ps at_ d).take (sizeP p - d) = (unitsP p).drop d := by
    rw [e, List.take_append_of_le_length (by omega), List.take_of_length_le (by omega)]
  refine .inr ⟨by omega, by omega, by rw [e, List.length_append, hl]; omega, ?_⟩
  rw [hk, et]
  have ec : (unitsP p).drop d = ((unitsP p).drop d).take (sizeP p - d) := (List.take_of_length_le (by omega)).symm
  rcases hz.1 with hk1 | hk1 | hk1
  · exact .inl ⟨hk1, by rw [ec]; exact chunk_k hk1 (by omega)⟩
  · exact .inr (.inr ⟨hk1, _, by rw [ec]; exact chunk_p hk1⟩)
  · exact .inr (.inl ⟨hk1, by rw [ec]; exact chunk_d hk1 (by omega)⟩)
theorem rem_adv (ps : List Pt) (i d n : Nat) : rem ps i (d + n) = (rem ps i d).drop n := by
  unfold rem
  rw [List.drop_drop]
theorem mp_len {R : List U} {zs : List Int} {n : Nat} (h : R.take n = zs.map .p) (hn : n ≤ R.length) : zs.length = n ∧ R = zs.map .p ++ R.drop n := by
  have := congrArg List.length h
  rw [List.length_take, List.length_map, Nat.min_eq_left hn] at this
  exact ⟨this.symm, by rw [← h, List.take_append_drop]⟩
end Go.Proofs.Ytmlkeflnnaabeaa.low


/-
  Two cursors of the specification over two operations (Cs), in the words of the units that are left: what each call makes of them.
-/
namespace Go.Proofs.Ytmlkeflnnaabeaa.low
open Go.RowKit
set_option linter.unusedVariables false

def doneOf (g : Nat) (w : World) : Nat := match w.cell? ⟨g, 2, none⟩ with
  | some (.int _ n) => n.toNat
  | _ => 0
theorem Cur.doneOf {g : Nat} {T : TypeId} {w : World} {A : Option Addr} {c : Nat} {ps : List Pt} {at_ done : Nat} (h : Cur g T w A c ps at_ done) : doneOf g w = done := by
  unfold low.doneOf
  rw [h.cell 2]
  rfl
def remLen (g : Nat) (ps : List Pt) (w : World) : Nat := (rem ps (atOf g w) (doneOf g w)).length
theorem Cur.remLen {g : Nat} {T : TypeId} {w : World} {A : Option Addr} {c : Nat} {ps : List Pt} {at_ done : Nat} (h : Cur g T w A c ps at_ done) : remLen g ps w = (rem ps at_ done).length := by
  unfold low.remLen
  rw [h.atOf, h.doneOf]
/-- what stays: where the cursors lie, and the operations -/
structure Fx where
  lo : Nat
  gx : Nat
  gy : Nat
  TC : TypeId
  A : Option Addr
  ca : Nat
  a : List Pt
  B : Option Addr
  cb : Nat
  b : List Pt
def Fx.swap (K : Fx) : Fx := ⟨K.lo, K.gy, K.gx, K.TC, K.B, K.cb, K.b, K.A, K.ca, K.a⟩
/-- the cursor stands at a part of which m units are left, or at the end -/
def Sett (ps : List Pt) (at_ done : Nat) : Option Nat → Prop
  | none => True
  | some m => (at_ = ps.length ∧ m = 0) ∨ ∃ p, ps[at_]? = some p ∧ done < sizeP p ∧ m = sizeP p - done
structure Cs (K : Fx) (w : World) (sx sy : Option Nat) (RX RY : List U) : Prop where
  ex : ∃ i d, Cur K.gx K.TC w K.A K.ca K.a i d ∧ rem K.a i d = RX ∧ Sett K.a i d sx
  ey : ∃ i d, Cur K.gy K.TC w K.B K.cb K.b i d ∧ rem K.b i d = RY ∧ Sett K.b i d sy
  ra : RdC w K.lo (encPs K.a) (.slice K.A K.a.length K.ca)
  rb : RdC w K.lo (encPs K.b) (.slice K.B K.b.length K.cb)
  ne : ¬ K.gx = K.gy
  lx : K.lo ≤ K.gx
  ly : K.lo ≤ K.gy
  sa : ∀ p ∈ K.a, szP_ p
  sb : ∀ p ∈ K.b, szP_ p
  na : K.a.length ≤ 1048576
  nb : K.b.length ≤ 1048576
section
variable {K : Fx} {w w' : World} {sx sy : Option Nat} {RX RY : List U}
theorem Cs.swap (h : Cs K w sx sy RX RY) : Cs K.swap w sy sx RY RX := ⟨h.ey, h.ex, h.rb, h.ra, fun e => h.ne e.symm, h.ly, h.lx, h.sb, h.sa, h.nb, h.na⟩
theorem Cs.back (h : Cs K.swap w sx sy RX RY) : Cs K w sy sx RY RX := ⟨h.ey, h.ex, h.rb, h.ra, fun e => h.ne e.symm, h.ly, h.lx, h.sb, h.sa, h.nb, h.na⟩
theorem Cs.xlt (h : Cs K w sx sy RX RY) : K.gx < w.heap.size := by obtain ⟨_, _, hc, _⟩ := h.ex; exact hc.lt
theorem Cs.ylt (h : Cs K w sx sy RX RY) : K.gy < w.heap.size := by obtain ⟨_, _, hc, _⟩ := h.ey; exact hc.lt
theorem Cs.keep (h : Cs K w sx sy RX RY) (hx : w'.heap[K.gx]? = w.heap[K.gx]?) (hy : w'.heap[K.gy]? = w.heap[K.gy]?) (hb : Below K.lo w w') : Cs K w' sx sy RX RY := by
  obtain ⟨i, d, h1, h2, h3⟩ := h.ex
  obtain ⟨j, e, k1, k2, k3⟩ := h.ey
  exact ⟨⟨i, d, h1.keep hx, h2, h3⟩, ⟨j, e, k1.keep hy, k2, k3⟩, h.ra.below hb, h.rb.below hb, h.ne, h.lx, h.ly, h.sa, h.sb, h.na, h.nb⟩
theorem Cs.past (h : Cs K w sx sy RX RY) (hb : Below w.heap.size w w') : Cs K w' sx sy RX RY :=
  h.keep (hb.block _ h.xlt) (hb.block _ h.ylt) (hb.mono (Nat.le_trans h.lx (Nat.le_of_lt h.xlt)))
theorem Cs.grew {O O' : Nat → Prop} (h : Cs K w sx sy RX RY) (hg : Grew O O' w w') (hb : Below K.lo w w') (hx : ¬ O K.gx) (hy : ¬ O K.gy) : Cs K w' sx sy RX RY :=
  h.keep (hg.block _ h.xlt hx) (hg.block _ h.ylt hy) hb
theorem Cs.weak (h : Cs K w sx sy RX RY) : Cs K w none none RX RY := by
  obtain ⟨i, d, h1, h2, h3⟩ := h.ex
  obtain ⟨j, e, k1, k2, k3⟩ := h.ey
  exact ⟨⟨i, d, h1, h2, trivial⟩, ⟨j, e, k1, k2, trivial⟩, h.ra, h.rb, h.ne, h.lx, h.ly, h.sa, h.sb, h.na, h.nb⟩
/-- the first cursor was moved -/
theorem Cs.mov {sx' : Option Nat} {RX' : List U} (h : Cs K w sx sy RX RY) (hx : ∃ i d, Cur K.gx K.TC w' K.A K.ca K.a i d ∧ rem K.a i d = RX' ∧ Sett K.a i d sx') (hb : Below K.lo w w') (hf : Fr (fun q => q = K.gx) w w') : Cs K w' sx' sy RX' RY := by
  obtain ⟨j, e, k1, k2, k3⟩ := h.ey
  exact ⟨hx, ⟨j, e, k1.keep (hf.block _ k1.lt (fun e => h.ne e.symm)), k2, k3⟩, h.ra.below hb, h.rb.below hb, h.ne, h.lx, h.ly, h.sa, h.sb, h.na, h.nb⟩
theorem Cs.lead {m : Nat} (h : Cs K w (some m) sy RX RY) : Lead RX m := by
  obtain ⟨i, d, h1, rfl, h3⟩ := h.ex
  rcases h3 with ⟨e, rfl⟩ | ⟨p, hp, hd, rfl⟩
  · exact .inl ⟨rem_end (by omega) d, rfl⟩
  · exact Lead.of hp (h.sa p (List.mem_of_getElem? hp)) hd
/-- how much there is to do -/
def muC (K : Fx) (w : World) : Nat := remLen K.gx K.a w + remLen K.gy K.b w
theorem Cs.mu (h : Cs K w sx sy RX RY) : muC K w = RX.length + RY.length := by
  obtain ⟨i, d, h1, rfl, _⟩ := h.ex
  obtain ⟨j, e, k1, rfl, _⟩ := h.ey
  unfold muC
  rw [h1.remLen, k1.remLen]
/-- the first cursor goes on by n -/
theorem Cs.adv {m : Nat} (h : Cs K w (some m) sy RX RY) (hk : ¬ kindOf RX = 0) : ∃ d : Nat, d ≤ 200 ∧ w.cell? ⟨K.gx, 2, none⟩ = some (.int .i64 (d : Int)) ∧ w.frozen? ⟨K.gx, 2, none⟩ = false ∧ ∀ n, n ≤ m → Cs K (w.setCell ⟨K.gx, 2, none⟩ (.int .i64 ((d : Int) + (n : Int)))) none sy (RX.drop n) RY := by
  obtain ⟨i, d, h1, rfl, h3⟩ := h.ex
  rcases h3 with ⟨e, rfl⟩ | ⟨p, hp, hd, rfl⟩
  · exact absurd (by rw [rem_end (by omega) d]; rfl) hk
  · have hz := sizeP_le (h.sa p (List.mem_of_getElem? hp))
    have c2 := h1.cell 2
    simp at c2
    refine ⟨d, by omega, c2, h1.free 2, fun n hn => ?_⟩
    have hst := h1.step (d + n) (idx_lt hp) (fun q hq => by rw [hp] at hq; injection hq with hq; subst hq; omega)
    have ec : ((d + n : Nat) : Int) = (d : Int) + (n : Int) := by omega
    rw [ec] at hst
    exact h.mov ⟨i, d + n, hst, rem_adv _ _ _ _, trivial⟩ ((Below.refl _ _).setCell h.lx _) ((Fr.refl (fun q => q = K.gx) w).setCell (p := ⟨K.gx, 2, none⟩) rfl _)
end
/-- behind a look at the first cursor -/
def KindC (K : Fx) (sx sy : Option Nat) (RX RY : List U) (w : World) (e : Ending) (w' : World) : Prop :=
  e = .returned (.int .i64 (kindOf RX)) ∧ ∃ m, (∀ q, sx = some q → m = q) ∧ Cs K w' (some m) sy RX RY ∧ Below K.lo w w' ∧ Fr (fun q => q = K.gx) w w'
def LeftC (K : Fx) (m : Nat) (sy : Option Nat) (RX RY : List U) (w : World) (e : Ending) (w' : World) : Prop := e = .returned (.int .i64 (m : Int)) ∧ Cs K w' (some m) sy RX RY ∧ Below w.heap.size w w'
/-- behind a take of n: the piece, and the cursor moved -/
def TakeC (K : Fx) (n : Nat) (sy : Option Nat) (RX RY : List U) (w : World) (e : Ending) (w' : World) : Prop :=
  ∃ A' c' zs, e = .returned (.slice A' n c') ∧ zs.length = n ∧ RX = zs.map .p ++ RX.drop n ∧ Row (Value.int .i64) w' w'.heap.size A' zs ∧ Cs K w' none sy (RX.drop n) RY ∧ Below K.lo w w' ∧ Fr (fun q => q = K.gx) w w'
end Go.Proofs.Ytmlkeflnnaabeaa.low


/-
  Two cursors and a builder (CB): what each call of the specification makes of them.
-/
namespace Go.Proofs.Ytmlkeflnnaabeaa.low
open Go.RowKit
set_option linter.unusedVariables false

structure CB (K : Fx) (go : Nat) (TB : TypeId) (O : Nat → Prop) (L : List Pt) (w : World) (sx sy : Option Nat) (RX RY : List U) : Prop where
  cs : Cs K w sx sy RX RY
  bd : Bld O K.lo go TB w L
  ox : ¬ O K.gx
  oy : ¬ O K.gy
section
variable {K : Fx} {go : Nat} {TB : TypeId} {O O' : Nat → Prop} {L L' : List Pt} {w w' : World} {sx sy sx' sy' : Option Nat} {RX RY RX' RY' : List U}
theorem CB.mov (h : CB K go TB O L w sx sy RX RY) (hc : Cs K w' sx' sy' RX' RY') (hf : Fr (fun q => q = K.gx) w w') : CB K go TB O L w' sx' sy' RX' RY' :=
  ⟨hc, h.bd.keep hf.size (fun q hq ho => hf.block q hq (fun e => h.ox (by rw [← e]; exact ho))), h.ox, h.oy⟩
theorem CB.movy (h : CB K go TB O L w sx sy RX RY) (hc : Cs K w' sx' sy' RX' RY') (hf : Fr (fun q => q = K.gy) w w') : CB K go TB O L w' sx' sy' RX' RY' :=
  ⟨hc, h.bd.keep hf.size (fun q hq ho => hf.block q hq (fun e => h.oy (by rw [← e]; exact ho))), h.ox, h.oy⟩
theorem CB.past (h : CB K go TB O L w sx sy RX RY) (hb : Below w.heap.size w w') : CB K go TB O L w' sx sy RX RY := ⟨h.cs.past hb, h.bd.past hb, h.ox, h.oy⟩
theorem CB.bldr (h : CB K go TB O L w sx sy RX RY) (hd : Bld O' K.lo go TB w' L') (hb : Below K.lo w w') (hg : Grew O O' w w') : CB K go TB O' L' w' sx sy RX RY :=
  ⟨h.cs.grew hg hb h.ox h.oy, hd, fun ho => by rcases hg.more _ ho with h1 | h1; exact h.ox h1; have := h.cs.xlt; omega, fun ho => by rcases hg.more _ ho with h1 | h1; exact h.oy h1; have := h.cs.ylt; omega⟩
theorem CB.weak (h : CB K go TB O L w sx sy RX RY) : CB K go TB O L w none none RX RY := ⟨h.cs.weak, h.bd, h.ox, h.oy⟩
theorem fr_set2 (g : Nat) (w : World) (x : Value) : Fr (fun q => q = g) w (w.setCell ⟨g, 2, none⟩ x) := (Fr.refl (fun q => q = g) w).setCell (p := ⟨g, 2, none⟩) rfl x
/-- the first cursor goes on by n -/
theorem CB.adv {m : Nat} (h : CB K go TB O L w (some m) sy RX RY) (hk : ¬ kindOf RX = 0) : ∃ d : Nat, d ≤ 200 ∧ w.cell? ⟨K.gx, 2, none⟩ = some (.int .i64 (d : Int)) ∧ w.frozen? ⟨K.gx, 2, none⟩ = false ∧ ∀ n, n ≤ m → CB K go TB O L (w.setCell ⟨K.gx, 2, none⟩ (.int .i64 ((d : Int) + (n : Int)))) none sy (RX.drop n) RY := by
  obtain ⟨d, h1, h2, h3, h4⟩ := h.cs.adv hk
  exact ⟨d, h1, h2, h3, fun n hn => h.mov (h4 n hn) (fr_set2 _ _ _)⟩
theorem CB.advy {m : Nat} (h : CB K go TB O L w sx (some m) RX RY) (hk : ¬ kindOf RY = 0) : ∃ d : Nat, d ≤ 200 ∧ w.cell? ⟨K.gy, 2, none⟩ = some (.int .i64 (d : Int)) ∧ w.frozen? ⟨K.gy, 2, none⟩ = false ∧ ∀ n, n ≤ m → CB K go TB O L (w.setCell ⟨K.gy, 2, none⟩ (.int .i64 ((d : Int) + (n : Int)))) sx none RX (RY.drop n) := by
  obtain ⟨d, h1, h2, h3, h4⟩ := h.cs.swap.adv hk
  exact ⟨d, h1, h2, h3, fun n hn => h.movy (h4 n hn).back (fr_set2 _ _ _)⟩
/-- both cursors go on by n -/
theorem CB.adv2 {mx my : Nat} (h : CB K go TB O L w (some mx) (some my) RX RY) (hkx : ¬ kindOf RX = 0) (hky : ¬ kindOf RY = 0) : ∃ d1 d2 : Nat, d1 ≤ 200 ∧ d2 ≤ 200 ∧ w.cell? ⟨K.gx, 2, none⟩ = some (.int .i64 (d1 : Int)) ∧ w.cell? ⟨K.gy, 2, none⟩ = some (.int .i64 (d2 : Int)) ∧ w.frozen? ⟨K.gx, 2, none⟩ = false ∧ w.frozen? ⟨K.gy, 2, none⟩ = false ∧
    ∀ n, n ≤ mx → n ≤ my → CB K go TB O L ((w.setCell ⟨K.gx, 2, none⟩ (.int .i64 ((d1 : Int) + (n : Int)))).setCell ⟨K.gy, 2, none⟩ (.int .i64 ((d2 : Int) + (n : Int)))) none none (RX.drop n) (RY.drop n) := by
  obtain ⟨d1, h1, h2, h3, h4⟩ := h.adv hkx
  obtain ⟨d2, k1, k2, k3, _⟩ := h.advy hky
  refine ⟨d1, d2, h1, k1, h2, k2, h3, k3, fun n hx hy => ?_⟩
  obtain ⟨d3, _, l2, _, l4⟩ := (h4 n hx).advy hky
  have e : (w.setCell ⟨K.gx, 2, none⟩ (.int .i64 ((d1 : Int) + (n : Int)))).cell? ⟨K.gy, 2, none⟩ = w.cell? ⟨K.gy, 2, none⟩ := World.cell?_of_block (heap_setCell_other _ _ _ _ (fun e => h.cs.ne e.symm))
  rw [e, k2] at l2
  injection l2 with l2
  injection l2 with _ l2
  rw [l2]
  exact l4 n hy
end
def KindB (K : Fx) (go : Nat) (TB : TypeId) (O : Nat → Prop) (L : List Pt) (sx sy : Option Nat) (RX RY : List U) (w : World) (e : Ending) (w' : World) : Prop :=
  e = .returned (.int .i64 (kindOf RX)) ∧ ∃ m, (∀ q, sx = some q → m = q) ∧ CB K go TB O L w' (some m) sy RX RY ∧ Below K.lo w w'
def KindBy (K : Fx) (go : Nat) (TB : TypeId) (O : Nat → Prop) (L : List Pt) (sx sy : Option Nat) (RX RY : List U) (w : World) (e : Ending) (w' : World) : Prop :=
  e = .returned (.int .i64 (kindOf RY)) ∧ ∃ m, (∀ q, sy = some q → m = q) ∧ CB K go TB O L w' sx (some m) RX RY ∧ Below K.lo w w'
def LeftB (K : Fx) (go : Nat) (TB : TypeId) (O : Nat → Prop) (L : List Pt) (m : Nat) (sx sy : Option Nat) (RX RY : List U) (w : World) (e : Ending) (w' : World) : Prop := e = .returned (.int .i64 (m : Int)) ∧ CB K go TB O L w' sx sy RX RY ∧ Below K.lo w w'
def TakeB (K : Fx) (go : Nat) (TB : TypeId) (O : Nat → Prop) (L : List Pt) (n : Nat) (sy : Option Nat) (RX RY : List U) (w : World) (e : Ending) (w' : World) : Prop :=
  ∃ A' c' zs, e = .returned (.slice A' n c') ∧ zs.length = n ∧ RX = zs.map .p ++ RX.drop n ∧ Row (Value.int .i64) w' w'.heap.size A' zs ∧ CB K go TB O L w' none sy (RX.drop n) RY ∧ Below K.lo w w'
def TakeBy (K : Fx) (go : Nat) (TB : TypeId) (O : Nat → Prop) (L : List Pt) (n : Nat) (sx : Option Nat) (RX RY : List U) (w : World) (e : Ending) (w' : World) : Prop :=
  ∃ A' c' zs, e = .returned (.slice A' n c') ∧ zs.length = n ∧ RY = zs.map .p ++ RY.drop n ∧ Row (Value.int .i64) w' w'.heap.size A' zs ∧ CB K go TB O L w' sx none RX (RY.drop n) ∧ Below K.lo w w'
def BldB (K : Fx) (go : Nat) (TB : TypeId) (L : List Pt) (sx sy : Option Nat) (RX RY : List U) (w : World) (e : Ending) (w' : World) : Prop := e = .returned (.tuple #[]) ∧ ∃ O', CB K go TB O' L w' sx sy RX RY ∧ Below K.lo w w'
section
variable {K : Fx} {go : Nat} {TB : TypeId} {O : Nat → Prop} {L : List Pt} {w : World} {sx sy : Option Nat} {RX RY : List U}
theorem CB.lo_le (h : CB K go TB O L w sx sy RX RY) : K.lo ≤ w.heap.size := h.bd.low
theorem CB.keepB {n : Int} (h : CB K go 114 O L w sx sy RX RY) (h0 : 0 ≤ n) (h1 : n ≤ 200) (hl : L.length < 100000) : Calls Try.prog 88 #[.pointer (some ⟨go, 0, none⟩), .int .i64 n] w (BldB K go 114 (L ++ [⟨1, n, []⟩]) sx sy RX RY w) := by
  refine (specKeepB O K.lo go L n w h.bd h0 h1 hl).mono ?_
  rintro e w' ⟨rfl, O', h1, h2, h3⟩
  exact ⟨rfl, O', h.bldr h1 h2 h3, h2⟩
theorem CB.dropB {n : Int} (h : CB K go 114 O L w sx sy RX RY) (h0 : 0 ≤ n) (h1 : n ≤ 200) (hl : L.length < 100000) : Calls Try.prog 90 #[.pointer (some ⟨go, 0, none⟩), .int .i64 n] w (BldB K go 114 (L ++ [⟨3, n, []⟩]) sx sy RX RY w) := by
  refine (specDropB O K.lo go L n w h.bd h0 h1 hl).mono ?_
  rintro e w' ⟨rfl, O', h1, h2, h3⟩
  exact ⟨rfl, O', h.bldr h1 h2 h3, h2⟩
theorem CB.putB {A : Option Addr} {c m : Nat} {zs : List Int} (h : CB K go 114 O L w sx sy RX RY) (hr : Row (Value.int .i64) w w.heap.size A zs) (hm : zs.length = m) (h1 : m ≤ 200) (hl : L.length < 100000) : Calls Try.prog 89 #[.pointer (some ⟨go, 0, none⟩), .slice A m c] w (BldB K go 114 (L ++ [⟨2, 0, zs⟩]) sx sy RX RY w) := by
  refine (specPutB O K.lo go L A c m zs w h.bd hr hm (by omega) hl).mono ?_
  rintro e w' ⟨rfl, O', h1, h2, h3⟩
  exact ⟨rfl, O', h.bldr h1 h2 h3, h2⟩
end
end Go.Proofs.Ytmlkeflnnaabeaa.low


/-
  The loop of spec.Compose: its body, taken out of the translation; its invariant over the frame.
-/
namespace Go.Proofs.Ytmlkeflnnaabeaa.low
open Go.RowKit
set_option linter.unusedVariables false

/-- the bodies of the loops in a piece of code, those inside a loop left out -/
def loopsOf : Code → List Code
  | .loop c => [c]
  | .seq a b => loopsOf a ++ loopsOf b
  | .cond _ a b => loopsOf a ++ loopsOf b
  | .block _ c => loopsOf c
  | .scope c => loopsOf c
  | _ => []
/-- the loop's invariant -/
def CoR (K : Fx) (go : Nat) (w0 w' : World) : Prop := ∃ O L RX RY, CB K go 114 O L w' none none RX RY ∧ CInv K.a K.b RX RY L ∧ Below K.lo w0 w'
theorem CoR.mk {K : Fx} {go : Nat} {w0 w' : World} {O : Nat → Prop} {L : List Pt} {RX RY : List U} (h : CB K go 114 O L w' none none RX RY) (hi : CInv K.a K.b RX RY L) (D : Below K.lo w0 w') : CoR K go w0 w' := ⟨O, L, RX, RY, h, hi, D⟩
set_option maxRecDepth 1000000 in
def CoI (K : Fx) (go : Nat) (w0 : World) (c0 c1 c2 c3 c4 c5 c13 c14 c15 c16 c17 c18 c19 c20 c21 c22 c23 c24 c25 c26 c27 c28 c29 c30 c31 c32 c33 c34 c35 c36 c138 c139 c140 c141 c142 c143 : Value) (a : Act) (w' : World) : Prop := ∃ u9 u10 u11 u12 u37 u38 u39 u40 u41 u42 u43 u44 u45 u46 u47 u48 u49 u50 u51 u52 u53 u54 u55 u56 u57 u58 u59 u60 u61 u62 u63 u64 u65 u66 u67 u68 u69 u70 u71 u72 u73 u74 u75 u76 u77 u78 u79 u80 u81 u82 u83 u84 u85 u86 u87 u88 u89 u90 u91 u92 u93 u94 u95 u96 u97 u98 u99 u100 u101 u102 u103 u104 u105 u106 u107 u108 u109 u110 u111 u112 u113 u114 u115 u116 u117 u118 u119 u120 u121 u122 u123 u124 u125 u126 u127 u128 u129 u130 u131 u132 u133 u134 u135 u136 u137 : Value, CoR K go w0 w' ∧ a = ⟨#[c0, c1, c2, c3, c4, c5, .pointer (some ⟨K.gx, 0, none⟩), .pointer (some ⟨K.gy, 0, none⟩), .pointer (some ⟨go, 0, none⟩), u9, u10, u11, u12, c13, c14, c15, c16, c17, c18, c19, c20, c21, c22, c23, c24, c25, c26, c27, c28, c29, c30, c31, c32, c33, c34, c35, c36, u37, u38, u39, u40, u41, u42, u43, u44, u45, u46, u47, u48, u49, u50, u51, u52, u53, u54, u55, u56, u57, u58, u59, u60, u61, u62, u63, u64, u65, u66, u67, u68, u69, u70, u71, u72, u73, u74, u75, u76, u77, u78, u79, u80, u81, u82, u83, u84, u85, u86, u87, u88, u89, u90, u91, u92, u93, u94, u95, u96, u97, u98, u99, u100, u101, u102, u103, u104, u105, u106, u107, u108, u109, u110, u111, u112, u113, u114, u115, u116, u117, u118, u119, u120, u121, u122, u123, u124, u125, u126, u127, u128, u129, u130, u131, u132, u133, u134, u135, u136, u137, c138, c139, c140, c141, c142, c143], []⟩
/-- behind the loop -/
def CoX (K : Fx) (go : Nat) (w0 w' : World) : Prop := ∃ O L, CB K go 114 O L w' none none [] [] ∧ CInv K.a K.b [] [] L ∧ Below K.lo w0 w'
set_option maxRecDepth 1000000 in
def CoE (K : Fx) (go : Nat) (w0 : World) (c0 c1 c2 c3 c4 c5 c13 c14 c15 c16 c17 c18 c19 c20 c21 c22 c23 c24 c25 c26 c27 c28 c29 c30 c31 c32 c33 c34 c35 c36 c138 c139 c140 c141 c142 c143 : Value) (a : Act) (w' : World) : Prop := ∃ u9 u10 u11 u12 u37 u38 u39 u40 u41 u42 u43 u44 u45 u46 u47 u48 u49 u50 u51 u52 u53 u54 u55 u56 u57 u58 u59 u60 u61 u62 u63 u64 u65 u66 u67 u68 u69 u70 u71 u72 u73 u74 u75 u76 u77 u78 u79 u80 u81 u82 u83 u84 u85 u86 u87 u88 u89 u90 u91 u92 u93 u94 u95 u96 u97 u98 u99 u100 u101 u102 u103 u104 u105 u106 u107 u108 u109 u110 u111 u112 u113 u114 u115 u116 u117 u118 u119 u120 u121 u122 u123 u124 u125 u126 u127 u128 u129 u130 u131 u132 u133 u134 u135 u136 u137 : Value, CoX K go w0 w' ∧ a = ⟨#[c0, c1, c2, c3, c4, c5, .pointer (some ⟨K.gx, 0, none⟩), .pointer (some ⟨K.gy, 0, none⟩), .pointer (some ⟨go, 0, none⟩), u9, u10, u11, u12, c13, c14, c15, c16, c17, c18, c19, c20, c21, c22, c23, c24, c25, c26, c27, c28, c29, c30, c31, c32, c33, c34, c35, c36, u37, u38, u39, u40, u41, u42, u43, u44, u45, u46, u47, u48, u49, u50, u51, u52, u53, u54, u55, u56, u57, u58, u59, u60, u61, u62, u63, u64, u65, u66, u67, u68, u69, u70, u71, u72, u73, u74, u75, u76, u77, u78, u79, u80, u81, u82, u83, u84, u85, u86, u87, u88, u89, u90, u91, u92, u93, u94, u95, u96, u97, u98, u99, u100, u101, u102, u103, u104, u105, u106, u107, u108, u109, u110, u111, u112, u113, u114, u115, u116, u117, u118, u119, u120, u121, u122, u123, u124, u125, u126, u127, u128, u129, u130, u131, u132, u133, u134, u135, u136, u137, c138, c139, c140, c141, c142, c143], []⟩
end Go.Proofs.Ytmlkeflnnaabeaa.low


/-
  The loop of spec.Compose: the cases of a round, each a theorem over the frame; the round; the loop.
-/
namespace Go.Proofs.Ytmlkeflnnaabeaa.low
open Go.RowKit
set_option linter.unusedVariables false

end Go.Proofs.Ytmlkeflnnaabeaa.low


/-
  Contract of spec.Compose.
-/
namespace Go.Proofs.Ytmlkeflnnaabeaa.low
open Go.RowKit
set_option linter.unusedVariables false

theorem heap_old (w : World) (o : Obj) {g : Nat} {x : Obj} (h : w.heap[g]? = some x) : (w.alloc o).heap[g]? = some x := by
  rw [Below.heap_alloc _ _ _ (lt_of_some h)]
  exact h
theorem cur_new {w : World} {g : Nat} {T : TypeId} {A : Option Addr} {c : Nat} {ps : List Pt} (h : w.heap[g]? = some (.cells #[.slice A ps.length c, .int .i64 0, .int .i64 0] T (0, 0))) : ∃ i d, Cur g T w A c ps i d ∧ rem ps i d = units ps ∧ Sett ps i d none :=
  ⟨0, 0, ⟨h, Nat.zero_le _, fun _ _ => Nat.zero_le _, fun _ => rfl⟩, by simp [rem], trivial⟩
/-- two cursors as they are made, at w.heap.size and behind it -/
theorem Cs.new {w w' : World} {A B : Option Addr} {ca cb lo : Nat} {a b : List Pt} {TC : TypeId} (hlo : lo ≤ w.heap.size) (ra : RdC w lo (encPs a) (.slice A a.length ca)) (rb : RdC w lo (encPs b) (.slice B b.length cb)) (sa : ∀ p ∈ a, szP_ p) (sb : ∀ p ∈ b, szP_ p) (na : a.length ≤ 1048576) (nb : b.length ≤ 1048576)
    (hx : w'.heap[w.heap.size]? = some (.cells #[.slice A a.length ca, .int .i64 0, .int .i64 0] TC (0, 0))) (hy : w'.heap[w.heap.size + 1]? = some (.cells #[.slice B b.length cb, .int .i64 0, .int .i64 0] TC (0, 0))) (hb : Below lo w w') : Cs ⟨lo, w.heap.size, w.heap.size + 1, TC, A, ca, a, B, cb, b⟩ w' none none (units a) (units b) :=
  ⟨cur_new hx, cur_new hy, ra.below hb, rb.below hb, by simp, hlo, Nat.le_succ_of_le hlo, sa, sb, na, nb⟩

theorem CB.new {w : World} {A B : Option Addr} {ca cb lo : Nat} {a b : List Pt} {TC TB : TypeId} (hlo : lo ≤ w.heap.size) (ra : RdC w lo (encPs a) (.slice A a.length ca)) (rb : RdC w lo (encPs b) (.slice B b.length cb)) (sa : ∀ p ∈ a, szP_ p) (sb : ∀ p ∈ b, szP_ p) (na : a.length ≤ 1048576) (nb : b.length ≤ 1048576) :
    CB ⟨lo, w.heap.size, w.heap.size + 1, TC, A, ca, a, B, cb, b⟩ (w.heap.size + 1 + 1) TB (fun q => q = w.heap.size + 1 + 1) [] (((w.alloc (.cells #[.slice A a.length ca, .int .i64 0, .int .i64 0] TC)).alloc (.cells #[.slice B b.length cb, .int .i64 0, .int .i64 0] TC)).alloc (.cells #[.slice none 0 0, .slice none 0 0, .int .i64 0] TB)) none none (units a) (units b) ∧
    Below lo w (((w.alloc (.cells #[.slice A a.length ca, .int .i64 0, .int .i64 0] TC)).alloc (.cells #[.slice B b.length cb, .int .i64 0, .int .i64 0] TC)).alloc (.cells #[.slice none 0 0, .slice none 0 0, .int .i64 0] TB)) := by
  have s1 : (w.alloc (.cells #[.slice A a.length ca, .int .i64 0, .int .i64 0] TC)).heap.size = w.heap.size + 1 := Array.size_push ..
  have s2 : ((w.alloc (.cells #[.slice A a.length ca, .int .i64 0, .int .i64 0] TC)).alloc (.cells #[.slice B b.length cb, .int .i64 0, .int .i64 0] TC)).heap.size = w.heap.size + 1 + 1 := by rw [← s1]; exact Array.size_push ..
  have b1 := (((alloc_below w (.cells #[.slice A a.length ca, .int .i64 0, .int .i64 0] TC)).mono hlo).alloc (by rw [s1]; omega) (.cells #[.slice B b.length cb, .int .i64 0, .int .i64 0] TC)).alloc (by rw [s2]; omega) (.cells #[.slice none 0 0, .slice none 0 0, .int .i64 0] TB)
  have hb := Bld.new lo TB ((w.alloc (.cells #[.slice A a.length ca, .int .i64 0, .int .i64 0] TC)).alloc (.cells #[.slice B b.length cb, .int .i64 0, .int .i64 0] TC)) (by rw [s2]; omega)
  rw [s2] at hb
  exact ⟨⟨Cs.new hlo ra rb sa sb na nb (heap_old _ _ (heap_old _ _ (heap_alloc_new w _))) (heap_old _ _ (by rw [← s1]; exact heap_alloc_new _ _)) b1, hb, by show ¬ w.heap.size = _; omega, by show ¬ w.heap.size + 1 = _; omega⟩, b1⟩
theorem cinv0 {a b : List Pt} (hoa : okOp a = true) (hob : okOp b = true) (hbal : sumK a + sumP a = sumK b + sumD b) : CInv a b (units a) (units b) [] := by
  obtain ⟨ua, hsa, _⟩ := okOp_units hoa
  obtain ⟨ub, hsb, _⟩ := okOp_units hob
  refine ⟨by simp [units_nil], ?_, by simp; omega⟩
  have s1 := (src_units hsa).2
  have s2 := (src_units hsb).1
  obtain ⟨t1, t2, t3⟩ := sum_t (okOp_partsB hoa)
  obtain ⟨u1, u2, u3⟩ := sum_t (okOp_partsB hob)
  rw [t1, t2, u1, u3] at hbal
  omega

theorem composeB_f {a b : List Pt} (h : (okOp a && okOp b && (sumK a + sumP a == sumK b + sumD b)) = false) : composeB a b = false ∧ composeT a b = [] := by
  have e : composeB a b = false := by unfold composeB; rw [h]; rfl
  exact ⟨e, by unfold composeT; rw [e]; rfl⟩
theorem compose_small {a b : List Pt} (h0 : SmP a) (h1 : SmP b) : SmP (composeT a b) := by
  unfold composeT
  split
  · rename_i h
    unfold composeB at h
    rw [Bool.and_eq_true] at h
    obtain ⟨_, h2, h3⟩ := okOp_units h.2
    refine ⟨by omega, ?_⟩
    have := signsIn_le h2
    omega
  · exact ⟨by simp, by simp [signsIn]⟩
end Go.Proofs.Ytmlkeflnnaabeaa.low


/-
  Composing several operations, and counting parts: the functions on lists, and the contracts of spec.ComposeAll and spec.PartCount.
-/
namespace Go.Proofs.Ytmlkeflnnaabeaa.low
open Go.RowKit
set_option linter.unusedVariables false

def stepCo (s : Option (List Pt)) (ps : List Pt) : Option (List Pt) := match s with
  | none => none
  | some o => if composeB o ps = true then some (composeT o ps) else none
def foldCo (l : List (List Pt)) (n : Int) : Option (List Pt) := l.foldl stepCo (some (keepL n))
def composeAllB (l : List (List Pt)) (n : Int) : Bool := inB n 0 200 && (foldCo l n).isSome
def composeAllT (l : List (List Pt)) (n : Int) : List Pt := if composeAllB l n = true then (foldCo l n).getD [] else []
theorem foldCo_snoc {l : List (List Pt)} {n : Int} {k : Nat} {ps : List Pt} (h : l[k]? = some ps) : foldCo (l.take (k + 1)) n = stepCo (foldCo (l.take k) n) ps := by
  unfold foldCo
  rw [List.take_add_one, h]
  simp
theorem foldlCo_none (l : List (List Pt)) : l.foldl stepCo none = none := by
  induction l with
  | nil => rfl
  | cons p l ih => exact ih
theorem foldCo_none {l : List (List Pt)} {n : Int} {k : Nat} (h : foldCo (l.take k) n = none) : foldCo l n = none := by
  have e : foldCo l n = (l.drop k).foldl stepCo (foldCo (l.take k) n) := by
    unfold foldCo
    rw [← List.foldl_append, List.take_append_drop]
  rw [e, h, foldlCo_none]
theorem composeT_small (a b : List Pt) : SmP (composeT a b) := by
  unfold composeT
  split
  · rename_i h
    unfold composeB at h
    rw [Bool.and_eq_true] at h
    obtain ⟨_, h2, h3⟩ := okOp_units h.2
    refine ⟨by omega, ?_⟩
    have := signsIn_le h2
    omega
  · exact ⟨by simp, by simp [signsIn]⟩
theorem keepL_small (n : Int) : SmP (keepL n) := ⟨by have := keepL_len n; omega, by rw [keepL_signs]; omega⟩
theorem foldCo_small {l : List (List Pt)} {n : Int} {cur : List Pt} {k : Nat} (hk : k ≤ l.length) (h : foldCo (l.take k) n = some cur) : SmP cur := by
  cases k with
  | zero =>
    have : cur = keepL n := by simpa [foldCo] using h.symm
    rw [this]
    exact keepL_small n
  | succ k =>
    obtain ⟨ps, hp⟩ := idx_some (l := l) (i := k) (by omega)
    rw [foldCo_snoc hp] at h
    cases hq : foldCo (l.take k) n with
    | none => rw [hq] at h; cases h
    | some u =>
      rw [hq] at h
      unfold stepCo at h
      simp only at h
      split at h
      · injection h with h
        rw [← h]
        exact composeT_small _ _
      · cases h
theorem composeAll_small {l : List (List Pt)} {n : Int} (h0 : SmPP l) : SmP (composeAllT l n) := by
  unfold composeAllT
  split
  · cases h : foldCo l n with
    | none => exact ⟨by simp, by simp [signsIn]⟩
    | some cur =>
      simp only [Option.getD_some]
      exact foldCo_small (l := l) (k := l.length) (Nat.le_refl _) (by rw [List.take_length]; exact h)
  · exact ⟨by simp, by simp [signsIn]⟩
theorem composeAll_f {l : List (List Pt)} {n : Int} (h : composeAllB l n = false) : composeAllT l n = [] := by unfold composeAllT; rw [h]; rfl

/-- how many parts are of this kind -/
def countK (ps : List Pt) (k : Int) : Int := ((ps.filter (fun p => p.kind == k)).length : Int)
theorem countK_snoc {ps : List Pt} {k : Int} {i : Nat} {p : Pt} (h : ps[i]? = some p) : countK (ps.take (i + 1)) k = countK (ps.take i) k + (if p.kind = k then 1 else 0) := by
  unfold countK
  rw [List.take_add_one, h]
  by_cases e : p.kind = k <;> simp [List.filter_append, e]
theorem countK_le (ps : List Pt) (k : Int) (i : Nat) : 0 ≤ countK (ps.take i) k ∧ countK (ps.take i) k ≤ ps.length := by
  unfold countK
  have := List.length_filter_le (fun p : Pt => p.kind == k) (ps.take i)
  rw [List.length_take] at this
  omega
end Go.Proofs.Ytmlkeflnnaabeaa.low


/-
  Transformation: the loop's invariant on units, how a round goes on; the results.
-/
namespace Go.Proofs.Ytmlkeflnnaabeaa.low
open Go.RowKit
set_option linter.unusedVariables false

structure XInv (a b : List Pt) (RX RY : List U) (L M : List Pt) : Prop where
  eq1 : units L ++ (xf RX RY).1 = (xf (units a) (units b)).1
  eq2 : units M ++ (xf RX RY).2 = (xf (units a) (units b)).2
  bal : src RX = src RY
  len : L.length + M.length + 2 * RX.length + 2 * RY.length ≤ 4000
section
variable {a b : List Pt} {RX RY : List U} {L M : List Pt}
theorem XInv.px {zs : List Int} (h : XInv a b (zs.map .p ++ RX) RY L M) (hn : 0 < zs.length) : XInv a b RX RY (L ++ [⟨2, 0, zs⟩]) (M ++ [⟨1, (zs.length : Int), []⟩]) := by
  refine ⟨?_, ?_, ?_, ?_⟩
  · rw [← h.eq1, xf_puts, units_app]; simp [units, unitsP]
  · rw [← h.eq2, xf_puts, units_app]; simp [units, unitsP]
  · have := h.bal; rw [src_app, (src_mp zs).1] at this; omega
  · have := h.len; simp at this ⊢; omega
theorem XInv.py {zs : List Int} (h : XInv a b RX (zs.map .p ++ RY) L M) (hp : noP RX) (hn : 0 < zs.length) : XInv a b RX RY (L ++ [⟨1, (zs.length : Int), []⟩]) (M ++ [⟨2, 0, zs⟩]) := by
  refine ⟨?_, ?_, ?_, ?_⟩
  · rw [← h.eq1, xf_putsB _ _ _ hp, units_app]; simp [units, unitsP]
  · rw [← h.eq2, xf_putsB _ _ _ hp, units_app]; simp [units, unitsP]
  · have := h.bal; rw [src_app, (src_mp zs).1] at this; omega
  · have := h.len; simp at this ⊢; omega
theorem XInv.kk {n : Nat} (h : XInv a b (List.replicate n .k ++ RX) (List.replicate n .k ++ RY) L M) (hn : 0 < n) : XInv a b RX RY (L ++ [⟨1, (n : Int), []⟩]) (M ++ [⟨1, (n : Int), []⟩]) := by
  refine ⟨?_, ?_, ?_, ?_⟩
  · rw [← h.eq1, xf_kk, units_app]; simp [units, unitsP]
  · rw [← h.eq2, xf_kk, units_app]; simp [units, unitsP]
  · have := h.bal; rw [src_app, src_app, (src_rk n).1] at this; omega
  · have := h.len; simp at this ⊢; omega
theorem XInv.dk {n : Nat} (h : XInv a b (List.replicate n .d ++ RX) (List.replicate n .k ++ RY) L M) (hn : 0 < n) : XInv a b RX RY (L ++ [⟨3, (n : Int), []⟩]) M := by
  refine ⟨?_, ?_, ?_, ?_⟩
  · rw [← h.eq1, xf_dk, units_app]; simp [units, unitsP]
  · rw [← h.eq2, xf_dk]
  · have := h.bal; rw [src_app, src_app, (src_rk n).1, (src_rd n).1] at this; omega
  · have := h.len; simp at this ⊢; omega
theorem XInv.kd {n : Nat} (h : XInv a b (List.replicate n .k ++ RX) (List.replicate n .d ++ RY) L M) (hn : 0 < n) : XInv a b RX RY L (M ++ [⟨3, (n : Int), []⟩]) := by
  refine ⟨?_, ?_, ?_, ?_⟩
  · rw [← h.eq1, xf_kd]
  · rw [← h.eq2, xf_kd, units_app]; simp [units, unitsP]
  · have := h.bal; rw [src_app, src_app, (src_rk n).1, (src_rd n).1] at this; omega
  · have := h.len; simp at this ⊢; omega
theorem XInv.dd {n : Nat} (h : XInv a b (List.replicate n .d ++ RX) (List.replicate n .d ++ RY) L M) : XInv a b RX RY L M := by
  refine ⟨?_, ?_, ?_, ?_⟩
  · rw [← h.eq1, xf_dd]
  · rw [← h.eq2, xf_dd]
  · have := h.bal; rw [src_app, src_app, (src_rd n).1] at this; omega
  · have := h.len; simp at this ⊢; omega
end
/-- how a round goes on -/
theorem xf_cases {RX RY : List U} (h : src RX = src RY) : (RX = [] ∧ RY = []) ∨ kindOf RX = 2 ∨ (noP RX ∧ (kindOf RX = 0 ∨ kindOf RX = 1 ∨ kindOf RX = 3) ∧ kindOf RY = 2) ∨ ((kindOf RX = 1 ∨ kindOf RX = 3) ∧ (kindOf RY = 1 ∨ kindOf RY = 3)) := by
  rcases RX with _ | ⟨ux, RX⟩
  · rcases RY with _ | ⟨uy, RY⟩
    · exact .inl ⟨rfl, rfl⟩
    · cases uy with
      | k => simp [src] at h
      | p z => exact .inr (.inr (.inl ⟨trivial, .inl rfl, rfl⟩))
      | d => simp [src] at h
  · cases ux with
    | p z => exact .inr (.inl rfl)
    | k =>
      rcases RY with _ | ⟨uy, RY⟩
      · simp [src] at h
      · cases uy with
        | k => exact .inr (.inr (.inr ⟨.inl rfl, .inl rfl⟩))
        | p z => exact .inr (.inr (.inl ⟨trivial, .inr (.inl rfl), rfl⟩))
        | d => exact .inr (.inr (.inr ⟨.inl rfl, .inr rfl⟩))
    | d =>
      rcases RY with _ | ⟨uy, RY⟩
      · simp [src] at h
      · cases uy with
        | k => exact .inr (.inr (.inr ⟨.inr rfl, .inl rfl⟩))
        | p z => exact .inr (.inr (.inl ⟨trivial, .inr (.inr rfl), rfl⟩))
        | d => exact .inr (.inr (.inr ⟨.inr rfl, .inr rfl⟩))
/-- the two results -/
def xfA (a b : List Pt) : List Pt := doneN (foldU (xf (units a) (units b)).1)
def xfB (a b : List Pt) : List Pt := doneN (foldU (xf (units a) (units b)).2)
def xformOk (a b : List Pt) : Bool := okOp a && okOp b && (sumK a + sumD a == sumK b + sumD b) && okOp (xfA a b) && okOp (xfB a b)
def xformA (a b : List Pt) : List Pt := if xformOk a b = true then xfA a b else []
def xformB (a b : List Pt) : List Pt := if xformOk a b = true then xfB a b else []
theorem xinv0 {a b : List Pt} (hoa : okOp a = true) (hob : okOp b = true) (hbal : sumK a + sumD a = sumK b + sumD b) : XInv a b (units a) (units b) [] [] := by
  obtain ⟨ua, hsa, _⟩ := okOp_units hoa
  obtain ⟨ub, hsb, _⟩ := okOp_units hob
  refine ⟨by simp [units_nil], by simp [units_nil], ?_, by simp; omega⟩
  have s1 := (src_units hsa).1
  have s2 := (src_units hsb).1
  obtain ⟨t1, t2, t3⟩ := sum_t (okOp_partsB hoa)
  obtain ⟨u1, u2, u3⟩ := sum_t (okOp_partsB hob)
  rw [t1, t3, u1, u3] at hbal
  omega
/-- two cursors and two builders -/
structure TT (K : Fx) (g1 g2 : Nat) (TB : TypeId) (O P : Nat → Prop) (L M : List Pt) (w : World) (sx sy : Option Nat) (RX RY : List U) : Prop where
  cs : Cs K w sx sy RX RY
  b1 : Bld O K.lo g1 TB w L
  b2 : Bld P K.lo g2 TB w M
  ox : ¬ O K.gx
  oy : ¬ O K.gy
  px : ¬ P K.gx
  py : ¬ P K.gy
  dis : ∀ q, O q → ¬ P q
section
variable {K : Fx} {g1 g2 : Nat} {TB : TypeId} {O O' P P' : Nat → Prop} {L L' M M' : List Pt} {w w' : World} {sx sy sx' sy' : Option Nat} {RX RY RX' RY' : List U}
theorem TT.one (h : TT K g1 g2 TB O P L M w sx sy RX RY) : CB K g1 TB O L w sx sy RX RY := ⟨h.cs, h.b1, h.ox, h.oy⟩
theorem TT.two (h : TT K g1 g2 TB O P L M w sx sy RX RY) : CB K g2 TB P M w sx sy RX RY := ⟨h.cs, h.b2, h.px, h.py⟩
theorem TT.mov (h : TT K g1 g2 TB O P L M w sx sy RX RY) (hc : Cs K w' sx' sy' RX' RY') (hf : Fr (fun q => q = K.gx) w w') : TT K g1 g2 TB O P L M w' sx' sy' RX' RY' :=
  ⟨hc, (h.one.mov hc hf).bd, (h.two.mov hc hf).bd, h.ox, h.oy, h.px, h.py, h.dis⟩
theorem TT.movy (h : TT K g1 g2 TB O P L M w sx sy RX RY) (hc : Cs K w' sx' sy' RX' RY') (hf : Fr (fun q => q = K.gy) w w') : TT K g1 g2 TB O P L M w' sx' sy' RX' RY' :=
  ⟨hc, (h.one.movy hc hf).bd, (h.two.movy hc hf).bd, h.ox, h.oy, h.px, h.py, h.dis⟩
theorem TT.past (h : TT K g1 g2 TB O P L M w sx sy RX RY) (hb : Below w.heap.size w w') : TT K g1 g2 TB O P L M w' sx sy RX RY := ⟨h.cs.past hb, h.b1.past hb, h.b2.past hb, h.ox, h.oy, h.px, h.py, h.dis⟩
theorem TT.bldr (h : TT K g1 g2 TB O P L M w sx sy RX RY) (hd : Bld O' K.lo g1 TB w' L') (hb : Below K.lo w w') (hg : Grew O O' w w') : TT K g1 g2 TB O' P L' M w' sx sy RX RY := by
  have h1 := h.one.bldr hd hb hg
  obtain ⟨h2, h3⟩ := h.b2.apart hg (fun q hq ho => h.dis q ho hq)
  exact ⟨h1.cs, hd, h2, h1.ox, h1.oy, h.px, h.py, fun q ho hp => h3 q hp ho⟩
theorem TT.bldr2 (h : TT K g1 g2 TB O P L M w sx sy RX RY) (hd : Bld P' K.lo g2 TB w' M') (hb : Below K.lo w w') (hg : Grew P P' w w') : TT K g1 g2 TB O P' L M' w' sx sy RX RY := by
  have h1 := h.two.bldr hd hb hg
  obtain ⟨h2, h3⟩ := h.b1.apart hg h.dis
  exact ⟨h1.cs, h2, hd, h.ox, h.oy, h1.ox, h1.oy, h3⟩
theorem TT.weak (h : TT K g1 g2 TB O P L M w sx sy RX RY) : TT K g1 g2 TB O P L M w none none RX RY := ⟨h.cs.weak, h.b1, h.b2, h.ox, h.oy, h.px, h.py, h.dis⟩
theorem TT.lo_le (h : TT K g1 g2 TB O P L M w sx sy RX RY) : K.lo ≤ w.heap.size := h.b1.low
theorem TT.adv2 {mx my : Nat} (h : TT K g1 g2 TB O P L M w (some mx) (some my) RX RY) (hkx : ¬ kindOf RX = 0) (hky : ¬ kindOf RY = 0) : ∃ d1 d2 : Nat, d1 ≤ 200 ∧ d2 ≤ 200 ∧ w.cell? ⟨K.gx, 2, none⟩ = some (.int .i64 (d1 : Int)) ∧ w.cell? ⟨K.gy, 2, none⟩ = some (.int .i64 (d2 : Int)) ∧ w.frozen? ⟨K.gx, 2, none⟩ = false ∧ w.frozen? ⟨K.gy, 2, none⟩ = false ∧
    ∀ n, n ≤ mx → n ≤ my → TT K g1 g2 TB O P L M ((w.setCell ⟨K.gx, 2, none⟩ (.int .i64 ((d1 : Int) + (n : Int)))).setCell ⟨K.gy, 2, none⟩ (.int .i64 ((d2 : Int) + (n : Int)))) none none (RX.drop n) (RY.drop n) := by
  obtain ⟨d1, d2, h1, h2, h3, h4, h5, h6, h7⟩ := h.one.adv2 hkx hky
  obtain ⟨e1, e2, k1, k2, k3, k4, k5, k6, k7⟩ := h.two.adv2 hkx hky
  refine ⟨d1, d2, h1, h2, h3, h4, h5, h6, fun n hx hy => ?_⟩
  have r1 := h7 n hx hy
  have r2 := k7 n hx hy
  rw [k3] at h3
  rw [k4] at h4
  injection h3 with h3
  injection h3 with _ h3
  injection h4 with h4
  injection h4 with _ h4
  rw [h3, h4] at r2
  exact ⟨r1.cs, r1.bd, r2.bd, h.ox, h.oy, h.px, h.py, h.dis⟩
end
def KindT (K : Fx) (g1 g2 : Nat) (TB : TypeId) (O P : Nat → Prop) (L M : List Pt) (v : Int) (sx sy : Option Nat) (f : Nat → Option Nat × Option Nat) (s0 : Option Nat) (RX RY : List U) (w : World) (e : Ending) (w' : World) : Prop :=
  e = .returned (.int .i64 v) ∧ ∃ m, (∀ q, s0 = some q → m = q) ∧ TT K g1 g2 TB O P L M w' (f m).1 (f m).2 RX RY ∧ Below K.lo w w'
def LeftT (K : Fx) (g1 g2 : Nat) (TB : TypeId) (O P : Nat → Prop) (L M : List Pt) (m : Nat) (sx sy : Option Nat) (RX RY : List U) (w : World) (e : Ending) (w' : World) : Prop := e = .returned (.int .i64 (m : Int)) ∧ TT K g1 g2 TB O P L M w' sx sy RX RY ∧ Below K.lo w w'
def TakeT (K : Fx) (g1 g2 : Nat) (TB : TypeId) (O P : Nat → Prop) (L M : List Pt) (n : Nat) (sy : Option Nat) (RX RY : List U) (w : World) (e : Ending) (w' : World) : Prop :=
  ∃ A' c' zs, e = .returned (.slice A' n c') ∧ zs.length = n ∧ RX = zs.map .p ++ RX.drop n ∧ Row (Value.int .i64) w' w'.heap.size A' zs ∧ TT K g1 g2 TB O P L M w' none sy (RX.drop n) RY ∧ Below K.lo w w'
def TakeTy (K : Fx) (g1 g2 : Nat) (TB : TypeId) (O P : Nat → Prop) (L M : List Pt) (n : Nat) (sx : Option Nat) (RX RY : List U) (w : World) (e : Ending) (w' : World) : Prop :=
  ∃ A' c' zs, e = .returned (.slice A' n c') ∧ zs.length = n ∧ RY = zs.map .p ++ RY.drop n ∧ Row (Value.int .i64) w' w'.heap.size A' zs ∧ TT K g1 g2 TB O P L M w' sx none RX (RY.drop n) ∧ Below K.lo w w'
def BldT1 (K : Fx) (g1 g2 : Nat) (TB : TypeId) (P : Nat → Prop) (L M : List Pt) (sx sy : Option Nat) (RX RY : List U) (w : World) (e : Ending) (w' : World) : Prop := e = .returned (.tuple #[]) ∧ ∃ O', TT K g1 g2 TB O' P L M w' sx sy RX RY ∧ Below K.lo w w'
def BldT2 (K : Fx) (g1 g2 : Nat) (TB : TypeId) (O : Nat → Prop) (L M : List Pt) (sx sy : Option Nat) (RX RY : List U) (w : World) (e : Ending) (w' : World) : Prop := e = .returned (.tuple #[]) ∧ ∃ P', TT K g1 g2 TB O P' L M w' sx sy RX RY ∧ Below K.lo w w'
section
variable {K : Fx} {g1 g2 : Nat} {TB : TypeId} {O P : Nat → Prop} {L M : List Pt} {w : World} {sx sy : Option Nat} {RX RY : List U}
theorem TT.keep1 {n : Int} (h : TT K g1 g2 114 O P L M w sx sy RX RY) (h0 : 0 ≤ n) (h1 : n ≤ 200) (hl : L.length < 100000) : Calls Try.prog 88 #[.pointer (some ⟨g1, 0, none⟩), .int .i64 n] w (BldT1 K g1 g2 114 P (L ++ [⟨1, n, []⟩]) M sx sy RX RY w) := by
  refine (specKeepB O K.lo g1 L n w h.b1 h0 h1 hl).mono ?_
  rintro e w' ⟨rfl, O', h1, h2, h3⟩
  exact ⟨rfl, O', h.bldr h1 h2 h3, h2⟩
theorem TT.drop1 {n : Int} (h : TT K g1 g2 114 O P L M w sx sy RX RY) (h0 : 0 ≤ n) (h1 : n ≤ 200) (hl : L.length < 100000) : Calls Try.prog 90 #[.pointer (some ⟨g1, 0, none⟩), .int .i64 n] w (BldT1 K g1 g2 114 P (L ++ [⟨3, n, []⟩]) M sx sy RX RY w) := by
  refine (specDropB O K.lo g1 L n w h.b1 h0 h1 hl).mono ?_
  rintro e w' ⟨rfl, O', h1, h2, h3⟩
  exact ⟨rfl, O', h.bldr h1 h2 h3, h2⟩
theorem TT.put1 {A : Option Addr} {c m : Nat} {zs : List Int} (h : TT K g1 g2 114 O P L M w sx sy RX RY) (hr : Row (Value.int .i64) w w.heap.size A zs) (hm : zs.length = m) (h1 : m ≤ 200) (hl : L.length < 100000) : Calls Try.prog 89 #[.pointer (some ⟨g1, 0, none⟩), .slice A m c] w (BldT1 K g1 g2 114 P (L ++ [⟨2, 0, zs⟩]) M sx sy RX RY w) := by
  refine (specPutB O K.lo g1 L A c m zs w h.b1 hr hm (by omega) hl).mono ?_
  rintro e w' ⟨rfl, O', h1, h2, h3⟩
  exact ⟨rfl, O', h.bldr h1 h2 h3, h2⟩
theorem TT.keep2 {n : Int} (h : TT K g1 g2 114 O P L M w sx sy RX RY) (h0 : 0 ≤ n) (h1 : n ≤ 200) (hl : M.length < 100000) : Calls Try.prog 88 #[.pointer (some ⟨g2, 0, none⟩), .int .i64 n] w (BldT2 K g1 g2 114 O L (M ++ [⟨1, n, []⟩]) sx sy RX RY w) := by
  refine (specKeepB P K.lo g2 M n w h.b2 h0 h1 hl).mono ?_
  rintro e w' ⟨rfl, O', h1, h2, h3⟩
  exact ⟨rfl, O', h.bldr2 h1 h2 h3, h2⟩
theorem TT.drop2 {n : Int} (h : TT K g1 g2 114 O P L M w sx sy RX RY) (h0 : 0 ≤ n) (h1 : n ≤ 200) (hl : M.length < 100000) : Calls Try.prog 90 #[.pointer (some ⟨g2, 0, none⟩), .int .i64 n] w (BldT2 K g1 g2 114 O L (M ++ [⟨3, n, []⟩]) sx sy RX RY w) := by
  refine (specDropB P K.lo g2 M n w h.b2 h0 h1 hl).mono ?_
  rintro e w' ⟨rfl, O', h1, h2, h3⟩
  exact ⟨rfl, O', h.bldr2 h1 h2 h3, h2⟩
theorem TT.put2 {A : Option Addr} {c m : Nat} {zs : List Int} (h : TT K g1 g2 114 O P L M w sx sy RX RY) (hr : Row (Value.int .i64) w w.heap.size A zs) (hm : zs.length = m) (h1 : m ≤ 200) (hl : M.length < 100000) : Calls Try.prog 89 #[.pointer (some ⟨g2, 0, none⟩), .slice A m c] w (BldT2 K g1 g2 114 O L (M ++ [⟨2, 0, zs⟩]) sx sy RX RY w) := by
  refine (specPutB P K.lo g2 M A c m zs w h.b2 hr hm (by omega) hl).mono ?_
  rintro e w' ⟨rfl, O', h1, h2, h3⟩
  exact ⟨rfl, O', h.bldr2 h1 h2 h3, h2⟩
end
theorem OwB.grew2 {O O' : Nat → Prop} {lo hi : Nat} {w w' : World} {d : Dat} {v : Value} {b : List Nat} (h : OwB lo hi w d v b) (hg : Grew O O' w w') (hO : ∀ x ∈ b, ¬ O x) : OwB lo hi w' d v b :=
  ⟨OwC.keep d v b h.ow (fun x hx => hg.block x (OwC.lt d v b h.ow x hx) (hO x hx)), h.nd, h.rng, Nat.le_trans h.top hg.size, h.le⟩
theorem OwB.upto {lo hi hi' : Nat} {w : World} {d : Dat} {v : Value} {b : List Nat} (h : OwB lo hi w d v b) (h1 : hi ≤ hi') (h2 : hi' ≤ w.heap.size) : OwB lo hi' w d v b := ⟨h.ow, h.nd, fun x hx => ⟨(h.rng x hx).1, Nat.lt_of_lt_of_le (h.rng x hx).2 h1⟩, h2, Nat.le_trans h.le h1⟩
theorem xf_small {a b : List Pt} (h : xformOk a b = true) : SmP (xfA a b) ∧ SmP (xfB a b) := by
  unfold xformOk at h
  rw [Bool.and_eq_true, Bool.and_eq_true] at h
  obtain ⟨_, h1, h2⟩ := okOp_units h.1.2
  obtain ⟨_, h3, h4⟩ := okOp_units h.2
  have := signsIn_le h1
  have := signsIn_le h3
  exact ⟨⟨by omega, by omega⟩, ⟨by omega, by omega⟩⟩
theorem smP_nil : SmP [] := ⟨by simp, by simp [signsIn]⟩
theorem xformA_sm (a b : List Pt) : SmP (xformA a b) := by
  unfold xformA
  split
  · rename_i h; exact (xf_small h).1
  · exact smP_nil
theorem xformB_sm (a b : List Pt) : SmP (xformB a b) := by
  unfold xformB
  split
  · rename_i h; exact (xf_small h).2
  · exact smP_nil
theorem transform_small0 {a b : List Pt} (h0 : SmP a) (h1 : SmP b) : SmP (xformA a b) := xformA_sm a b
theorem transform_small1 {a b : List Pt} (h0 : SmP a) (h1 : SmP b) : SmP (xformB a b) := xformB_sm a b
end Go.Proofs.Ytmlkeflnnaabeaa.low


/-
  The algebra of operations: what is made of units is valid and normal; applying, composing, inverting and transforming valid operations, in the words of the contracts.
-/
namespace Go.Proofs.Ytmlkeflnnaabeaa.low
open Go.RowKit
set_option linter.unusedVariables false

/-- all that is inserted are characters -/
def goodU (us : List U) : Prop := ∀ x, U.p x ∈ us → signB x = true
def part1 : U → Pt
  | .k => ⟨1, 1, []⟩
  | .p x => ⟨2, 0, [x]⟩
  | .d => ⟨3, 1, []⟩
def made (us : List U) : List Pt := doneN (foldU us)
theorem units_part1 : ∀ us : List U, units (us.map part1) = us
  | [] => rfl
  | u :: us => by
    rw [List.map_cons, units_cons, units_part1 us]
    cases u <;> rfl
theorem part1_sz (us : List U) : ∀ p ∈ us.map part1, szP_ p := fun p hp => by
  obtain ⟨u, _, rfl⟩ := List.mem_map.1 hp
  cases u
  · exact ⟨.inl rfl, by simp [part1], by simp [part1], by simp [part1]⟩
  · exact ⟨.inr (.inl rfl), by simp [part1], by simp [part1], by simp [part1]⟩
  · exact ⟨.inr (.inr rfl), by simp [part1], by simp [part1], by simp [part1]⟩
theorem made_eq (us : List U) : made us = doneN (foldN (us.map part1)) := by unfold made; rw [foldN_units (part1_sz us), units_part1]
theorem units_made (us : List U) : units (made us) = nfU us := units_norm us
theorem len_st : ∀ us : List U, us.length ≤ src us + tgt us
  | [] => by simp
  | u :: us => by
    have := len_st us
    cases u <;> simp [src, tgt] <;> omega
/-- what is made of few good units is valid and normal -/
theorem made_ok {us : List U} (hs : src us ≤ 200) (ht : tgt us ≤ 200) (hz : goodU us) : okOp (made us) = true ∧ normal (made us) ∧ sumK (made us) + sumD (made us) = (src us : Int) ∧ sumK (made us) + sumP (made us) = (tgt us : Int) := by
  have hsz := part1_sz us
  have hn : normal (made us) := by rw [made_eq]; exact normal_fold hsz
  obtain ⟨s1, s2, s3⟩ := sum_norm hsz
  rw [← made_eq] at s1 s2 s3
  obtain ⟨u1, u2⟩ := src_units hsz
  rw [units_part1] at u1 u2
  have hall : ∀ p ∈ made us, allB p.signs = true := by
    rw [made_eq]
    refine norm_allB (fun p hp => ?_)
    obtain ⟨u, hu, rfl⟩ := List.mem_map.1 hp
    cases u
    · rfl
    · rename_i x
      simp [part1, allB, hz x hu]
    · rfl
  have n1 : ∀ f : Pt → Int, (∀ p, tidy p → 0 ≤ f p) → 0 ≤ sumOf f (made us) := fun f hf => by
    unfold sumOf
    have : ∀ (L : List Pt), (∀ p ∈ L, tidy p) → 0 ≤ (L.map f).sum := by
      intro L
      induction L with
      | nil => simp
      | cons p L ih =>
        intro h
        have a := hf p (h p (by simp))
        have b := ih (fun q hq => h q (by simp [hq]))
        simp
        omega
    exact this _ hn.1
  have k1 := n1 keepOf (fun p h => (tidy_nonneg h).1)
  have k2 := n1 putOf (fun p h => (tidy_nonneg h).2.1)
  have k3 := n1 dropOf (fun p h => (tidy_nonneg h).2.2)
  have hok : okPs (made us) = true := tidy_ok hn.1 hall (by omega) (by omega) (by omega)
  have hlen : (made us).length ≤ 600 := by
    have h1 := norm_length hsz
    rw [← made_eq, List.length_map] at h1
    have := len_st us
    omega
  have hop : okOp (made us) = true := of_okOp hok hlen (by omega) (by omega)
  obtain ⟨t1, t2, t3⟩ := sum_t (okOp_partsB hop)
  exact ⟨hop, hn, by rw [t1, t3]; omega, by rw [t1, t2]; omega⟩
theorem nf_of_fold (us : List U) : doneN (foldU (nfU us)) = doneN (foldU us) := by
  have key : ∀ (us : List U) (q : List Pt) (ps : List Int) (n : Nat) (qs : List Pt × List Int × Int), qs = (q, [], 0) → doneN ((nfGo us ps n).foldl stepU qs) = doneN (us.foldl stepU (q, ps, (n : Int))) := by
    intro us
    induction us with
    | nil =>
      intro q ps n qs e
      subst e
      rw [nfGo, List.foldl_append, fold_p, fold_d]
      simp
    | cons u us ih =>
      intro q ps n qs e
      subst e
      cases u with
      | k =>
        rw [nfGo, List.foldl_append, fold_p, List.foldl_append, fold_d, List.foldl_cons]
        have := ih (stepU (q, ps, (n : Int)) .k).1 [] 0 (stepU (q, ps, (n : Int)) .k) (by simp [stepU])
        simpa [stepU] using this
      | p x => rw [nfGo]; have := ih q (ps ++ [x]) n (q, [], 0) rfl; simpa [stepU] using this
      | d => rw [nfGo]; have := ih q ps (n + 1) (q, [], 0) rfl; simpa [stepU] using this
  have := key us [] [] 0 ([], [], 0) rfl
  simpa [foldU, nfU] using this
theorem made_nf (us : List U) : made (nfU us) = made us := nf_of_fold us
theorem made_ext {us vs : List U} (h : nfU us = nfU vs) : made us = made vs := by rw [← made_nf us, h, made_nf]
theorem norm_made {a : List Pt} (h : okOp a = true) : normL a = made (units a) := by
  unfold normL made
  rw [if_pos h, foldN_units (okOp_units h).2.1]
theorem normal_same {us : List U} (hs : src us ≤ 200) (ht : tgt us ≤ 200) (hz : goodU us) : normL (made us) = made us := by
  obtain ⟨h1, h2, _⟩ := made_ok hs ht hz
  exact norm_normal h2 h1
/-- a valid operation's units -/
theorem op_units {a : List Pt} (h : okOp a = true) : (src (units a) : Int) = sumK a + sumD a ∧ (tgt (units a) : Int) = sumK a + sumP a ∧ src (units a) ≤ 200 ∧ tgt (units a) ≤ 200 ∧ goodU (units a) := by
  obtain ⟨h1, h2, h3, h4, h5, h6, h7⟩ := okOp_of h
  obtain ⟨t1, t2, t3⟩ := sum_t (okOp_partsB h)
  obtain ⟨s1, s2⟩ := src_units (okPs_sz h1)
  refine ⟨by rw [t1, t3]; exact s1, by rw [t1, t2]; exact s2, by omega, by omega, fun x hx => ?_⟩
  unfold units at hx
  obtain ⟨p, hp, hx⟩ := List.mem_flatMap.1 hx
  have ha := okPs_allB h1 p hp
  unfold unitsP at hx
  split at hx
  · have := List.eq_of_mem_replicate hx; cases this
  · split at hx
    · obtain ⟨z, hz, e⟩ := List.mem_map.1 hx
      injection e with e
      subst e
      unfold allB at ha
      exact List.all_eq_true.1 ha z hz
    · have := List.eq_of_mem_replicate hx; cases this
theorem apply_mem : ∀ (us : List U) (t : List Int) (x : Int), x ∈ applyU us t → x ∈ t ∨ U.p x ∈ us
  | [], t, x, h => by simp [applyU] at h
  | .k :: us, t, x, h => by
    rw [applyU] at h
    rcases List.mem_append.1 h with h | h
    · exact .inl (List.mem_of_mem_take h)
    · rcases apply_mem us _ x h with h | h
      · exact .inl (List.mem_of_mem_drop h)
      · exact .inr (by simp [h])
  | .p y :: us, t, x, h => by
    rw [applyU] at h
    rcases List.mem_cons.1 h with rfl | h
    · exact .inr (by simp)
    · rcases apply_mem us _ x h with h | h
      · exact .inl h
      · exact .inr (by simp [h])
  | .d :: us, t, x, h => by
    rw [applyU] at h
    rcases apply_mem us _ x h with h | h
    · exact .inl (List.mem_of_mem_drop h)
    · exact .inr (by simp [h])
theorem okText_mem {t : List Int} (h : okText t = true) : ∀ x ∈ t, signB x = true := fun x hx => by
  unfold okText at h
  rw [Bool.and_eq_true] at h
  exact List.all_eq_true.1 h.1 x hx
theorem okText_mk {t : List Int} (h : ∀ x ∈ t, signB x = true) (hl : t.length ≤ 200) : okText t = true := by
  unfold okText allB
  rw [decide_eq_true hl, List.all_eq_true.2 h]
  rfl
theorem okText_len' {t : List Int} (h : okText t = true) : t.length ≤ 200 := by
  unfold okText at h
  rw [Bool.and_eq_true] at h
  exact of_decide_eq_true h.2
theorem fits_mk {a : List Pt} {t : List Int} (ha : okOp a = true) (ht : okText t = true) (hs : sumK a + sumD a = (t.length : Int)) : fitsB a t = true := by
  unfold fitsB
  rw [ha, ht, decide_eq_true hs]
  rfl
/-- applying a valid operation to a text that fits -/
theorem apply_ok {a : List Pt} {t : List Int} (ha : okOp a = true) (ht : okText t = true) (hs : sumK a + sumD a = (t.length : Int)) : fitsB a t = true ∧ applyT a t = applyU (units a) t ∧ okText (applyT a t) = true ∧ ((applyT a t).length : Int) = sumK a + sumP a ∧ src (units a) = t.length := by
  have hf := fits_mk ha ht hs
  obtain ⟨u1, u2, u3, u4, u5⟩ := op_units ha
  have hsrc : src (units a) = t.length := by omega
  have he := applyT_units hf
  have hl := apply_len_u (units a) t hsrc
  refine ⟨hf, he, ?_, by rw [he, hl]; exact u2, hsrc⟩
  rw [he]
  refine okText_mk (fun x hx => ?_) (by omega)
  rcases apply_mem _ _ _ hx with h | h
  · exact okText_mem ht x h
  · exact u5 x h
theorem comp_mem (a b : List U) : ∀ x, U.p x ∈ comp a b → U.p x ∈ a ∨ U.p x ∈ b := by
  induction a, b using comp.induct with
  | case1 => intro x h; simp [comp] at h
  | case2 y b ih => intro x h; rw [comp] at h; rcases List.mem_cons.1 h with h | h; exact .inr (by rw [h]; simp); rcases ih x h with h | h; exact .inl h; exact .inr (by simp [h])
  | case3 b => intro x h; simp [comp] at h
  | case4 b => intro x h; simp [comp] at h
  | case5 a b ih => intro x h; rw [comp] at h; rcases List.mem_cons.1 h with h | h; cases h; rcases ih x h with h | h; exact .inl (by simp [h]); exact .inr h
  | case6 a => intro x h; simp [comp] at h
  | case7 a y b ih => intro x h; rw [comp] at h; rcases List.mem_cons.1 h with h | h; exact .inr (by rw [h]; simp); rcases ih x h with h | h; exact .inl h; exact .inr (by simp [h])
  | case8 a b ih => intro x h; rw [comp] at h; rcases List.mem_cons.1 h with h | h; cases h; rcases ih x h with h | h; exact .inl (by simp [h]); exact .inr (by simp [h])
  | case9 a b ih => intro x h; rw [comp] at h; rcases List.mem_cons.1 h with h | h; cases h; rcases ih x h with h | h; exact .inl (by simp [h]); exact .inr (by simp [h])
  | case10 y a => intro x h; simp [comp] at h
  | case11 y a z b ih => intro x h; rw [comp] at h; rcases List.mem_cons.1 h with h | h; exact .inr (by rw [h]; simp); rcases ih x h with h | h; exact .inl h; exact .inr (by simp [h])
  | case12 y a b ih => intro x h; rw [comp] at h; rcases List.mem_cons.1 h with h | h; exact .inl (by rw [h]; simp); rcases ih x h with h | h; exact .inl (by simp [h]); exact .inr (by simp [h])
  | case13 y a b ih => intro x h; rw [comp] at h; rcases ih x h with h | h; exact .inl (by simp [h]); exact .inr (by simp [h])
/-- composing valid operations that fit one another -/
theorem compose_ok {a b : List Pt} (ha : okOp a = true) (hb : okOp b = true) (hs : sumK a + sumP a = sumK b + sumD b) : composeB a b = true ∧ composeT a b = made (comp (units a) (units b)) ∧ okOp (composeT a b) = true ∧ normL (composeT a b) = composeT a b ∧ units (composeT a b) = nfU (comp (units a) (units b)) ∧ sumK (composeT a b) + sumD (composeT a b) = sumK a + sumD a ∧ sumK (composeT a b) + sumP (composeT a b) = sumK b + sumP b ∧ tgt (units a) = src (units b) := by
  obtain ⟨u1, u2, u3, u4, u5⟩ := op_units ha
  obtain ⟨v1, v2, v3, v4, v5⟩ := op_units hb
  have hbal : tgt (units a) = src (units b) := by omega
  obtain ⟨e1, e2⟩ := comp_ends hbal
  have hg : goodU (comp (units a) (units b)) := fun x hx => by
    rcases comp_mem _ _ x hx with h | h
    · exact u5 x h
    · exact v5 x h
  obtain ⟨m1, m2, m3, m4⟩ := made_ok (us := comp (units a) (units b)) (by omega) (by omega) hg
  have hB : composeB a b = true := by
    unfold composeB
    rw [ha, hb]
    have : okOp (compL a b) = true := m1
    rw [this]
    simp [hs]
  have hT : composeT a b = made (comp (units a) (units b)) := by unfold composeT; rw [if_pos hB]; rfl
  rw [hT]
  exact ⟨hB, rfl, m1, norm_normal m2 m1, units_made _, by rw [m3, e1]; exact u1, by rw [m4, e2]; exact v2, hbal⟩
theorem compose_apply {a b : List Pt} {t : List Int} (ha : okOp a = true) (hb : okOp b = true) (hs : sumK a + sumP a = sumK b + sumD b) (ht : okText t = true) (hf : sumK a + sumD a = (t.length : Int)) : applyT (composeT a b) t = applyT b (applyT a t) := by
  obtain ⟨c1, c2, c3, c4, c5, c6, c7, c8⟩ := compose_ok ha hb hs
  obtain ⟨a1, a2, a3, a4, a5⟩ := apply_ok ha ht hf
  obtain ⟨b1, b2, _⟩ := apply_ok hb a3 (by omega)
  obtain ⟨k1, k2, _⟩ := apply_ok c3 ht (by omega)
  rw [k2, c5, apply_nf, b2, a2]
  exact (apply_comp (units a) (units b) t a5 c8).1
/-- associativity -/
theorem compose_assoc {a b c : List Pt} (ha : okOp a = true) (hb : okOp b = true) (hc : okOp c = true) (h1 : sumK a + sumP a = sumK b + sumD b) (h2 : sumK b + sumP b = sumK c + sumD c) : composeT (composeT a b) c = composeT a (composeT b c) := by
  obtain ⟨p1, p2, p3, p4, p5, p6, p7, p8⟩ := compose_ok ha hb h1
  obtain ⟨q1, q2, q3, q4, q5, q6, q7, q8⟩ := compose_ok hb hc h2
  obtain ⟨r1, r2, r3, r4, r5, r6, r7, r8⟩ := compose_ok p3 hc (by omega)
  obtain ⟨s1, s2, s3, s4, s5, s6, s7, s8⟩ := compose_ok ha q3 (by omega)
  rw [r2, s2]
  apply made_ext
  rw [p5, q5]
  have e1 : nfU (comp (nfU (comp (units a) (units b))) (units c)) = nfU (comp (comp (units a) (units b)) (units c)) := by
    have hb' : tgt (comp (units a) (units b)) = src (units c) := by rw [(comp_ends p8).2]; exact q8
    have hb'' : tgt (nfU (comp (units a) (units b))) = src (units c) := by rw [(nf_ends _).2]; exact hb'
    have x1 := comp_nf hb'
    have x2 := comp_nf hb''
    rw [nf_idem] at x2
    rw [← x2, x1]
  have e2 : nfU (comp (units a) (nfU (comp (units b) (units c)))) = nfU (comp (units a) (comp (units b) (units c))) := by
    have hb' : tgt (units a) = src (comp (units b) (units c)) := by rw [(comp_ends q8).1]; exact p8
    have hb'' : tgt (units a) = src (nfU (comp (units b) (units c))) := by rw [(nf_ends _).1]; exact hb'
    have x1 := comp_nf hb'
    have x2 := comp_nf hb''
    rw [nf_idem] at x2
    rw [← x2, x1]
  rw [e1, e2]
  exact comp_assoc p8 q8

theorem nf_ds : ∀ {n : Nat} {us : List U} {qs : List Int} {m : Nat}, nfGo (List.replicate n U.d ++ us) qs m = nfGo us qs (m + n)
  | 0, us, qs, m => by simp
  | n + 1, us, qs, m => by rw [List.replicate_succ, List.cons_append, nfGo, nf_ds]; congr 1; omega
theorem nf_ps : ∀ {zs : List Int} {us : List U} {qs : List Int} {m : Nat}, nfGo (zs.map U.p ++ us) qs m = nfGo us (qs ++ zs) m
  | [], us, qs, m => by simp
  | z :: zs, us, qs, m => by rw [List.map_cons, List.cons_append, nfGo, nf_ps]; simp
theorem inv_ps : ∀ (ps : List Int) (us : List U) (t : List Int), invU (ps.map U.p ++ us) t = List.replicate ps.length U.d ++ invU us t
  | [], us, t => by simp
  | p :: ps, us, t => by rw [List.map_cons, List.cons_append, invU, inv_ps ps us t]; simp [List.replicate_succ]
theorem inv_ds : ∀ (n : Nat) (us : List U) (t : List Int), invU (List.replicate n U.d ++ us) t = (t.take n).map U.p ++ invU us (t.drop n)
  | 0, us, t => by simp
  | n + 1, us, t => by
    rw [List.replicate_succ, List.cons_append, invU, inv_ds n us (t.drop 1), List.drop_drop, ← List.append_assoc, ← List.map_append]
    congr 2
    · rw [show n + 1 = 1 + n by omega, List.take_add]
    · rw [Nat.add_comm]
theorem inv_pd (ps : List Int) (n : Nat) (t : List Int) : invU (ps.map U.p ++ List.replicate n U.d) t = List.replicate ps.length U.d ++ (t.take n).map U.p := by
  have := inv_ds n [] t
  rw [List.append_nil] at this
  rw [inv_ps, this]
  simp [invU]
theorem inv_app_pd {ps : List Int} {n : Nat} {us : List U} {t : List Int} : invU ((ps.map U.p ++ List.replicate n U.d) ++ us) t = List.replicate ps.length U.d ++ ((t.take n).map U.p ++ invU us (t.drop n)) := by
  rw [List.append_assoc, inv_ps, inv_ds]
/-- the inverse on units: of the normal form, up to the normal form -/
theorem inv_go : ∀ (us : List U) (ps : List Int) (n : Nat) (t : List Int) (qs : List Int) (m : Nat), src us + n = t.length → nfGo (invU (nfGo us ps n) t) qs m = nfGo (invU us (t.drop n)) (qs ++ t.take n) (m + ps.length)
  | [], ps, n, t, qs, m, h => by
    have e : invU (ps.map U.p ++ List.replicate n U.d) t = List.replicate ps.length U.d ++ (t.take n).map U.p := inv_pd ps n t
    have e2 := nf_ps (zs := t.take n) (us := []) (qs := qs) (m := m + ps.length)
    rw [List.append_nil] at e2
    rw [nfGo, e, nf_ds, e2]
    simp [invU]
  | .k :: us, ps, n, t, qs, m, h => by
    have hl : src us + 0 = (t.drop (n + 1)).length := by simp [src] at h ⊢; omega
    rw [nfGo, ← List.append_assoc, inv_app_pd, nf_ds, nf_ps]
    simp only [invU]
    rw [nfGo, List.drop_drop, inv_go us [] 0 (t.drop (n + 1)) [] 0 hl]
    simp [nfGo]
  | .p x :: us, ps, n, t, qs, m, h => by
    rw [nfGo, inv_go us (ps ++ [x]) n t qs m (by simpa [src] using h)]
    simp only [invU, nfGo]
    simp [Nat.add_assoc]
  | .d :: us, ps, n, t, qs, m, h => by
    have hlt : n < t.length := by simp [src] at h; omega
    rw [nfGo, inv_go us ps (n + 1) t qs m (by simp [src] at h ⊢; omega)]
    simp only [invU]
    rw [List.drop_drop, nf_ps]
    congr 1
    rw [List.append_assoc]
    congr 1
    rw [List.take_add_one, List.take_one, List.head?_drop]
theorem inv_nf {us : List U} {t : List Int} (h : src us = t.length) : nfU (invU (nfU us) t) = nfU (invU us t) := by
  have := inv_go us [] 0 t [] 0 (by omega)
  simpa [nfU] using this
theorem inv_ks : ∀ (n : Nat) (us : List U) (t : List Int), invU (List.replicate n U.k ++ us) t = List.replicate n U.k ++ invU us (t.drop n)
  | 0, us, t => by simp
  | n + 1, us, t => by rw [List.replicate_succ, List.cons_append, invU, inv_ks n us (t.drop 1), List.drop_drop, List.cons_append, Nat.add_comm 1 n]
theorem foldI_units (t : List Int) : ∀ (L : List Pt) (s : Nat × List Pt), (∀ p ∈ L, szP_ p) → units (L.foldl (stepI t) s).2 = units s.2 ++ invU (units L) (t.drop s.1)
  | [], s, _ => by simp [units_nil, invU]
  | p :: L, s, h => by
    rw [List.foldl_cons, foldI_units t L (stepI t s p) (fun q hq => h q (by simp [hq])), units_cons]
    obtain ⟨hk, h0, h1, h2⟩ := h p (by simp)
    have e1 : (stepI t s p).2 = s.2 ++ [invP t s.1 p] := rfl
    rw [e1, units_app, List.append_assoc]
    congr 1
    have e3 : units [invP t s.1 p] = unitsP (invP t s.1 p) := by simp [units]
    rw [e3]
    obtain ⟨pk, pn, pz⟩ := p
    simp only at hk h0
    rcases hk with rfl | rfl | rfl
    · have u1 : unitsP ⟨1, pn, pz⟩ = List.replicate pn.toNat .k := by simp [unitsP]
      have u2 : unitsP (invP t s.1 ⟨1, pn, pz⟩) = List.replicate pn.toNat .k := by simp [unitsP, invP]
      rw [u1, u2, inv_ks, List.drop_drop]
      simp [stepI]
    · have u1 : unitsP ⟨2, pn, pz⟩ = pz.map .p := by simp [unitsP]
      have u2 : unitsP (invP t s.1 ⟨2, pn, pz⟩) = List.replicate pz.length .d := by simp [unitsP, invP]
      rw [u1, u2, inv_ps]
      simp [stepI]
    · have u1 : unitsP ⟨3, pn, pz⟩ = List.replicate pn.toNat .d := by simp [unitsP]
      have u2 : unitsP (invP t s.1 ⟨3, pn, pz⟩) = ((t.drop s.1).take pn.toNat).map .p := by simp [unitsP, invP]
      rw [u1, u2, inv_ds, List.drop_drop]
      simp [stepI]
theorem inv_mem : ∀ (us : List U) (t : List Int) (x : Int), U.p x ∈ invU us t → x ∈ t
  | [], t, x, h => by simp [invU] at h
  | .k :: us, t, x, h => by
    rw [invU] at h
    rcases List.mem_cons.1 h with h | h
    · cases h
    · exact List.mem_of_mem_drop (inv_mem us _ x h)
  | .p y :: us, t, x, h => by
    rw [invU] at h
    rcases List.mem_cons.1 h with h | h
    · cases h
    · exact inv_mem us _ x h
  | .d :: us, t, x, h => by
    rw [invU] at h
    rcases List.mem_append.1 h with h | h
    · obtain ⟨z, hz, e⟩ := List.mem_map.1 h
      injection e with e
      subst e
      exact List.mem_of_mem_take hz
    · exact List.mem_of_mem_drop (inv_mem us _ x h)
/-- the inverse of a valid operation -/
theorem invert_eq {a : List Pt} {t : List Int} (ha : okOp a = true) (ht : okText t = true) (hs : sumK a + sumD a = (t.length : Int)) : invertT a t = made (invU (units a) t) ∧ okOp (invertT a t) = true ∧ normL (invertT a t) = invertT a t ∧ sumK (invertT a t) + sumD (invertT a t) = sumK a + sumP a ∧ sumK (invertT a t) + sumP (invertT a t) = sumK a + sumD a := by
  obtain ⟨a1, a2, a3, a4, a5⟩ := apply_ok ha ht hs
  obtain ⟨u1, u2, u3, u4, u5⟩ := op_units ha
  obtain ⟨n1, n2, n3⟩ := fits_norm a1
  have hsz := okPs_sz n1
  have hf := foldI_fit (t := t) n1 (normL a).length (Nat.le_refl _)
  rw [List.take_length] at hf
  have hu := foldI_units t (normL a) (0, []) hsz
  have e1 : invertT a t = made (invU (nfU (units a)) t) := by
    unfold invertT
    rw [if_pos a1, foldN_units hf.2.2]
    unfold made
    congr 2
    have : units (foldI t (normL a)).2 = invU (units (normL a)) t := by simpa [foldI, units_nil] using hu
    rw [this, norm_made ha, units_made]
  have e2 : invertT a t = made (invU (units a) t) := by rw [e1]; exact made_ext (inv_nf a5)
  obtain ⟨i1, i2, i3⟩ := inv_back (units a) t a5
  obtain ⟨m1, m2, m3, m4⟩ := made_ok (us := invU (units a) t) (by omega) (by omega) (fun x hx => okText_mem ht x (inv_mem _ _ x hx))
  rw [e2]
  exact ⟨rfl, m1, norm_normal m2 m1, by rw [m3, i2]; exact u2, by rw [m4, i3]; exact u1⟩
theorem invert_ok {a : List Pt} {t : List Int} (ha : okOp a = true) (ht : okText t = true) (hs : sumK a + sumD a = (t.length : Int)) : applyT (invertT a t) (applyT a t) = t ∧ invertT (invertT a t) (applyT a t) = normL a := by
  obtain ⟨a1, a2, a3, a4, a5⟩ := apply_ok ha ht hs
  obtain ⟨x1, x2, x3, x4, x5⟩ := invert_eq ha ht hs
  obtain ⟨b1, b2, b3, b4, b5⟩ := apply_ok x2 a3 (by omega)
  obtain ⟨y1, _⟩ := invert_eq x2 a3 (by omega)
  obtain ⟨i1, i2, i3⟩ := inv_back (units a) t a5
  have hu : units (invertT a t) = nfU (invU (units a) t) := by rw [x1, units_made]
  constructor
  · rw [b2, hu, apply_nf, a2, i1]
  · rw [y1, norm_made ha]
    apply made_ext
    have hsrc : src (invU (units a) t) = (applyT a t).length := by
      have : ((applyT a t).length : Int) = (tgt (units a) : Int) := by rw [a4]; exact (op_units ha).2.1.symm
      omega
    rw [hu, inv_nf hsrc, a2, inv_inv (units a) t a5]
/-- how many characters are inserted -/
def np : List U → Nat
  | [] => 0
  | .p _ :: us => np us + 1
  | _ :: us => np us
theorem np_app : ∀ a b : List U, np (a ++ b) = np a + np b
  | [], b => by simp [np]
  | u :: a, b => by
    have := np_app a b
    cases u <;> simp [np, this] <;> omega
theorem np_rk : ∀ n : Nat, np (List.replicate n U.k) = 0
  | 0 => rfl
  | n + 1 => by rw [List.replicate_succ]; simp [np, np_rk n]
theorem np_rd : ∀ n : Nat, np (List.replicate n U.d) = 0
  | 0 => rfl
  | n + 1 => by rw [List.replicate_succ]; simp [np, np_rd n]
theorem np_mp : ∀ zs : List Int, np (zs.map U.p) = zs.length
  | [] => rfl
  | z :: zs => by rw [List.map_cons]; simp [np, np_mp zs]
theorem np_units {L : List Pt} (h : ∀ p ∈ L, szP_ p) : (np (units L) : Int) = sumOf putOf L := by
  induction L with
  | nil => simp [units_nil, np, sumOf]
  | cons p L ih =>
    have i := ih (fun q hq => h q (by simp [hq]))
    obtain ⟨hk, _⟩ := h p (by simp)
    rw [units_cons, np_app, sumOf_cons]
    have : (np (unitsP p) : Int) = putOf p := by
      obtain ⟨pk, pn, pz⟩ := p
      simp only at hk
      rcases hk with rfl | rfl | rfl
      · simp [unitsP, putOf, np_rk]
      · simp [unitsP, putOf, np_mp]
      · simp [unitsP, putOf, np_rd]
    omega
theorem np_op {a : List Pt} (h : okOp a = true) : (np (units a) : Int) = sumP a := by
  obtain ⟨t1, t2, t3⟩ := sum_t (okOp_partsB h)
  rw [np_units (okPs_sz (okOp_of h).1), t2]
theorem np_go : ∀ (us : List U) (ps : List Int) (n : Nat), np (nfGo us ps n) = np us + ps.length
  | [], ps, n => by rw [nfGo, np_app, np_mp, np_rd]; simp [np]
  | .k :: us, ps, n => by rw [nfGo, np_app, np_mp, np_app, np_rd]; simp [np, np_go us [] 0]; omega
  | .p x :: us, ps, n => by rw [nfGo, np_go us (ps ++ [x]) n]; simp [np]; omega
  | .d :: us, ps, n => by rw [nfGo, np_go us ps (n + 1)]; simp [np]
theorem np_nf (us : List U) : np (nfU us) = np us := by unfold nfU; rw [np_go]; simp
theorem xf_np (a b : List U) : src a = src b → np (xf a b).1 = np a ∧ np (xf a b).2 = np b ∧ tgt (xf a b).1 ≤ tgt b + np a ∧ (∀ x, U.p x ∈ (xf a b).1 → U.p x ∈ a) ∧ (∀ x, U.p x ∈ (xf a b).2 → U.p x ∈ b) := by
  induction a, b using xf.induct with
  | case1 => intro h; simp [xf, np, tgt]
  | case2 x a b ih =>
    intro h
    obtain ⟨i1, i2, i3, i4, i5⟩ := ih (by simpa [src] using h)
    rw [xf]
    refine ⟨by simp [np, i1], by simp [np, i2], by simp [np, tgt]; omega, fun y hy => ?_, fun y hy => ?_⟩
    · rcases List.mem_cons.1 hy with e | hy
      · rw [e]; simp
      · simp [i4 y hy]
    · rcases List.mem_cons.1 hy with e | hy
      · cases e
      · exact i5 y hy
  | case3 x b ih =>
    intro h
    obtain ⟨i1, i2, i3, i4, i5⟩ := ih (by simpa [src] using h)
    rw [xf]
    refine ⟨by simp [np, i1], by simp [np, i2], by simp [np, tgt] at i3 ⊢; omega, fun y hy => ?_, fun y hy => ?_⟩
    · rcases List.mem_cons.1 hy with e | hy
      · cases e
      · exact i4 y hy
    · rcases List.mem_cons.1 hy with e | hy
      · rw [e]; simp
      · simp [i5 y hy]
  | case4 b => intro h; simp [src] at h
  | case5 b => intro h; simp [src] at h
  | case6 a => intro h; simp [src] at h
  | case7 a x b ih =>
    intro h
    obtain ⟨i1, i2, i3, i4, i5⟩ := ih (by simpa [src] using h)
    rw [xf]
    refine ⟨by simp [np, i1], by simp [np, i2], by simp [np, tgt] at i3 ⊢; omega, fun y hy => ?_, fun y hy => ?_⟩
    · rcases List.mem_cons.1 hy with e | hy
      · cases e
      · exact i4 y hy
    · rcases List.mem_cons.1 hy with e | hy
      · rw [e]; simp
      · simp [i5 y hy]
  | case8 a b ih =>
    intro h
    obtain ⟨i1, i2, i3, i4, i5⟩ := ih (by simpa [src] using h)
    rw [xf]
    refine ⟨by simp [np, i1], by simp [np, i2], by simp [np, tgt] at i3 ⊢; omega, fun y hy => ?_, fun y hy => ?_⟩
    · rcases List.mem_cons.1 hy with e | hy
      · cases e
      · simp [i4 y hy]
    · rcases List.mem_cons.1 hy with e | hy
      · cases e
      · simp [i5 y hy]
  | case9 a b ih =>
    intro h
    obtain ⟨i1, i2, i3, i4, i5⟩ := ih (by simpa [src] using h)
    rw [xf]
    refine ⟨by simp [np, i1], by simp [np, i2], by simp [np, tgt] at i3 ⊢; omega, fun y hy => by simp [i4 y hy], fun y hy => ?_⟩
    rcases List.mem_cons.1 hy with e | hy
    · cases e
    · simp [i5 y hy]
  | case10 a => intro h; simp [src] at h
  | case11 a x b ih =>
    intro h
    obtain ⟨i1, i2, i3, i4, i5⟩ := ih (by simpa [src] using h)
    rw [xf]
    refine ⟨by simp [np, i1], by simp [np, i2], by simp [np, tgt] at i3 ⊢; omega, fun y hy => ?_, fun y hy => ?_⟩
    · rcases List.mem_cons.1 hy with e | hy
      · cases e
      · exact i4 y hy
    · rcases List.mem_cons.1 hy with e | hy
      · rw [e]; simp
      · simp [i5 y hy]
  | case12 a b ih =>
    intro h
    obtain ⟨i1, i2, i3, i4, i5⟩ := ih (by simpa [src] using h)
    rw [xf]
    refine ⟨by simp [np, i1], by simp [np, i2], by simp [np, tgt] at i3 ⊢; omega, fun y hy => ?_, fun y hy => by simp [i5 y hy]⟩
    rcases List.mem_cons.1 hy with e | hy
    · cases e
    · simp [i4 y hy]
  | case13 a b ih =>
    intro h
    obtain ⟨i1, i2, i3, i4, i5⟩ := ih (by simpa [src] using h)
    rw [xf]
    exact ⟨by simp [np, i1], by simp [np, i2], by simp [np, tgt] at i3 ⊢; omega, fun y hy => by simp [i4 y hy], fun y hy => by simp [i5 y hy]⟩
/-- transforming valid operations on one text -/
theorem xform_ok {a b : List Pt} {t : List Int} (ha : okOp a = true) (hb : okOp b = true) (ht : okText t = true) (h1 : sumK a + sumD a = (t.length : Int)) (h2 : sumK b + sumD b = (t.length : Int)) (hp : sumK b + sumP b + sumP a ≤ 200) :
    xformOk a b = true ∧ okOp (xformA a b) = true ∧ okOp (xformB a b) = true ∧ normL (xformA a b) = xformA a b ∧ normL (xformB a b) = xformB a b ∧ sumK (xformA a b) + sumD (xformA a b) = sumK b + sumP b ∧ sumK (xformB a b) + sumD (xformB a b) = sumK a + sumP a ∧ sumP (xformA a b) = sumP a ∧ sumP (xformB a b) = sumP b ∧ sumK (xformA a b) + sumP (xformA a b) = sumK (xformB a b) + sumP (xformB a b) ∧ sumK (xformA a b) + sumP (xformA a b) ≤ sumK b + sumP b + sumP a ∧ applyT (xformB a b) (applyT a t) = applyT (xformA a b) (applyT b t) := by
  obtain ⟨u1, u2, u3, u4, u5⟩ := op_units ha
  obtain ⟨v1, v2, v3, v4, v5⟩ := op_units hb
  obtain ⟨a1, a2, a3, a4, a5⟩ := apply_ok ha ht h1
  obtain ⟨b1, b2, b3, b4, b5⟩ := apply_ok hb ht h2
  obtain ⟨m1, m2, m3, m4⟩ := xf_meet (units a) (units b) t a5 b5
  obtain ⟨n1, n2, n3, n4, n5⟩ := xf_np (units a) (units b) (by omega)
  have pa := np_op ha
  have pb := np_op hb
  obtain ⟨p1, p2, p3, p4⟩ := made_ok (us := (xf (units a) (units b)).1) (by omega) (by omega) (fun x hx => u5 x (n4 x hx))
  obtain ⟨q1, q2, q3, q4⟩ := made_ok (us := (xf (units a) (units b)).2) (by omega) (by omega) (fun x hx => v5 x (n5 x hx))
  have hO : xformOk a b = true := by
    unfold xformOk
    have e1 : okOp (xfA a b) = true := p1
    have e2 : okOp (xfB a b) = true := q1
    rw [ha, hb, e1, e2]
    simp
    omega
  have eA : xformA a b = made (xf (units a) (units b)).1 := by unfold xformA; rw [if_pos hO]; rfl
  have eB : xformB a b = made (xf (units a) (units b)).2 := by unfold xformB; rw [if_pos hO]; rfl
  have sA := np_op p1
  have sB := np_op q1
  rw [units_made, np_nf] at sA sB
  rw [eA, eB]
  obtain ⟨c1, c2, _⟩ := apply_ok q1 a3 (by rw [q3, m3]; omega)
  obtain ⟨d1, d2, _⟩ := apply_ok p1 b3 (by rw [p3, m2]; omega)
  refine ⟨hO, p1, q1, norm_normal p2 p1, norm_normal q2 q1, by rw [p3, m2]; exact v2, by rw [q3, m3]; exact u2, by omega, by omega, by rw [p4, q4, m4], by rw [p4]; omega, ?_⟩
  rw [c2, d2, units_made, units_made, apply_nf, apply_nf, a2, b2, m1]
end Go.Proofs.Ytmlkeflnnaabeaa.low


/-
  Positions: what Shift, Back, Spans, PutAt and DropAt answer, as functions on lists, and what is true of them.
-/
namespace Go.Proofs.Ytmlkeflnnaabeaa.low
open Go.RowKit
set_option linter.unusedVariables false

/-- a position led along parts; f and t: the characters passed in the old and in the new text -/
def shiftGo (x : Int) (af : Bool) : List Pt → Int → Int → Int
  | [], _, t => t
  | p :: ps, f, t =>
    if p.kind = 1 then (if x < f + p.n then t + x - f else shiftGo x af ps (f + p.n) (t + p.n))
    else if p.kind = 2 then (if f = x ∧ af = false then t else shiftGo x af ps f (t + (p.signs.length : Int)))
    else (if x < f + p.n then t else shiftGo x af ps (f + p.n) t)
/-- parts with no negative number, of the three kinds -/
def Nn (L : List Pt) : Prop := ∀ p ∈ L, (p.kind = 1 ∨ p.kind = 2 ∨ p.kind = 3) ∧ 0 ≤ p.n
def keepS : List Pt → Int
  | [] => 0
  | p :: ps => (if p.kind = 1 then p.n else 0) + keepS ps
def putS : List Pt → Int
  | [] => 0
  | p :: ps => (if p.kind = 2 then (p.signs.length : Int) else 0) + putS ps
def dropS : List Pt → Int
  | [] => 0
  | p :: ps => (if p.kind = 3 then p.n else 0) + dropS ps
theorem Nn.tail {p : Pt} {L : List Pt} (h : Nn (p :: L)) : Nn L := fun q hq => h q (by simp [hq])
theorem sums_nn : ∀ {L : List Pt}, Nn L → 0 ≤ keepS L ∧ 0 ≤ putS L ∧ 0 ≤ dropS L
  | [], _ => by simp [keepS, putS, dropS]
  | p :: L, h => by
    obtain ⟨h1, h2, h3⟩ := sums_nn h.tail
    have := h p (by simp)
    unfold keepS putS dropS
    refine ⟨?_, ?_, ?_⟩ <;> split <;> omega
theorem shift_bd (x : Int) (af : Bool) : ∀ (L : List Pt) (f t : Int), Nn L → f ≤ x → t ≤ shiftGo x af L f t ∧ shiftGo x af L f t ≤ t + keepS L + putS L
  | [], f, t, _, _ => by simp [shiftGo, keepS, putS]
  | ⟨k, n, zs⟩ :: L, f, t, h, hf => by
    obtain ⟨h1, h2, h3⟩ := sums_nn h.tail
    obtain ⟨hk, hn⟩ := h ⟨k, n, zs⟩ (by simp)
    simp only at hk hn
    rcases hk with rfl | rfl | rfl <;> simp only [shiftGo, keepS, putS, ↓reduceIte, Int.reduceEq] <;> split
    · omega
    · have := shift_bd x af L (f + n) (t + n) h.tail (by omega)
      omega
    · omega
    · have := shift_bd x af L f (t + (zs.length : Int)) h.tail hf
      omega
    · omega
    · have := shift_bd x af L (f + n) t h.tail (by omega)
      omega
theorem shift_after (x : Int) : ∀ (L : List Pt) (f t : Int), Nn L → f ≤ x → shiftGo x false L f t ≤ shiftGo x true L f t
  | [], f, t, _, _ => by simp [shiftGo]
  | ⟨k, n, zs⟩ :: L, f, t, h, hf => by
    obtain ⟨hk, hn⟩ := h ⟨k, n, zs⟩ (by simp)
    simp only at hk hn
    rcases hk with rfl | rfl | rfl <;> simp only [shiftGo, ↓reduceIte, Int.reduceEq, Bool.true_eq_false, and_false, and_true]
    · split
      · omega
      · exact shift_after x L _ _ h.tail (by omega)
    · split
      · have := (shift_bd x true L f (t + (zs.length : Int)) h.tail hf).1
        omega
      · exact shift_after x L _ _ h.tail hf
    · split
      · omega
      · exact shift_after x L _ _ h.tail (by omega)
theorem shift_mono (x y : Int) (hxy : x ≤ y) : ∀ (L : List Pt) (f t : Int), Nn L → f ≤ x → shiftGo x false L f t ≤ shiftGo y false L f t
  | [], f, t, _, _ => by simp [shiftGo]
  | ⟨k, n, zs⟩ :: L, f, t, h, hf => by
    obtain ⟨hk, hn⟩ := h ⟨k, n, zs⟩ (by simp)
    simp only at hk hn
    rcases hk with rfl | rfl | rfl <;> simp only [shiftGo, ↓reduceIte, Int.reduceEq, and_true]
    · split
      · split
        · omega
        · have := (shift_bd y false L (f + n) (t + n) h.tail (by omega)).1
          omega
      · rw [if_neg (by omega)]
        exact shift_mono x y hxy L _ _ h.tail (by omega)
    · split
      · split
        · omega
        · have := (shift_bd y false L f (t + (zs.length : Int)) h.tail (by omega)).1
          omega
      · rw [if_neg (by omega)]
        exact shift_mono x y hxy L _ _ h.tail hf
    · split
      · split
        · omega
        · exact (shift_bd y false L (f + n) t h.tail (by omega)).1
      · rw [if_neg (by omega)]
        exact shift_mono x y hxy L _ _ h.tail (by omega)
theorem shift_end : ∀ (L : List Pt) (f t x : Int), Nn L → x = f + keepS L + dropS L → shiftGo x true L f t = t + keepS L + putS L
  | [], f, t, x, _, _ => by simp [shiftGo, keepS, putS]
  | ⟨k, n, zs⟩ :: L, f, t, x, h, hx => by
    obtain ⟨h1, h2, h3⟩ := sums_nn h.tail
    obtain ⟨hk, hn⟩ := h ⟨k, n, zs⟩ (by simp)
    simp only at hk hn
    rcases hk with rfl | rfl | rfl <;> simp only [keepS, dropS, ↓reduceIte, Int.reduceEq] at hx <;> simp only [shiftGo, keepS, putS, ↓reduceIte, Int.reduceEq, Bool.true_eq_false, and_false]
    · rw [if_neg (by omega), shift_end L (f + n) (t + n) x h.tail (by omega)]
      omega
    · rw [shift_end L f (t + (zs.length : Int)) x h.tail (by omega)]
      omega
    · rw [if_neg (by omega), shift_end L (f + n) t x h.tail (by omega)]
      omega
/-- the greatest position up to k whose shift is at most y, or 0 -/
def backGo (L : List Pt) (y : Int) : Nat → Int
  | 0 => 0
  | k + 1 => if shiftGo ((k : Int) + 1) false L 0 0 ≤ y then (k : Int) + 1 else backGo L y k
theorem back_bd (L : List Pt) (y : Int) : ∀ k : Nat, 0 ≤ backGo L y k ∧ backGo L y k ≤ (k : Int)
  | 0 => by simp [backGo]
  | k + 1 => by
    unfold backGo
    have := back_bd L y k
    split
    · omega
    · omega
theorem back_is (L : List Pt) (y : Int) : ∀ k : Nat, (0 < backGo L y k → shiftGo (backGo L y k) false L 0 0 ≤ y) ∧ ∀ j : Nat, backGo L y k < (j : Int) → j ≤ k → y < shiftGo (j : Int) false L 0 0
  | 0 => ⟨fun h => by simp [backGo] at h, fun j h1 h2 => by simp [backGo] at h1; omega⟩
  | k + 1 => by
    obtain ⟨i1, i2⟩ := back_is L y k
    unfold backGo
    split
    · rename_i h
      exact ⟨fun _ => h, fun j h1 h2 => by omega⟩
    · rename_i h
      refine ⟨i1, fun j h1 h2 => ?_⟩
      by_cases e : j = k + 1
      · subst e
        push_cast
        omega
      · exact i2 j h1 (by omega)
/-- where the inserted characters begin and end -/
def spansGo : List Pt → Int → List Int
  | [], _ => []
  | p :: ps, t => if p.kind = 1 then spansGo ps (t + p.n) else if p.kind = 2 then t :: (t + (p.signs.length : Int)) :: spansGo ps (t + (p.signs.length : Int)) else spansGo ps t
/-- the sum of the lengths of pairs -/
def pairSum : List Int → Int
  | a :: b :: l => (b - a) + pairSum l
  | _ => 0
theorem spans_sum : ∀ (L : List Pt) (t : Int), Nn L → pairSum (spansGo L t) = putS L
  | [], t, _ => by simp [spansGo, pairSum, putS]
  | ⟨k, n, zs⟩ :: L, t, h => by
    obtain ⟨hk, hn⟩ := h ⟨k, n, zs⟩ (by simp)
    simp only at hk hn
    rcases hk with rfl | rfl | rfl <;> simp only [spansGo, putS, pairSum, ↓reduceIte, Int.reduceEq] <;> rw [spans_sum L _ h.tail] <;> omega
/-- one list of sums -/
theorem keepS_eq : ∀ L : List Pt, keepS L = sumOf keepOf L
  | [] => rfl
  | p :: L => by unfold keepS; rw [keepS_eq L]; simp [sumOf, keepOf]
theorem putS_eq : ∀ L : List Pt, putS L = sumOf putOf L
  | [] => rfl
  | p :: L => by unfold putS; rw [putS_eq L]; simp [sumOf, putOf]
theorem dropS_eq : ∀ L : List Pt, dropS L = sumOf dropOf L
  | [] => rfl
  | p :: L => by unfold dropS; rw [dropS_eq L]; simp [sumOf, dropOf]
theorem Nn.of {L : List Pt} (h : okPs L = true) : Nn L := fun p hp => by
  have := of_okPt (okPs_mem' h hp)
  omega
/-- what Shift, Back, Spans answer -/
def shiftB (ps : List Pt) (x : Int) : Bool := okOp ps && inB x 0 (sumK ps + sumD ps)
def shiftT (ps : List Pt) (x : Int) (af : Bool) : Int := if shiftB ps x = true then shiftGo x af (normL ps) 0 0 else 0
def backB (ps : List Pt) (y : Int) : Bool := okOp ps && inB y 0 (sumK ps + sumP ps)
def backT (ps : List Pt) (y : Int) : Int := if backB ps y = true then backGo (normL ps) y (sumK ps + sumD ps).toNat else 0
def spansT (ps : List Pt) : List Int := spansGo (normL ps) 0
/-- what PutAt and DropAt answer -/
def opAtL (n x : Int) (l : List Int) (m : Int) : List Pt := doneN (foldN [⟨1, x, []⟩, ⟨2, 0, l⟩, ⟨3, m, []⟩, ⟨1, n - x - m, []⟩])
def opAtC (n x : Int) (l : List Int) (m : Int) : Bool := inB n 0 200 && inB x 0 n && inB m 0 (n - x) && allB l && decide (l.length ≤ 200)
def opAtB (n x : Int) (l : List Int) (m : Int) : Bool := opAtC n x l m && okOp (opAtL n x l m)
def opAtT (n x : Int) (l : List Int) (m : Int) : List Pt := if opAtB n x l m = true then opAtL n x l m else []
def opAtU (n x : Nat) (l : List Int) (m : Nat) : List U := List.replicate x .k ++ (l.map .p ++ (List.replicate m .d ++ List.replicate (n - x - m) .k))
theorem opAt_made (n x m : Nat) (l : List Int) (hn : n ≤ 200) (hx : x + m ≤ n) (hl : l.length ≤ 200) : opAtL (n : Int) (x : Int) l (m : Int) = made (opAtU n x l m) := by
  unfold opAtL made
  rw [foldN_units]
  · congr 2
    have e : ((n : Int) - (x : Int) - (m : Int)).toNat = n - x - m := by omega
    simp [units, unitsP, opAtU, e]
  · intro p hp
    simp at hp
    rcases hp with rfl | rfl | rfl | rfl
    · exact ⟨.inl rfl, by simp, by simp; omega, by simp⟩
    · exact ⟨.inr (.inl rfl), by simp, by simp, hl⟩
    · exact ⟨.inr (.inr rfl), by simp, by simp; omega, by simp⟩
    · exact ⟨.inl rfl, by simp; omega, by simp; omega, by simp⟩
theorem put_apply {n x : Nat} {l t : List Int} (h : t.length = n) (hx : x ≤ n) : applyU (opAtU n x l 0) t = t.take x ++ (l ++ t.drop x) := by
  unfold opAtU
  rw [applyU_ks, applyU_ps]
  have e : applyU (List.replicate 0 .d ++ List.replicate (n - x - 0) .k) (t.drop x) = t.drop x := by
    have := applyU_ks (n - x) [] (t.drop x)
    simp only [List.append_nil] at this
    simp only [List.replicate_zero, List.nil_append, Nat.sub_zero]
    rw [this, List.take_of_length_le (by rw [List.length_drop]; omega)]
    simp [applyU]
  rw [e]
theorem drop_apply {n x m : Nat} {t : List Int} (h : t.length = n) (hx : x + m ≤ n) : applyU (opAtU n x [] m) t = t.take x ++ t.drop (x + m) := by
  unfold opAtU
  rw [applyU_ks]
  simp only [List.map_nil, List.nil_append]
  rw [applyU_ds]
  have := applyU_ks (n - x - m) [] ((t.drop x).drop m)
  simp only [List.append_nil] at this
  rw [this, List.drop_drop, List.take_of_length_le (l := t.drop (x + m)) (by rw [List.length_drop]; omega)]
  simp [applyU]
theorem opAtU_src (n x m : Nat) (l : List Int) (hx : x + m ≤ n) : src (opAtU n x l m) = n ∧ tgt (opAtU n x l m) = n - m + l.length := by
  unfold opAtU
  rw [src_app, src_app, src_app, tgt_app, tgt_app, tgt_app, (src_rk x).1, (src_rk x).2, (src_mp l).1, (src_mp l).2, (src_rd m).1, (src_rd m).2, (src_rk (n - x - m)).1, (src_rk (n - x - m)).2]
  omega
theorem nfGo_ks : ∀ (n : Nat) (R : List U), nfGo (List.replicate n .k ++ R) [] 0 = List.replicate n .k ++ nfGo R [] 0
  | 0, R => rfl
  | n + 1, R => by rw [List.replicate_succ, List.cons_append, nfGo, nfGo_ks n R]; rfl
theorem nfGo_ps : ∀ (l : List Int) (R : List U) (ps : List Int) (n : Nat), nfGo (l.map .p ++ R) ps n = nfGo R (ps ++ l) n
  | [], R, ps, n => by simp
  | x :: l, R, ps, n => by
    rw [List.map_cons, List.cons_append, nfGo, nfGo_ps l R (ps ++ [x]) n]
    simp
theorem nfGo_ds : ∀ (m : Nat) (R : List U) (ps : List Int) (n : Nat), nfGo (List.replicate m .d ++ R) ps n = nfGo R ps (n + m)
  | 0, R, ps, n => rfl
  | m + 1, R, ps, n => by
    rw [List.replicate_succ, List.cons_append, nfGo, nfGo_ds m R ps (n + 1)]
    congr 1
    omega
theorem nfGo_end (r : Nat) (ps : List Int) (n : Nat) : nfGo (List.replicate r .k) ps n = ps.map .p ++ (List.replicate n .d ++ List.replicate r .k) := by
  cases r with
  | zero => simp [nfGo]
  | succ r =>
    have h := nfGo_ks r []
    simp only [List.append_nil, nfGo, List.map_nil, List.replicate_zero] at h
    rw [List.replicate_succ, nfGo, h]
theorem nf_opAt (n x m : Nat) (l : List Int) : nfU (opAtU n x l m) = opAtU n x l m := by
  unfold nfU opAtU
  rw [nfGo_ks, nfGo_ps, nfGo_ds, nfGo_end]
  simp
theorem noP_ks (r : Nat) : noP (List.replicate r U.k) := by
  cases r with
  | zero => trivial
  | succ r => rw [List.replicate_succ]; trivial
/-- two insertions at one place -/
theorem tie_units (n x : Nat) (la lb : List Int) : (xf (opAtU n x la 0) (opAtU n x lb 0)).2 = List.replicate x .k ++ (List.replicate la.length .k ++ (lb.map .p ++ List.replicate (n - x) .k)) := by
  unfold opAtU
  simp only [List.replicate_zero, List.nil_append, Nat.sub_zero]
  rw [xf_kk, xf_puts, xf_putsB _ _ _ (noP_ks _)]
  have h := xf_kk (n - x) [] []
  simp only [List.append_nil, xf_nil] at h
  simp only [h]
theorem tie_apply {n x : Nat} {la lb t : List Int} (h : t.length = n) (hx : x ≤ n) : applyU (xf (opAtU n x la 0) (opAtU n x lb 0)).2 (applyU (opAtU n x la 0) t) = t.take x ++ (la ++ (lb ++ t.drop x)) := by
  rw [tie_units, put_apply h hx, applyU_ks, applyU_ks, applyU_ps]
  have e1 : (t.take x ++ (la ++ t.drop x)).take x = t.take x := by
    rw [List.take_append_of_le_length (by rw [List.length_take]; omega), List.take_take, Nat.min_self]
  have e2 : (t.take x ++ (la ++ t.drop x)).drop x = la ++ t.drop x := by
    have l : (t.take x).length = x := by rw [List.length_take]; omega
    have := List.drop_left (l₁ := t.take x) (l₂ := la ++ t.drop x)
    rwa [l] at this
  rw [e1, e2, List.take_left, List.drop_left]
  have := applyU_ks (n - x) [] (t.drop x)
  simp only [List.append_nil] at this
  rw [this, List.take_of_length_le (l := t.drop x) (by rw [List.length_drop]; omega)]
  simp [applyU]
end Go.Proofs.Ytmlkeflnnaabeaa.low


/-
  Contracts of spec.Shift and spec.Back.
-/
namespace Go.Proofs.Ytmlkeflnnaabeaa.low
open Go.RowKit
set_option linter.unusedVariables false

/-- a number and a bool come back; nothing old has turned -/
def NumB (n : Int) (ok : Bool) (w : World) (e : Ending) (w' : World) : Prop := e = .returned (.tuple #[.int .i64 n, .bool ok]) ∧ Below w.heap.size w w'
theorem drop_cons_at {α : Type} {l : List α} {j : Nat} {p : α} (h : l[j]? = some p) : l.drop j = p :: l.drop (j + 1) := by
  obtain ⟨hlt, e⟩ := List.getElem?_eq_some_iff.1 h
  rw [List.drop_eq_getElem_cons hlt, e]
/-- the loop's word -/
def ShiftI (x : Int) (af : Bool) (qs : List Pt) (R f t : Int) (j : Nat) : Prop := 0 ≤ f ∧ f ≤ x ∧ 0 ≤ t ∧ t + keepS (qs.drop j) + putS (qs.drop j) ≤ 200 ∧ shiftGo x af (qs.drop j) f t = R
theorem ShiftI.bd {x : Int} {af : Bool} {qs : List Pt} {R f t : Int} {j : Nat} (h : ShiftI x af qs R f t j) (hq : okPs qs = true) : 0 ≤ f ∧ f ≤ x ∧ 0 ≤ t ∧ t ≤ 200 := by
  have hn : Nn (qs.drop j) := fun p hp => Nn.of hq p (List.mem_of_mem_drop hp)
  have := sums_nn hn
  obtain ⟨h1, h2, h3, h4, _⟩ := h
  omega
theorem ShiftI.k1 {x : Int} {af : Bool} {qs : List Pt} {R f t n : Int} {zs : List Int} {j : Nat} (h : ShiftI x af qs R f t j) (hp : qs[j]? = some ⟨1, n, zs⟩) (hx : x < f + n) : R = t + x - f := by
  obtain ⟨_, _, _, _, h5⟩ := h
  rw [drop_cons_at hp] at h5
  simp only [shiftGo, ↓reduceIte] at h5
  rw [if_pos hx] at h5
  exact h5.symm
theorem ShiftI.k2 {x : Int} {af : Bool} {qs : List Pt} {R f t n : Int} {zs : List Int} {j : Nat} (h : ShiftI x af qs R f t j) (hp : qs[j]? = some ⟨1, n, zs⟩) (hn : 0 ≤ n) (hx : ¬ x < f + n) : ShiftI x af qs R (f + n) (t + n) (j + 1) := by
  obtain ⟨h1, h2, h3, h4, h5⟩ := h
  rw [drop_cons_at hp] at h4 h5
  simp only [shiftGo, keepS, putS, ↓reduceIte, Int.reduceEq] at h4 h5
  rw [if_neg hx] at h5
  exact ⟨by omega, by omega, by omega, by omega, h5⟩
theorem ShiftI.p1 {x : Int} {af : Bool} {qs : List Pt} {R f t n : Int} {zs : List Int} {j : Nat} (h : ShiftI x af qs R f t j) (hp : qs[j]? = some ⟨2, n, zs⟩) (hx : f = x ∧ af = false) : R = t := by
  obtain ⟨_, _, _, _, h5⟩ := h
  rw [drop_cons_at hp] at h5
  simp only [shiftGo, ↓reduceIte, Int.reduceEq] at h5
  rw [if_pos hx] at h5
  exact h5.symm
theorem ShiftI.p2 {x : Int} {af : Bool} {qs : List Pt} {R f t n : Int} {zs : List Int} {j : Nat} (h : ShiftI x af qs R f t j) (hp : qs[j]? = some ⟨2, n, zs⟩) (hx : ¬ (f = x ∧ af = false)) : ShiftI x af qs R f (t + (zs.length : Int)) (j + 1) := by
  obtain ⟨h1, h2, h3, h4, h5⟩ := h
  rw [drop_cons_at hp] at h4 h5
  simp only [shiftGo, keepS, putS, ↓reduceIte, Int.reduceEq] at h4 h5
  rw [if_neg hx] at h5
  exact ⟨by omega, by omega, by omega, by omega, h5⟩
theorem ShiftI.d1 {x : Int} {af : Bool} {qs : List Pt} {R f t n : Int} {zs : List Int} {j : Nat} (h : ShiftI x af qs R f t j) (hp : qs[j]? = some ⟨3, n, zs⟩) (hx : x < f + n) : R = t := by
  obtain ⟨_, _, _, _, h5⟩ := h
  rw [drop_cons_at hp] at h5
  simp only [shiftGo, ↓reduceIte, Int.reduceEq] at h5
  rw [if_pos hx] at h5
  exact h5.symm
theorem ShiftI.d2 {x : Int} {af : Bool} {qs : List Pt} {R f t n : Int} {zs : List Int} {j : Nat} (h : ShiftI x af qs R f t j) (hp : qs[j]? = some ⟨3, n, zs⟩) (hn : 0 ≤ n) (hx : ¬ x < f + n) : ShiftI x af qs R (f + n) t (j + 1) := by
  obtain ⟨h1, h2, h3, h4, h5⟩ := h
  rw [drop_cons_at hp] at h4 h5
  simp only [shiftGo, keepS, putS, ↓reduceIte, Int.reduceEq] at h4 h5
  rw [if_neg hx] at h5
  exact ⟨by omega, by omega, by omega, by omega, h5⟩
theorem ShiftI.all {x : Int} {af : Bool} {qs : List Pt} {R f t : Int} {j : Nat} (h : ShiftI x af qs R f t j) (hj : qs.length ≤ j) : R = t := by
  obtain ⟨_, _, _, _, h5⟩ := h
  rw [List.drop_eq_nil_of_le hj] at h5
  simpa [shiftGo] using h5.symm
theorem ShiftI.start {x : Int} {af : Bool} {ps : List Pt} (ho : okOp ps = true) (hx : 0 ≤ x) : ShiftI x af (normL ps) (shiftGo x af (normL ps) 0 0) 0 0 0 := by
  obtain ⟨n1, _⟩ := norm_ok ho
  obtain ⟨o1, _, _, o4, _⟩ := okOp_of n1
  exact ⟨by omega, hx, by omega, by rw [List.drop_zero, keepS_eq, putS_eq]; omega, rfl⟩
theorem ret_nb {n m : Int} {ok : Bool} (h : n = m) : Ending.returned (.tuple #[.int .i64 n, .bool ok]) = .returned (.tuple #[.int .i64 m, .bool ok]) := by rw [h]

set_option maxRecDepth 100000 in
set_option maxHeartbeats 3200000 in
theorem specShift_d (v : Value) (ps : List Pt) (x : Int) (af : Bool) (w : World) (h : RdC w w.heap.size (encPs ps) v) (hs : SmP ps) : Calls Try.prog 29 #[v, .int .i64 x, .bool af] w (NumB (shiftT ps x af) (shiftB ps x) w) := by
  obtain ⟨A, c, rfl, hra, _⟩ := parts_rd h
  have hl := hs.1
  cases hoa : okOp ps
  · have HN := Lib.hid (show shiftB ps x = false ∧ shiftT ps x af = 0 by have e : shiftB ps x = false := by { unfold shiftB; rw [hoa]; rfl }; exact ⟨e, by unfold shiftT; rw [e]; rfl⟩)
    go_enter Try.func29, Try.ntmps29
    go_wp2_with fail
    refine (specOpOk_any A c ps _ hra (by omega) hs.all4).mono ?_
    rintro e w1 ⟨rfl, b1⟩
    rw [hoa]
    go_wp2
    go_ret2
    rw [HN.out.1, HN.out.2]
    exact ⟨rfl, b1⟩
  cases hin : inB x 0 (sumK ps + sumD ps)
  · have HN := Lib.hid (show shiftB ps x = false ∧ shiftT ps x af = 0 by have e : shiftB ps x = false := by { unfold shiftB; rw [hoa, hin]; rfl }; exact ⟨e, by unfold shiftT; rw [e]; rfl⟩)
    go_enter Try.func29, Try.ntmps29
    go_wp2_with fail
    refine (specOpOk_any A c ps _ hra (by omega) hs.all4).mono ?_
    rintro e w1 ⟨rfl, b1⟩
    rw [hoa]
    go_wp2_with fail
    refine (specOpFrom_any A c ps _ (hra.past b1) (by omega) hs.all4).mono ?_
    rintro e w2 ⟨rfl, b2⟩
    have d2 := b1.trans (b2.mono b1.size)
    go_wp2_with fail
    refine (in_any _ _ _ _).mono ?_
    rintro e w3 ⟨rfl, rfl⟩
    rw [hin]
    go_wp2
    go_ret2
    rw [HN.out.1, HN.out.2]
    exact ⟨rfl, d2⟩
  · have hx0 : 0 ≤ x := by have := of_decide_eq_true hin; omega
    have hx1 : x ≤ 200 := by
      have h1 := of_decide_eq_true hin
      obtain ⟨_, _, o3, _⟩ := okOp_of hoa
      obtain ⟨t1, _, t3⟩ := sum_t (okOp_partsB hoa)
      omega
    have HN := Lib.hid (show shiftB ps x = true ∧ shiftT ps x af = shiftGo x af (normL ps) 0 0 by have e : shiftB ps x = true := by { unfold shiftB; rw [hoa, hin]; rfl }; exact ⟨e, by unfold shiftT; rw [e]; rfl⟩)
    have HI0 := Lib.hid (ShiftI.start (x := x) (af := af) hoa hx0)
    have HOK := Lib.hid (okOp_of (norm_ok hoa).1)
    go_enter Try.func29, Try.ntmps29
    go_wp2_with fail
    refine (specOpOk_any A c ps _ hra (by omega) hs.all4).mono ?_
    rintro e w1 ⟨rfl, b1⟩
    rw [hoa]
    go_wp2_with fail
    refine (specOpFrom_any A c ps _ (hra.past b1) (by omega) hs.all4).mono ?_
    rintro e w2 ⟨rfl, b2⟩
    have d2 := b1.trans (b2.mono b1.size)
    clear b1 b2
    go_wp2_with fail
    refine (in_any _ _ _ _).mono ?_
    rintro e w3 ⟨rfl, rfl⟩
    rw [hin]
    clear hin
    go_wp2_with fail
    refine (specOpNorm_d _ ps w2 (h.past d2) hs).mono ?_
    rintro e w3 ⟨v3, rfl, o3, b3⟩
    have d3 := d2.trans (b3.mono d2.size)
    have hrd := o3.read
    clear o3 b3 d2 hoa
    generalize normL ps = qs at *
    obtain ⟨Q, cq, rfl, hq, _⟩ := parts_rd hrd
    clear hrd
    have hql : qs.length ≤ 600 := HOK.out.2.1
    go_wp2
    go_loopw [8, 9, 25] (fun fv tv i wr => ∃ (j : Nat) (f t : Int), j ≤ qs.length ∧ i = .int .i64 j ∧ fv = .int .i64 f ∧ tv = .int .i64 t ∧ ShiftI x af qs (shiftGo x af qs 0 0) f t j ∧ Below w3.heap.size w3 wr) (fun _ _ i _ => qs.length - (intOf i).toNat)
    case atStart => exact ⟨0, 0, 0, Nat.zero_le _, rfl, rfl, rfl, HI0.out, Below.refl _ _⟩
    case round =>
      obtain ⟨j, f, t, hj, rfl, rfl, rfl, hi, hbel⟩ := hrel
      clear HI0
      obtain ⟨hf0, hf1, ht0, ht1⟩ := hi.bd HOK.out.1
      have HI := Lib.hid hi
      clear hi
      by_cases hlt : j < qs.length
      · obtain ⟨b, off, p, rfl, hb, hp, hc⟩ := hq.at_ hlt
        obtain ⟨x0, x1, A1, e1, x2, r1⟩ := hc.keep (w' := wr) hb (fun _ hq => hbel.cell hq)
        have hok := of_okPt (okPs_mem' HOK.out.1 (List.mem_of_getElem? hp))
        obtain ⟨pk, pn, pz⟩ := p
        simp only at x0 x1 x2 hok r1
        have HP := Lib.hid hp
        clear hp hc
        have hb1 := hbel.trans ((alloc_below wr (.cells #[.int .i64 pk, .int .i64 pn, .slice A1 pz.length e1] 80)).mono hbel.size)
        rcases (show pk = 1 ∨ pk = 2 ∨ pk = 3 by omega) with rfl | rfl | rfl
        · have hn1 : 0 ≤ pn := by omega
          have hn2 : pn ≤ 200 := by omega
          clear hok
          by_cases hx : x < f + pn
          · go_wp2
            go_ret2
            rw [HN.out.1, HN.out.2]
            exact ⟨ret_nb (HI.out.k1 HP.out hx).symm, d3.trans (hb1.mono d3.size)⟩
          · have HI2 := Lib.hid (HI.out.k2 HP.out hn1 hx)
            go_wp2
            go_roundw
            case rel => exact ⟨j + 1, f + pn, t + pn, by omega, by go_num, rfl, rfl, HI2.out, hb1⟩
            case measure => simp [intOf]; omega
        · have hn3 : pz.length ≤ 200 := by omega
          clear hok
          by_cases hx : f = x
          · have g1 : (f == x) = true := by simp [hx]
            cases haf : af
            · have HR := Lib.hid (HI.out.p1 HP.out ⟨hx, haf⟩)
              subst haf
              clear hx
              go_wp2
              go_ret2
              rw [HN.out.1, HN.out.2]
              exact ⟨ret_nb HR.out.symm, d3.trans (hb1.mono d3.size)⟩
            · have HI2 := Lib.hid (HI.out.p2 HP.out (by rw [haf]; simp))
              subst haf
              clear hx
              go_wp2
              go_roundw
              case rel => exact ⟨j + 1, f, t + (pz.length : Int), by omega, by go_num, rfl, rfl, HI2.out, hb1⟩
              case measure => simp [intOf]; omega
          · have g1 : (f == x) = false := by simp [hx]
            have HI2 := Lib.hid (HI.out.p2 HP.out (fun h => hx h.1))
            clear hx
            go_wp2
            go_roundw
            case rel => exact ⟨j + 1, f, t + (pz.length : Int), by omega, by go_num, rfl, rfl, HI2.out, hb1⟩
            case measure => simp [intOf]; omega
        · have hn1 : 0 ≤ pn := by omega
          have hn2 : pn ≤ 200 := by omega
          clear hok
          by_cases hx : x < f + pn
          · go_wp2
            go_ret2
            rw [HN.out.1, HN.out.2]
            exact ⟨ret_nb (HI.out.d1 HP.out hx).symm, d3.trans (hb1.mono d3.size)⟩
          · have HI2 := Lib.hid (HI.out.d2 HP.out hn1 hx)
            go_wp2
            go_roundw
            case rel => exact ⟨j + 1, f + pn, t, by omega, by go_num, rfl, rfl, HI2.out, hb1⟩
            case measure => simp [intOf]; omega
      · have HR := Lib.hid (HI.out.all (by omega))
        go_wp2
        go_ret2
        rw [HN.out.1, HN.out.2]
        exact ⟨ret_nb HR.out.symm, d3.trans (hbel.mono d3.size)⟩

theorem back_step {L : List Pt} {y : Int} {k : Nat} : backGo L y (k + 1) = if shiftGo ((k : Int) + 1) false L 0 0 ≤ y then (k : Int) + 1 else backGo L y k := rfl
set_option maxRecDepth 100000 in
set_option maxHeartbeats 3200000 in
theorem specBack_d (v : Value) (ps : List Pt) (y : Int) (w : World) (h : RdC w w.heap.size (encPs ps) v) (hs : SmP ps) : Calls Try.prog 32 #[v, .int .i64 y] w (NumB (backT ps y) (backB ps y) w) := by
  obtain ⟨A, c, rfl, hra, _⟩ := parts_rd h
  have hl := hs.1
  cases hoa : okOp ps
  · have HN := Lib.hid (show backB ps y = false ∧ backT ps y = 0 by have e : backB ps y = false := by { unfold backB; rw [hoa]; rfl }; exact ⟨e, by unfold backT; rw [e]; rfl⟩)
    go_enter Try.func32, Try.ntmps32
    go_wp2_with fail
    refine (specOpOk_any A c ps _ hra (by omega) hs.all4).mono ?_
    rintro e w1 ⟨rfl, b1⟩
    rw [hoa]
    go_wp2
    go_ret2
    rw [HN.out.1, HN.out.2]
    exact ⟨rfl, b1⟩
  cases hin : inB y 0 (sumK ps + sumP ps)
  · have HN := Lib.hid (show backB ps y = false ∧ backT ps y = 0 by have e : backB ps y = false := by { unfold backB; rw [hoa, hin]; rfl }; exact ⟨e, by unfold backT; rw [e]; rfl⟩)
    go_enter Try.func32, Try.ntmps32
    go_wp2_with fail
    refine (specOpOk_any A c ps _ hra (by omega) hs.all4).mono ?_
    rintro e w1 ⟨rfl, b1⟩
    rw [hoa]
    go_wp2_with fail
    refine (specOpTo_any A c ps _ (hra.past b1) (by omega) hs.all4).mono ?_
    rintro e w2 ⟨rfl, b2⟩
    have d2 := b1.trans (b2.mono b1.size)
    go_wp2_with fail
    refine (in_any _ _ _ _).mono ?_
    rintro e w3 ⟨rfl, rfl⟩
    rw [hin]
    go_wp2
    go_ret2
    rw [HN.out.1, HN.out.2]
    exact ⟨rfl, d2⟩
  · have HN := Lib.hid (show backB ps y = true ∧ backT ps y = backGo (normL ps) y (sumK ps + sumD ps).toNat by have e : backB ps y = true := by { unfold backB; rw [hoa, hin]; rfl }; exact ⟨e, by unfold backT; rw [e]; rfl⟩)
    have hK : 0 ≤ sumK ps + sumD ps ∧ sumK ps + sumD ps ≤ 200 := by
      obtain ⟨_, _, o3, _, o5, _, o7⟩ := okOp_of hoa
      obtain ⟨t1, _, t3⟩ := sum_t (okOp_partsB hoa)
      omega
    have HSH := Lib.hid (show ∀ k : Nat, (k : Int) ≤ sumK ps + sumD ps → shiftB ps (k : Int) = true ∧ shiftT ps (k : Int) false = shiftGo (k : Int) false (normL ps) 0 0 from fun k hk => by
      have e : shiftB ps (k : Int) = true := by unfold shiftB inB; rw [hoa]; simp; omega
      exact ⟨e, by unfold shiftT; rw [e]; rfl⟩)
    go_enter Try.func32, Try.ntmps32
    go_wp2_with fail
    refine (specOpOk_any A c ps _ hra (by omega) hs.all4).mono ?_
    rintro e w1 ⟨rfl, b1⟩
    rw [hoa]
    go_wp2_with fail
    refine (specOpTo_any A c ps _ (hra.past b1) (by omega) hs.all4).mono ?_
    rintro e w2 ⟨rfl, b2⟩
    have d2 := b1.trans (b2.mono b1.size)
    clear b1 b2
    go_wp2_with fail
    refine (in_any _ _ _ _).mono ?_
    rintro e w3 ⟨rfl, rfl⟩
    rw [hin]
    clear hin hoa
    go_wp2_with fail
    refine (specOpFrom_any A c ps _ (hra.past d2) (by omega) hs.all4).mono ?_
    rintro e w3 ⟨rfl, b3⟩
    have d3 := d2.trans (b3.mono d2.size)
    clear b3 d2
    obtain ⟨K, hKe⟩ := Int.eq_ofNat_of_zero_le hK.1
    have HKE := Lib.hid hKe
    have hK2 : K ≤ 200 := by omega
    rw [hKe]
    clear hKe hK
    go_wp2
    go_loopw [6] (fun o wr => ∃ k : Nat, k ≤ K ∧ o = .int .i64 k ∧ backGo (normL ps) y K = backGo (normL ps) y k ∧ Below w.heap.size w wr) (fun o _ => (intOf o).toNat)
    case atStart => exact ⟨K, Nat.le_refl _, rfl, rfl, d3⟩
    case round =>
      obtain ⟨k, hk, rfl, hg, hbel⟩ := hrel
      have HG := Lib.hid hg
      clear hg
      cases k with
      | zero =>
        go_wp2
        go_ret2
        rw [HN.out.1, HN.out.2]
        exact ⟨ret_nb (by rw [HKE.out]; simp only [Int.toNat_natCast]; rw [HG.out]; rfl), hbel⟩
      | succ k =>
        obtain ⟨s1, s2⟩ := HSH.out (k + 1) (by rw [HKE.out]; omega)
        have S12 := Lib.hid (show shiftB ps ((k : Int) + 1) = true ∧ shiftT ps ((k : Int) + 1) false = shiftGo ((k : Int) + 1) false (normL ps) 0 0 from by push_cast at s1 s2; exact ⟨s1, s2⟩)
        have HG2 := Lib.hid (back_step (L := normL ps) (y := y) (k := k))
        clear s1 s2
        go_wp2_with fail
        refine (specShift_d _ ps _ false _ (h.past hbel) hs).mono ?_
        rintro e w4 ⟨rfl, b4⟩
        have hb4 := hbel.trans (b4.mono hbel.size)
        rw [S12.out.1, S12.out.2]
        generalize shiftGo ((k : Int) + 1) false (normL ps) 0 0 = z at *
        clear b4
        by_cases hz : z ≤ y
        · have HG3 := Lib.hid (show backGo (normL ps) y (k + 1) = (k : Int) + 1 by rw [HG2.out, if_pos hz])
          go_wp2
          go_ret2
          rw [HN.out.1, HN.out.2]
          exact ⟨ret_nb (by rw [HKE.out]; simp only [Int.toNat_natCast]; rw [HG.out, HG3.out]), hb4⟩
        · have HG3 := Lib.hid (show backGo (normL ps) y (k + 1) = backGo (normL ps) y k by rw [HG2.out, if_neg hz])
          go_wp2
          go_roundw
          case rel => exact ⟨k, by omega, by go_num, by rw [HG.out, HG3.out], hb4⟩
          case measure => simp [intOf]
end Go.Proofs.Ytmlkeflnnaabeaa.low


/-
  The operation between two texts: the functions on lists, and the contract of spec.Between.
-/
namespace Go.Proofs.Ytmlkeflnnaabeaa.low
open Go.RowKit
set_option linter.unusedVariables false

/-- how long the longest common prefix is -/
def cpl : List Int → List Int → Nat
  | x :: a, y :: b => if x = y then cpl a b + 1 else 0
  | _, _ => 0
theorem cpl_le : ∀ a b : List Int, cpl a b ≤ a.length ∧ cpl a b ≤ b.length
  | [], b => by simp [cpl]
  | _ :: _, [] => by simp [cpl]
  | x :: a, y :: b => by
    have := cpl_le a b
    unfold cpl
    split <;> simp <;> omega
/-- a common prefix of k that can't be made longer -/
theorem cpl_of : ∀ (k : Nat) (a b : List Int), (∀ i, i < k → ∃ x, a[i]? = some x ∧ b[i]? = some x) → (∀ x y, a[k]? = some x → b[k]? = some y → ¬ x = y) → cpl a b = k
  | 0, a, b, _, h => by
    cases a with
    | nil => simp [cpl]
    | cons x a =>
      cases b with
      | nil => simp [cpl]
      | cons y b =>
        have := h x y rfl rfl
        simp [cpl, this]
  | k + 1, a, b, h1, h2 => by
    obtain ⟨x, hx, hy⟩ := h1 0 (by omega)
    cases a with
    | nil => simp at hx
    | cons x' a =>
      cases b with
      | nil => simp at hy
      | cons y' b =>
        simp at hx hy
        subst hx; subst hy
        have := cpl_of k a b (fun i hi => by have := h1 (i + 1) (by omega); simpa using this) (fun x y hx hy => h2 x y (by simpa using hx) (by simpa using hy))
        simp [cpl, this]
/-- the common prefix, and the common suffix of what is behind it -/
def preN (a b : List Int) : Nat := cpl a b
def sufN (a b : List Int) : Nat := cpl (a.drop (preN a b)).reverse (b.drop (preN a b)).reverse
theorem suf_le (a b : List Int) : preN a b + sufN a b ≤ a.length ∧ preN a b + sufN a b ≤ b.length := by
  have h1 := cpl_le a b
  have h2 := cpl_le (a.drop (preN a b)).reverse (b.drop (preN a b)).reverse
  simp only [List.length_reverse, List.length_drop] at h2
  unfold sufN preN at *
  omega
/-- the parts that the builder is given -/
def betweenL (a b : List Int) : List Pt := [⟨1, (preN a b : Int), []⟩, ⟨2, 0, (b.drop (preN a b)).take (b.length - sufN a b - preN a b)⟩, ⟨3, ((a.length - sufN a b - preN a b : Nat) : Int), []⟩, ⟨1, (sufN a b : Int), []⟩]
def betweenT (a b : List Int) : List Pt := if (okText a && okText b) = true then doneN (foldN (betweenL a b)) else []
theorem okText_len {t : List Int} (h : okText t = true) : t.length ≤ 200 := by
  unfold okText at h
  rw [Bool.and_eq_true] at h
  exact of_decide_eq_true h.2
theorem between_sz {a b : List Int} (ha : a.length ≤ 200) (hb : b.length ≤ 200) : ∀ p ∈ betweenL a b, szP_ p := fun p hp => by
  have h1 := suf_le a b
  unfold betweenL at hp
  simp at hp
  rcases hp with rfl | rfl | rfl | rfl
  · exact ⟨.inl rfl, by simp, by simp; omega, by simp⟩
  · exact ⟨.inr (.inl rfl), by simp, by simp, by simp only [List.length_take, List.length_drop]; omega⟩
  · exact ⟨.inr (.inr rfl), by simp, by simp; omega, by simp⟩
  · exact ⟨.inl rfl, by simp, by simp; omega, by simp⟩
theorem between_small {a b : List Int} (h0 : SmI a) (h1 : SmI b) : SmP (betweenT a b) := by
  unfold betweenT
  split
  · rename_i h
    rw [Bool.and_eq_true] at h
    exact built_small (between_sz (okText_len h.1) (okText_len h.2)) (by simp [betweenL])
  · exact ⟨by simp, by simp [signsIn]⟩
/-- the element k from the end -/
theorem rev_at {l : List Int} {i k : Nat} (h : i + k < l.length) : (l.drop i).reverse[k]? = l[l.length - 1 - k]? := by
  rw [List.getElem?_reverse (by rw [List.length_drop]; omega), List.length_drop, List.getElem?_drop]
  congr 1
  omega
theorem pre_of {a b : List Int} {k : Nat} (h1 : ∀ i, i < k → ∃ x, a[i]? = some x ∧ b[i]? = some x) (h2 : ∀ x y, a[k]? = some x → b[k]? = some y → ¬ x = y) : preN a b = k := cpl_of k a b h1 h2
theorem suf_of {a b : List Int} {k : Nat} (hp : preN a b + k ≤ a.length) (hq : preN a b + k ≤ b.length) (h1 : ∀ i, i < k → ∃ x, a[a.length - 1 - i]? = some x ∧ b[b.length - 1 - i]? = some x)
    (h2 : preN a b + k < a.length → preN a b + k < b.length → ∀ x y, a[a.length - 1 - k]? = some x → b[b.length - 1 - k]? = some y → ¬ x = y) : sufN a b = k := by
  refine cpl_of k _ _ (fun i hi => ?_) (fun x y hx hy => ?_)
  · obtain ⟨x, hx, hy⟩ := h1 i hi
    exact ⟨x, by rw [rev_at (by omega)]; exact hx, by rw [rev_at (by omega)]; exact hy⟩
  · have l1 := idx_lt hx
    have l2 := idx_lt hy
    simp only [List.length_reverse, List.length_drop] at l1 l2
    rw [rev_at (by omega)] at hx hy
    exact h2 (by omega) (by omega) x y hx hy

theorem own_of_list {lo hi : Nat} {w : World} {v : Value} {b : List Nat} {L L' : List Pt} (h : OwB lo hi w (encPs (doneN (foldN L))) v b) (e : L = L') : Own lo hi w (encPs (doneN (foldN L'))) v := by
  subst e
  exact ⟨b, h.ow, h.nd, h.rng, h.top, h.le⟩

end Go.Proofs.Ytmlkeflnnaabeaa.low

