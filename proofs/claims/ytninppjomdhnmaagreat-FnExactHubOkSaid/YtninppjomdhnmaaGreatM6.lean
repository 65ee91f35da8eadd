/-
  Texts that the proofs over this seat rest on, one behind the other (6 of 6).
-/
import Derived.Test.YtninppjomdhnmaaGreatM5
import Derived.Test.YtninppjomdhnmaaGreatM4
import Derived.Laws.Cover1

/-
  Contracts of the program: documentsOk, subscribersOk, consistent and HubOk. Written by mkhub4.py.
-/
namespace Go.Proofs.YtninppjomdhnmaaGreat.low
open Go.RowKit
set_option linter.unusedVariables false

theorem inB_and {n lo hi : Int} : inB n lo hi = (decide (lo ≤ n) && decide (n ≤ hi)) := by
  unfold inB
  rw [Bool.eq_iff_iff]
  simp
theorem bl_total : ∀ x y : List UInt8, (Op.bytesLess x y || x == y) = !(Op.bytesLess y x)
  | [], [] => rfl
  | [], _ :: _ => rfl
  | _ :: _, [] => rfl
  | a :: x, b :: y => by
    have ih := bl_total x y
    show ((decide (a < b) || (a == b && Op.bytesLess x y)) || (a == b && x == y)) = !(decide (b < a) || (b == a && Op.bytesLess y x))
    by_cases h : a = b
    · subst h
      have h0 : ¬ a < a := Nat.lt_irrefl _
      rw [decide_eq_false h0, beq_self_eq_true, Bool.true_and, Bool.true_and, Bool.true_and, Bool.false_or, Bool.false_or]
      exact ih
    · have e1 : (a == b) = false := beq_eq_false_iff_ne.2 h
      have e2 : (b == a) = false := beq_eq_false_iff_ne.2 (Ne.symm h)
      rw [e1, e2, Bool.false_and, Bool.false_and, Bool.false_and, Bool.or_false, Bool.or_false, Bool.or_false]
      rcases Nat.lt_or_gt_of_ne (fun e => h (UInt8.toNat_inj.1 e)) with h1 | h1
      · have h2 : a < b := h1
        have h3 : ¬ b < a := fun h4 => Nat.lt_asymm h1 h4
        rw [decide_eq_true h2, decide_eq_false h3]
        rfl
      · have h2 : b < a := h1
        have h3 : ¬ a < b := fun h4 => Nat.lt_asymm h1 h4
        rw [decide_eq_true h2, decide_eq_false h3]
        rfl
/-- the subscribers by themselves, behind one of the number p -/
def subsI (last : Int) : Int → List Su → Bool
  | _, [] => true
  | p, s :: l => decide (p < s.id) && (decide (s.id ≤ last) && (ringB (ringSu s) && subsI last s.id l))
theorem subsI_step {last p : Int} {l : List Su} {j : Nat} {s : Su} (h : l[j]? = some s) : subsI last p (l.drop j) = (decide (p < s.id) && (decide (s.id ≤ last) && (ringB (ringSu s) && subsI last (idAt l (j + 1)) (l.drop (j + 1))))) := by
  obtain ⟨h1, e1⟩ := List.getElem?_eq_some_iff.1 h
  rw [List.drop_eq_getElem_cons h1, e1]
  show _ = (_ && (_ && (_ && subsI last (((l[j]?).map (·.id)).getD 0) _)))
  rw [h]
  rfl
theorem subs_eq {docs : List Do} {last : Int} : ∀ {l : List Su} {p : Int}, 0 ≤ p → subsB docs last p l = (subsI last p l && l.all (fitB docs))
  | [], _, _ => rfl
  | s :: l, p, hp => by
    show (inB s.id 1 last && (ringB (ringSu s) && (fitB docs s && (decide (p < s.id) && subsB docs last s.id l)))) = ((decide (p < s.id) && (decide (s.id ≤ last) && (ringB (ringSu s) && subsI last s.id l))) && (fitB docs s && l.all (fitB docs)))
    by_cases h1 : p < s.id
    · have h2 : inB s.id 1 last = decide (s.id ≤ last) := by
        rw [inB_and, decide_eq_true (show (1 : Int) ≤ s.id by omega), Bool.true_and]
      rw [subs_eq (l := l) (p := s.id) (by omega), h2, decide_eq_true h1]
      cases decide (s.id ≤ last) <;> cases ringB (ringSu s) <;> cases fitB docs s <;> cases subsI last s.id l <;> simp
    · rw [decide_eq_false h1]
      simp
theorem subsI_ring : ∀ {last p : Int} {l : List Su}, subsI last p l = true → ∀ {j : Nat} {s : Su}, l[j]? = some s → ringB (ringSu s) = true
  | _, _, [], _, j, s, h => by simp at h
  | last, p, y :: l, hb, 0, s, h => by
    obtain rfl : y = s := by simpa using h
    unfold subsI at hb
    rw [Bool.and_eq_true, Bool.and_eq_true, Bool.and_eq_true] at hb
    exact hb.2.2.1
  | last, p, y :: l, hb, j + 1, s, h => by
    unfold subsI at hb
    rw [Bool.and_eq_true, Bool.and_eq_true, Bool.and_eq_true] at hb
    exact subsI_ring (l := l) hb.2.2.2 (j := j) (by simpa using h)
set_option maxRecDepth 100000 in
set_option maxHeartbeats 3200000 in
theorem docsOk_any (v : Value) (l : List Do) (g : Nat) (w : World) (h : RdC w w.heap.size (encDos l) v) (hs : SmDos l) (hg : g < w.heap.size) (hc : w.cell? ⟨g, 0, none⟩ = some v) : Calls Tryz.prog 48 #[.pointer (some ⟨g, 0, none⟩)] w (Tells (decide (l.length ≤ 5) && docsB none l) w) := by
  obtain ⟨A, c, rfl⟩ := sliceDos h
  have hl := hs.len
  have HR := Lib.hid h
  have HC0 := Lib.hid hc
  have HG := Lib.hid hg
  clear h
  by_cases e0 : l.length ≤ 5
  rotate_left
  · have g0 : decide ((5 : Int) < (l.length : Int)) = true := decide_eq_true (by omega)
    rw [decide_eq_false e0]
    clear e0
    go_enter Tryz.func48, Tryz.ntmps48
    go_wp2
    go_ret
    exact ⟨rfl, Below.refl _ _⟩
  have g0 : decide ((5 : Int) < (l.length : Int)) = false := decide_eq_false (by omega)
  rw [decide_eq_true e0, Bool.true_and]
  clear e0
  have HM := Lib.hid (Ms.start w)
  go_enter Tryz.func48, Tryz.ntmps48
  go_wp2
  clear hc hg g0
  go_loopw [16] (fun i wr => ∃ j : Nat, j ≤ l.length ∧ i = .int .i64 (j : Int) ∧ docsB none l = docsB (nameAt l j) (l.drop j) ∧ Ms w [] wr) (fun i _ => l.length - (intOf i).toNat)
  case atStart => exact ⟨0, Nat.zero_le _, rfl, by simp [nameAt], HM.out⟩
  case round =>
    obtain ⟨j, hj, rfl, hi, hm⟩ := hrel
    clear HM
    have HM := Lib.hid hm
    have HI := Lib.hid hi
    clear hm hi
    by_cases hlt : j < l.length
    · obtain ⟨b, off, e, C2, c2, C3, c3, C4, c4, rfl, hbb, hp, y0, y1, y2, y3, y4, q2, q3, q4⟩ := atDos HR.out hlt
      have x0 := (HM.out.bl.cell (p := ⟨b, off + j * 5, none⟩) hbb).trans y0
      have x1 := (HM.out.bl.cell (p := ⟨b, off + j * 5 + 1, none⟩) hbb).trans y1
      have x2 := (HM.out.bl.cell (p := ⟨b, off + j * 5 + 2, none⟩) hbb).trans y2
      have x3 := (HM.out.bl.cell (p := ⟨b, off + j * 5 + 3, none⟩) hbb).trans y3
      have x4 := (HM.out.bl.cell (p := ⟨b, off + j * 5 + 4, none⟩) hbb).trans y4
      clear y0 y1 y2 y3 y4
      have hse := hs.at_ (List.mem_of_getElem? hp)
      have HS := Lib.hid (docsB_step (p := nameAt l j) hp)
      clear hp
      have Q2h := Lib.hid q2
      clear q2
      have Q3h := Lib.hid q3
      clear q3
      have Q4h := Lib.hid q4
      clear q4
      replace HM := Lib.hid (HM.out.new #[.string e.name, .int .i64 e.from_, .slice C2 e.text.length c2, .slice C3 e.list.length c3, .slice C4 e.seen.length c4] 31)
      go_wp2
      clear x0 x1 x2 x3 x4
      obtain ⟨W1, hW, hm⟩ := HM.out.name
      rw [← hW]
      replace HM := Lib.hid hm
      clear hm hW
      rcases (show docB e = false ∨ docB e = true by cases docB e <;> simp) with h1 | h1
      · have HE := Lib.hid (show docsB none l = false by rw [HI.out, HS.out, h1]; rfl)
        replace h1 := Lib.hid h1
        replace HM := Lib.hid (HM.out.drew)
        refine wp_region_held_drew (S := fun W => Ms w [.bx wr.heap.size (.cells #[.string e.name, .int .i64 e.from_, .slice C2 e.text.length c2, .slice C3 e.list.length c3, .slice C4 e.seen.length c4] 31 (0, 0))] W) (by kernel_rfl) (HM.out.pick (ks := [0]) (by decide) rfl) (fun hS => ?_)
        generalize W1.drew = W2 at HM hS  ⊢
        refine tk (v := ?_) 0 21 rfl (fun w' hS' => ?_) hS ?_
        rotate_left
        · (try dsimp only at hS'); have q0 := hS'.cell (i := 0) (j := 0) rfl rfl; have q1 := hS'.cell (i := 0) (j := 1) rfl rfl; have q2 := hS'.cell (i := 0) (j := 2) rfl rfl; have q3 := hS'.cell (i := 0) (j := 3) rfl rfl; have q4 := hS'.cell (i := 0) (j := 4) rfl rfl; have c0 := (hS'.bl.cell (p := ⟨g, 0, none⟩) HG.out).trans HC0.out; go_simp; all_goals (with_reducible rfl)
        try simp only [Act.put, pa, pb, pc]
        refine r1 1 (some 22) rfl (fun K hK => ?_)
        go_simp
        refine (implDocOk_d _ e _ (rdDo e (HM.out.arg Q2h.out) (HM.out.arg Q3h.out) (HM.out.arg Q4h.out)) hse).mono ?_
        rw [h1.out]
        rintro e' W3 ⟨rfl, b'⟩
        replace HM := Lib.hid (HM.out.past b')
        clear b'
        clear hS
        refine hK.out _ _ (HM.out.pick (ks := [0]) (by decide) rfl) (fun hS => ?_)
        clear hK K
        try simp only [Act.put, pa, pb, pc]
        refine tk (v := ?_) 2 23 rfl (fun w' hS' => ?_) hS ?_
        rotate_left
        · go_simp; all_goals (with_reducible rfl)
        try simp only [Act.put, pa, pb, pc]
        refine tk (v := ?_) 3 24 rfl (fun w' hS' => ?_) hS ?_
        rotate_left
        · go_simp; all_goals (with_reducible rfl)
        try simp only [Act.put, pa, pb, pc]
        refine tu 4 25 rfl hS ?_
        try simp only [Act.put, pa, pb, pc]
        refine tu 5 26 rfl hS ?_
        try simp only [Act.put, pa, pb, pc]
        refine tu 6 27 rfl hS ?_
        try simp only [Act.put, pa, pb, pc]
        refine tu 7 28 rfl hS ?_
        try simp only [Act.put, pa, pb, pc]
        refine tu 8 29 rfl hS ?_
        try simp only [Act.put, pa, pb, pc]
        refine tu 9 30 rfl hS ?_
        try simp only [Act.put, pa, pb, pc]
        refine tu 10 31 rfl hS ?_
        try simp only [Act.put, pa, pb, pc]
        refine tu 11 32 rfl hS ?_
        try simp only [Act.put, pa, pb, pc]
        refine tu 12 33 rfl hS ?_
        try simp only [Act.put, pa, pb, pc]
        refine tu 13 34 rfl hS ?_
        try simp only [Act.put, pa, pb, pc]
        refine tu 14 35 rfl hS ?_
        try simp only [Act.put, pa, pb, pc]
        refine tu 15 36 rfl hS ?_
        try simp only [Act.put, pa, pb, pc]
        refine tu 16 37 rfl hS ?_
        try simp only [Act.put, pa, pb, pc]
        refine tu 17 38 rfl hS ?_
        try simp only [Act.put, pa, pb, pc]
        refine tu 18 39 rfl hS ?_
        try simp only [Act.put, pa, pb, pc]
        refine tu 19 40 rfl hS ?_
        try simp only [Act.put, pa, pb, pc]
        refine tk (v := ?_) 20 41 rfl (fun w' hS' => ?_) hS ?_
        rotate_left
        · go_simp; all_goals (with_reducible rfl)
        try simp only [Act.put, pa, pb, pc]
        refine wpAnyH_done (by kernel_rfl) ?_ _
        clear hS
        go_wp2
        go_ret
        exact ⟨ret_b HE.out.symm, HM.out.bl⟩
      replace h1 := Lib.hid h1
      by_cases h2 : j = 0
      · have g2 : decide (0 < j) = false := decide_eq_false (by omega)
        have HN := Lib.hid (show nameAt l j = none by rw [h2]; rfl)
        clear h2
        have HJ := Lib.hid (show docsB none l = docsB (nameAt l (j + 1)) (l.drop (j + 1)) by rw [HI.out, HS.out, h1.out, HN.out, Bool.true_and, Bool.true_and])
        replace HM := Lib.hid (HM.out.drew)
        refine wp_region_held_drew (S := fun W => Ms w [.bx wr.heap.size (.cells #[.string e.name, .int .i64 e.from_, .slice C2 e.text.length c2, .slice C3 e.list.length c3, .slice C4 e.seen.length c4] 31 (0, 0))] W) (by kernel_rfl) (HM.out.pick (ks := [0]) (by decide) rfl) (fun hS => ?_)
        generalize W1.drew = W4 at HM hS  ⊢
        refine tk (v := ?_) 0 21 rfl (fun w' hS' => ?_) hS ?_
        rotate_left
        · (try dsimp only at hS'); have q0 := hS'.cell (i := 0) (j := 0) rfl rfl; have q1 := hS'.cell (i := 0) (j := 1) rfl rfl; have q2 := hS'.cell (i := 0) (j := 2) rfl rfl; have q3 := hS'.cell (i := 0) (j := 3) rfl rfl; have q4 := hS'.cell (i := 0) (j := 4) rfl rfl; have c0 := (hS'.bl.cell (p := ⟨g, 0, none⟩) HG.out).trans HC0.out; go_simp; all_goals (with_reducible rfl)
        try simp only [Act.put, pa, pb, pc]
        refine r1 1 (some 22) rfl (fun K hK => ?_)
        go_simp
        refine (implDocOk_d _ e _ (rdDo e (HM.out.arg Q2h.out) (HM.out.arg Q3h.out) (HM.out.arg Q4h.out)) hse).mono ?_
        rw [h1.out]
        rintro e' W5 ⟨rfl, b'⟩
        replace HM := Lib.hid (HM.out.past b')
        clear b'
        clear hS
        refine hK.out _ _ (HM.out.pick (ks := [0]) (by decide) rfl) (fun hS => ?_)
        clear hK K
        try simp only [Act.put, pa, pb, pc]
        refine tk (v := ?_) 2 23 rfl (fun w' hS' => ?_) hS ?_
        rotate_left
        · go_simp; all_goals (with_reducible rfl)
        try simp only [Act.put, pa, pb, pc]
        refine tk (v := ?_) 3 24 rfl (fun w' hS' => ?_) hS ?_
        rotate_left
        · go_simp; all_goals (with_reducible rfl)
        try simp only [Act.put, pa, pb, pc]
        refine tk (v := ?_) 4 25 rfl (fun w' hS' => ?_) hS ?_
        rotate_left
        · go_simp; all_goals (with_reducible rfl)
        try simp only [Act.put, pa, pb, pc]
        refine tk (v := ?_) 5 26 rfl (fun w' hS' => ?_) hS ?_
        rotate_left
        · go_simp; all_goals (with_reducible rfl)
        try simp only [Act.put, pa, pb, pc]
        try rw [g2]
        refine tk (v := ?_) 6 27 rfl (fun w' hS' => ?_) hS ?_
        rotate_left
        · go_simp; all_goals (with_reducible rfl)
        try simp only [Act.put, pa, pb, pc]
        refine tu 7 28 rfl hS ?_
        try simp only [Act.put, pa, pb, pc]
        refine tu 8 29 rfl hS ?_
        try simp only [Act.put, pa, pb, pc]
        refine tu 9 30 rfl hS ?_
        try simp only [Act.put, pa, pb, pc]
        refine tu 10 31 rfl hS ?_
        try simp only [Act.put, pa, pb, pc]
        refine tu 11 32 rfl hS ?_
        try simp only [Act.put, pa, pb, pc]
        refine tu 12 33 rfl hS ?_
        try simp only [Act.put, pa, pb, pc]
        refine tu 13 34 rfl hS ?_
        try simp only [Act.put, pa, pb, pc]
        refine tu 14 35 rfl hS ?_
        try simp only [Act.put, pa, pb, pc]
        refine tu 15 36 rfl hS ?_
        try simp only [Act.put, pa, pb, pc]
        refine tu 16 37 rfl hS ?_
        try simp only [Act.put, pa, pb, pc]
        refine tu 17 38 rfl hS ?_
        try simp only [Act.put, pa, pb, pc]
        refine tu 18 39 rfl hS ?_
        try simp only [Act.put, pa, pb, pc]
        refine tk (v := ?_) 19 40 rfl (fun w' hS' => ?_) hS ?_
        rotate_left
        · go_simp; all_goals (with_reducible rfl)
        try simp only [Act.put, pa, pb, pc]
        refine tk (v := ?_) 20 41 rfl (fun w' hS' => ?_) hS ?_
        rotate_left
        · go_simp; all_goals (with_reducible rfl)
        try simp only [Act.put, pa, pb, pc]
        refine wpAnyH_done (by kernel_rfl) ?_ _
        clear hS
        go_wp2
        go_roundw
        case rel => exact ⟨j + 1, by omega, by go_num, HJ.out, HM.out.pick (ks := []) (by decide) rfl⟩
        case measure => simp [intOf]; omega
      have g2 : decide (0 < j) = true := decide_eq_true (by omega)
      obtain ⟨q, hq⟩ : ∃ q, j = q + 1 := ⟨j - 1, by omega⟩
      obtain ⟨b2, off2, p, D2, d2, D3, d3, D4, d4, hA2, hb2, hp2, z0, z1, z2, z3, z4, -, -, -⟩ := atDos HR.out (i := q) (by omega)
      injection hA2 with hA2
      injection hA2 with hA3 hA4
      subst hA3 hA4
      have HN := Lib.hid (show nameAt l j = some p.name by rw [hq]; exact nameAt_of hp2)
      have hw : IntKind.i64.wrap (q : Int) = (q : Int) := IntWalk.i64_in _ (by omega)
      have hw0 : IntKind.i64.wrap ((j : Int) - 1) = (q : Int) := (IntWalk.i64_in _ (by omega)).trans (by omega)
      have hqj : q < l.length := by omega
      clear h2 hp2 z1 z2 z3 z4
      have HT := Lib.hid (bl_total e.name.toList p.name.toList)
      rcases (show ltSt p.name e.name = false ∨ ltSt p.name e.name = true by cases ltSt p.name e.name <;> simp) with h3 | h3
      · have HE := Lib.hid (show docsB none l = false by rw [HI.out, HS.out, h1.out, HN.out]; show (true && (ltSt p.name e.name && _)) = false; rw [h3]; rfl)
        have g3 : (Op.bytesLess e.name.toList p.name.toList || e.name.toList == p.name.toList) = true := by rw [HT.out, show Op.bytesLess p.name.toList e.name.toList = false from h3]; rfl
        clear h3
        replace HM := Lib.hid (HM.out.drew)
        refine wp_region_held_drew (S := fun W => Ms w [.bx wr.heap.size (.cells #[.string e.name, .int .i64 e.from_, .slice C2 e.text.length c2, .slice C3 e.list.length c3, .slice C4 e.seen.length c4] 31 (0, 0))] W) (by kernel_rfl) (HM.out.pick (ks := [0]) (by decide) rfl) (fun hS => ?_)
        generalize W1.drew = W6 at HM hS  ⊢
        refine tk (v := ?_) 0 21 rfl (fun w' hS' => ?_) hS ?_
        rotate_left
        · (try dsimp only at hS'); have q0 := hS'.cell (i := 0) (j := 0) rfl rfl; have q1 := hS'.cell (i := 0) (j := 1) rfl rfl; have q2 := hS'.cell (i := 0) (j := 2) rfl rfl; have q3 := hS'.cell (i := 0) (j := 3) rfl rfl; have q4 := hS'.cell (i := 0) (j := 4) rfl rfl; have c0 := (hS'.bl.cell (p := ⟨g, 0, none⟩) HG.out).trans HC0.out; have r0 := (hS'.bl.cell (p := ⟨b, off + q * 5, none⟩) hb2).trans z0; go_simp; all_goals (with_reducible rfl)
        try simp only [Act.put, pa, pb, pc]
        refine r1 1 (some 22) rfl (fun K hK => ?_)
        go_simp
        refine (implDocOk_d _ e _ (rdDo e (HM.out.arg Q2h.out) (HM.out.arg Q3h.out) (HM.out.arg Q4h.out)) hse).mono ?_
        rw [h1.out]
        rintro e' W7 ⟨rfl, b'⟩
        replace HM := Lib.hid (HM.out.past b')
        clear b'
        clear hS
        refine hK.out _ _ (HM.out.pick (ks := [0]) (by decide) rfl) (fun hS => ?_)
        clear hK K
        try simp only [Act.put, pa, pb, pc]
        refine tk (v := ?_) 2 23 rfl (fun w' hS' => ?_) hS ?_
        rotate_left
        · go_simp; all_goals (with_reducible rfl)
        try simp only [Act.put, pa, pb, pc]
        refine tk (v := ?_) 3 24 rfl (fun w' hS' => ?_) hS ?_
        rotate_left
        · go_simp; all_goals (with_reducible rfl)
        try simp only [Act.put, pa, pb, pc]
        first | refine tu 4 25 rfl hS ?_ | (refine tk (v := ?_) 4 25 rfl (fun w' hS' => ?_) hS ?_; rotate_left; · (go_simp; all_goals (with_reducible rfl)))
        try simp only [Act.put, pa, pb, pc]
        first | refine tu 5 26 rfl hS ?_ | (refine tk (v := ?_) 5 26 rfl (fun w' hS' => ?_) hS ?_; rotate_left; · (go_simp; all_goals (with_reducible rfl)))
        try simp only [Act.put, pa, pb, pc]
        try rw [g2]
        first | refine tu 6 27 rfl hS ?_ | (refine tk (v := ?_) 6 27 rfl (fun w' hS' => ?_) hS ?_; rotate_left; · (go_simp; all_goals (with_reducible rfl)))
        try simp only [Act.put, pa, pb, pc]
        first | refine tu 7 28 rfl hS ?_ | (refine tk (v := ?_) 7 28 rfl (fun w' hS' => ?_) hS ?_; rotate_left; · (go_simp; all_goals (with_reducible rfl)))
        try simp only [Act.put, pa, pb, pc]
        first | refine tu 8 29 rfl hS ?_ | (refine tk (v := ?_) 8 29 rfl (fun w' hS' => ?_) hS ?_; rotate_left; · ((try dsimp only at hS'); have q0 := hS'.cell (i := 0) (j := 0) rfl rfl; have q1 := hS'.cell (i := 0) (j := 1) rfl rfl; have q2 := hS'.cell (i := 0) (j := 2) rfl rfl; have q3 := hS'.cell (i := 0) (j := 3) rfl rfl; have q4 := hS'.cell (i := 0) (j := 4) rfl rfl; have c0 := (hS'.bl.cell (p := ⟨g, 0, none⟩) HG.out).trans HC0.out; have r0 := (hS'.bl.cell (p := ⟨b, off + q * 5, none⟩) hb2).trans z0; go_simp; all_goals (with_reducible rfl)))
        try simp only [Act.put, pa, pb, pc]
        first | refine tu 9 30 rfl hS ?_ | (refine tk (v := ?_) 9 30 rfl (fun w' hS' => ?_) hS ?_; rotate_left; · (go_simp; all_goals (with_reducible rfl)))
        try simp only [Act.put, pa, pb, pc]
        first | refine tu 10 31 rfl hS ?_ | (refine tk (v := ?_) 10 31 rfl (fun w' hS' => ?_) hS ?_; rotate_left; · (go_simp; all_goals (with_reducible rfl)))
        try simp only [Act.put, pa, pb, pc]
        first | refine tu 11 32 rfl hS ?_ | (refine tk (v := ?_) 11 32 rfl (fun w' hS' => ?_) hS ?_; rotate_left; · (go_simp; all_goals (with_reducible rfl)))
        try simp only [Act.put, pa, pb, pc]
        first | refine tu 12 33 rfl hS ?_ | (refine tk (v := ?_) 12 33 rfl (fun w' hS' => ?_) hS ?_; rotate_left; · ((try dsimp only at hS'); have q0 := hS'.cell (i := 0) (j := 0) rfl rfl; have q1 := hS'.cell (i := 0) (j := 1) rfl rfl; have q2 := hS'.cell (i := 0) (j := 2) rfl rfl; have q3 := hS'.cell (i := 0) (j := 3) rfl rfl; have q4 := hS'.cell (i := 0) (j := 4) rfl rfl; have c0 := (hS'.bl.cell (p := ⟨g, 0, none⟩) HG.out).trans HC0.out; have r0 := (hS'.bl.cell (p := ⟨b, off + q * 5, none⟩) hb2).trans z0; go_simp; all_goals (with_reducible rfl)))
        try simp only [Act.put, pa, pb, pc]
        first | refine tu 13 34 rfl hS ?_ | (refine tk (v := ?_) 13 34 rfl (fun w' hS' => ?_) hS ?_; rotate_left; · (go_simp; all_goals (with_reducible rfl)))
        try simp only [Act.put, pa, pb, pc]
        first | refine tu 14 35 rfl hS ?_ | (refine tk (v := ?_) 14 35 rfl (fun w' hS' => ?_) hS ?_; rotate_left; · (go_simp; all_goals (with_reducible rfl)))
        try simp only [Act.put, pa, pb, pc]
        first | refine tu 15 36 rfl hS ?_ | (refine tk (v := ?_) 15 36 rfl (fun w' hS' => ?_) hS ?_; rotate_left; · (go_simp; all_goals (with_reducible rfl)))
        try simp only [Act.put, pa, pb, pc]
        first | refine tu 16 37 rfl hS ?_ | (refine tk (v := ?_) 16 37 rfl (fun w' hS' => ?_) hS ?_; rotate_left; · (go_simp; all_goals (with_reducible rfl)))
        try simp only [Act.put, pa, pb, pc]
        first | refine tu 17 38 rfl hS ?_ | (refine tk (v := ?_) 17 38 rfl (fun w' hS' => ?_) hS ?_; rotate_left; · ((try dsimp only at hS'); have q0 := hS'.cell (i := 0) (j := 0) rfl rfl; have q1 := hS'.cell (i := 0) (j := 1) rfl rfl; have q2 := hS'.cell (i := 0) (j := 2) rfl rfl; have q3 := hS'.cell (i := 0) (j := 3) rfl rfl; have q4 := hS'.cell (i := 0) (j := 4) rfl rfl; have c0 := (hS'.bl.cell (p := ⟨g, 0, none⟩) HG.out).trans HC0.out; have r0 := (hS'.bl.cell (p := ⟨b, off + q * 5, none⟩) hb2).trans z0; go_simp; all_goals (with_reducible rfl)))
        try simp only [Act.put, pa, pb, pc]
        first | refine tu 18 39 rfl hS ?_ | (refine tk (v := ?_) 18 39 rfl (fun w' hS' => ?_) hS ?_; rotate_left; · (go_simp; all_goals (with_reducible rfl)))
        try simp only [Act.put, pa, pb, pc]
        try rw [g3]
        first | refine tu 19 40 rfl hS ?_ | (refine tk (v := ?_) 19 40 rfl (fun w' hS' => ?_) hS ?_; rotate_left; · (go_simp; all_goals (with_reducible rfl)))
        try simp only [Act.put, pa, pb, pc]
        refine tk (v := ?_) 20 41 rfl (fun w' hS' => ?_) hS ?_
        rotate_left
        · go_simp; all_goals (with_reducible rfl)
        try simp only [Act.put, pa, pb, pc]
        refine wpAnyH_done (by kernel_rfl) ?_ _
        clear hS
        go_wp2
        go_ret
        exact ⟨ret_b HE.out.symm, HM.out.bl⟩
      have HJ := Lib.hid (show docsB none l = docsB (nameAt l (j + 1)) (l.drop (j + 1)) by rw [HI.out, HS.out, h1.out, HN.out]; show (true && (ltSt p.name e.name && _)) = _; rw [h3]; rfl)
      have g3 : (Op.bytesLess e.name.toList p.name.toList || e.name.toList == p.name.toList) = false := by rw [HT.out, show Op.bytesLess p.name.toList e.name.toList = true from h3]; rfl
      clear h3
      replace HM := Lib.hid (HM.out.drew)
      refine wp_region_held_drew (S := fun W => Ms w [.bx wr.heap.size (.cells #[.string e.name, .int .i64 e.from_, .slice C2 e.text.length c2, .slice C3 e.list.length c3, .slice C4 e.seen.length c4] 31 (0, 0))] W) (by kernel_rfl) (HM.out.pick (ks := [0]) (by decide) rfl) (fun hS => ?_)
      generalize W1.drew = W8 at HM hS  ⊢
      refine tk (v := ?_) 0 21 rfl (fun w' hS' => ?_) hS ?_
      rotate_left
      · (try dsimp only at hS'); have q0 := hS'.cell (i := 0) (j := 0) rfl rfl; have q1 := hS'.cell (i := 0) (j := 1) rfl rfl; have q2 := hS'.cell (i := 0) (j := 2) rfl rfl; have q3 := hS'.cell (i := 0) (j := 3) rfl rfl; have q4 := hS'.cell (i := 0) (j := 4) rfl rfl; have c0 := (hS'.bl.cell (p := ⟨g, 0, none⟩) HG.out).trans HC0.out; have r0 := (hS'.bl.cell (p := ⟨b, off + q * 5, none⟩) hb2).trans z0; go_simp; all_goals (with_reducible rfl)
      try simp only [Act.put, pa, pb, pc]
      refine r1 1 (some 22) rfl (fun K hK => ?_)
      go_simp
      refine (implDocOk_d _ e _ (rdDo e (HM.out.arg Q2h.out) (HM.out.arg Q3h.out) (HM.out.arg Q4h.out)) hse).mono ?_
      rw [h1.out]
      rintro e' W9 ⟨rfl, b'⟩
      replace HM := Lib.hid (HM.out.past b')
      clear b'
      clear hS
      refine hK.out _ _ (HM.out.pick (ks := [0]) (by decide) rfl) (fun hS => ?_)
      clear hK K
      try simp only [Act.put, pa, pb, pc]
      refine tk (v := ?_) 2 23 rfl (fun w' hS' => ?_) hS ?_
      rotate_left
      · go_simp; all_goals (with_reducible rfl)
      try simp only [Act.put, pa, pb, pc]
      refine tk (v := ?_) 3 24 rfl (fun w' hS' => ?_) hS ?_
      rotate_left
      · go_simp; all_goals (with_reducible rfl)
      try simp only [Act.put, pa, pb, pc]
      first | refine tu 4 25 rfl hS ?_ | (refine tk (v := ?_) 4 25 rfl (fun w' hS' => ?_) hS ?_; rotate_left; · (go_simp; all_goals (with_reducible rfl)))
      try simp only [Act.put, pa, pb, pc]
      first | refine tu 5 26 rfl hS ?_ | (refine tk (v := ?_) 5 26 rfl (fun w' hS' => ?_) hS ?_; rotate_left; · (go_simp; all_goals (with_reducible rfl)))
      try simp only [Act.put, pa, pb, pc]
      try rw [g2]
      first | refine tu 6 27 rfl hS ?_ | (refine tk (v := ?_) 6 27 rfl (fun w' hS' => ?_) hS ?_; rotate_left; · (go_simp; all_goals (with_reducible rfl)))
      try simp only [Act.put, pa, pb, pc]
      first | refine tu 7 28 rfl hS ?_ | (refine tk (v := ?_) 7 28 rfl (fun w' hS' => ?_) hS ?_; rotate_left; · (go_simp; all_goals (with_reducible rfl)))
      try simp only [Act.put, pa, pb, pc]
      first | refine tu 8 29 rfl hS ?_ | (refine tk (v := ?_) 8 29 rfl (fun w' hS' => ?_) hS ?_; rotate_left; · ((try dsimp only at hS'); have q0 := hS'.cell (i := 0) (j := 0) rfl rfl; have q1 := hS'.cell (i := 0) (j := 1) rfl rfl; have q2 := hS'.cell (i := 0) (j := 2) rfl rfl; have q3 := hS'.cell (i := 0) (j := 3) rfl rfl; have q4 := hS'.cell (i := 0) (j := 4) rfl rfl; have c0 := (hS'.bl.cell (p := ⟨g, 0, none⟩) HG.out).trans HC0.out; have r0 := (hS'.bl.cell (p := ⟨b, off + q * 5, none⟩) hb2).trans z0; go_simp; all_goals (with_reducible rfl)))
      try simp only [Act.put, pa, pb, pc]
      first | refine tu 9 30 rfl hS ?_ | (refine tk (v := ?_) 9 30 rfl (fun w' hS' => ?_) hS ?_; rotate_left; · (go_simp; all_goals (with_reducible rfl)))
      try simp only [Act.put, pa, pb, pc]
      first | refine tu 10 31 rfl hS ?_ | (refine tk (v := ?_) 10 31 rfl (fun w' hS' => ?_) hS ?_; rotate_left; · (go_simp; all_goals (with_reducible rfl)))
      try simp only [Act.put, pa, pb, pc]
      first | refine tu 11 32 rfl hS ?_ | (refine tk (v := ?_) 11 32 rfl (fun w' hS' => ?_) hS ?_; rotate_left; · (go_simp; all_goals (with_reducible rfl)))
      try simp only [Act.put, pa, pb, pc]
      first | refine tu 12 33 rfl hS ?_ | (refine tk (v := ?_) 12 33 rfl (fun w' hS' => ?_) hS ?_; rotate_left; · ((try dsimp only at hS'); have q0 := hS'.cell (i := 0) (j := 0) rfl rfl; have q1 := hS'.cell (i := 0) (j := 1) rfl rfl; have q2 := hS'.cell (i := 0) (j := 2) rfl rfl; have q3 := hS'.cell (i := 0) (j := 3) rfl rfl; have q4 := hS'.cell (i := 0) (j := 4) rfl rfl; have c0 := (hS'.bl.cell (p := ⟨g, 0, none⟩) HG.out).trans HC0.out; have r0 := (hS'.bl.cell (p := ⟨b, off + q * 5, none⟩) hb2).trans z0; go_simp; all_goals (with_reducible rfl)))
      try simp only [Act.put, pa, pb, pc]
      first | refine tu 13 34 rfl hS ?_ | (refine tk (v := ?_) 13 34 rfl (fun w' hS' => ?_) hS ?_; rotate_left; · (go_simp; all_goals (with_reducible rfl)))
      try simp only [Act.put, pa, pb, pc]
      first | refine tu 14 35 rfl hS ?_ | (refine tk (v := ?_) 14 35 rfl (fun w' hS' => ?_) hS ?_; rotate_left; · (go_simp; all_goals (with_reducible rfl)))
      try simp only [Act.put, pa, pb, pc]
      first | refine tu 15 36 rfl hS ?_ | (refine tk (v := ?_) 15 36 rfl (fun w' hS' => ?_) hS ?_; rotate_left; · (go_simp; all_goals (with_reducible rfl)))
      try simp only [Act.put, pa, pb, pc]
      first | refine tu 16 37 rfl hS ?_ | (refine tk (v := ?_) 16 37 rfl (fun w' hS' => ?_) hS ?_; rotate_left; · (go_simp; all_goals (with_reducible rfl)))
      try simp only [Act.put, pa, pb, pc]
      first | refine tu 17 38 rfl hS ?_ | (refine tk (v := ?_) 17 38 rfl (fun w' hS' => ?_) hS ?_; rotate_left; · ((try dsimp only at hS'); have q0 := hS'.cell (i := 0) (j := 0) rfl rfl; have q1 := hS'.cell (i := 0) (j := 1) rfl rfl; have q2 := hS'.cell (i := 0) (j := 2) rfl rfl; have q3 := hS'.cell (i := 0) (j := 3) rfl rfl; have q4 := hS'.cell (i := 0) (j := 4) rfl rfl; have c0 := (hS'.bl.cell (p := ⟨g, 0, none⟩) HG.out).trans HC0.out; have r0 := (hS'.bl.cell (p := ⟨b, off + q * 5, none⟩) hb2).trans z0; go_simp; all_goals (with_reducible rfl)))
      try simp only [Act.put, pa, pb, pc]
      first | refine tu 18 39 rfl hS ?_ | (refine tk (v := ?_) 18 39 rfl (fun w' hS' => ?_) hS ?_; rotate_left; · (go_simp; all_goals (with_reducible rfl)))
      try simp only [Act.put, pa, pb, pc]
      try rw [g3]
      first | refine tu 19 40 rfl hS ?_ | (refine tk (v := ?_) 19 40 rfl (fun w' hS' => ?_) hS ?_; rotate_left; · (go_simp; all_goals (with_reducible rfl)))
      try simp only [Act.put, pa, pb, pc]
      refine tk (v := ?_) 20 41 rfl (fun w' hS' => ?_) hS ?_
      rotate_left
      · go_simp; all_goals (with_reducible rfl)
      try simp only [Act.put, pa, pb, pc]
      refine wpAnyH_done (by kernel_rfl) ?_ _
      clear hS
      go_wp2
      go_roundw
      case rel => exact ⟨j + 1, by omega, by go_num, HJ.out, HM.out.pick (ks := []) (by decide) rfl⟩
      case measure => simp [intOf]; omega
    · have h9 : l.drop j = [] := List.drop_eq_nil_of_le (by omega)
      have HE := Lib.hid (show docsB none l = true by rw [HI.out, h9]; rfl)
      clear h9
      go_wp2
      go_ret
      exact ⟨ret_b HE.out.symm, HM.out.bl⟩
set_option maxRecDepth 100000 in
set_option maxHeartbeats 3200000 in
theorem subsOk_any (v : Value) (l : List Su) (la : Int) (g : Nat) (w : World) (h : RdC w w.heap.size (encSus l) v) (hs : SmSus l) (hg : g < w.heap.size) (hc : w.cell? ⟨g, 1, none⟩ = some v) (hc2 : w.cell? ⟨g, 2, none⟩ = some (.int .i64 la)) : Calls Tryz.prog 49 #[.pointer (some ⟨g, 1, none⟩)] w (Tells (decide (l.length ≤ 6) && (inB la 0 1000000000 && subsI la 0 l)) w) := by
  obtain ⟨A, c, rfl⟩ := sliceSus h
  have hl := hs.len
  have HR := Lib.hid h
  have HC1 := Lib.hid hc
  have HC2 := Lib.hid hc2
  have HG := Lib.hid hg
  clear h
  by_cases e0 : l.length ≤ 6
  rotate_left
  · have g0 : decide ((6 : Int) < (l.length : Int)) = true := decide_eq_true (by omega)
    rw [decide_eq_false e0]
    go_enter Tryz.func49, Tryz.ntmps49
    go_wp2
    go_ret
    exact ⟨by first | rfl | simp, Below.refl _ _⟩
  have g0 : decide ((6 : Int) < (l.length : Int)) = false := decide_eq_false (by omega)
  rw [decide_eq_true e0, Bool.true_and]
  clear e0
  by_cases e1 : 0 ≤ la
  rotate_left
  · have g1 : decide (la < 0) = true := decide_eq_true (by omega)
    rw [inB_and, decide_eq_false e1]
    go_enter Tryz.func49, Tryz.ntmps49
    go_wp2
    go_ret
    exact ⟨by first | rfl | simp, Below.refl _ _⟩
  have g1 : decide (la < 0) = false := decide_eq_false (by omega)
  by_cases e2 : la ≤ 1000000000
  rotate_left
  · have g2 : decide ((1000000000 : Int) < la) = true := decide_eq_true (by omega)
    rw [inB_and, decide_eq_false e2, Bool.and_false]
    go_enter Tryz.func49, Tryz.ntmps49
    go_wp2
    go_ret
    exact ⟨by first | rfl | simp, Below.refl _ _⟩
  have g2 : decide ((1000000000 : Int) < la) = false := decide_eq_false (by omega)
  rw [inB_and, decide_eq_true e1, decide_eq_true e2, Bool.true_and, Bool.true_and]
  have HM := Lib.hid (Ms.start w)
  go_enter Tryz.func49, Tryz.ntmps49
  go_wp2
  clear hc hc2 hg g0 g1 g2
  go_loopw [3, 31] (fun b i wr => ∃ j : Nat, j ≤ l.length ∧ i = .int .i64 (j : Int) ∧ b = .int .i64 (idAt l j) ∧ subsI la 0 l = subsI la (idAt l j) (l.drop j) ∧ Ms w [] wr) (fun _ i _ => l.length - (intOf i).toNat)
  case atStart => exact ⟨0, Nat.zero_le _, rfl, rfl, by simp [idAt], HM.out⟩
  case round =>
    obtain ⟨j, hj, rfl, rfl, hi, hm⟩ := hrel
    clear HM
    have HM := Lib.hid hm
    have HI := Lib.hid hi
    clear hm hi
    by_cases hlt : j < l.length
    · obtain ⟨b, off, e, C5, c5, rfl, hbb, hp, y0, y1, y2, y3, y4, y5, q5⟩ := atSus HR.out hlt
      have x0 := (HM.out.bl.cell (p := ⟨b, off + j * 6, none⟩) hbb).trans y0
      have x1 := (HM.out.bl.cell (p := ⟨b, off + j * 6 + 1, none⟩) hbb).trans y1
      have x2 := (HM.out.bl.cell (p := ⟨b, off + j * 6 + 2, none⟩) hbb).trans y2
      have x3 := (HM.out.bl.cell (p := ⟨b, off + j * 6 + 3, none⟩) hbb).trans y3
      have x4 := (HM.out.bl.cell (p := ⟨b, off + j * 6 + 4, none⟩) hbb).trans y4
      have x5 := (HM.out.bl.cell (p := ⟨b, off + j * 6 + 5, none⟩) hbb).trans y5
      clear y0 y1 y2 y3 y4 y5
      have hse := hs.at_ (List.mem_of_getElem? hp)
      have HS := Lib.hid (subsI_step (last := la) (p := idAt l j) hp)
      have HID := Lib.hid (idAt_of hp)
      clear hp
      have Q5h := Lib.hid q5
      clear q5
      generalize idAt l j = bf at *
      replace HM := Lib.hid (HM.out.new #[.int .i64 e.id, .string e.doc, .int .i64 e.cap, .int .i64 e.next, .bool e.out, .slice C5 e.list.length c5] 73)
      go_wp2
      clear x0 x1 x2 x3 x4 x5
      obtain ⟨W1, hW, hm⟩ := HM.out.name
      rw [← hW]
      replace HM := Lib.hid hm
      clear hm hW
      by_cases h3 : bf < e.id
      rotate_left
      · have HE := Lib.hid (show subsI la 0 l = false by rw [HI.out, HS.out, decide_eq_false h3, Bool.false_and])
        have g3 : decide (e.id ≤ bf) = true := decide_eq_true (by omega)
        clear h3
        replace HM := Lib.hid (HM.out.drew)
        refine wp_region_held_drew (S := fun W => Ms w [.bx wr.heap.size (.cells #[.int .i64 e.id, .string e.doc, .int .i64 e.cap, .int .i64 e.next, .bool e.out, .slice C5 e.list.length c5] 73 (0, 0))] W) (by kernel_rfl) (HM.out.pick (ks := [0]) (by decide) rfl) (fun hS => ?_)
        generalize W1.drew = W2 at HM hS  ⊢
        refine tk (v := ?_) 0 35 rfl (fun w' hS' => ?_) hS ?_
        rotate_left
        · go_simp; all_goals (with_reducible rfl)
        try simp only [Act.put, pa, pb, pc]
        refine tk (v := ?_) 1 36 rfl (fun w' hS' => ?_) hS ?_
        rotate_left
        · (try dsimp only at hS'); have q0 := hS'.cell (i := 0) (j := 0) rfl rfl; have q1 := hS'.cell (i := 0) (j := 1) rfl rfl; have q2 := hS'.cell (i := 0) (j := 2) rfl rfl; have q3 := hS'.cell (i := 0) (j := 3) rfl rfl; have q4 := hS'.cell (i := 0) (j := 4) rfl rfl; have q5 := hS'.cell (i := 0) (j := 5) rfl rfl; have c2 := (hS'.bl.cell (p := ⟨g, 2, none⟩) HG.out).trans HC2.out; go_simp; all_goals (with_reducible rfl)
        try simp only [Act.put, pa, pb, pc]
        refine tk (v := ?_) 2 37 rfl (fun w' hS' => ?_) hS ?_
        rotate_left
        · go_simp; all_goals (with_reducible rfl)
        try simp only [Act.put, pa, pb, pc]
        refine tk (v := ?_) 3 38 rfl (fun w' hS' => ?_) hS ?_
        rotate_left
        · go_simp; all_goals (with_reducible rfl)
        try simp only [Act.put, pa, pb, pc]
        try rw [g3]
        refine tk (v := ?_) 4 39 rfl (fun w' hS' => ?_) hS ?_
        rotate_left
        · go_simp; all_goals (with_reducible rfl)
        try simp only [Act.put, pa, pb, pc]
        refine tu 5 40 rfl hS ?_
        try simp only [Act.put, pa, pb, pc]
        refine tu 6 41 rfl hS ?_
        try simp only [Act.put, pa, pb, pc]
        refine tu 7 42 rfl hS ?_
        try simp only [Act.put, pa, pb, pc]
        refine tu 8 43 rfl hS ?_
        try simp only [Act.put, pa, pb, pc]
        refine tu 9 44 rfl hS ?_
        try simp only [Act.put, pa, pb, pc]
        refine tu 10 45 rfl hS ?_
        try simp only [Act.put, pa, pb, pc]
        refine tu 11 46 rfl hS ?_
        try simp only [Act.put, pa, pb, pc]
        refine tk (v := ?_) 12 47 rfl (fun w' hS' => ?_) hS ?_
        rotate_left
        · go_simp; all_goals (with_reducible rfl)
        try simp only [Act.put, pa, pb, pc]
        refine tk (v := ?_) 13 48 rfl (fun w' hS' => ?_) hS ?_
        rotate_left
        · go_simp; all_goals (with_reducible rfl)
        try simp only [Act.put, pa, pb, pc]
        refine tu 14 49 rfl hS ?_
        try simp only [Act.put, pa, pb, pc]
        refine tu 15 50 rfl hS ?_
        try simp only [Act.put, pa, pb, pc]
        refine tu 16 51 rfl hS ?_
        try simp only [Act.put, pa, pb, pc]
        refine tu 17 52 rfl hS ?_
        try simp only [Act.put, pa, pb, pc]
        refine tk (v := ?_) 18 53 rfl (fun w' hS' => ?_) hS ?_
        rotate_left
        · go_simp; all_goals (with_reducible rfl)
        try simp only [Act.put, pa, pb, pc]
        refine wpAnyH_done (by kernel_rfl) ?_ _
        clear hS
        go_wp2
        go_ret
        exact ⟨ret_b HE.out.symm, HM.out.bl⟩
      have g3 : decide (e.id ≤ bf) = false := decide_eq_false (by omega)
      have H3 := Lib.hid (decide_eq_true h3)
      clear h3
      by_cases h4 : e.id ≤ la
      rotate_left
      · have HE := Lib.hid (show subsI la 0 l = false by rw [HI.out, HS.out, H3.out, decide_eq_false h4, Bool.false_and, Bool.and_false])
        have g4 : decide (la < e.id) = true := decide_eq_true (by omega)
        clear h4
        replace HM := Lib.hid (HM.out.drew)
        refine wp_region_held_drew (S := fun W => Ms w [.bx wr.heap.size (.cells #[.int .i64 e.id, .string e.doc, .int .i64 e.cap, .int .i64 e.next, .bool e.out, .slice C5 e.list.length c5] 73 (0, 0))] W) (by kernel_rfl) (HM.out.pick (ks := [0]) (by decide) rfl) (fun hS => ?_)
        generalize W1.drew = W3 at HM hS  ⊢
        refine tk (v := ?_) 0 35 rfl (fun w' hS' => ?_) hS ?_
        rotate_left
        · go_simp; all_goals (with_reducible rfl)
        try simp only [Act.put, pa, pb, pc]
        refine tk (v := ?_) 1 36 rfl (fun w' hS' => ?_) hS ?_
        rotate_left
        · (try dsimp only at hS'); have q0 := hS'.cell (i := 0) (j := 0) rfl rfl; have q1 := hS'.cell (i := 0) (j := 1) rfl rfl; have q2 := hS'.cell (i := 0) (j := 2) rfl rfl; have q3 := hS'.cell (i := 0) (j := 3) rfl rfl; have q4 := hS'.cell (i := 0) (j := 4) rfl rfl; have q5 := hS'.cell (i := 0) (j := 5) rfl rfl; have c2 := (hS'.bl.cell (p := ⟨g, 2, none⟩) HG.out).trans HC2.out; go_simp; all_goals (with_reducible rfl)
        try simp only [Act.put, pa, pb, pc]
        refine tk (v := ?_) 2 37 rfl (fun w' hS' => ?_) hS ?_
        rotate_left
        · go_simp; all_goals (with_reducible rfl)
        try simp only [Act.put, pa, pb, pc]
        refine tk (v := ?_) 3 38 rfl (fun w' hS' => ?_) hS ?_
        rotate_left
        · go_simp; all_goals (with_reducible rfl)
        try simp only [Act.put, pa, pb, pc]
        try rw [g3]
        refine tk (v := ?_) 4 39 rfl (fun w' hS' => ?_) hS ?_
        rotate_left
        · go_simp; all_goals (with_reducible rfl)
        try simp only [Act.put, pa, pb, pc]
        refine tk (v := ?_) 5 40 rfl (fun w' hS' => ?_) hS ?_
        rotate_left
        · go_simp; all_goals (with_reducible rfl)
        try simp only [Act.put, pa, pb, pc]
        refine tk (v := ?_) 6 41 rfl (fun w' hS' => ?_) hS ?_
        rotate_left
        · (try dsimp only at hS'); have q0 := hS'.cell (i := 0) (j := 0) rfl rfl; have q1 := hS'.cell (i := 0) (j := 1) rfl rfl; have q2 := hS'.cell (i := 0) (j := 2) rfl rfl; have q3 := hS'.cell (i := 0) (j := 3) rfl rfl; have q4 := hS'.cell (i := 0) (j := 4) rfl rfl; have q5 := hS'.cell (i := 0) (j := 5) rfl rfl; have c2 := (hS'.bl.cell (p := ⟨g, 2, none⟩) HG.out).trans HC2.out; go_simp; all_goals (with_reducible rfl)
        try simp only [Act.put, pa, pb, pc]
        refine tk (v := ?_) 7 42 rfl (fun w' hS' => ?_) hS ?_
        rotate_left
        · go_simp; all_goals (with_reducible rfl)
        try simp only [Act.put, pa, pb, pc]
        refine tk (v := ?_) 8 43 rfl (fun w' hS' => ?_) hS ?_
        rotate_left
        · go_simp; all_goals (with_reducible rfl)
        try simp only [Act.put, pa, pb, pc]
        refine tk (v := ?_) 9 44 rfl (fun w' hS' => ?_) hS ?_
        rotate_left
        · go_simp; all_goals (with_reducible rfl)
        try simp only [Act.put, pa, pb, pc]
        refine tk (v := ?_) 10 45 rfl (fun w' hS' => ?_) hS ?_
        rotate_left
        · (try dsimp only at hS'); have q0 := hS'.cell (i := 0) (j := 0) rfl rfl; have q1 := hS'.cell (i := 0) (j := 1) rfl rfl; have q2 := hS'.cell (i := 0) (j := 2) rfl rfl; have q3 := hS'.cell (i := 0) (j := 3) rfl rfl; have q4 := hS'.cell (i := 0) (j := 4) rfl rfl; have q5 := hS'.cell (i := 0) (j := 5) rfl rfl; have c2 := (hS'.bl.cell (p := ⟨g, 2, none⟩) HG.out).trans HC2.out; go_simp; all_goals (with_reducible rfl)
        try simp only [Act.put, pa, pb, pc]
        refine tk (v := ?_) 11 46 rfl (fun w' hS' => ?_) hS ?_
        rotate_left
        · go_simp; all_goals (with_reducible rfl)
        try simp only [Act.put, pa, pb, pc]
        try rw [g4]
        refine tk (v := ?_) 12 47 rfl (fun w' hS' => ?_) hS ?_
        rotate_left
        · go_simp; all_goals (with_reducible rfl)
        try simp only [Act.put, pa, pb, pc]
        refine tk (v := ?_) 13 48 rfl (fun w' hS' => ?_) hS ?_
        rotate_left
        · go_simp; all_goals (with_reducible rfl)
        try simp only [Act.put, pa, pb, pc]
        refine tu 14 49 rfl hS ?_
        try simp only [Act.put, pa, pb, pc]
        refine tu 15 50 rfl hS ?_
        try simp only [Act.put, pa, pb, pc]
        refine tu 16 51 rfl hS ?_
        try simp only [Act.put, pa, pb, pc]
        refine tu 17 52 rfl hS ?_
        try simp only [Act.put, pa, pb, pc]
        refine tk (v := ?_) 18 53 rfl (fun w' hS' => ?_) hS ?_
        rotate_left
        · go_simp; all_goals (with_reducible rfl)
        try simp only [Act.put, pa, pb, pc]
        refine wpAnyH_done (by kernel_rfl) ?_ _
        clear hS
        go_wp2
        go_ret
        exact ⟨ret_b HE.out.symm, HM.out.bl⟩
      have g4 : decide (la < e.id) = false := decide_eq_false (by omega)
      have H4 := Lib.hid (decide_eq_true h4)
      clear h4
      rcases (show ringB (ringSu e) = false ∨ ringB (ringSu e) = true by cases ringB (ringSu e) <;> simp) with h5 | h5
      · have HE := Lib.hid (show subsI la 0 l = false by rw [HI.out, HS.out, H3.out, H4.out, h5, Bool.false_and, Bool.and_false, Bool.and_false])
        replace h5 := Lib.hid h5
        replace HM := Lib.hid (HM.out.drew)
        refine wp_region_held_drew (S := fun W => Ms w [.bx wr.heap.size (.cells #[.int .i64 e.id, .string e.doc, .int .i64 e.cap, .int .i64 e.next, .bool e.out, .slice C5 e.list.length c5] 73 (0, 0))] W) (by kernel_rfl) (HM.out.pick (ks := [0]) (by decide) rfl) (fun hS => ?_)
        generalize W1.drew = W4 at HM hS  ⊢
        refine tk (v := ?_) 0 35 rfl (fun w' hS' => ?_) hS ?_
        rotate_left
        · go_simp; all_goals (with_reducible rfl)
        try simp only [Act.put, pa, pb, pc]
        refine tk (v := ?_) 1 36 rfl (fun w' hS' => ?_) hS ?_
        rotate_left
        · (try dsimp only at hS'); have q0 := hS'.cell (i := 0) (j := 0) rfl rfl; have q1 := hS'.cell (i := 0) (j := 1) rfl rfl; have q2 := hS'.cell (i := 0) (j := 2) rfl rfl; have q3 := hS'.cell (i := 0) (j := 3) rfl rfl; have q4 := hS'.cell (i := 0) (j := 4) rfl rfl; have q5 := hS'.cell (i := 0) (j := 5) rfl rfl; have c2 := (hS'.bl.cell (p := ⟨g, 2, none⟩) HG.out).trans HC2.out; go_simp; all_goals (with_reducible rfl)
        try simp only [Act.put, pa, pb, pc]
        refine tk (v := ?_) 2 37 rfl (fun w' hS' => ?_) hS ?_
        rotate_left
        · go_simp; all_goals (with_reducible rfl)
        try simp only [Act.put, pa, pb, pc]
        refine tk (v := ?_) 3 38 rfl (fun w' hS' => ?_) hS ?_
        rotate_left
        · go_simp; all_goals (with_reducible rfl)
        try simp only [Act.put, pa, pb, pc]
        try rw [g3]
        refine tk (v := ?_) 4 39 rfl (fun w' hS' => ?_) hS ?_
        rotate_left
        · go_simp; all_goals (with_reducible rfl)
        try simp only [Act.put, pa, pb, pc]
        first | refine tu 5 40 rfl hS ?_ | (refine tk (v := ?_) 5 40 rfl (fun w' hS' => ?_) hS ?_; rotate_left; · (go_simp; all_goals (with_reducible rfl)))
        try simp only [Act.put, pa, pb, pc]
        first | refine tu 6 41 rfl hS ?_ | (refine tk (v := ?_) 6 41 rfl (fun w' hS' => ?_) hS ?_; rotate_left; · ((try dsimp only at hS'); have q0 := hS'.cell (i := 0) (j := 0) rfl rfl; have q1 := hS'.cell (i := 0) (j := 1) rfl rfl; have q2 := hS'.cell (i := 0) (j := 2) rfl rfl; have q3 := hS'.cell (i := 0) (j := 3) rfl rfl; have q4 := hS'.cell (i := 0) (j := 4) rfl rfl; have q5 := hS'.cell (i := 0) (j := 5) rfl rfl; have c2 := (hS'.bl.cell (p := ⟨g, 2, none⟩) HG.out).trans HC2.out; go_simp; all_goals (with_reducible rfl)))
        try simp only [Act.put, pa, pb, pc]
        first | refine tu 7 42 rfl hS ?_ | (refine tk (v := ?_) 7 42 rfl (fun w' hS' => ?_) hS ?_; rotate_left; · (go_simp; all_goals (with_reducible rfl)))
        try simp only [Act.put, pa, pb, pc]
        first | refine tu 8 43 rfl hS ?_ | (refine tk (v := ?_) 8 43 rfl (fun w' hS' => ?_) hS ?_; rotate_left; · (go_simp; all_goals (with_reducible rfl)))
        try simp only [Act.put, pa, pb, pc]
        first | refine tu 9 44 rfl hS ?_ | (refine tk (v := ?_) 9 44 rfl (fun w' hS' => ?_) hS ?_; rotate_left; · (go_simp; all_goals (with_reducible rfl)))
        try simp only [Act.put, pa, pb, pc]
        first | refine tu 10 45 rfl hS ?_ | (refine tk (v := ?_) 10 45 rfl (fun w' hS' => ?_) hS ?_; rotate_left; · ((try dsimp only at hS'); have q0 := hS'.cell (i := 0) (j := 0) rfl rfl; have q1 := hS'.cell (i := 0) (j := 1) rfl rfl; have q2 := hS'.cell (i := 0) (j := 2) rfl rfl; have q3 := hS'.cell (i := 0) (j := 3) rfl rfl; have q4 := hS'.cell (i := 0) (j := 4) rfl rfl; have q5 := hS'.cell (i := 0) (j := 5) rfl rfl; have c2 := (hS'.bl.cell (p := ⟨g, 2, none⟩) HG.out).trans HC2.out; go_simp; all_goals (with_reducible rfl)))
        try simp only [Act.put, pa, pb, pc]
        first | refine tu 11 46 rfl hS ?_ | (refine tk (v := ?_) 11 46 rfl (fun w' hS' => ?_) hS ?_; rotate_left; · (go_simp; all_goals (with_reducible rfl)))
        try simp only [Act.put, pa, pb, pc]
        try rw [g4]
        refine tk (v := ?_) 12 47 rfl (fun w' hS' => ?_) hS ?_
        rotate_left
        · go_simp; all_goals (with_reducible rfl)
        try simp only [Act.put, pa, pb, pc]
        refine tk (v := ?_) 13 48 rfl (fun w' hS' => ?_) hS ?_
        rotate_left
        · go_simp; all_goals (with_reducible rfl)
        try simp only [Act.put, pa, pb, pc]
        first | refine tu 14 49 rfl hS ?_ | (refine tk (v := ?_) 14 49 rfl (fun w' hS' => ?_) hS ?_; rotate_left; · (go_simp; all_goals (with_reducible rfl)))
        try simp only [Act.put, pa, pb, pc]
        first | refine tu 15 50 rfl hS ?_ | (refine tk (v := ?_) 15 50 rfl (fun w' hS' => ?_) hS ?_; rotate_left; · ((try dsimp only at hS'); have q0 := hS'.cell (i := 0) (j := 0) rfl rfl; have q1 := hS'.cell (i := 0) (j := 1) rfl rfl; have q2 := hS'.cell (i := 0) (j := 2) rfl rfl; have q3 := hS'.cell (i := 0) (j := 3) rfl rfl; have q4 := hS'.cell (i := 0) (j := 4) rfl rfl; have q5 := hS'.cell (i := 0) (j := 5) rfl rfl; have c2 := (hS'.bl.cell (p := ⟨g, 2, none⟩) HG.out).trans HC2.out; go_simp; all_goals (with_reducible rfl)))
        try simp only [Act.put, pa, pb, pc]
        refine r1 16 (some 51) rfl (fun K hK => ?_)
        go_simp
        refine (implRingOk_d _ (ringSu e) _ (rdRi (ringSu e) (HM.out.arg Q5h.out)) (show SmRi (ringSu e) from hse.list)).mono ?_
        rw [h5.out]
        rintro e' W5 ⟨rfl, b'⟩
        replace HM := Lib.hid (HM.out.past b')
        clear b'
        clear hS
        refine hK.out _ _ (HM.out.pick (ks := [0]) (by decide) rfl) (fun hS => ?_)
        clear hK K
        try simp only [Act.put, pa, pb, pc]
        first | refine tu 17 52 rfl hS ?_ | (refine tk (v := ?_) 17 52 rfl (fun w' hS' => ?_) hS ?_; rotate_left; · (go_simp; all_goals (with_reducible rfl)))
        try simp only [Act.put, pa, pb, pc]
        refine tk (v := ?_) 18 53 rfl (fun w' hS' => ?_) hS ?_
        rotate_left
        · go_simp; all_goals (with_reducible rfl)
        try simp only [Act.put, pa, pb, pc]
        refine wpAnyH_done (by kernel_rfl) ?_ _
        clear hS
        go_wp2
        go_ret
        exact ⟨ret_b HE.out.symm, HM.out.bl⟩
      have HJ := Lib.hid (show subsI la 0 l = subsI la (idAt l (j + 1)) (l.drop (j + 1)) by rw [HI.out, HS.out, H3.out, H4.out, h5, Bool.true_and, Bool.true_and, Bool.true_and])
      replace h5 := Lib.hid h5
      replace HM := Lib.hid (HM.out.drew)
      refine wp_region_held_drew (S := fun W => Ms w [.bx wr.heap.size (.cells #[.int .i64 e.id, .string e.doc, .int .i64 e.cap, .int .i64 e.next, .bool e.out, .slice C5 e.list.length c5] 73 (0, 0))] W) (by kernel_rfl) (HM.out.pick (ks := [0]) (by decide) rfl) (fun hS => ?_)
      generalize W1.drew = W6 at HM hS  ⊢
      refine tk (v := ?_) 0 35 rfl (fun w' hS' => ?_) hS ?_
      rotate_left
      · go_simp; all_goals (with_reducible rfl)
      try simp only [Act.put, pa, pb, pc]
      refine tk (v := ?_) 1 36 rfl (fun w' hS' => ?_) hS ?_
      rotate_left
      · (try dsimp only at hS'); have q0 := hS'.cell (i := 0) (j := 0) rfl rfl; have q1 := hS'.cell (i := 0) (j := 1) rfl rfl; have q2 := hS'.cell (i := 0) (j := 2) rfl rfl; have q3 := hS'.cell (i := 0) (j := 3) rfl rfl; have q4 := hS'.cell (i := 0) (j := 4) rfl rfl; have q5 := hS'.cell (i := 0) (j := 5) rfl rfl; have c2 := (hS'.bl.cell (p := ⟨g, 2, none⟩) HG.out).trans HC2.out; go_simp; all_goals (with_reducible rfl)
      try simp only [Act.put, pa, pb, pc]
      refine tk (v := ?_) 2 37 rfl (fun w' hS' => ?_) hS ?_
      rotate_left
      · go_simp; all_goals (with_reducible rfl)
      try simp only [Act.put, pa, pb, pc]
      refine tk (v := ?_) 3 38 rfl (fun w' hS' => ?_) hS ?_
      rotate_left
      · go_simp; all_goals (with_reducible rfl)
      try simp only [Act.put, pa, pb, pc]
      try rw [g3]
      refine tk (v := ?_) 4 39 rfl (fun w' hS' => ?_) hS ?_
      rotate_left
      · go_simp; all_goals (with_reducible rfl)
      try simp only [Act.put, pa, pb, pc]
      first | refine tu 5 40 rfl hS ?_ | (refine tk (v := ?_) 5 40 rfl (fun w' hS' => ?_) hS ?_; rotate_left; · (go_simp; all_goals (with_reducible rfl)))
      try simp only [Act.put, pa, pb, pc]
      first | refine tu 6 41 rfl hS ?_ | (refine tk (v := ?_) 6 41 rfl (fun w' hS' => ?_) hS ?_; rotate_left; · ((try dsimp only at hS'); have q0 := hS'.cell (i := 0) (j := 0) rfl rfl; have q1 := hS'.cell (i := 0) (j := 1) rfl rfl; have q2 := hS'.cell (i := 0) (j := 2) rfl rfl; have q3 := hS'.cell (i := 0) (j := 3) rfl rfl; have q4 := hS'.cell (i := 0) (j := 4) rfl rfl; have q5 := hS'.cell (i := 0) (j := 5) rfl rfl; have c2 := (hS'.bl.cell (p := ⟨g, 2, none⟩) HG.out).trans HC2.out; go_simp; all_goals (with_reducible rfl)))
      try simp only [Act.put, pa, pb, pc]
      first | refine tu 7 42 rfl hS ?_ | (refine tk (v := ?_) 7 42 rfl (fun w' hS' => ?_) hS ?_; rotate_left; · (go_simp; all_goals (with_reducible rfl)))
      try simp only [Act.put, pa, pb, pc]
      first | refine tu 8 43 rfl hS ?_ | (refine tk (v := ?_) 8 43 rfl (fun w' hS' => ?_) hS ?_; rotate_left; · (go_simp; all_goals (with_reducible rfl)))
      try simp only [Act.put, pa, pb, pc]
      first | refine tu 9 44 rfl hS ?_ | (refine tk (v := ?_) 9 44 rfl (fun w' hS' => ?_) hS ?_; rotate_left; · (go_simp; all_goals (with_reducible rfl)))
      try simp only [Act.put, pa, pb, pc]
      first | refine tu 10 45 rfl hS ?_ | (refine tk (v := ?_) 10 45 rfl (fun w' hS' => ?_) hS ?_; rotate_left; · ((try dsimp only at hS'); have q0 := hS'.cell (i := 0) (j := 0) rfl rfl; have q1 := hS'.cell (i := 0) (j := 1) rfl rfl; have q2 := hS'.cell (i := 0) (j := 2) rfl rfl; have q3 := hS'.cell (i := 0) (j := 3) rfl rfl; have q4 := hS'.cell (i := 0) (j := 4) rfl rfl; have q5 := hS'.cell (i := 0) (j := 5) rfl rfl; have c2 := (hS'.bl.cell (p := ⟨g, 2, none⟩) HG.out).trans HC2.out; go_simp; all_goals (with_reducible rfl)))
      try simp only [Act.put, pa, pb, pc]
      first | refine tu 11 46 rfl hS ?_ | (refine tk (v := ?_) 11 46 rfl (fun w' hS' => ?_) hS ?_; rotate_left; · (go_simp; all_goals (with_reducible rfl)))
      try simp only [Act.put, pa, pb, pc]
      try rw [g4]
      refine tk (v := ?_) 12 47 rfl (fun w' hS' => ?_) hS ?_
      rotate_left
      · go_simp; all_goals (with_reducible rfl)
      try simp only [Act.put, pa, pb, pc]
      refine tk (v := ?_) 13 48 rfl (fun w' hS' => ?_) hS ?_
      rotate_left
      · go_simp; all_goals (with_reducible rfl)
      try simp only [Act.put, pa, pb, pc]
      first | refine tu 14 49 rfl hS ?_ | (refine tk (v := ?_) 14 49 rfl (fun w' hS' => ?_) hS ?_; rotate_left; · (go_simp; all_goals (with_reducible rfl)))
      try simp only [Act.put, pa, pb, pc]
      first | refine tu 15 50 rfl hS ?_ | (refine tk (v := ?_) 15 50 rfl (fun w' hS' => ?_) hS ?_; rotate_left; · ((try dsimp only at hS'); have q0 := hS'.cell (i := 0) (j := 0) rfl rfl; have q1 := hS'.cell (i := 0) (j := 1) rfl rfl; have q2 := hS'.cell (i := 0) (j := 2) rfl rfl; have q3 := hS'.cell (i := 0) (j := 3) rfl rfl; have q4 := hS'.cell (i := 0) (j := 4) rfl rfl; have q5 := hS'.cell (i := 0) (j := 5) rfl rfl; have c2 := (hS'.bl.cell (p := ⟨g, 2, none⟩) HG.out).trans HC2.out; go_simp; all_goals (with_reducible rfl)))
      try simp only [Act.put, pa, pb, pc]
      refine r1 16 (some 51) rfl (fun K hK => ?_)
      go_simp
      refine (implRingOk_d _ (ringSu e) _ (rdRi (ringSu e) (HM.out.arg Q5h.out)) (show SmRi (ringSu e) from hse.list)).mono ?_
      rw [h5.out]
      rintro e' W7 ⟨rfl, b'⟩
      replace HM := Lib.hid (HM.out.past b')
      clear b'
      clear hS
      refine hK.out _ _ (HM.out.pick (ks := [0]) (by decide) rfl) (fun hS => ?_)
      clear hK K
      try simp only [Act.put, pa, pb, pc]
      first | refine tu 17 52 rfl hS ?_ | (refine tk (v := ?_) 17 52 rfl (fun w' hS' => ?_) hS ?_; rotate_left; · (go_simp; all_goals (with_reducible rfl)))
      try simp only [Act.put, pa, pb, pc]
      refine tk (v := ?_) 18 53 rfl (fun w' hS' => ?_) hS ?_
      rotate_left
      · go_simp; all_goals (with_reducible rfl)
      try simp only [Act.put, pa, pb, pc]
      refine wpAnyH_done (by kernel_rfl) ?_ _
      clear hS
      have ke0 := HM.out.cell (i := 0) (j := 0) rfl rfl
      go_wp2
      go_roundw
      case rel => exact ⟨j + 1, by omega, by go_num, by rw [HID.out], HJ.out, HM.out.pick (ks := []) (by decide) rfl⟩
      case measure => simp [intOf]; omega
    · have h9 : l.drop j = [] := List.drop_eq_nil_of_le (by omega)
      have HE := Lib.hid (show subsI la 0 l = true by rw [HI.out, h9]; rfl)
      clear h9
      go_wp2
      go_ret
      exact ⟨ret_b HE.out.symm, HM.out.bl⟩
theorem all_step {α : Type} {p : α → Bool} {l : List α} {j : Nat} {x : α} (h : l[j]? = some x) : (l.drop j).all p = (p x && (l.drop (j + 1)).all p) := by
  obtain ⟨h1, e1⟩ := List.getElem?_eq_some_iff.1 h
  rw [List.drop_eq_getElem_cons h1, e1]
  rfl
theorem ix_neg {o : Option Nat} {k : Int} (h : ixInt o = k) (hn : k < 0) : o = none := by
  cases o with
  | none => rfl
  | some i =>
    have h : (i : Int) = k := h
    omega
theorem ix_pos {l : List Do} {s : ByteArray} {k : Int} (h : ixInt (docIx l s) = k) (hn : ¬ k < 0) : ∃ i : Nat, k = (i : Int) ∧ docIx l s = some i ∧ i < l.length := by
  cases hk : docIx l s with
  | none =>
    rw [hk] at h
    have h : (-1 : Int) = k := h
    omega
  | some i =>
    rw [hk] at h
    exact ⟨i, h.symm, rfl, ix_lt hk⟩
set_option maxRecDepth 100000 in
set_option maxHeartbeats 3200000 in
theorem consistent_any (v v' : Value) (l : List Do) (m : List Su) (la : Int) (g : Nat) (w : World) (h : RdC w w.heap.size (encDos l) v) (h' : RdC w w.heap.size (encSus m) v') (hs : SmDos l) (hs' : SmSus m) (hg : g < w.heap.size) (hc : w.cell? ⟨g, 0, none⟩ = some v) (hc1 : w.cell? ⟨g, 1, none⟩ = some v') (hda : docsB none l = true) (hsa : subsI la 0 m = true) : Calls Tryz.prog 50 #[.pointer (some ⟨g, 0, none⟩)] w (Tells (m.all (fitB l)) w) := by
  obtain ⟨A1, c1, rfl⟩ := sliceDos h
  obtain ⟨A2, c2, rfl⟩ := sliceSus h'
  have hl1 := hs.len
  have hl2 := hs'.len
  have HR := Lib.hid h
  have HS := Lib.hid h'
  have HC0 := Lib.hid hc
  have HC1 := Lib.hid hc1
  have HG := Lib.hid hg
  have HA := Lib.hid (show ∀ (i : Nat) (d : Do), l[i]? = some d → docB d = true from fun i d h => docsB_all hda h)
  have HB := Lib.hid (show ∀ (i : Nat) (s : Su), m[i]? = some s → ringB (ringSu s) = true from fun i s h => subsI_ring hsa h)
  clear h h' hda hsa
  have HM := Lib.hid (Ms.start w)
  go_enter Tryz.func50, Tryz.ntmps50
  go_wp2
  clear hc hc1 hg
  go_loopw [12] (fun i wr => ∃ j : Nat, j ≤ m.length ∧ i = .int .i64 (j : Int) ∧ m.all (fitB l) = (m.drop j).all (fitB l) ∧ Ms w [] wr) (fun i _ => m.length - (intOf i).toNat)
  case atStart => exact ⟨0, Nat.zero_le _, rfl, by simp, HM.out⟩
  case round =>
    obtain ⟨j, hj, rfl, hi, hm⟩ := hrel
    clear HM
    have HM := Lib.hid hm
    have HI := Lib.hid hi
    clear hm hi
    by_cases hlt : j < m.length
    · obtain ⟨b, off, e, C5, c5, rfl, hbb, hp, y0, y1, y2, y3, y4, y5, q5⟩ := atSus HS.out hlt
      have x0 := (HM.out.bl.cell (p := ⟨b, off + j * 6, none⟩) hbb).trans y0
      have x1 := (HM.out.bl.cell (p := ⟨b, off + j * 6 + 1, none⟩) hbb).trans y1
      have x2 := (HM.out.bl.cell (p := ⟨b, off + j * 6 + 2, none⟩) hbb).trans y2
      have x3 := (HM.out.bl.cell (p := ⟨b, off + j * 6 + 3, none⟩) hbb).trans y3
      have x4 := (HM.out.bl.cell (p := ⟨b, off + j * 6 + 4, none⟩) hbb).trans y4
      have x5 := (HM.out.bl.cell (p := ⟨b, off + j * 6 + 5, none⟩) hbb).trans y5
      clear y0 y1 y2 y3 y4 y5
      have hse := hs'.at_ (List.mem_of_getElem? hp)
      have HT := Lib.hid (all_step (p := fitB l) hp)
      have RB := Lib.hid (ringB_of (HB.out _ _ hp))
      clear hp
      have Q5h := Lib.hid q5
      clear q5
      replace HM := Lib.hid (HM.out.new #[.int .i64 e.id, .string e.doc, .int .i64 e.cap, .int .i64 e.next, .bool e.out, .slice C5 e.list.length c5] 73)
      go_wp2
      clear x0 x1 x2 x3 x4 x5
      obtain ⟨W1, hW, hm⟩ := HM.out.name
      rw [← hW]
      replace HM := Lib.hid hm
      clear hm hW
      obtain ⟨kk, hkk⟩ : ∃ kk, ixInt (docIx l e.doc) = kk := ⟨_, rfl⟩
      have HK := Lib.hid hkk
      clear hkk
      replace HM := Lib.hid (HM.out.drew)
      refine wp_region_held_drew (S := fun W => Ms w [.bx wr.heap.size (.cells #[.int .i64 e.id, .string e.doc, .int .i64 e.cap, .int .i64 e.next, .bool e.out, .slice C5 e.list.length c5] 73 (0, 0))] W) (by kernel_rfl) (HM.out.pick (ks := [0]) (by decide) rfl) (fun hS => ?_)
      generalize W1.drew = W2 at HM hS  ⊢
      refine tk (v := ?_) 0 16 rfl (fun w' hS' => ?_) hS ?_
      rotate_left
      · go_simp; all_goals (with_reducible rfl)
      try simp only [Act.put, pa, pb, pc]
      refine tk (v := ?_) 1 17 rfl (fun w' hS' => ?_) hS ?_
      rotate_left
      · go_simp; all_goals (with_reducible rfl)
      try simp only [Act.put, pa, pb, pc]
      refine tk (v := ?_) 2 18 rfl (fun w' hS' => ?_) hS ?_
      rotate_left
      · go_simp; all_goals (with_reducible rfl)
      try simp only [Act.put, pa, pb, pc]
      refine tk (v := ?_) 3 19 rfl (fun w' hS' => ?_) hS ?_
      rotate_left
      · go_simp; all_goals (with_reducible rfl)
      try simp only [Act.put, pa, pb, pc]
      refine tk (v := ?_) 4 20 rfl (fun w' hS' => ?_) hS ?_
      rotate_left
      · (try dsimp only at hS'); have q0 := hS'.cell (i := 0) (j := 0) rfl rfl; have q1 := hS'.cell (i := 0) (j := 1) rfl rfl; have q2 := hS'.cell (i := 0) (j := 2) rfl rfl; have q3 := hS'.cell (i := 0) (j := 3) rfl rfl; have q4 := hS'.cell (i := 0) (j := 4) rfl rfl; have q5 := hS'.cell (i := 0) (j := 5) rfl rfl; have c0 := (hS'.bl.cell (p := ⟨g, 0, none⟩) HG.out).trans HC0.out; go_simp; all_goals (with_reducible rfl)
      try simp only [Act.put, pa, pb, pc]
      refine r1 5 (some 21) rfl (fun K hK => ?_)
      go_simp
      refine (document_any _ l e.doc g 0 _ (HM.out.arg HR.out) hs (Nat.lt_of_lt_of_le HG.out HM.out.size) ((HM.out.bl.cell (p := ⟨g, 0, none⟩) HG.out).trans HC0.out)).mono ?_
      rw [HK.out]
      rintro e' W3 ⟨rfl, b'⟩
      replace HM := Lib.hid (HM.out.past b')
      clear b'
      clear hS
      refine hK.out _ _ (HM.out.pick (ks := [0]) (by decide) rfl) (fun hS => ?_)
      clear hK K
      try simp only [Act.put, pa, pb, pc]
      refine tk (v := ?_) 6 5 rfl (fun w' hS' => ?_) hS ?_
      rotate_left
      · go_simp; all_goals (with_reducible rfl)
      try simp only [Act.put, pa, pb, pc]
      refine wpAnyH_done (by kernel_rfl) ?_ _
      clear hS
      go_wp2
      by_cases h3 : kk < 0
      · have hk0 := ix_neg HK.out h3
        have HE := Lib.hid (show m.all (fitB l) = false by rw [HI.out, HT.out, fit_none hk0, Bool.false_and])
        clear hk0
        have g3 : decide (kk < 0) = true := decide_eq_true h3
        clear h3
        replace HM := Lib.hid (HM.out.drew)
        refine wp_region_held_drew (S := fun W => Ms w [.bx wr.heap.size (.cells #[.int .i64 e.id, .string e.doc, .int .i64 e.cap, .int .i64 e.next, .bool e.out, .slice C5 e.list.length c5] 73 (0, 0))] W) (by kernel_rfl) (HM.out.pick (ks := [0]) (by decide) rfl) (fun hS => ?_)
        generalize W3.drew = W4 at HM hS  ⊢
        refine tk (v := ?_) 0 22 rfl (fun w' hS' => ?_) hS ?_
        rotate_left
        · go_simp; all_goals (with_reducible rfl)
        try simp only [Act.put, pa, pb, pc]
        refine tk (v := ?_) 1 23 rfl (fun w' hS' => ?_) hS ?_
        rotate_left
        · go_simp; all_goals (with_reducible rfl)
        try simp only [Act.put, pa, pb, pc]
        try rw [g3]
        refine tk (v := ?_) 2 24 rfl (fun w' hS' => ?_) hS ?_
        rotate_left
        · go_simp; all_goals (with_reducible rfl)
        try simp only [Act.put, pa, pb, pc]
        refine tu 3 25 rfl hS ?_
        try simp only [Act.put, pa, pb, pc]
        refine tu 4 26 rfl hS ?_
        try simp only [Act.put, pa, pb, pc]
        refine tu 5 27 rfl hS ?_
        try simp only [Act.put, pa, pb, pc]
        refine tu 6 28 rfl hS ?_
        try simp only [Act.put, pa, pb, pc]
        refine tu 7 29 rfl hS ?_
        try simp only [Act.put, pa, pb, pc]
        refine tu 8 30 rfl hS ?_
        try simp only [Act.put, pa, pb, pc]
        refine tu 9 31 rfl hS ?_
        try simp only [Act.put, pa, pb, pc]
        refine tu 10 32 rfl hS ?_
        try simp only [Act.put, pa, pb, pc]
        refine tu 11 33 rfl hS ?_
        try simp only [Act.put, pa, pb, pc]
        refine tu 12 34 rfl hS ?_
        try simp only [Act.put, pa, pb, pc]
        refine tu 13 35 rfl hS ?_
        try simp only [Act.put, pa, pb, pc]
        refine tu 14 36 rfl hS ?_
        try simp only [Act.put, pa, pb, pc]
        refine tu 15 37 rfl hS ?_
        try simp only [Act.put, pa, pb, pc]
        refine tu 16 38 rfl hS ?_
        try simp only [Act.put, pa, pb, pc]
        refine tu 17 39 rfl hS ?_
        try simp only [Act.put, pa, pb, pc]
        refine tu 18 40 rfl hS ?_
        try simp only [Act.put, pa, pb, pc]
        refine tu 19 41 rfl hS ?_
        try simp only [Act.put, pa, pb, pc]
        refine tu 20 42 rfl hS ?_
        try simp only [Act.put, pa, pb, pc]
        refine tu 21 43 rfl hS ?_
        try simp only [Act.put, pa, pb, pc]
        refine tu 22 44 rfl hS ?_
        try simp only [Act.put, pa, pb, pc]
        refine tu 23 45 rfl hS ?_
        try simp only [Act.put, pa, pb, pc]
        refine tu 24 46 rfl hS ?_
        try simp only [Act.put, pa, pb, pc]
        refine tu 25 47 rfl hS ?_
        try simp only [Act.put, pa, pb, pc]
        refine tu 26 48 rfl hS ?_
        try simp only [Act.put, pa, pb, pc]
        refine tu 27 49 rfl hS ?_
        try simp only [Act.put, pa, pb, pc]
        refine tk (v := ?_) 28 50 rfl (fun w' hS' => ?_) hS ?_
        rotate_left
        · go_simp; all_goals (with_reducible rfl)
        try simp only [Act.put, pa, pb, pc]
        refine wpAnyH_done (by kernel_rfl) ?_ _
        clear hS
        go_wp2
        go_ret
        exact ⟨ret_b HE.out.symm, HM.out.bl⟩
      obtain ⟨k, rfl, hk, hkl⟩ := ix_pos HK.out h3
      have g3 : decide ((k : Int) < 0) = false := decide_eq_false h3
      clear h3 HK
      obtain ⟨b3, off3, d, D2, d2, D3, d3, D4, d4, hA3, hb3, hp3, z0, z1, z2, z3, z4, p2, p3, p4⟩ := atDos HR.out (i := k) hkl
      subst hA3
      have HF := Lib.hid (fit_some hk hp3)
      have hre := docsOk_rev (HA.out _ _ hp3)
      have hsd := hs.at_ (List.mem_of_getElem? hp3)
      have P2h := Lib.hid p2
      have P3h := Lib.hid p3
      have P4h := Lib.hid p4
      have HRE := Lib.hid hre
      clear hp3 p2 p3 p4 hk hre
      rcases (show e.out = true ∨ e.out = false by cases e.out <;> simp) with h6 | h6
      · have HJ := Lib.hid (show m.all (fitB l) = (m.drop (j + 1)).all (fitB l) by rw [HI.out, HT.out, HF.out, h6, Bool.true_or, Bool.true_and])
        replace HM := Lib.hid (HM.out.drew)
        refine wp_region_held_drew (S := fun W => Ms w [.bx wr.heap.size (.cells #[.int .i64 e.id, .string e.doc, .int .i64 e.cap, .int .i64 e.next, .bool e.out, .slice C5 e.list.length c5] 73 (0, 0))] W) (by kernel_rfl) (HM.out.pick (ks := [0]) (by decide) rfl) (fun hS => ?_)
        generalize W3.drew = W5 at HM hS  ⊢
        refine tk (v := ?_) 0 22 rfl (fun w' hS' => ?_) hS ?_
        rotate_left
        · go_simp; all_goals (with_reducible rfl)
        try simp only [Act.put, pa, pb, pc]
        refine tk (v := ?_) 1 23 rfl (fun w' hS' => ?_) hS ?_
        rotate_left
        · go_simp; all_goals (with_reducible rfl)
        try simp only [Act.put, pa, pb, pc]
        try rw [g3]
        refine tk (v := ?_) 2 24 rfl (fun w' hS' => ?_) hS ?_
        rotate_left
        · go_simp; all_goals (with_reducible rfl)
        try simp only [Act.put, pa, pb, pc]
        refine tk (v := ?_) 3 25 rfl (fun w' hS' => ?_) hS ?_
        rotate_left
        · go_simp; all_goals (with_reducible rfl)
        try simp only [Act.put, pa, pb, pc]
        refine tk (v := ?_) 4 26 rfl (fun w' hS' => ?_) hS ?_
        rotate_left
        · go_simp; all_goals (with_reducible rfl)
        try simp only [Act.put, pa, pb, pc]
        refine tk (v := ?_) 5 27 rfl (fun w' hS' => ?_) hS ?_
        rotate_left
        · (try dsimp only at hS'); have q0 := hS'.cell (i := 0) (j := 0) rfl rfl; have q1 := hS'.cell (i := 0) (j := 1) rfl rfl; have q2 := hS'.cell (i := 0) (j := 2) rfl rfl; have q3 := hS'.cell (i := 0) (j := 3) rfl rfl; have q4 := hS'.cell (i := 0) (j := 4) rfl rfl; have q5 := hS'.cell (i := 0) (j := 5) rfl rfl; have c0 := (hS'.bl.cell (p := ⟨g, 0, none⟩) HG.out).trans HC0.out; rw [h6] at q4; go_simp; all_goals (with_reducible rfl)
        try simp only [Act.put, pa, pb, pc]
        refine tk (v := ?_) 6 28 rfl (fun w' hS' => ?_) hS ?_
        rotate_left
        · go_simp; all_goals (with_reducible rfl)
        try simp only [Act.put, pa, pb, pc]
        refine tk (v := ?_) 7 29 rfl (fun w' hS' => ?_) hS ?_
        rotate_left
        · go_simp; all_goals (with_reducible rfl)
        try simp only [Act.put, pa, pb, pc]
        refine tu 8 30 rfl hS ?_
        try simp only [Act.put, pa, pb, pc]
        refine tu 9 31 rfl hS ?_
        try simp only [Act.put, pa, pb, pc]
        refine tu 10 32 rfl hS ?_
        try simp only [Act.put, pa, pb, pc]
        refine tu 11 33 rfl hS ?_
        try simp only [Act.put, pa, pb, pc]
        refine tu 12 34 rfl hS ?_
        try simp only [Act.put, pa, pb, pc]
        refine tu 13 35 rfl hS ?_
        try simp only [Act.put, pa, pb, pc]
        refine tu 14 36 rfl hS ?_
        try simp only [Act.put, pa, pb, pc]
        refine tu 15 37 rfl hS ?_
        try simp only [Act.put, pa, pb, pc]
        refine tu 16 38 rfl hS ?_
        try simp only [Act.put, pa, pb, pc]
        refine tu 17 39 rfl hS ?_
        try simp only [Act.put, pa, pb, pc]
        refine tu 18 40 rfl hS ?_
        try simp only [Act.put, pa, pb, pc]
        refine tu 19 41 rfl hS ?_
        try simp only [Act.put, pa, pb, pc]
        refine tu 20 42 rfl hS ?_
        try simp only [Act.put, pa, pb, pc]
        refine tu 21 43 rfl hS ?_
        try simp only [Act.put, pa, pb, pc]
        refine tu 22 44 rfl hS ?_
        try simp only [Act.put, pa, pb, pc]
        refine tu 23 45 rfl hS ?_
        try simp only [Act.put, pa, pb, pc]
        refine tu 24 46 rfl hS ?_
        try simp only [Act.put, pa, pb, pc]
        refine tu 25 47 rfl hS ?_
        try simp only [Act.put, pa, pb, pc]
        refine tu 26 48 rfl hS ?_
        try simp only [Act.put, pa, pb, pc]
        refine tk (v := ?_) 27 49 rfl (fun w' hS' => ?_) hS ?_
        rotate_left
        · go_simp; all_goals (with_reducible rfl)
        try simp only [Act.put, pa, pb, pc]
        refine tk (v := ?_) 28 50 rfl (fun w' hS' => ?_) hS ?_
        rotate_left
        · go_simp; all_goals (with_reducible rfl)
        try simp only [Act.put, pa, pb, pc]
        refine wpAnyH_done (by kernel_rfl) ?_ _
        clear hS
        go_wp2
        go_roundw
        case rel => exact ⟨j + 1, by omega, by go_num, HJ.out, HM.out.pick (ks := []) (by decide) rfl⟩
        case measure => simp [intOf]; omega
      have hrb := RB.out
      have hn1 : e.next ≤ 1000000000 ∧ 1 ≤ e.next ∧ (e.list.length : Int) ≤ e.cap ∧ e.cap ≤ 6 := ⟨hrb.2.2.2.2.1, hrb.2.2.2.1, hrb.2.2.2.2.2.1, hrb.2.2.1⟩
      obtain ⟨hn1, hn2, hn3, hn4⟩ := hn1
      obtain ⟨hr1, hr2⟩ := HRE.out
      clear hrb
      have hw1 : IntKind.i64.wrap (e.next + (e.list.length : Int)) = e.next + (e.list.length : Int) := IntWalk.i64_in _ (by omega)
      have hw2 : IntKind.i64.wrap (headRevT d + 1) = headRevT d + 1 := IntWalk.i64_in _ (by omega)
      by_cases h7 : e.next + (e.list.length : Int) = headRevT d + 1
      rotate_left
      · have HE := Lib.hid (show m.all (fitB l) = false by rw [HI.out, HT.out, HF.out, h6, decide_eq_false h7, Bool.or_false, Bool.false_and])
        have g7 : (e.next + (e.list.length : Int) != headRevT d + 1) = true := by rw [bne_iff_ne]; exact h7
        clear h7
        replace HM := Lib.hid (HM.out.drew)
        refine wp_region_held_drew (S := fun W => Ms w [.bx wr.heap.size (.cells #[.int .i64 e.id, .string e.doc, .int .i64 e.cap, .int .i64 e.next, .bool e.out, .slice C5 e.list.length c5] 73 (0, 0))] W) (by kernel_rfl) (HM.out.pick (ks := [0]) (by decide) rfl) (fun hS => ?_)
        generalize W3.drew = W6 at HM hS  ⊢
        refine tk (v := ?_) 0 22 rfl (fun w' hS' => ?_) hS ?_
        rotate_left
        · go_simp; all_goals (with_reducible rfl)
        try simp only [Act.put, pa, pb, pc]
        refine tk (v := ?_) 1 23 rfl (fun w' hS' => ?_) hS ?_
        rotate_left
        · go_simp; all_goals (with_reducible rfl)
        try simp only [Act.put, pa, pb, pc]
        try rw [g3]
        refine tk (v := ?_) 2 24 rfl (fun w' hS' => ?_) hS ?_
        rotate_left
        · go_simp; all_goals (with_reducible rfl)
        try simp only [Act.put, pa, pb, pc]
        first | refine tu 3 25 rfl hS ?_ | (refine tk (v := ?_) 3 25 rfl (fun w' hS' => ?_) hS ?_; rotate_left; · (go_simp; all_goals (with_reducible rfl)))
        try simp only [Act.put, pa, pb, pc]
        first | refine tu 4 26 rfl hS ?_ | (refine tk (v := ?_) 4 26 rfl (fun w' hS' => ?_) hS ?_; rotate_left; · (go_simp; all_goals (with_reducible rfl)))
        try simp only [Act.put, pa, pb, pc]
        first | refine tu 5 27 rfl hS ?_ | (refine tk (v := ?_) 5 27 rfl (fun w' hS' => ?_) hS ?_; rotate_left; · ((try dsimp only at hS'); have q0 := hS'.cell (i := 0) (j := 0) rfl rfl; have q1 := hS'.cell (i := 0) (j := 1) rfl rfl; have q2 := hS'.cell (i := 0) (j := 2) rfl rfl; have q3 := hS'.cell (i := 0) (j := 3) rfl rfl; have q4 := hS'.cell (i := 0) (j := 4) rfl rfl; have q5 := hS'.cell (i := 0) (j := 5) rfl rfl; have c0 := (hS'.bl.cell (p := ⟨g, 0, none⟩) HG.out).trans HC0.out; have u0 := (hS'.bl.cell (p := ⟨b3, off3 + k * 5, none⟩) hb3).trans z0; have u1 := (hS'.bl.cell (p := ⟨b3, off3 + k * 5 + 1, none⟩) hb3).trans z1; have u2 := (hS'.bl.cell (p := ⟨b3, off3 + k * 5 + 2, none⟩) hb3).trans z2; have u3 := (hS'.bl.cell (p := ⟨b3, off3 + k * 5 + 3, none⟩) hb3).trans z3; have u4 := (hS'.bl.cell (p := ⟨b3, off3 + k * 5 + 4, none⟩) hb3).trans z4; rw [h6] at q4; go_simp; all_goals (with_reducible rfl)))
        try simp only [Act.put, pa, pb, pc]
        first | refine tu 6 28 rfl hS ?_ | (refine tk (v := ?_) 6 28 rfl (fun w' hS' => ?_) hS ?_; rotate_left; · (go_simp; all_goals (with_reducible rfl)))
        try simp only [Act.put, pa, pb, pc]
        first | refine tu 7 29 rfl hS ?_ | (refine tk (v := ?_) 7 29 rfl (fun w' hS' => ?_) hS ?_; rotate_left; · (go_simp; all_goals (with_reducible rfl)))
        try simp only [Act.put, pa, pb, pc]
        first | refine tu 8 30 rfl hS ?_ | (refine tk (v := ?_) 8 30 rfl (fun w' hS' => ?_) hS ?_; rotate_left; · (go_simp; all_goals (with_reducible rfl)))
        try simp only [Act.put, pa, pb, pc]
        first | refine tu 9 31 rfl hS ?_ | (refine tk (v := ?_) 9 31 rfl (fun w' hS' => ?_) hS ?_; rotate_left; · (go_simp; all_goals (with_reducible rfl)))
        try simp only [Act.put, pa, pb, pc]
        first | refine tu 10 32 rfl hS ?_ | (refine tk (v := ?_) 10 32 rfl (fun w' hS' => ?_) hS ?_; rotate_left; · ((try dsimp only at hS'); have q0 := hS'.cell (i := 0) (j := 0) rfl rfl; have q1 := hS'.cell (i := 0) (j := 1) rfl rfl; have q2 := hS'.cell (i := 0) (j := 2) rfl rfl; have q3 := hS'.cell (i := 0) (j := 3) rfl rfl; have q4 := hS'.cell (i := 0) (j := 4) rfl rfl; have q5 := hS'.cell (i := 0) (j := 5) rfl rfl; have c0 := (hS'.bl.cell (p := ⟨g, 0, none⟩) HG.out).trans HC0.out; have u0 := (hS'.bl.cell (p := ⟨b3, off3 + k * 5, none⟩) hb3).trans z0; have u1 := (hS'.bl.cell (p := ⟨b3, off3 + k * 5 + 1, none⟩) hb3).trans z1; have u2 := (hS'.bl.cell (p := ⟨b3, off3 + k * 5 + 2, none⟩) hb3).trans z2; have u3 := (hS'.bl.cell (p := ⟨b3, off3 + k * 5 + 3, none⟩) hb3).trans z3; have u4 := (hS'.bl.cell (p := ⟨b3, off3 + k * 5 + 4, none⟩) hb3).trans z4; rw [h6] at q4; go_simp; all_goals (with_reducible rfl)))
        try simp only [Act.put, pa, pb, pc]
        first | refine tu 11 33 rfl hS ?_ | (refine tk (v := ?_) 11 33 rfl (fun w' hS' => ?_) hS ?_; rotate_left; · (go_simp; all_goals (with_reducible rfl)))
        try simp only [Act.put, pa, pb, pc]
        first | refine tu 12 34 rfl hS ?_ | (refine tk (v := ?_) 12 34 rfl (fun w' hS' => ?_) hS ?_; rotate_left; · (go_simp; all_goals (with_reducible rfl)))
        try simp only [Act.put, pa, pb, pc]
        first | refine tu 13 35 rfl hS ?_ | (refine tk (v := ?_) 13 35 rfl (fun w' hS' => ?_) hS ?_; rotate_left; · ((try dsimp only at hS'); have q0 := hS'.cell (i := 0) (j := 0) rfl rfl; have q1 := hS'.cell (i := 0) (j := 1) rfl rfl; have q2 := hS'.cell (i := 0) (j := 2) rfl rfl; have q3 := hS'.cell (i := 0) (j := 3) rfl rfl; have q4 := hS'.cell (i := 0) (j := 4) rfl rfl; have q5 := hS'.cell (i := 0) (j := 5) rfl rfl; have c0 := (hS'.bl.cell (p := ⟨g, 0, none⟩) HG.out).trans HC0.out; have u0 := (hS'.bl.cell (p := ⟨b3, off3 + k * 5, none⟩) hb3).trans z0; have u1 := (hS'.bl.cell (p := ⟨b3, off3 + k * 5 + 1, none⟩) hb3).trans z1; have u2 := (hS'.bl.cell (p := ⟨b3, off3 + k * 5 + 2, none⟩) hb3).trans z2; have u3 := (hS'.bl.cell (p := ⟨b3, off3 + k * 5 + 3, none⟩) hb3).trans z3; have u4 := (hS'.bl.cell (p := ⟨b3, off3 + k * 5 + 4, none⟩) hb3).trans z4; rw [h6] at q4; go_simp; all_goals (with_reducible rfl)))
        try simp only [Act.put, pa, pb, pc]
        first | refine tu 14 36 rfl hS ?_ | (refine tk (v := ?_) 14 36 rfl (fun w' hS' => ?_) hS ?_; rotate_left; · (go_simp; all_goals (with_reducible rfl)))
        try simp only [Act.put, pa, pb, pc]
        first | refine tu 15 37 rfl hS ?_ | (refine tk (v := ?_) 15 37 rfl (fun w' hS' => ?_) hS ?_; rotate_left; · (go_simp; all_goals (with_reducible rfl)))
        try simp only [Act.put, pa, pb, pc]
        first | refine tu 16 38 rfl hS ?_ | (refine tk (v := ?_) 16 38 rfl (fun w' hS' => ?_) hS ?_; rotate_left; · (go_simp; all_goals (with_reducible rfl)))
        try simp only [Act.put, pa, pb, pc]
        first | refine tu 17 39 rfl hS ?_ | (refine tk (v := ?_) 17 39 rfl (fun w' hS' => ?_) hS ?_; rotate_left; · (go_simp; all_goals (with_reducible rfl)))
        try simp only [Act.put, pa, pb, pc]
        first | refine tu 18 40 rfl hS ?_ | (refine tk (v := ?_) 18 40 rfl (fun w' hS' => ?_) hS ?_; rotate_left; · (go_simp; all_goals (with_reducible rfl)))
        try simp only [Act.put, pa, pb, pc]
        first | refine tu 19 41 rfl hS ?_ | (refine tk (v := ?_) 19 41 rfl (fun w' hS' => ?_) hS ?_; rotate_left; · (go_simp; all_goals (with_reducible rfl)))
        try simp only [Act.put, pa, pb, pc]
        first | refine tu 20 42 rfl hS ?_ | (refine tk (v := ?_) 20 42 rfl (fun w' hS' => ?_) hS ?_; rotate_left; · ((try dsimp only at hS'); have q0 := hS'.cell (i := 0) (j := 0) rfl rfl; have q1 := hS'.cell (i := 0) (j := 1) rfl rfl; have q2 := hS'.cell (i := 0) (j := 2) rfl rfl; have q3 := hS'.cell (i := 0) (j := 3) rfl rfl; have q4 := hS'.cell (i := 0) (j := 4) rfl rfl; have q5 := hS'.cell (i := 0) (j := 5) rfl rfl; have c0 := (hS'.bl.cell (p := ⟨g, 0, none⟩) HG.out).trans HC0.out; have u0 := (hS'.bl.cell (p := ⟨b3, off3 + k * 5, none⟩) hb3).trans z0; have u1 := (hS'.bl.cell (p := ⟨b3, off3 + k * 5 + 1, none⟩) hb3).trans z1; have u2 := (hS'.bl.cell (p := ⟨b3, off3 + k * 5 + 2, none⟩) hb3).trans z2; have u3 := (hS'.bl.cell (p := ⟨b3, off3 + k * 5 + 3, none⟩) hb3).trans z3; have u4 := (hS'.bl.cell (p := ⟨b3, off3 + k * 5 + 4, none⟩) hb3).trans z4; rw [h6] at q4; go_simp; all_goals (with_reducible rfl)))
        try simp only [Act.put, pa, pb, pc]
        first | refine tu 21 43 rfl hS ?_ | (refine tk (v := ?_) 21 43 rfl (fun w' hS' => ?_) hS ?_; rotate_left; · (go_simp; all_goals (with_reducible rfl)))
        try simp only [Act.put, pa, pb, pc]
        first | refine tu 22 44 rfl hS ?_ | (refine tk (v := ?_) 22 44 rfl (fun w' hS' => ?_) hS ?_; rotate_left; · (go_simp; all_goals (with_reducible rfl)))
        try simp only [Act.put, pa, pb, pc]
        first | refine tu 23 45 rfl hS ?_ | (refine tk (v := ?_) 23 45 rfl (fun w' hS' => ?_) hS ?_; rotate_left; · ((try dsimp only at hS'); have q0 := hS'.cell (i := 0) (j := 0) rfl rfl; have q1 := hS'.cell (i := 0) (j := 1) rfl rfl; have q2 := hS'.cell (i := 0) (j := 2) rfl rfl; have q3 := hS'.cell (i := 0) (j := 3) rfl rfl; have q4 := hS'.cell (i := 0) (j := 4) rfl rfl; have q5 := hS'.cell (i := 0) (j := 5) rfl rfl; have c0 := (hS'.bl.cell (p := ⟨g, 0, none⟩) HG.out).trans HC0.out; have u0 := (hS'.bl.cell (p := ⟨b3, off3 + k * 5, none⟩) hb3).trans z0; have u1 := (hS'.bl.cell (p := ⟨b3, off3 + k * 5 + 1, none⟩) hb3).trans z1; have u2 := (hS'.bl.cell (p := ⟨b3, off3 + k * 5 + 2, none⟩) hb3).trans z2; have u3 := (hS'.bl.cell (p := ⟨b3, off3 + k * 5 + 3, none⟩) hb3).trans z3; have u4 := (hS'.bl.cell (p := ⟨b3, off3 + k * 5 + 4, none⟩) hb3).trans z4; rw [h6] at q4; go_simp; all_goals (with_reducible rfl)))
        try simp only [Act.put, pa, pb, pc]
        refine r1 24 (some 46) rfl (fun K hK => ?_)
        go_simp
        refine (implHeadRev_w _ d _ (rdDo d (HM.out.arg P2h.out) (HM.out.arg P3h.out) (HM.out.arg P4h.out))).mono ?_
        rintro e' W7 ⟨rfl, b'⟩
        replace HM := Lib.hid (HM.out.past b')
        clear b'
        clear hS
        refine hK.out _ _ (HM.out.pick (ks := [0]) (by decide) rfl) (fun hS => ?_)
        clear hK K
        try simp only [Act.put, pa, pb, pc]
        first | refine tu 25 47 rfl hS ?_ | (refine tk (v := ?_) 25 47 rfl (fun w' hS' => ?_) hS ?_; rotate_left; · (go_simp; all_goals (with_reducible rfl)))
        try simp only [Act.put, pa, pb, pc]
        first | refine tu 26 48 rfl hS ?_ | (refine tk (v := ?_) 26 48 rfl (fun w' hS' => ?_) hS ?_; rotate_left; · (go_simp; all_goals (with_reducible rfl)))
        try simp only [Act.put, pa, pb, pc]
        try rw [g7]
        first | refine tu 27 49 rfl hS ?_ | (refine tk (v := ?_) 27 49 rfl (fun w' hS' => ?_) hS ?_; rotate_left; · (go_simp; all_goals (with_reducible rfl)))
        try simp only [Act.put, pa, pb, pc]
        refine tk (v := ?_) 28 50 rfl (fun w' hS' => ?_) hS ?_
        rotate_left
        · go_simp; all_goals (with_reducible rfl)
        try simp only [Act.put, pa, pb, pc]
        refine wpAnyH_done (by kernel_rfl) ?_ _
        clear hS
        go_wp2
        go_ret
        exact ⟨ret_b HE.out.symm, HM.out.bl⟩
      have HJ := Lib.hid (show m.all (fitB l) = (m.drop (j + 1)).all (fitB l) by rw [HI.out, HT.out, HF.out, h6, decide_eq_true h7, Bool.or_true, Bool.true_and])
      have g7 : (e.next + (e.list.length : Int) != headRevT d + 1) = false := by rw [bne_eq_false_iff_eq]; exact h7
      replace h7 := Lib.hid h7
      replace HM := Lib.hid (HM.out.drew)
      refine wp_region_held_drew (S := fun W => Ms w [.bx wr.heap.size (.cells #[.int .i64 e.id, .string e.doc, .int .i64 e.cap, .int .i64 e.next, .bool e.out, .slice C5 e.list.length c5] 73 (0, 0))] W) (by kernel_rfl) (HM.out.pick (ks := [0]) (by decide) rfl) (fun hS => ?_)
      generalize W3.drew = W8 at HM hS  ⊢
      refine tk (v := ?_) 0 22 rfl (fun w' hS' => ?_) hS ?_
      rotate_left
      · go_simp; all_goals (with_reducible rfl)
      try simp only [Act.put, pa, pb, pc]
      refine tk (v := ?_) 1 23 rfl (fun w' hS' => ?_) hS ?_
      rotate_left
      · go_simp; all_goals (with_reducible rfl)
      try simp only [Act.put, pa, pb, pc]
      try rw [g3]
      refine tk (v := ?_) 2 24 rfl (fun w' hS' => ?_) hS ?_
      rotate_left
      · go_simp; all_goals (with_reducible rfl)
      try simp only [Act.put, pa, pb, pc]
      first | refine tu 3 25 rfl hS ?_ | (refine tk (v := ?_) 3 25 rfl (fun w' hS' => ?_) hS ?_; rotate_left; · (go_simp; all_goals (with_reducible rfl)))
      try simp only [Act.put, pa, pb, pc]
      first | refine tu 4 26 rfl hS ?_ | (refine tk (v := ?_) 4 26 rfl (fun w' hS' => ?_) hS ?_; rotate_left; · (go_simp; all_goals (with_reducible rfl)))
      try simp only [Act.put, pa, pb, pc]
      first | refine tu 5 27 rfl hS ?_ | (refine tk (v := ?_) 5 27 rfl (fun w' hS' => ?_) hS ?_; rotate_left; · ((try dsimp only at hS'); have q0 := hS'.cell (i := 0) (j := 0) rfl rfl; have q1 := hS'.cell (i := 0) (j := 1) rfl rfl; have q2 := hS'.cell (i := 0) (j := 2) rfl rfl; have q3 := hS'.cell (i := 0) (j := 3) rfl rfl; have q4 := hS'.cell (i := 0) (j := 4) rfl rfl; have q5 := hS'.cell (i := 0) (j := 5) rfl rfl; have c0 := (hS'.bl.cell (p := ⟨g, 0, none⟩) HG.out).trans HC0.out; have u0 := (hS'.bl.cell (p := ⟨b3, off3 + k * 5, none⟩) hb3).trans z0; have u1 := (hS'.bl.cell (p := ⟨b3, off3 + k * 5 + 1, none⟩) hb3).trans z1; have u2 := (hS'.bl.cell (p := ⟨b3, off3 + k * 5 + 2, none⟩) hb3).trans z2; have u3 := (hS'.bl.cell (p := ⟨b3, off3 + k * 5 + 3, none⟩) hb3).trans z3; have u4 := (hS'.bl.cell (p := ⟨b3, off3 + k * 5 + 4, none⟩) hb3).trans z4; rw [h6] at q4; go_simp; all_goals (with_reducible rfl)))
      try simp only [Act.put, pa, pb, pc]
      first | refine tu 6 28 rfl hS ?_ | (refine tk (v := ?_) 6 28 rfl (fun w' hS' => ?_) hS ?_; rotate_left; · (go_simp; all_goals (with_reducible rfl)))
      try simp only [Act.put, pa, pb, pc]
      first | refine tu 7 29 rfl hS ?_ | (refine tk (v := ?_) 7 29 rfl (fun w' hS' => ?_) hS ?_; rotate_left; · (go_simp; all_goals (with_reducible rfl)))
      try simp only [Act.put, pa, pb, pc]
      first | refine tu 8 30 rfl hS ?_ | (refine tk (v := ?_) 8 30 rfl (fun w' hS' => ?_) hS ?_; rotate_left; · (go_simp; all_goals (with_reducible rfl)))
      try simp only [Act.put, pa, pb, pc]
      first | refine tu 9 31 rfl hS ?_ | (refine tk (v := ?_) 9 31 rfl (fun w' hS' => ?_) hS ?_; rotate_left; · (go_simp; all_goals (with_reducible rfl)))
      try simp only [Act.put, pa, pb, pc]
      first | refine tu 10 32 rfl hS ?_ | (refine tk (v := ?_) 10 32 rfl (fun w' hS' => ?_) hS ?_; rotate_left; · ((try dsimp only at hS'); have q0 := hS'.cell (i := 0) (j := 0) rfl rfl; have q1 := hS'.cell (i := 0) (j := 1) rfl rfl; have q2 := hS'.cell (i := 0) (j := 2) rfl rfl; have q3 := hS'.cell (i := 0) (j := 3) rfl rfl; have q4 := hS'.cell (i := 0) (j := 4) rfl rfl; have q5 := hS'.cell (i := 0) (j := 5) rfl rfl; have c0 := (hS'.bl.cell (p := ⟨g, 0, none⟩) HG.out).trans HC0.out; have u0 := (hS'.bl.cell (p := ⟨b3, off3 + k * 5, none⟩) hb3).trans z0; have u1 := (hS'.bl.cell (p := ⟨b3, off3 + k * 5 + 1, none⟩) hb3).trans z1; have u2 := (hS'.bl.cell (p := ⟨b3, off3 + k * 5 + 2, none⟩) hb3).trans z2; have u3 := (hS'.bl.cell (p := ⟨b3, off3 + k * 5 + 3, none⟩) hb3).trans z3; have u4 := (hS'.bl.cell (p := ⟨b3, off3 + k * 5 + 4, none⟩) hb3).trans z4; rw [h6] at q4; go_simp; all_goals (with_reducible rfl)))
      try simp only [Act.put, pa, pb, pc]
      first | refine tu 11 33 rfl hS ?_ | (refine tk (v := ?_) 11 33 rfl (fun w' hS' => ?_) hS ?_; rotate_left; · (go_simp; all_goals (with_reducible rfl)))
      try simp only [Act.put, pa, pb, pc]
      first | refine tu 12 34 rfl hS ?_ | (refine tk (v := ?_) 12 34 rfl (fun w' hS' => ?_) hS ?_; rotate_left; · (go_simp; all_goals (with_reducible rfl)))
      try simp only [Act.put, pa, pb, pc]
      first | refine tu 13 35 rfl hS ?_ | (refine tk (v := ?_) 13 35 rfl (fun w' hS' => ?_) hS ?_; rotate_left; · ((try dsimp only at hS'); have q0 := hS'.cell (i := 0) (j := 0) rfl rfl; have q1 := hS'.cell (i := 0) (j := 1) rfl rfl; have q2 := hS'.cell (i := 0) (j := 2) rfl rfl; have q3 := hS'.cell (i := 0) (j := 3) rfl rfl; have q4 := hS'.cell (i := 0) (j := 4) rfl rfl; have q5 := hS'.cell (i := 0) (j := 5) rfl rfl; have c0 := (hS'.bl.cell (p := ⟨g, 0, none⟩) HG.out).trans HC0.out; have u0 := (hS'.bl.cell (p := ⟨b3, off3 + k * 5, none⟩) hb3).trans z0; have u1 := (hS'.bl.cell (p := ⟨b3, off3 + k * 5 + 1, none⟩) hb3).trans z1; have u2 := (hS'.bl.cell (p := ⟨b3, off3 + k * 5 + 2, none⟩) hb3).trans z2; have u3 := (hS'.bl.cell (p := ⟨b3, off3 + k * 5 + 3, none⟩) hb3).trans z3; have u4 := (hS'.bl.cell (p := ⟨b3, off3 + k * 5 + 4, none⟩) hb3).trans z4; rw [h6] at q4; go_simp; all_goals (with_reducible rfl)))
      try simp only [Act.put, pa, pb, pc]
      first | refine tu 14 36 rfl hS ?_ | (refine tk (v := ?_) 14 36 rfl (fun w' hS' => ?_) hS ?_; rotate_left; · (go_simp; all_goals (with_reducible rfl)))
      try simp only [Act.put, pa, pb, pc]
      first | refine tu 15 37 rfl hS ?_ | (refine tk (v := ?_) 15 37 rfl (fun w' hS' => ?_) hS ?_; rotate_left; · (go_simp; all_goals (with_reducible rfl)))
      try simp only [Act.put, pa, pb, pc]
      first | refine tu 16 38 rfl hS ?_ | (refine tk (v := ?_) 16 38 rfl (fun w' hS' => ?_) hS ?_; rotate_left; · (go_simp; all_goals (with_reducible rfl)))
      try simp only [Act.put, pa, pb, pc]
      first | refine tu 17 39 rfl hS ?_ | (refine tk (v := ?_) 17 39 rfl (fun w' hS' => ?_) hS ?_; rotate_left; · (go_simp; all_goals (with_reducible rfl)))
      try simp only [Act.put, pa, pb, pc]
      first | refine tu 18 40 rfl hS ?_ | (refine tk (v := ?_) 18 40 rfl (fun w' hS' => ?_) hS ?_; rotate_left; · (go_simp; all_goals (with_reducible rfl)))
      try simp only [Act.put, pa, pb, pc]
      first | refine tu 19 41 rfl hS ?_ | (refine tk (v := ?_) 19 41 rfl (fun w' hS' => ?_) hS ?_; rotate_left; · (go_simp; all_goals (with_reducible rfl)))
      try simp only [Act.put, pa, pb, pc]
      first | refine tu 20 42 rfl hS ?_ | (refine tk (v := ?_) 20 42 rfl (fun w' hS' => ?_) hS ?_; rotate_left; · ((try dsimp only at hS'); have q0 := hS'.cell (i := 0) (j := 0) rfl rfl; have q1 := hS'.cell (i := 0) (j := 1) rfl rfl; have q2 := hS'.cell (i := 0) (j := 2) rfl rfl; have q3 := hS'.cell (i := 0) (j := 3) rfl rfl; have q4 := hS'.cell (i := 0) (j := 4) rfl rfl; have q5 := hS'.cell (i := 0) (j := 5) rfl rfl; have c0 := (hS'.bl.cell (p := ⟨g, 0, none⟩) HG.out).trans HC0.out; have u0 := (hS'.bl.cell (p := ⟨b3, off3 + k * 5, none⟩) hb3).trans z0; have u1 := (hS'.bl.cell (p := ⟨b3, off3 + k * 5 + 1, none⟩) hb3).trans z1; have u2 := (hS'.bl.cell (p := ⟨b3, off3 + k * 5 + 2, none⟩) hb3).trans z2; have u3 := (hS'.bl.cell (p := ⟨b3, off3 + k * 5 + 3, none⟩) hb3).trans z3; have u4 := (hS'.bl.cell (p := ⟨b3, off3 + k * 5 + 4, none⟩) hb3).trans z4; rw [h6] at q4; go_simp; all_goals (with_reducible rfl)))
      try simp only [Act.put, pa, pb, pc]
      first | refine tu 21 43 rfl hS ?_ | (refine tk (v := ?_) 21 43 rfl (fun w' hS' => ?_) hS ?_; rotate_left; · (go_simp; all_goals (with_reducible rfl)))
      try simp only [Act.put, pa, pb, pc]
      first | refine tu 22 44 rfl hS ?_ | (refine tk (v := ?_) 22 44 rfl (fun w' hS' => ?_) hS ?_; rotate_left; · (go_simp; all_goals (with_reducible rfl)))
      try simp only [Act.put, pa, pb, pc]
      first | refine tu 23 45 rfl hS ?_ | (refine tk (v := ?_) 23 45 rfl (fun w' hS' => ?_) hS ?_; rotate_left; · ((try dsimp only at hS'); have q0 := hS'.cell (i := 0) (j := 0) rfl rfl; have q1 := hS'.cell (i := 0) (j := 1) rfl rfl; have q2 := hS'.cell (i := 0) (j := 2) rfl rfl; have q3 := hS'.cell (i := 0) (j := 3) rfl rfl; have q4 := hS'.cell (i := 0) (j := 4) rfl rfl; have q5 := hS'.cell (i := 0) (j := 5) rfl rfl; have c0 := (hS'.bl.cell (p := ⟨g, 0, none⟩) HG.out).trans HC0.out; have u0 := (hS'.bl.cell (p := ⟨b3, off3 + k * 5, none⟩) hb3).trans z0; have u1 := (hS'.bl.cell (p := ⟨b3, off3 + k * 5 + 1, none⟩) hb3).trans z1; have u2 := (hS'.bl.cell (p := ⟨b3, off3 + k * 5 + 2, none⟩) hb3).trans z2; have u3 := (hS'.bl.cell (p := ⟨b3, off3 + k * 5 + 3, none⟩) hb3).trans z3; have u4 := (hS'.bl.cell (p := ⟨b3, off3 + k * 5 + 4, none⟩) hb3).trans z4; rw [h6] at q4; go_simp; all_goals (with_reducible rfl)))
      try simp only [Act.put, pa, pb, pc]
      refine r1 24 (some 46) rfl (fun K hK => ?_)
      go_simp
      refine (implHeadRev_w _ d _ (rdDo d (HM.out.arg P2h.out) (HM.out.arg P3h.out) (HM.out.arg P4h.out))).mono ?_
      rintro e' W9 ⟨rfl, b'⟩
      replace HM := Lib.hid (HM.out.past b')
      clear b'
      clear hS
      refine hK.out _ _ (HM.out.pick (ks := [0]) (by decide) rfl) (fun hS => ?_)
      clear hK K
      try simp only [Act.put, pa, pb, pc]
      first | refine tu 25 47 rfl hS ?_ | (refine tk (v := ?_) 25 47 rfl (fun w' hS' => ?_) hS ?_; rotate_left; · (go_simp; all_goals (with_reducible rfl)))
      try simp only [Act.put, pa, pb, pc]
      first | refine tu 26 48 rfl hS ?_ | (refine tk (v := ?_) 26 48 rfl (fun w' hS' => ?_) hS ?_; rotate_left; · (go_simp; all_goals (with_reducible rfl)))
      try simp only [Act.put, pa, pb, pc]
      try rw [g7]
      first | refine tu 27 49 rfl hS ?_ | (refine tk (v := ?_) 27 49 rfl (fun w' hS' => ?_) hS ?_; rotate_left; · (go_simp; all_goals (with_reducible rfl)))
      try simp only [Act.put, pa, pb, pc]
      refine tk (v := ?_) 28 50 rfl (fun w' hS' => ?_) hS ?_
      rotate_left
      · go_simp; all_goals (with_reducible rfl)
      try simp only [Act.put, pa, pb, pc]
      refine wpAnyH_done (by kernel_rfl) ?_ _
      clear hS
      go_wp2
      go_roundw
      case rel => exact ⟨j + 1, by omega, by go_num, HJ.out, HM.out.pick (ks := []) (by decide) rfl⟩
      case measure => simp [intOf]; omega
    · have h9 : m.drop j = [] := List.drop_eq_nil_of_le (by omega)
      have HE := Lib.hid (show m.all (fitB l) = true by rw [HI.out, h9]; rfl)
      clear h9
      go_wp2
      go_ret
      exact ⟨ret_b HE.out.symm, HM.out.bl⟩
theorem hub_short {x : Hu} : hubB x = ((decide (x.docs.length ≤ 5) && docsB none x.docs) && ((decide (x.subs.length ≤ 6) && (inB x.last 0 1000000000 && subsI x.last 0 x.subs)) && x.subs.all (fitB x.docs))) := by
  unfold hubB
  rw [subs_eq (Int.le_refl 0)]
  cases decide (x.docs.length ≤ 5) <;> cases decide (x.subs.length ≤ 6) <;> cases inB x.last 0 1000000000 <;> cases docsB none x.docs <;> cases subsI x.last 0 x.subs <;> cases x.subs.all (fitB x.docs) <;> rfl
set_option maxRecDepth 100000 in
set_option maxHeartbeats 3200000 in
theorem implHubOk_d (v : Value) (x : Hu) (w : World) (h : RdC w w.heap.size (datHu x) v) (hs : SmHu x) : Calls Tryz.prog 15 #[v] w (Tells (hubB x) w) := by
  have HR := Lib.hid h
  obtain ⟨A1, ca, A2, cb, rfl, r1, r2⟩ := aggHu h
  have R1 := Lib.hid r1
  have R2 := Lib.hid r2
  have hl1 := hs.docs.len
  have hl2 := hs.subs.len
  clear h r1 r2
  have HM := Lib.hid (Ms.start w)
  replace HM := Lib.hid (HM.out.new #[.bool x.shut, .slice A1 x.docs.length ca, .slice A2 x.subs.length cb, .int .i64 x.last] 47)
  have HD := Lib.hid (hub_short (x := x))
  go_enter Tryz.func15, Tryz.ntmps15
  go_wp2_with fail
  obtain ⟨W1, hW, hm⟩ := HM.out.name
  rw [← hW]
  replace HM := Lib.hid hm
  clear hm hW
  refine (regs_any _ _ _ _ _ _ _ _ _).mono ?_
  rintro e' W2 ⟨g, rfl, hm9⟩
  have hm := Ms.joinH HM.out hm9
  clear hm9
  replace HM := Lib.hid hm
  clear hm
  go_wp2_with fail
  refine (docsOk_any _ x.docs g _ (HM.out.arg R1.out) hs.docs (HM.out.glt (i := 0) rfl).2 ((HM.out.cell (i := 0) (j := 0) rfl rfl))).mono ?_
  rintro e' W3 ⟨rfl, b'⟩
  replace HM := Lib.hid (HM.out.past b')
  clear b'
  cases h1 : (decide (x.docs.length ≤ 5) && docsB none x.docs)
  · have HE := Lib.hid (show hubB x = false by rw [HD.out, h1]; rfl)
    go_wp2
    go_ret
    exact ⟨ret_b HE.out.symm, HM.out.bl⟩
  go_wp2_with fail
  refine (subsOk_any _ x.subs x.last g _ (HM.out.arg R2.out) hs.subs (HM.out.glt (i := 0) rfl).2 ((HM.out.cell (i := 0) (j := 1) rfl rfl)) ((HM.out.cell (i := 0) (j := 2) rfl rfl))).mono ?_
  rintro e' W4 ⟨rfl, b'⟩
  replace HM := Lib.hid (HM.out.past b')
  clear b'
  cases h2 : (decide (x.subs.length ≤ 6) && (inB x.last 0 1000000000 && subsI x.last 0 x.subs))
  · have HE := Lib.hid (show hubB x = false by rw [HD.out, h1, h2]; rfl)
    go_wp2
    go_ret
    exact ⟨ret_b HE.out.symm, HM.out.bl⟩
  have hq1 : docsB none x.docs = true := by rw [Bool.and_eq_true] at h1; exact h1.2
  have hq2 : subsI x.last 0 x.subs = true := by rw [Bool.and_eq_true, Bool.and_eq_true] at h2; exact h2.2.2
  have HQ1 := Lib.hid hq1
  have HQ2 := Lib.hid hq2
  have HE := Lib.hid (show hubB x = x.subs.all (fitB x.docs) by rw [HD.out, h1, h2]; rfl)
  clear hq1 hq2 h1 h2
  go_wp2_with fail
  refine (consistent_any _ _ x.docs x.subs x.last g _ (HM.out.arg R1.out) (HM.out.arg R2.out) hs.docs hs.subs (HM.out.glt (i := 0) rfl).2 ((HM.out.cell (i := 0) (j := 0) rfl rfl)) ((HM.out.cell (i := 0) (j := 1) rfl rfl)) HQ1.out HQ2.out).mono ?_
  rintro e' W5 ⟨rfl, b'⟩
  replace HM := Lib.hid (HM.out.past b')
  clear b'
  go_wp2
  go_ret
  exact ⟨ret_b HE.out.symm, HM.out.bl⟩
end Go.Proofs.YtninppjomdhnmaaGreat.low

