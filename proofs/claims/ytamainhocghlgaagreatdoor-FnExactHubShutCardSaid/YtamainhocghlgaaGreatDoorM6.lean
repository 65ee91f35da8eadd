/-
  Texts that the proofs over this seat rest on, one behind the other (6 of 6).
-/
import Derived.Test.YtamainhocghlgaaGreatDoorM5
import Derived.Laws.Cover1
import Derived.Test.YtamainhocghlgaaGreatDoorM4
import Derived.Test.YtamainhocghlgaaGreatDoorM1
import Derived.WalkKit
import Derived.LaidEql
import Derived.Stop.Asserts
import Derived.RowKitTokens
import Derived.Deep.AppendLies
import Derived.Laws.RangeAny
import Derived.Laws.BytesArg
import Derived.Lib.OthersKept
import Derived.WalkSmall
import Derived.Laws.Concat
import Derived.Deep.RegionWith
import Derived.Test.YtamainhocghlgaaGreatDoorM2
import Derived.Test.YtamainhocghlgaaGreatDoorM3

/-
  Contracts of the program: documentsOk, subscribersOk, consistent and HubOk. Written by mkhub4.py.
-/
namespace Go.Proofs.YtamainhocghlgaaGreatDoor.low
open Go.RowKit
set_option linter.unusedVariables false

theorem inB_and {n lo hi : Int} : inB n lo hi = (decide (lo ≤ n) && decide (n ≤ hi)) := by
  unfold inB
  rw [Bool.eq_iff_iff]
  simp
theorem bl_total : ∀ x y : List UInt8, (Op.bytesLess x y || x == y) = !(Op.bytesLess y x)
  | [], [] => rfl
  | [], _ :: _ => rfl
  | _ :: _, [] => rfl
  | a :: x, b :: y => by
    have ih := bl_total x y
    show ((decide (a < b) || (a == b && Op.bytesLess x y)) || (a == b && x == y)) = !(decide (b < a) || (b == a && Op.bytesLess y x))
    by_cases h : a = b
    · subst h
      have h0 : ¬ a < a := Nat.lt_irrefl _
      rw [decide_eq_false h0, beq_self_eq_true, Bool.true_and, Bool.true_and, Bool.true_and, Bool.false_or, Bool.false_or]
      exact ih
    · have e1 : (a == b) = false := beq_eq_false_iff_ne.2 h
      have e2 : (b == a) = false := beq_eq_false_iff_ne.2 (Ne.symm h)
      rw [e1, e2, Bool.false_and, Bool.false_and, Bool.false_and, Bool.or_false, Bool.or_false, Bool.or_false]
      rcases Nat.lt_or_gt_of_ne (fun e => h (UInt8.toNat_inj.1 e)) with h1 | h1
      · have h2 : a < b := h1
        have h3 : ¬ b < a := fun h4 => Nat.lt_asymm h1 h4
        rw [decide_eq_true h2, decide_eq_false h3]
        rfl
      · have h2 : b < a := h1
        have h3 : ¬ a < b := fun h4 => Nat.lt_asymm h1 h4
        rw [decide_eq_true h2, decide_eq_false h3]
        rfl
/-- the subscribers by themselves, behind one of the number p -/
def subsI (last : Int) : Int → List Su → Bool
  | _, [] => true
  | p, s :: l => decide (p < s.id) && (decide (s.id ≤ last) && (ringB (ringSu s) && subsI last s.id l))
theorem subsI_step {last p : Int} {l : List Su} {j : Nat} {s : Su} (h : l[j]? = some s) : subsI last p (l.drop j) = (decide (p < s.id) && (decide (s.id ≤ last) && (ringB (ringSu s) && subsI last (idAt l (j + 1)) (l.drop (j + 1))))) := by
  obtain ⟨h1, e1⟩ := List.getElem?_eq_some_iff.1 h
  rw [List.drop_eq_getElem_cons h1, e1]
  show _ = (_ && (_ && (_ && subsI last (((l[j]?).map (·.id)).getD 0) _)))
  rw [h]
  rfl
theorem subs_eq {docs : List Do} {last : Int} : ∀ {l : List Su} {p : Int}, 0 ≤ p → subsB docs last p l = (subsI last p l && l.all (fitB docs))
  | [], _, _ => rfl
  | s :: l, p, hp => by
    show (inB s.id 1 last && (ringB (ringSu s) && (fitB docs s && (decide (p < s.id) && subsB docs last s.id l)))) = ((decide (p < s.id) && (decide (s.id ≤ last) && (ringB (ringSu s) && subsI last s.id l))) && (fitB docs s && l.all (fitB docs)))
    by_cases h1 : p < s.id
    · have h2 : inB s.id 1 last = decide (s.id ≤ last) := by
        rw [inB_and, decide_eq_true (show (1 : Int) ≤ s.id by omega), Bool.true_and]
      rw [subs_eq (l := l) (p := s.id) (by omega), h2, decide_eq_true h1]
      cases decide (s.id ≤ last) <;> cases ringB (ringSu s) <;> cases fitB docs s <;> cases subsI last s.id l <;> simp
    · rw [decide_eq_false h1]
      simp
theorem subsI_ring : ∀ {last p : Int} {l : List Su}, subsI last p l = true → ∀ {j : Nat} {s : Su}, l[j]? = some s → ringB (ringSu s) = true
  | _, _, [], _, j, s, h => by simp at h
  | last, p, y :: l, hb, 0, s, h => by
    obtain rfl : y = s := by simpa using h
    unfold subsI at hb
    rw [Bool.and_eq_true, Bool.and_eq_true, Bool.and_eq_true] at hb
    exact hb.2.2.1
  | last, p, y :: l, hb, j + 1, s, h => by
    unfold subsI at hb
    rw [Bool.and_eq_true, Bool.and_eq_true, Bool.and_eq_true] at hb
    exact subsI_ring (l := l) hb.2.2.2 (j := j) (by simpa using h)
set_option maxRecDepth 100000 in
set_option maxHeartbeats 3200000 in
theorem docsOk_any (v : Value) (l : List Do) (g : Nat) (w : World) (h : RdC w w.heap.size (encDos l) v) (hs : SmDos l) (hg : g < w.heap.size) (hc : w.cell? ⟨g, 0, none⟩ = some v) : Calls Tryz.prog 68 #[.pointer (some ⟨g, 0, none⟩)] w (Tells (decide (l.length ≤ 5) && docsB none l) w) := by
  obtain ⟨A, c, rfl⟩ := sliceDos h
  have hl := hs.len
  have HR := Lib.hid h
  have HC0 := Lib.hid hc
  have HG := Lib.hid hg
  clear h
  by_cases e0 : l.length ≤ 5
  rotate_left
  · have g0 : decide ((5 : Int) < (l.length : Int)) = true := decide_eq_true (by omega)
    rw [decide_eq_false e0]
    clear e0
    go_enter Tryz.func68, Tryz.ntmps68
    go_wp2
    go_ret
    exact ⟨rfl, Below.refl _ _⟩
  have g0 : decide ((5 : Int) < (l.length : Int)) = false := decide_eq_false (by omega)
  rw [decide_eq_true e0, Bool.true_and]
  clear e0
  have HM := Lib.hid (Ms.start w)
  go_enter Tryz.func68, Tryz.ntmps68
  go_wp2
  clear hc hg g0
  go_loopw [16] (fun i wr => ∃ j : Nat, j ≤ l.length ∧ i = .int .i64 (j : Int) ∧ docsB none l = docsB (nameAt l j) (l.drop j) ∧ Ms w [] wr) (fun i _ => l.length - (intOf i).toNat)
  case atStart => exact ⟨0, Nat.zero_le _, rfl, by simp [nameAt], HM.out⟩
  case round =>
    obtain ⟨j, hj, rfl, hi, hm⟩ := hrel
    clear HM
    have HM := Lib.hid hm
    have HI := Lib.hid hi
    clear hm hi
    by_cases hlt : j < l.length
    · obtain ⟨b, off, e, C2, c2, C3, c3, C4, c4, rfl, hbb, hp, y0, y1, y2, y3, y4, q2, q3, q4⟩ := atDos HR.out hlt
      have x0 := (HM.out.bl.cell (p := ⟨b, off + j * 5, none⟩) hbb).trans y0
      have x1 := (HM.out.bl.cell (p := ⟨b, off + j * 5 + 1, none⟩) hbb).trans y1
      have x2 := (HM.out.bl.cell (p := ⟨b, off + j * 5 + 2, none⟩) hbb).trans y2
      have x3 := (HM.out.bl.cell (p := ⟨b, off + j * 5 + 3, none⟩) hbb).trans y3
      have x4 := (HM.out.bl.cell (p := ⟨b, off + j * 5 + 4, none⟩) hbb).trans y4
      clear y0 y1 y2 y3 y4
      have hse := hs.at_ (List.mem_of_getElem? hp)
      have HS := Lib.hid (docsB_step (p := nameAt l j) hp)
      clear hp
      have Q2h := Lib.hid q2
      clear q2
      have Q3h := Lib.hid q3
      clear q3
      have Q4h := Lib.hid q4
      clear q4
      replace HM := Lib.hid (HM.out.new #[.string e.name, .int .i64 e.from_, .slice C2 e.text.length c2, .slice C3 e.list.length c3, .slice C4 e.seen.length c4] 75)
      go_wp2
      clear x0 x1 x2 x3 x4
      obtain ⟨W1, hW, hm⟩ := HM.out.name
      rw [← hW]
      replace HM := Lib.hid hm
      clear hm hW
      rcases (show docB e = false ∨ docB e = true by cases docB e <;> simp) with h1 | h1
      · have HE := Lib.hid (show docsB none l = false by rw [HI.out, HS.out, h1]; rfl)
        replace h1 := Lib.hid h1
        replace HM := Lib.hid (HM.out.drew)
        refine wp_region_held_drew (S := fun W => Ms w [.bx wr.heap.size (.cells #[.string e.name, .int .i64 e.from_, .slice C2 e.text.length c2, .slice C3 e.list.length c3, .slice C4 e.seen.length c4] 75 (0, 0))] W) (by kernel_rfl) (HM.out.pick (ks := [0]) (by decide) rfl) (fun hS => ?_)
        generalize W1.drew = W2 at HM hS  ⊢
        refine tk (v := ?_) 0 21 rfl (fun w' hS' => ?_) hS ?_
        rotate_left
        · (try dsimp only at hS'); have q0 := hS'.cell (i := 0) (j := 0) rfl rfl; have q1 := hS'.cell (i := 0) (j := 1) rfl rfl; have q2 := hS'.cell (i := 0) (j := 2) rfl rfl; have q3 := hS'.cell (i := 0) (j := 3) rfl rfl; have q4 := hS'.cell (i := 0) (j := 4) rfl rfl; have c0 := (hS'.bl.cell (p := ⟨g, 0, none⟩) HG.out).trans HC0.out; go_simp; all_goals (with_reducible rfl)
        try simp only [Act.put, pa, pb, pc]
        refine r1 1 (some 22) rfl (fun K hK => ?_)
        go_simp
        refine (implDocOk_d _ e _ (rdDo e (HM.out.arg Q2h.out) (HM.out.arg Q3h.out) (HM.out.arg Q4h.out)) hse).mono ?_
        rw [h1.out]
        rintro e' W3 ⟨rfl, b'⟩
        replace HM := Lib.hid (HM.out.past b')
        clear b'
        clear hS
        refine hK.out _ _ (HM.out.pick (ks := [0]) (by decide) rfl) (fun hS => ?_)
        clear hK K
        try simp only [Act.put, pa, pb, pc]
        refine tk (v := ?_) 2 23 rfl (fun w' hS' => ?_) hS ?_
        rotate_left
        · go_simp; all_goals (with_reducible rfl)
        try simp only [Act.put, pa, pb, pc]
        refine tk (v := ?_) 3 24 rfl (fun w' hS' => ?_) hS ?_
        rotate_left
        · go_simp; all_goals (with_reducible rfl)
        try simp only [Act.put, pa, pb, pc]
        refine tu 4 25 rfl hS ?_
        try simp only [Act.put, pa, pb, pc]
        refine tu 5 26 rfl hS ?_
        try simp only [Act.put, pa, pb, pc]
        refine tu 6 27 rfl hS ?_
        try simp only [Act.put, pa, pb, pc]
        refine tu 7 28 rfl hS ?_
        try simp only [Act.put, pa, pb, pc]
        refine tu 8 29 rfl hS ?_
        try simp only [Act.put, pa, pb, pc]
        refine tu 9 30 rfl hS ?_
        try simp only [Act.put, pa, pb, pc]
        refine tu 10 31 rfl hS ?_
        try simp only [Act.put, pa, pb, pc]
        refine tu 11 32 rfl hS ?_
        try simp only [Act.put, pa, pb, pc]
        refine tu 12 33 rfl hS ?_
        try simp only [Act.put, pa, pb, pc]
        refine tu 13 34 rfl hS ?_
        try simp only [Act.put, pa, pb, pc]
        refine tu 14 35 rfl hS ?_
        try simp only [Act.put, pa, pb, pc]
        refine tu 15 36 rfl hS ?_
        try simp only [Act.put, pa, pb, pc]
        refine tu 16 37 rfl hS ?_
        try simp only [Act.put, pa, pb, pc]
        refine tu 17 38 rfl hS ?_
        try simp only [Act.put, pa, pb, pc]
        refine tu 18 39 rfl hS ?_
        try simp only [Act.put, pa, pb, pc]
        refine tu 19 40 rfl hS ?_
        try simp only [Act.put, pa, pb, pc]
        refine tk (v := ?_) 20 41 rfl (fun w' hS' => ?_) hS ?_
        rotate_left
        · go_simp; all_goals (with_reducible rfl)
        try simp only [Act.put, pa, pb, pc]
        refine wpAnyH_done (by kernel_rfl) ?_ _
        clear hS
        go_wp2
        go_ret
        exact ⟨ret_b HE.out.symm, HM.out.bl⟩
      replace h1 := Lib.hid h1
      by_cases h2 : j = 0
      · have g2 : decide (0 < j) = false := decide_eq_false (by omega)
        have HN := Lib.hid (show nameAt l j = none by rw [h2]; rfl)
        clear h2
        have HJ := Lib.hid (show docsB none l = docsB (nameAt l (j + 1)) (l.drop (j + 1)) by rw [HI.out, HS.out, h1.out, HN.out, Bool.true_and, Bool.true_and])
        replace HM := Lib.hid (HM.out.drew)
        refine wp_region_held_drew (S := fun W => Ms w [.bx wr.heap.size (.cells #[.string e.name, .int .i64 e.from_, .slice C2 e.text.length c2, .slice C3 e.list.length c3, .slice C4 e.seen.length c4] 75 (0, 0))] W) (by kernel_rfl) (HM.out.pick (ks := [0]) (by decide) rfl) (fun hS => ?_)
        generalize W1.drew = W4 at HM hS  ⊢
        refine tk (v := ?_) 0 21 rfl (fun w' hS' => ?_) hS ?_
        rotate_left
        · (try dsimp only at hS'); have q0 := hS'.cell (i := 0) (j := 0) rfl rfl; have q1 := hS'.cell (i := 0) (j := 1) rfl rfl; have q2 := hS'.cell (i := 0) (j := 2) rfl rfl; have q3 := hS'.cell (i := 0) (j := 3) rfl rfl; have q4 := hS'.cell (i := 0) (j := 4) rfl rfl; have c0 := (hS'.bl.cell (p := ⟨g, 0, none⟩) HG.out).trans HC0.out; go_simp; all_goals (with_reducible rfl)
        try simp only [Act.put, pa, pb, pc]
        refine r1 1 (some 22) rfl (fun K hK => ?_)
        go_simp
        refine (implDocOk_d _ e _ (rdDo e (HM.out.arg Q2h.out) (HM.out.arg Q3h.out) (HM.out.arg Q4h.out)) hse).mono ?_
        rw [h1.out]
        rintro e' W5 ⟨rfl, b'⟩
        replace HM := Lib.hid (HM.out.past b')
        clear b'
        clear hS
        refine hK.out _ _ (HM.out.pick (ks := [0]) (by decide) rfl) (fun hS => ?_)
        clear hK K
        try simp only [Act.put, pa, pb, pc]
        refine tk (v := ?_) 2 23 rfl (fun w' hS' => ?_) hS ?_
        rotate_left
        · go_simp; all_goals (with_reducible rfl)
        try simp only [Act.put, pa, pb, pc]
        refine tk (v := ?_) 3 24 rfl (fun w' hS' => ?_) hS ?_
        rotate_left
        · go_simp; all_goals (with_reducible rfl)
        try simp only [Act.put, pa, pb, pc]
        refine tk (v := ?_) 4 25 rfl (fun w' hS' => ?_) hS ?_
        rotate_left
        · go_simp; all_goals (with_reducible rfl)
        try simp only [Act.put, pa, pb, pc]
        refine tk (v := ?_) 5 26 rfl (fun w' hS' => ?_) hS ?_
        rotate_left
        · go_simp; all_goals (with_reducible rfl)
        try simp only [Act.put, pa, pb, pc]
        try rw [g2]
        refine tk (v := ?_) 6 27 rfl (fun w' hS' => ?_) hS ?_
        rotate_left
        · go_simp; all_goals (with_reducible rfl)
        try simp only [Act.put, pa, pb, pc]
        refine tu 7 28 rfl hS ?_
        try simp only [Act.put, pa, pb, pc]
        refine tu 8 29 rfl hS ?_
        try simp only [Act.put, pa, pb, pc]
        refine tu 9 30 rfl hS ?_
        try simp only [Act.put, pa, pb, pc]
        refine tu 10 31 rfl hS ?_
        try simp only [Act.put, pa, pb, pc]
        refine tu 11 32 rfl hS ?_
        try simp only [Act.put, pa, pb, pc]
        refine tu 12 33 rfl hS ?_
        try simp only [Act.put, pa, pb, pc]
        refine tu 13 34 rfl hS ?_
        try simp only [Act.put, pa, pb, pc]
        refine tu 14 35 rfl hS ?_
        try simp only [Act.put, pa, pb, pc]
        refine tu 15 36 rfl hS ?_
        try simp only [Act.put, pa, pb, pc]
        refine tu 16 37 rfl hS ?_
        try simp only [Act.put, pa, pb, pc]
        refine tu 17 38 rfl hS ?_
        try simp only [Act.put, pa, pb, pc]
        refine tu 18 39 rfl hS ?_
        try simp only [Act.put, pa, pb, pc]
        refine tk (v := ?_) 19 40 rfl (fun w' hS' => ?_) hS ?_
        rotate_left
        · go_simp; all_goals (with_reducible rfl)
        try simp only [Act.put, pa, pb, pc]
        refine tk (v := ?_) 20 41 rfl (fun w' hS' => ?_) hS ?_
        rotate_left
        · go_simp; all_goals (with_reducible rfl)
        try simp only [Act.put, pa, pb, pc]
        refine wpAnyH_done (by kernel_rfl) ?_ _
        clear hS
        go_wp2
        go_roundw
        case rel => exact ⟨j + 1, by omega, by go_num, HJ.out, HM.out.pick (ks := []) (by decide) rfl⟩
        case measure => simp [intOf]; omega
      have g2 : decide (0 < j) = true := decide_eq_true (by omega)
      obtain ⟨q, hq⟩ : ∃ q, j = q + 1 := ⟨j - 1, by omega⟩
      obtain ⟨b2, off2, p, D2, d2, D3, d3, D4, d4, hA2, hb2, hp2, z0, z1, z2, z3, z4, -, -, -⟩ := atDos HR.out (i := q) (by omega)
      injection hA2 with hA2
      injection hA2 with hA3 hA4
      subst hA3 hA4
      have HN := Lib.hid (show nameAt l j = some p.name by rw [hq]; exact nameAt_of hp2)
      have hw : IntKind.i64.wrap (q : Int) = (q : Int) := IntWalk.i64_in _ (by omega)
      have hw0 : IntKind.i64.wrap ((j : Int) - 1) = (q : Int) := (IntWalk.i64_in _ (by omega)).trans (by omega)
      have hqj : q < l.length := by omega
      clear h2 hp2 z1 z2 z3 z4
      have HT := Lib.hid (bl_total e.name.toList p.name.toList)
      rcases (show ltSt p.name e.name = false ∨ ltSt p.name e.name = true by cases ltSt p.name e.name <;> simp) with h3 | h3
      · have HE := Lib.hid (show docsB none l = false by rw [HI.out, HS.out, h1.out, HN.out]; show (true && (ltSt p.name e.name && _)) = false; rw [h3]; rfl)
        have g3 : (Op.bytesLess e.name.toList p.name.toList || e.name.toList == p.name.toList) = true := by rw [HT.out, show Op.bytesLess p.name.toList e.name.toList = false from h3]; rfl
        clear h3
        replace HM := Lib.hid (HM.out.drew)
        refine wp_region_held_drew (S := fun W => Ms w [.bx wr.heap.size (.cells #[.string e.name, .int .i64 e.from_, .slice C2 e.text.length c2, .slice C3 e.list.length c3, .slice C4 e.seen.length c4] 75 (0, 0))] W) (by kernel_rfl) (HM.out.pick (ks := [0]) (by decide) rfl) (fun hS => ?_)
        generalize W1.drew = W6 at HM hS  ⊢
        refine tk (v := ?_) 0 21 rfl (fun w' hS' => ?_) hS ?_
        rotate_left
        · (try dsimp only at hS'); have q0 := hS'.cell (i := 0) (j := 0) rfl rfl; have q1 := hS'.cell (i := 0) (j := 1) rfl rfl; have q2 := hS'.cell (i := 0) (j := 2) rfl rfl; have q3 := hS'.cell (i := 0) (j := 3) rfl rfl; have q4 := hS'.cell (i := 0) (j := 4) rfl rfl; have c0 := (hS'.bl.cell (p := ⟨g, 0, none⟩) HG.out).trans HC0.out; have r0 := (hS'.bl.cell (p := ⟨b, off + q * 5, none⟩) hb2).trans z0; go_simp; all_goals (with_reducible rfl)
        try simp only [Act.put, pa, pb, pc]
        refine r1 1 (some 22) rfl (fun K hK => ?_)
        go_simp
        refine (implDocOk_d _ e _ (rdDo e (HM.out.arg Q2h.out) (HM.out.arg Q3h.out) (HM.out.arg Q4h.out)) hse).mono ?_
        rw [h1.out]
        rintro e' W7 ⟨rfl, b'⟩
        replace HM := Lib.hid (HM.out.past b')
        clear b'
        clear hS
        refine hK.out _ _ (HM.out.pick (ks := [0]) (by decide) rfl) (fun hS => ?_)
        clear hK K
        try simp only [Act.put, pa, pb, pc]
        refine tk (v := ?_) 2 23 rfl (fun w' hS' => ?_) hS ?_
        rotate_left
        · go_simp; all_goals (with_reducible rfl)
        try simp only [Act.put, pa, pb, pc]
        refine tk (v := ?_) 3 24 rfl (fun w' hS' => ?_) hS ?_
        rotate_left
        · go_simp; all_goals (with_reducible rfl)
        try simp only [Act.put, pa, pb, pc]
        first | refine tu 4 25 rfl hS ?_ | (refine tk (v := ?_) 4 25 rfl (fun w' hS' => ?_) hS ?_; rotate_left; · (go_simp; all_goals (with_reducible rfl)))
        try simp only [Act.put, pa, pb, pc]
        first | refine tu 5 26 rfl hS ?_ | (refine tk (v := ?_) 5 26 rfl (fun w' hS' => ?_) hS ?_; rotate_left; · (go_simp; all_goals (with_reducible rfl)))
        try simp only [Act.put, pa, pb, pc]
        try rw [g2]
        first | refine tu 6 27 rfl hS ?_ | (refine tk (v := ?_) 6 27 rfl (fun w' hS' => ?_) hS ?_; rotate_left; · (go_simp; all_goals (with_reducible rfl)))
        try simp only [Act.put, pa, pb, pc]
        first | refine tu 7 28 rfl hS ?_ | (refine tk (v := ?_) 7 28 rfl (fun w' hS' => ?_) hS ?_; rotate_left; · (go_simp; all_goals (with_reducible rfl)))
        try simp only [Act.put, pa, pb, pc]
        first | refine tu 8 29 rfl hS ?_ | (refine tk (v := ?_) 8 29 rfl (fun w' hS' => ?_) hS ?_; rotate_left; · ((try dsimp only at hS'); have q0 := hS'.cell (i := 0) (j := 0) rfl rfl; have q1 := hS'.cell (i := 0) (j := 1) rfl rfl; have q2 := hS'.cell (i := 0) (j := 2) rfl rfl; have q3 := hS'.cell (i := 0) (j := 3) rfl rfl; have q4 := hS'.cell (i := 0) (j := 4) rfl rfl; have c0 := (hS'.bl.cell (p := ⟨g, 0, none⟩) HG.out).trans HC0.out; have r0 := (hS'.bl.cell (p := ⟨b, off + q * 5, none⟩) hb2).trans z0; go_simp; all_goals (with_reducible rfl)))
        try simp only [Act.put, pa, pb, pc]
        first | refine tu 9 30 rfl hS ?_ | (refine tk (v := ?_) 9 30 rfl (fun w' hS' => ?_) hS ?_; rotate_left; · (go_simp; all_goals (with_reducible rfl)))
        try simp only [Act.put, pa, pb, pc]
        first | refine tu 10 31 rfl hS ?_ | (refine tk (v := ?_) 10 31 rfl (fun w' hS' => ?_) hS ?_; rotate_left; · (go_simp; all_goals (with_reducible rfl)))
        try simp only [Act.put, pa, pb, pc]
        first | refine tu 11 32 rfl hS ?_ | (refine tk (v := ?_) 11 32 rfl (fun w' hS' => ?_) hS ?_; rotate_left; · (go_simp; all_goals (with_reducible rfl)))
        try simp only [Act.put, pa, pb, pc]
        first | refine tu 12 33 rfl hS ?_ | (refine tk (v := ?_) 12 33 rfl (fun w' hS' => ?_) hS ?_; rotate_left; · ((try dsimp only at hS'); have q0 := hS'.cell (i := 0) (j := 0) rfl rfl; have q1 := hS'.cell (i := 0) (j := 1) rfl rfl; have q2 := hS'.cell (i := 0) (j := 2) rfl rfl; have q3 := hS'.cell (i := 0) (j := 3) rfl rfl; have q4 := hS'.cell (i := 0) (j := 4) rfl rfl; have c0 := (hS'.bl.cell (p := ⟨g, 0, none⟩) HG.out).trans HC0.out; have r0 := (hS'.bl.cell (p := ⟨b, off + q * 5, none⟩) hb2).trans z0; go_simp; all_goals (with_reducible rfl)))
        try simp only [Act.put, pa, pb, pc]
        first | refine tu 13 34 rfl hS ?_ | (refine tk (v := ?_) 13 34 rfl (fun w' hS' => ?_) hS ?_; rotate_left; · (go_simp; all_goals (with_reducible rfl)))
        try simp only [Act.put, pa, pb, pc]
        first | refine tu 14 35 rfl hS ?_ | (refine tk (v := ?_) 14 35 rfl (fun w' hS' => ?_) hS ?_; rotate_left; · (go_simp; all_goals (with_reducible rfl)))
        try simp only [Act.put, pa, pb, pc]
        first | refine tu 15 36 rfl hS ?_ | (refine tk (v := ?_) 15 36 rfl (fun w' hS' => ?_) hS ?_; rotate_left; · (go_simp; all_goals (with_reducible rfl)))
        try simp only [Act.put, pa, pb, pc]
        first | refine tu 16 37 rfl hS ?_ | (refine tk (v := ?_) 16 37 rfl (fun w' hS' => ?_) hS ?_; rotate_left; · (go_simp; all_goals (with_reducible rfl)))
        try simp only [Act.put, pa, pb, pc]
        first | refine tu 17 38 rfl hS ?_ | (refine tk (v := ?_) 17 38 rfl (fun w' hS' => ?_) hS ?_; rotate_left; · ((try dsimp only at hS'); have q0 := hS'.cell (i := 0) (j := 0) rfl rfl; have q1 := hS'.cell (i := 0) (j := 1) rfl rfl; have q2 := hS'.cell (i := 0) (j := 2) rfl rfl; have q3 := hS'.cell (i := 0) (j := 3) rfl rfl; have q4 := hS'.cell (i := 0) (j := 4) rfl rfl; have c0 := (hS'.bl.cell (p := ⟨g, 0, none⟩) HG.out).trans HC0.out; have r0 := (hS'.bl.cell (p := ⟨b, off + q * 5, none⟩) hb2).trans z0; go_simp; all_goals (with_reducible rfl)))
        try simp only [Act.put, pa, pb, pc]
        first | refine tu 18 39 rfl hS ?_ | (refine tk (v := ?_) 18 39 rfl (fun w' hS' => ?_) hS ?_; rotate_left; · (go_simp; all_goals (with_reducible rfl)))
        try simp only [Act.put, pa, pb, pc]
        try rw [g3]
        first | refine tu 19 40 rfl hS ?_ | (refine tk (v := ?_) 19 40 rfl (fun w' hS' => ?_) hS ?_; rotate_left; · (go_simp; all_goals (with_reducible rfl)))
        try simp only [Act.put, pa, pb, pc]
        refine tk (v := ?_) 20 41 rfl (fun w' hS' => ?_) hS ?_
        rotate_left
        · go_simp; all_goals (with_reducible rfl)
        try simp only [Act.put, pa, pb, pc]
        refine wpAnyH_done (by kernel_rfl) ?_ _
        clear hS
        go_wp2
        go_ret
        exact ⟨ret_b HE.out.symm, HM.out.bl⟩
      have HJ := Lib.hid (show docsB none l = docsB (nameAt l (j + 1)) (l.drop (j + 1)) by rw [HI.out, HS.out, h1.out, HN.out]; show (true && (ltSt p.name e.name && _)) = _; rw [h3]; rfl)
      have g3 : (Op.bytesLess e.name.toList p.name.toList || e.name.toList == p.name.toList) = false := by rw [HT.out, show Op.bytesLess p.name.toList e.name.toList = true from h3]; rfl
      clear h3
      replace HM := Lib.hid (HM.out.drew)
      refine wp_region_held_drew (S := fun W => Ms w [.bx wr.heap.size (.cells #[.string e.name, .int .i64 e.from_, .slice C2 e.text.length c2, .slice C3 e.list.length c3, .slice C4 e.seen.length c4] 75 (0, 0))] W) (by kernel_rfl) (HM.out.pick (ks := [0]) (by decide) rfl) (fun hS => ?_)
      generalize W1.drew = W8 at HM hS  ⊢
      refine tk (v := ?_) 0 21 rfl (fun w' hS' => ?_) hS ?_
      rotate_left
      · (try dsimp only at hS'); have q0 := hS'.cell (i := 0) (j := 0) rfl rfl; have q1 := hS'.cell (i := 0) (j := 1) rfl rfl; have q2 := hS'.cell (i := 0) (j := 2) rfl rfl; have q3 := hS'.cell (i := 0) (j := 3) rfl rfl; have q4 := hS'.cell (i := 0) (j := 4) rfl rfl; have c0 := (hS'.bl.cell (p := ⟨g, 0, none⟩) HG.out).trans HC0.out; have r0 := (hS'.bl.cell (p := ⟨b, off + q * 5, none⟩) hb2).trans z0; go_simp; all_goals (with_reducible rfl)
      try simp only [Act.put, pa, pb, pc]
      refine r1 1 (some 22) rfl (fun K hK => ?_)
      go_simp
      refine (implDocOk_d _ e _ (rdDo e (HM.out.arg Q2h.out) (HM.out.arg Q3h.out) (HM.out.arg Q4h.out)) hse).mono ?_
      rw [h1.out]
      rintro e' W9 ⟨rfl, b'⟩
      replace HM := Lib.hid (HM.out.past b')
      clear b'
      clear hS
      refine hK.out _ _ (HM.out.pick (ks := [0]) (by decide) rfl) (fun hS => ?_)
      clear hK K
      try simp only [Act.put, pa, pb, pc]
      refine tk (v := ?_) 2 23 rfl (fun w' hS' => ?_) hS ?_
      rotate_left
      · go_simp; all_goals (with_reducible rfl)
      try simp only [Act.put, pa, pb, pc]
      refine tk (v := ?_) 3 24 rfl (fun w' hS' => ?_) hS ?_
      rotate_left
      · go_simp; all_goals (with_reducible rfl)
      try simp only [Act.put, pa, pb, pc]
      first | refine tu 4 25 rfl hS ?_ | (refine tk (v := ?_) 4 25 rfl (fun w' hS' => ?_) hS ?_; rotate_left; · (go_simp; all_goals (with_reducible rfl)))
      try simp only [Act.put, pa, pb, pc]
      first | refine tu 5 26 rfl hS ?_ | (refine tk (v := ?_) 5 26 rfl (fun w' hS' => ?_) hS ?_; rotate_left; · (go_simp; all_goals (with_reducible rfl)))
      try simp only [Act.put, pa, pb, pc]
      try rw [g2]
      first | refine tu 6 27 rfl hS ?_ | (refine tk (v := ?_) 6 27 rfl (fun w' hS' => ?_) hS ?_; rotate_left; · (go_simp; all_goals (with_reducible rfl)))
      try simp only [Act.put, pa, pb, pc]
      first | refine tu 7 28 rfl hS ?_ | (refine tk (v := ?_) 7 28 rfl (fun w' hS' => ?_) hS ?_; rotate_left; · (go_simp; all_goals (with_reducible rfl)))
      try simp only [Act.put, pa, pb, pc]
      first | refine tu 8 29 rfl hS ?_ | (refine tk (v := ?_) 8 29 rfl (fun w' hS' => ?_) hS ?_; rotate_left; · ((try dsimp only at hS'); have q0 := hS'.cell (i := 0) (j := 0) rfl rfl; have q1 := hS'.cell (i := 0) (j := 1) rfl rfl; have q2 := hS'.cell (i := 0) (j := 2) rfl rfl; have q3 := hS'.cell (i := 0) (j := 3) rfl rfl; have q4 := hS'.cell (i := 0) (j := 4) rfl rfl; have c0 := (hS'.bl.cell (p := ⟨g, 0, none⟩) HG.out).trans HC0.out; have r0 := (hS'.bl.cell (p := ⟨b, off + q * 5, none⟩) hb2).trans z0; go_simp; all_goals (with_reducible rfl)))
      try simp only [Act.put, pa, pb, pc]
      first | refine tu 9 30 rfl hS ?_ | (refine tk (v := ?_) 9 30 rfl (fun w' hS' => ?_) hS ?_; rotate_left; · (go_simp; all_goals (with_reducible rfl)))
      try simp only [Act.put, pa, pb, pc]
      first | refine tu 10 31 rfl hS ?_ | (refine tk (v := ?_) 10 31 rfl (fun w' hS' => ?_) hS ?_; rotate_left; · (go_simp; all_goals (with_reducible rfl)))
      try simp only [Act.put, pa, pb, pc]
      first | refine tu 11 32 rfl hS ?_ | (refine tk (v := ?_) 11 32 rfl (fun w' hS' => ?_) hS ?_; rotate_left; · (go_simp; all_goals (with_reducible rfl)))
      try simp only [Act.put, pa, pb, pc]
      first | refine tu 12 33 rfl hS ?_ | (refine tk (v := ?_) 12 33 rfl (fun w' hS' => ?_) hS ?_; rotate_left; · ((try dsimp only at hS'); have q0 := hS'.cell (i := 0) (j := 0) rfl rfl; have q1 := hS'.cell (i := 0) (j := 1) rfl rfl; have q2 := hS'.cell (i := 0) (j := 2) rfl rfl; have q3 := hS'.cell (i := 0) (j := 3) rfl rfl; have q4 := hS'.cell (i := 0) (j := 4) rfl rfl; have c0 := (hS'.bl.cell (p := ⟨g, 0, none⟩) HG.out).trans HC0.out; have r0 := (hS'.bl.cell (p := ⟨b, off + q * 5, none⟩) hb2).trans z0; go_simp; all_goals (with_reducible rfl)))
      try simp only [Act.put, pa, pb, pc]
      first | refine tu 13 34 rfl hS ?_ | (refine tk (v := ?_) 13 34 rfl (fun w' hS' => ?_) hS ?_; rotate_left; · (go_simp; all_goals (with_reducible rfl)))
      try simp only [Act.put, pa, pb, pc]
      first | refine tu 14 35 rfl hS ?_ | (refine tk (v := ?_) 14 35 rfl (fun w' hS' => ?_) hS ?_; rotate_left; · (go_simp; all_goals (with_reducible rfl)))
      try simp only [Act.put, pa, pb, pc]
      first | refine tu 15 36 rfl hS ?_ | (refine tk (v := ?_) 15 36 rfl (fun w' hS' => ?_) hS ?_; rotate_left; · (go_simp; all_goals (with_reducible rfl)))
      try simp only [Act.put, pa, pb, pc]
      first | refine tu 16 37 rfl hS ?_ | (refine tk (v := ?_) 16 37 rfl (fun w' hS' => ?_) hS ?_; rotate_left; · (go_simp; all_goals (with_reducible rfl)))
      try simp only [Act.put, pa, pb, pc]
      first | refine tu 17 38 rfl hS ?_ | (refine tk (v := ?_) 17 38 rfl (fun w' hS' => ?_) hS ?_; rotate_left; · ((try dsimp only at hS'); have q0 := hS'.cell (i := 0) (j := 0) rfl rfl; have q1 := hS'.cell (i := 0) (j := 1) rfl rfl; have q2 := hS'.cell (i := 0) (j := 2) rfl rfl; have q3 := hS'.cell (i := 0) (j := 3) rfl rfl; have q4 := hS'.cell (i := 0) (j := 4) rfl rfl; have c0 := (hS'.bl.cell (p := ⟨g, 0, none⟩) HG.out).trans HC0.out; have r0 := (hS'.bl.cell (p := ⟨b, off + q * 5, none⟩) hb2).trans z0; go_simp; all_goals (with_reducible rfl)))
      try simp only [Act.put, pa, pb, pc]
      first | refine tu 18 39 rfl hS ?_ | (refine tk (v := ?_) 18 39 rfl (fun w' hS' => ?_) hS ?_; rotate_left; · (go_simp; all_goals (with_reducible rfl)))
      try simp only [Act.put, pa, pb, pc]
      try rw [g3]
      first | refine tu 19 40 rfl hS ?_ | (refine tk (v := ?_) 19 40 rfl (fun w' hS' => ?_) hS ?_; rotate_left; · (go_simp; all_goals (with_reducible rfl)))
      try simp only [Act.put, pa, pb, pc]
      refine tk (v := ?_) 20 41 rfl (fun w' hS' => ?_) hS ?_
      rotate_left
      · go_simp; all_goals (with_reducible rfl)
      try simp only [Act.put, pa, pb, pc]
      refine wpAnyH_done (by kernel_rfl) ?_ _
      clear hS
      go_wp2
      go_roundw
      case rel => exact ⟨j + 1, by omega, by go_num, HJ.out, HM.out.pick (ks := []) (by decide) rfl⟩
      case measure => simp [intOf]; omega
    · have h9 : l.drop j = [] := List.drop_eq_nil_of_le (by omega)
      have HE := Lib.hid (show docsB none l = true by rw [HI.out, h9]; rfl)
      clear h9
      go_wp2
      go_ret
      exact ⟨ret_b HE.out.symm, HM.out.bl⟩
set_option maxRecDepth 100000 in
set_option maxHeartbeats 3200000 in
theorem subsOk_any (v : Value) (l : List Su) (la : Int) (g : Nat) (w : World) (h : RdC w w.heap.size (encSus l) v) (hs : SmSus l) (hg : g < w.heap.size) (hc : w.cell? ⟨g, 1, none⟩ = some v) (hc2 : w.cell? ⟨g, 2, none⟩ = some (.int .i64 la)) : Calls Tryz.prog 69 #[.pointer (some ⟨g, 1, none⟩)] w (Tells (decide (l.length ≤ 6) && (inB la 0 1000000000 && subsI la 0 l)) w) := by
  obtain ⟨A, c, rfl⟩ := sliceSus h
  have hl := hs.len
  have HR := Lib.hid h
  have HC1 := Lib.hid hc
  have HC2 := Lib.hid hc2
  have HG := Lib.hid hg
  clear h
  by_cases e0 : l.length ≤ 6
  rotate_left
  · have g0 : decide ((6 : Int) < (l.length : Int)) = true := decide_eq_true (by omega)
    rw [decide_eq_false e0]
    go_enter Tryz.func69, Tryz.ntmps69
    go_wp2
    go_ret
    exact ⟨by first | rfl | simp, Below.refl _ _⟩
  have g0 : decide ((6 : Int) < (l.length : Int)) = false := decide_eq_false (by omega)
  rw [decide_eq_true e0, Bool.true_and]
  clear e0
  by_cases e1 : 0 ≤ la
  rotate_left
  · have g1 : decide (la < 0) = true := decide_eq_true (by omega)
    rw [inB_and, decide_eq_false e1]
    go_enter Tryz.func69, Tryz.ntmps69
    go_wp2
    go_ret
    exact ⟨by first | rfl | simp, Below.refl _ _⟩
  have g1 : decide (la < 0) = false := decide_eq_false (by omega)
  by_cases e2 : la ≤ 1000000000
  rotate_left
  · have g2 : decide ((1000000000 : Int) < la) = true := decide_eq_true (by omega)
    rw [inB_and, decide_eq_false e2, Bool.and_false]
    go_enter Tryz.func69, Tryz.ntmps69
    go_wp2
    go_ret
    exact ⟨by first | rfl | simp, Below.refl _ _⟩
  have g2 : decide ((1000000000 : Int) < la) = false := decide_eq_false (by omega)
  rw [inB_and, decide_eq_true e1, decide_eq_true e2, Bool.true_and, Bool.true_and]
  have HM := Lib.hid (Ms.start w)
  go_enter Tryz.func69, Tryz.ntmps69
  go_wp2
  clear hc hc2 hg g0 g1 g2
  go_loopw [3, 31] (fun b i wr => ∃ j : Nat, j ≤ l.length ∧ i = .int .i64 (j : Int) ∧ b = .int .i64 (idAt l j) ∧ subsI la 0 l = subsI la (idAt l j) (l.drop j) ∧ Ms w [] wr) (fun _ i _ => l.length - (intOf i).toNat)
  case atStart => exact ⟨0, Nat.zero_le _, rfl, rfl, by simp [idAt], HM.out⟩
  case round =>
    obtain ⟨j, hj, rfl, rfl, hi, hm⟩ := hrel
    clear HM
    have HM := Lib.hid hm
    have HI := Lib.hid hi
    clear hm hi
    by_cases hlt : j < l.length
    · obtain ⟨b, off, e, C5, c5, rfl, hbb, hp, y0, y1, y2, y3, y4, y5, q5⟩ := atSus HR.out hlt
      have x0 := (HM.out.bl.cell (p := ⟨b, off + j * 6, none⟩) hbb).trans y0
      have x1 := (HM.out.bl.cell (p := ⟨b, off + j * 6 + 1, none⟩) hbb).trans y1
      have x2 := (HM.out.bl.cell (p := ⟨b, off + j * 6 + 2, none⟩) hbb).trans y2
      have x3 := (HM.out.bl.cell (p := ⟨b, off + j * 6 + 3, none⟩) hbb).trans y3
      have x4 := (HM.out.bl.cell (p := ⟨b, off + j * 6 + 4, none⟩) hbb).trans y4
      have x5 := (HM.out.bl.cell (p := ⟨b, off + j * 6 + 5, none⟩) hbb).trans y5
      clear y0 y1 y2 y3 y4 y5
      have hse := hs.at_ (List.mem_of_getElem? hp)
      have HS := Lib.hid (subsI_step (last := la) (p := idAt l j) hp)
      have HID := Lib.hid (idAt_of hp)
      clear hp
      have Q5h := Lib.hid q5
      clear q5
      generalize idAt l j = bf at *
      replace HM := Lib.hid (HM.out.new #[.int .i64 e.id, .string e.doc, .int .i64 e.cap, .int .i64 e.next, .bool e.out, .slice C5 e.list.length c5] 80)
      go_wp2
      clear x0 x1 x2 x3 x4 x5
      obtain ⟨W1, hW, hm⟩ := HM.out.name
      rw [← hW]
      replace HM := Lib.hid hm
      clear hm hW
      by_cases h3 : bf < e.id
      rotate_left
      · have HE := Lib.hid (show subsI la 0 l = false by rw [HI.out, HS.out, decide_eq_false h3, Bool.false_and])
        have g3 : decide (e.id ≤ bf) = true := decide_eq_true (by omega)
        clear h3
        replace HM := Lib.hid (HM.out.drew)
        refine wp_region_held_drew (S := fun W => Ms w [.bx wr.heap.size (.cells #[.int .i64 e.id, .string e.doc, .int .i64 e.cap, .int .i64 e.next, .bool e.out, .slice C5 e.list.length c5] 80 (0, 0))] W) (by kernel_rfl) (HM.out.pick (ks := [0]) (by decide) rfl) (fun hS => ?_)
        generalize W1.drew = W2 at HM hS  ⊢
        refine tk (v := ?_) 0 35 rfl (fun w' hS' => ?_) hS ?_
        rotate_left
        · go_simp; all_goals (with_reducible rfl)
        try simp only [Act.put, pa, pb, pc]
        refine tk (v := ?_) 1 36 rfl (fun w' hS' => ?_) hS ?_
        rotate_left
        · (try dsimp only at hS'); have q0 := hS'.cell (i := 0) (j := 0) rfl rfl; have q1 := hS'.cell (i := 0) (j := 1) rfl rfl; have q2 := hS'.cell (i := 0) (j := 2) rfl rfl; have q3 := hS'.cell (i := 0) (j := 3) rfl rfl; have q4 := hS'.cell (i := 0) (j := 4) rfl rfl; have q5 := hS'.cell (i := 0) (j := 5) rfl rfl; have c2 := (hS'.bl.cell (p := ⟨g, 2, none⟩) HG.out).trans HC2.out; go_simp; all_goals (with_reducible rfl)
        try simp only [Act.put, pa, pb, pc]
        refine tk (v := ?_) 2 37 rfl (fun w' hS' => ?_) hS ?_
        rotate_left
        · go_simp; all_goals (with_reducible rfl)
        try simp only [Act.put, pa, pb, pc]
        refine tk (v := ?_) 3 38 rfl (fun w' hS' => ?_) hS ?_
        rotate_left
        · go_simp; all_goals (with_reducible rfl)
        try simp only [Act.put, pa, pb, pc]
        try rw [g3]
        refine tk (v := ?_) 4 39 rfl (fun w' hS' => ?_) hS ?_
        rotate_left
        · go_simp; all_goals (with_reducible rfl)
        try simp only [Act.put, pa, pb, pc]
        refine tu 5 40 rfl hS ?_
        try simp only [Act.put, pa, pb, pc]
        refine tu 6 41 rfl hS ?_
        try simp only [Act.put, pa, pb, pc]
        refine tu 7 42 rfl hS ?_
        try simp only [Act.put, pa, pb, pc]
        refine tu 8 43 rfl hS ?_
        try simp only [Act.put, pa, pb, pc]
        refine tu 9 44 rfl hS ?_
        try simp only [Act.put, pa, pb, pc]
        refine tu 10 45 rfl hS ?_
        try simp only [Act.put, pa, pb, pc]
        refine tu 11 46 rfl hS ?_
        try simp only [Act.put, pa, pb, pc]
        refine tk (v := ?_) 12 47 rfl (fun w' hS' => ?_) hS ?_
        rotate_left
        · go_simp; all_goals (with_reducible rfl)
        try simp only [Act.put, pa, pb, pc]
        refine tk (v := ?_) 13 48 rfl (fun w' hS' => ?_) hS ?_
        rotate_left
        · go_simp; all_goals (with_reducible rfl)
        try simp only [Act.put, pa, pb, pc]
        refine tu 14 49 rfl hS ?_
        try simp only [Act.put, pa, pb, pc]
        refine tu 15 50 rfl hS ?_
        try simp only [Act.put, pa, pb, pc]
        refine tu 16 51 rfl hS ?_
        try simp only [Act.put, pa, pb, pc]
        refine tu 17 52 rfl hS ?_
        try simp only [Act.put, pa, pb, pc]
        refine tk (v := ?_) 18 53 rfl (fun w' hS' => ?_) hS ?_
        rotate_left
        · go_simp; all_goals (with_reducible rfl)
        try simp only [Act.put, pa, pb, pc]
        refine wpAnyH_done (by kernel_rfl) ?_ _
        clear hS
        go_wp2
        go_ret
        exact ⟨ret_b HE.out.symm, HM.out.bl⟩
      have g3 : decide (e.id ≤ bf) = false := decide_eq_false (by omega)
      have H3 := Lib.hid (decide_eq_true h3)
      clear h3
      by_cases h4 : e.id ≤ la
      rotate_left
      · have HE := Lib.hid (show subsI la 0 l = false by rw [HI.out, HS.out, H3.out, decide_eq_false h4, Bool.false_and, Bool.and_false])
        have g4 : decide (la < e.id) = true := decide_eq_true (by omega)
        clear h4
        replace HM := Lib.hid (HM.out.drew)
        refine wp_region_held_drew (S := fun W => Ms w [.bx wr.heap.size (.cells #[.int .i64 e.id, .string e.doc, .int .i64 e.cap, .int .i64 e.next, .bool e.out, .slice C5 e.list.length c5] 80 (0, 0))] W) (by kernel_rfl) (HM.out.pick (ks := [0]) (by decide) rfl) (fun hS => ?_)
        generalize W1.drew = W3 at HM hS  ⊢
        refine tk (v := ?_) 0 35 rfl (fun w' hS' => ?_) hS ?_
        rotate_left
        · go_simp; all_goals (with_reducible rfl)
        try simp only [Act.put, pa, pb, pc]
        refine tk (v := ?_) 1 36 rfl (fun w' hS' => ?_) hS ?_
        rotate_left
        · (try dsimp only at hS'); have q0 := hS'.cell (i := 0) (j := 0) rfl rfl; have q1 := hS'.cell (i := 0) (j := 1) rfl rfl; have q2 := hS'.cell (i := 0) (j := 2) rfl rfl; have q3 := hS'.cell (i := 0) (j := 3) rfl rfl; have q4 := hS'.cell (i := 0) (j := 4) rfl rfl; have q5 := hS'.cell (i := 0) (j := 5) rfl rfl; have c2 := (hS'.bl.cell (p := ⟨g, 2, none⟩) HG.out).trans HC2.out; go_simp; all_goals (with_reducible rfl)
        try simp only [Act.put, pa, pb, pc]
        refine tk (v := ?_) 2 37 rfl (fun w' hS' => ?_) hS ?_
        rotate_left
        · go_simp; all_goals (with_reducible rfl)
        try simp only [Act.put, pa, pb, pc]
        refine tk (v := ?_) 3 38 rfl (fun w' hS' => ?_) hS ?_
        rotate_left
        · go_simp; all_goals (with_reducible rfl)
        try simp only [Act.put, pa, pb, pc]
        try rw [g3]
        refine tk (v := ?_) 4 39 rfl (fun w' hS' => ?_) hS ?_
        rotate_left
        · go_simp; all_goals (with_reducible rfl)
        try simp only [Act.put, pa, pb, pc]
        refine tk (v := ?_) 5 40 rfl (fun w' hS' => ?_) hS ?_
        rotate_left
        · go_simp; all_goals (with_reducible rfl)
        try simp only [Act.put, pa, pb, pc]
        refine tk (v := ?_) 6 41 rfl (fun w' hS' => ?_) hS ?_
        rotate_left
        · (try dsimp only at hS'); have q0 := hS'.cell (i := 0) (j := 0) rfl rfl; have q1 := hS'.cell (i := 0) (j := 1) rfl rfl; have q2 := hS'.cell (i := 0) (j := 2) rfl rfl; have q3 := hS'.cell (i := 0) (j := 3) rfl rfl; have q4 := hS'.cell (i := 0) (j := 4) rfl rfl; have q5 := hS'.cell (i := 0) (j := 5) rfl rfl; have c2 := (hS'.bl.cell (p := ⟨g, 2, none⟩) HG.out).trans HC2.out; go_simp; all_goals (with_reducible rfl)
        try simp only [Act.put, pa, pb, pc]
        refine tk (v := ?_) 7 42 rfl (fun w' hS' => ?_) hS ?_
        rotate_left
        · go_simp; all_goals (with_reducible rfl)
        try simp only [Act.put, pa, pb, pc]
        refine tk (v := ?_) 8 43 rfl (fun w' hS' => ?_) hS ?_
        rotate_left
        · go_simp; all_goals (with_reducible rfl)
        try simp only [Act.put, pa, pb, pc]
        refine tk (v := ?_) 9 44 rfl (fun w' hS' => ?_) hS ?_
        rotate_left
        · go_simp; all_goals (with_reducible rfl)
        try simp only [Act.put, pa, pb, pc]
        refine tk (v := ?_) 10 45 rfl (fun w' hS' => ?_) hS ?_
        rotate_left
        · (try dsimp only at hS'); have q0 := hS'.cell (i := 0) (j := 0) rfl rfl; have q1 := hS'.cell (i := 0) (j := 1) rfl rfl; have q2 := hS'.cell (i := 0) (j := 2) rfl rfl; have q3 := hS'.cell (i := 0) (j := 3) rfl rfl; have q4 := hS'.cell (i := 0) (j := 4) rfl rfl; have q5 := hS'.cell (i := 0) (j := 5) rfl rfl; have c2 := (hS'.bl.cell (p := ⟨g, 2, none⟩) HG.out).trans HC2.out; go_simp; all_goals (with_reducible rfl)
        try simp only [Act.put, pa, pb, pc]
        refine tk (v := ?_) 11 46 rfl (fun w' hS' => ?_) hS ?_
        rotate_left
        · go_simp; all_goals (with_reducible rfl)
        try simp only [Act.put, pa, pb, pc]
        try rw [g4]
        refine tk (v := ?_) 12 47 rfl (fun w' hS' => ?_) hS ?_
        rotate_left
        · go_simp; all_goals (with_reducible rfl)
        try simp only [Act.put, pa, pb, pc]
        refine tk (v := ?_) 13 48 rfl (fun w' hS' => ?_) hS ?_
        rotate_left
        · go_simp; all_goals (with_reducible rfl)
        try simp only [Act.put, pa, pb, pc]
        refine tu 14 49 rfl hS ?_
        try simp only [Act.put, pa, pb, pc]
        refine tu 15 50 rfl hS ?_
        try simp only [Act.put, pa, pb, pc]
        refine tu 16 51 rfl hS ?_
        try simp only [Act.put, pa, pb, pc]
        refine tu 17 52 rfl hS ?_
        try simp only [Act.put, pa, pb, pc]
        refine tk (v := ?_) 18 53 rfl (fun w' hS' => ?_) hS ?_
        rotate_left
        · go_simp; all_goals (with_reducible rfl)
        try simp only [Act.put, pa, pb, pc]
        refine wpAnyH_done (by kernel_rfl) ?_ _
        clear hS
        go_wp2
        go_ret
        exact ⟨ret_b HE.out.symm, HM.out.bl⟩
      have g4 : decide (la < e.id) = false := decide_eq_false (by omega)
      have H4 := Lib.hid (decide_eq_true h4)
      clear h4
      rcases (show ringB (ringSu e) = false ∨ ringB (ringSu e) = true by cases ringB (ringSu e) <;> simp) with h5 | h5
      · have HE := Lib.hid (show subsI la 0 l = false by rw [HI.out, HS.out, H3.out, H4.out, h5, Bool.false_and, Bool.and_false, Bool.and_false])
        replace h5 := Lib.hid h5
        replace HM := Lib.hid (HM.out.drew)
        refine wp_region_held_drew (S := fun W => Ms w [.bx wr.heap.size (.cells #[.int .i64 e.id, .string e.doc, .int .i64 e.cap, .int .i64 e.next, .bool e.out, .slice C5 e.list.length c5] 80 (0, 0))] W) (by kernel_rfl) (HM.out.pick (ks := [0]) (by decide) rfl) (fun hS => ?_)
        generalize W1.drew = W4 at HM hS  ⊢
        refine tk (v := ?_) 0 35 rfl (fun w' hS' => ?_) hS ?_
        rotate_left
        · go_simp; all_goals (with_reducible rfl)
        try simp only [Act.put, pa, pb, pc]
        refine tk (v := ?_) 1 36 rfl (fun w' hS' => ?_) hS ?_
        rotate_left
        · (try dsimp only at hS'); have q0 := hS'.cell (i := 0) (j := 0) rfl rfl; have q1 := hS'.cell (i := 0) (j := 1) rfl rfl; have q2 := hS'.cell (i := 0) (j := 2) rfl rfl; have q3 := hS'.cell (i := 0) (j := 3) rfl rfl; have q4 := hS'.cell (i := 0) (j := 4) rfl rfl; have q5 := hS'.cell (i := 0) (j := 5) rfl rfl; have c2 := (hS'.bl.cell (p := ⟨g, 2, none⟩) HG.out).trans HC2.out; go_simp; all_goals (with_reducible rfl)
        try simp only [Act.put, pa, pb, pc]
        refine tk (v := ?_) 2 37 rfl (fun w' hS' => ?_) hS ?_
        rotate_left
        · go_simp; all_goals (with_reducible rfl)
        try simp only [Act.put, pa, pb, pc]
        refine tk (v := ?_) 3 38 rfl (fun w' hS' => ?_) hS ?_
        rotate_left
        · go_simp; all_goals (with_reducible rfl)
        try simp only [Act.put, pa, pb, pc]
        try rw [g3]
        refine tk (v := ?_) 4 39 rfl (fun w' hS' => ?_) hS ?_
        rotate_left
        · go_simp; all_goals (with_reducible rfl)
        try simp only [Act.put, pa, pb, pc]
        first | refine tu 5 40 rfl hS ?_ | (refine tk (v := ?_) 5 40 rfl (fun w' hS' => ?_) hS ?_; rotate_left; · (go_simp; all_goals (with_reducible rfl)))
        try simp only [Act.put, pa, pb, pc]
        first | refine tu 6 41 rfl hS ?_ | (refine tk (v := ?_) 6 41 rfl (fun w' hS' => ?_) hS ?_; rotate_left; · ((try dsimp only at hS'); have q0 := hS'.cell (i := 0) (j := 0) rfl rfl; have q1 := hS'.cell (i := 0) (j := 1) rfl rfl; have q2 := hS'.cell (i := 0) (j := 2) rfl rfl; have q3 := hS'.cell (i := 0) (j := 3) rfl rfl; have q4 := hS'.cell (i := 0) (j := 4) rfl rfl; have q5 := hS'.cell (i := 0) (j := 5) rfl rfl; have c2 := (hS'.bl.cell (p := ⟨g, 2, none⟩) HG.out).trans HC2.out; go_simp; all_goals (with_reducible rfl)))
        try simp only [Act.put, pa, pb, pc]
        first | refine tu 7 42 rfl hS ?_ | (refine tk (v := ?_) 7 42 rfl (fun w' hS' => ?_) hS ?_; rotate_left; · (go_simp; all_goals (with_reducible rfl)))
        try simp only [Act.put, pa, pb, pc]
        first | refine tu 8 43 rfl hS ?_ | (refine tk (v := ?_) 8 43 rfl (fun w' hS' => ?_) hS ?_; rotate_left; · (go_simp; all_goals (with_reducible rfl)))
        try simp only [Act.put, pa, pb, pc]
        first | refine tu 9 44 rfl hS ?_ | (refine tk (v := ?_) 9 44 rfl (fun w' hS' => ?_) hS ?_; rotate_left; · (go_simp; all_goals (with_reducible rfl)))
        try simp only [Act.put, pa, pb, pc]
        first | refine tu 10 45 rfl hS ?_ | (refine tk (v := ?_) 10 45 rfl (fun w' hS' => ?_) hS ?_; rotate_left; · ((try dsimp only at hS'); have q0 := hS'.cell (i := 0) (j := 0) rfl rfl; have q1 := hS'.cell (i := 0) (j := 1) rfl rfl; have q2 := hS'.cell (i := 0) (j := 2) rfl rfl; have q3 := hS'.cell (i := 0) (j := 3) rfl rfl; have q4 := hS'.cell (i := 0) (j := 4) rfl rfl; have q5 := hS'.cell (i := 0) (j := 5) rfl rfl; have c2 := (hS'.bl.cell (p := ⟨g, 2, none⟩) HG.out).trans HC2.out; go_simp; all_goals (with_reducible rfl)))
        try simp only [Act.put, pa, pb, pc]
        first | refine tu 11 46 rfl hS ?_ | (refine tk (v := ?_) 11 46 rfl (fun w' hS' => ?_) hS ?_; rotate_left; · (go_simp; all_goals (with_reducible rfl)))
        try simp only [Act.put, pa, pb, pc]
        try rw [g4]
        refine tk (v := ?_) 12 47 rfl (fun w' hS' => ?_) hS ?_
        rotate_left
        · go_simp; all_goals (with_reducible rfl)
        try simp only [Act.put, pa, pb, pc]
        refine tk (v := ?_) 13 48 rfl (fun w' hS' => ?_) hS ?_
        rotate_left
        · go_simp; all_goals (with_reducible rfl)
        try simp only [Act.put, pa, pb, pc]
        first | refine tu 14 49 rfl hS ?_ | (refine tk (v := ?_) 14 49 rfl (fun w' hS' => ?_) hS ?_; rotate_left; · (go_simp; all_goals (with_reducible rfl)))
        try simp only [Act.put, pa, pb, pc]
        first | refine tu 15 50 rfl hS ?_ | (refine tk (v := ?_) 15 50 rfl (fun w' hS' => ?_) hS ?_; rotate_left; · ((try dsimp only at hS'); have q0 := hS'.cell (i := 0) (j := 0) rfl rfl; have q1 := hS'.cell (i := 0) (j := 1) rfl rfl; have q2 := hS'.cell (i := 0) (j := 2) rfl rfl; have q3 := hS'.cell (i := 0) (j := 3) rfl rfl; have q4 := hS'.cell (i := 0) (j := 4) rfl rfl; have q5 := hS'.cell (i := 0) (j := 5) rfl rfl; have c2 := (hS'.bl.cell (p := ⟨g, 2, none⟩) HG.out).trans HC2.out; go_simp; all_goals (with_reducible rfl)))
        try simp only [Act.put, pa, pb, pc]
        refine r1 16 (some 51) rfl (fun K hK => ?_)
        go_simp
        refine (implRingOk_d _ (ringSu e) _ (rdRi (ringSu e) (HM.out.arg Q5h.out)) (show SmRi (ringSu e) from hse.list)).mono ?_
        rw [h5.out]
        rintro e' W5 ⟨rfl, b'⟩
        replace HM := Lib.hid (HM.out.past b')
        clear b'
        clear hS
        refine hK.out _ _ (HM.out.pick (ks := [0]) (by decide) rfl) (fun hS => ?_)
        clear hK K
        try simp only [Act.put, pa, pb, pc]
        first | refine tu 17 52 rfl hS ?_ | (refine tk (v := ?_) 17 52 rfl (fun w' hS' => ?_) hS ?_; rotate_left; · (go_simp; all_goals (with_reducible rfl)))
        try simp only [Act.put, pa, pb, pc]
        refine tk (v := ?_) 18 53 rfl (fun w' hS' => ?_) hS ?_
        rotate_left
        · go_simp; all_goals (with_reducible rfl)
        try simp only [Act.put, pa, pb, pc]
        refine wpAnyH_done (by kernel_rfl) ?_ _
        clear hS
        go_wp2
        go_ret
        exact ⟨ret_b HE.out.symm, HM.out.bl⟩
      have HJ := Lib.hid (show subsI la 0 l = subsI la (idAt l (j + 1)) (l.drop (j + 1)) by rw [HI.out, HS.out, H3.out, H4.out, h5, Bool.true_and, Bool.true_and, Bool.true_and])
      replace h5 := Lib.hid h5
      replace HM := Lib.hid (HM.out.drew)
      refine wp_region_held_drew (S := fun W => Ms w [.bx wr.heap.size (.cells #[.int .i64 e.id, .string e.doc, .int .i64 e.cap, .int .i64 e.next, .bool e.out, .slice C5 e.list.length c5] 80 (0, 0))] W) (by kernel_rfl) (HM.out.pick (ks := [0]) (by decide) rfl) (fun hS => ?_)
      generalize W1.drew = W6 at HM hS  ⊢
      refine tk (v := ?_) 0 35 rfl (fun w' hS' => ?_) hS ?_
      rotate_left
      · go_simp; all_goals (with_reducible rfl)
      try simp only [Act.put, pa, pb, pc]
      refine tk (v := ?_) 1 36 rfl (fun w' hS' => ?_) hS ?_
      rotate_left
      · (try dsimp only at hS'); have q0 := hS'.cell (i := 0) (j := 0) rfl rfl; have q1 := hS'.cell (i := 0) (j := 1) rfl rfl; have q2 := hS'.cell (i := 0) (j := 2) rfl rfl; have q3 := hS'.cell (i := 0) (j := 3) rfl rfl; have q4 := hS'.cell (i := 0) (j := 4) rfl rfl; have q5 := hS'.cell (i := 0) (j := 5) rfl rfl; have c2 := (hS'.bl.cell (p := ⟨g, 2, none⟩) HG.out).trans HC2.out; go_simp; all_goals (with_reducible rfl)
      try simp only [Act.put, pa, pb, pc]
      refine tk (v := ?_) 2 37 rfl (fun w' hS' => ?_) hS ?_
      rotate_left
      · go_simp; all_goals (with_reducible rfl)
      try simp only [Act.put, pa, pb, pc]
      refine tk (v := ?_) 3 38 rfl (fun w' hS' => ?_) hS ?_
      rotate_left
      · go_simp; all_goals (with_reducible rfl)
      try simp only [Act.put, pa, pb, pc]
      try rw [g3]
      refine tk (v := ?_) 4 39 rfl (fun w' hS' => ?_) hS ?_
      rotate_left
      · go_simp; all_goals (with_reducible rfl)
      try simp only [Act.put, pa, pb, pc]
      first | refine tu 5 40 rfl hS ?_ | (refine tk (v := ?_) 5 40 rfl (fun w' hS' => ?_) hS ?_; rotate_left; · (go_simp; all_goals (with_reducible rfl)))
      try simp only [Act.put, pa, pb, pc]
      first | refine tu 6 41 rfl hS ?_ | (refine tk (v := ?_) 6 41 rfl (fun w' hS' => ?_) hS ?_; rotate_left; · ((try dsimp only at hS'); have q0 := hS'.cell (i := 0) (j := 0) rfl rfl; have q1 := hS'.cell (i := 0) (j := 1) rfl rfl; have q2 := hS'.cell (i := 0) (j := 2) rfl rfl; have q3 := hS'.cell (i := 0) (j := 3) rfl rfl; have q4 := hS'.cell (i := 0) (j := 4) rfl rfl; have q5 := hS'.cell (i := 0) (j := 5) rfl rfl; have c2 := (hS'.bl.cell (p := ⟨g, 2, none⟩) HG.out).trans HC2.out; go_simp; all_goals (with_reducible rfl)))
      try simp only [Act.put, pa, pb, pc]
      first | refine tu 7 42 rfl hS ?_ | (refine tk (v := ?_) 7 42 rfl (fun w' hS' => ?_) hS ?_; rotate_left; · (go_simp; all_goals (with_reducible rfl)))
      try simp only [Act.put, pa, pb, pc]
      first | refine tu 8 43 rfl hS ?_ | (refine tk (v := ?_) 8 43 rfl (fun w' hS' => ?_) hS ?_; rotate_left; · (go_simp; all_goals (with_reducible rfl)))
      try simp only [Act.put, pa, pb, pc]
      first | refine tu 9 44 rfl hS ?_ | (refine tk (v := ?_) 9 44 rfl (fun w' hS' => ?_) hS ?_; rotate_left; · (go_simp; all_goals (with_reducible rfl)))
      try simp only [Act.put, pa, pb, pc]
      first | refine tu 10 45 rfl hS ?_ | (refine tk (v := ?_) 10 45 rfl (fun w' hS' => ?_) hS ?_; rotate_left; · ((try dsimp only at hS'); have q0 := hS'.cell (i := 0) (j := 0) rfl rfl; have q1 := hS'.cell (i := 0) (j := 1) rfl rfl; have q2 := hS'.cell (i := 0) (j := 2) rfl rfl; have q3 := hS'.cell (i := 0) (j := 3) rfl rfl; have q4 := hS'.cell (i := 0) (j := 4) rfl rfl; have q5 := hS'.cell (i := 0) (j := 5) rfl rfl; have c2 := (hS'.bl.cell (p := ⟨g, 2, none⟩) HG.out).trans HC2.out; go_simp; all_goals (with_reducible rfl)))
      try simp only [Act.put, pa, pb, pc]
      first | refine tu 11 46 rfl hS ?_ | (refine tk (v := ?_) 11 46 rfl (fun w' hS' => ?_) hS ?_; rotate_left; · (go_simp; all_goals (with_reducible rfl)))
      try simp only [Act.put, pa, pb, pc]
      try rw [g4]
      refine tk (v := ?_) 12 47 rfl (fun w' hS' => ?_) hS ?_
      rotate_left
      · go_simp; all_goals (with_reducible rfl)
      try simp only [Act.put, pa, pb, pc]
      refine tk (v := ?_) 13 48 rfl (fun w' hS' => ?_) hS ?_
      rotate_left
      · go_simp; all_goals (with_reducible rfl)
      try simp only [Act.put, pa, pb, pc]
      first | refine tu 14 49 rfl hS ?_ | (refine tk (v := ?_) 14 49 rfl (fun w' hS' => ?_) hS ?_; rotate_left; · (go_simp; all_goals (with_reducible rfl)))
      try simp only [Act.put, pa, pb, pc]
      first | refine tu 15 50 rfl hS ?_ | (refine tk (v := ?_) 15 50 rfl (fun w' hS' => ?_) hS ?_; rotate_left; · ((try dsimp only at hS'); have q0 := hS'.cell (i := 0) (j := 0) rfl rfl; have q1 := hS'.cell (i := 0) (j := 1) rfl rfl; have q2 := hS'.cell (i := 0) (j := 2) rfl rfl; have q3 := hS'.cell (i := 0) (j := 3) rfl rfl; have q4 := hS'.cell (i := 0) (j := 4) rfl rfl; have q5 := hS'.cell (i := 0) (j := 5) rfl rfl; have c2 := (hS'.bl.cell (p := ⟨g, 2, none⟩) HG.out).trans HC2.out; go_simp; all_goals (with_reducible rfl)))
      try simp only [Act.put, pa, pb, pc]
      refine r1 16 (some 51) rfl (fun K hK => ?_)
      go_simp
      refine (implRingOk_d _ (ringSu e) _ (rdRi (ringSu e) (HM.out.arg Q5h.out)) (show SmRi (ringSu e) from hse.list)).mono ?_
      rw [h5.out]
      rintro e' W7 ⟨rfl, b'⟩
      replace HM := Lib.hid (HM.out.past b')
      clear b'
      clear hS
      refine hK.out _ _ (HM.out.pick (ks := [0]) (by decide) rfl) (fun hS => ?_)
      clear hK K
      try simp only [Act.put, pa, pb, pc]
      first | refine tu 17 52 rfl hS ?_ | (refine tk (v := ?_) 17 52 rfl (fun w' hS' => ?_) hS ?_; rotate_left; · (go_simp; all_goals (with_reducible rfl)))
      try simp only [Act.put, pa, pb, pc]
      refine tk (v := ?_) 18 53 rfl (fun w' hS' => ?_) hS ?_
      rotate_left
      · go_simp; all_goals (with_reducible rfl)
      try simp only [Act.put, pa, pb, pc]
      refine wpAnyH_done (by kernel_rfl) ?_ _
      clear hS
      have ke0 := HM.out.cell (i := 0) (j := 0) rfl rfl
      go_wp2
      go_roundw
      case rel => exact ⟨j + 1, by omega, by go_num, by rw [HID.out], HJ.out, HM.out.pick (ks := []) (by decide) rfl⟩
      case measure => simp [intOf]; omega
    · have h9 : l.drop j = [] := List.drop_eq_nil_of_le (by omega)
      have HE := Lib.hid (show subsI la 0 l = true by rw [HI.out, h9]; rfl)
      clear h9
      go_wp2
      go_ret
      exact ⟨ret_b HE.out.symm, HM.out.bl⟩
theorem all_step {α : Type} {p : α → Bool} {l : List α} {j : Nat} {x : α} (h : l[j]? = some x) : (l.drop j).all p = (p x && (l.drop (j + 1)).all p) := by
  obtain ⟨h1, e1⟩ := List.getElem?_eq_some_iff.1 h
  rw [List.drop_eq_getElem_cons h1, e1]
  rfl
theorem ix_neg {o : Option Nat} {k : Int} (h : ixInt o = k) (hn : k < 0) : o = none := by
  cases o with
  | none => rfl
  | some i =>
    have h : (i : Int) = k := h
    omega
theorem ix_pos {l : List Do} {s : ByteArray} {k : Int} (h : ixInt (docIx l s) = k) (hn : ¬ k < 0) : ∃ i : Nat, k = (i : Int) ∧ docIx l s = some i ∧ i < l.length := by
  cases hk : docIx l s with
  | none =>
    rw [hk] at h
    have h : (-1 : Int) = k := h
    omega
  | some i =>
    rw [hk] at h
    exact ⟨i, h.symm, rfl, ix_lt hk⟩
set_option maxRecDepth 100000 in
set_option maxHeartbeats 3200000 in
theorem consistent_any (v v' : Value) (l : List Do) (m : List Su) (la : Int) (g : Nat) (w : World) (h : RdC w w.heap.size (encDos l) v) (h' : RdC w w.heap.size (encSus m) v') (hs : SmDos l) (hs' : SmSus m) (hg : g < w.heap.size) (hc : w.cell? ⟨g, 0, none⟩ = some v) (hc1 : w.cell? ⟨g, 1, none⟩ = some v') (hda : docsB none l = true) (hsa : subsI la 0 m = true) : Calls Tryz.prog 70 #[.pointer (some ⟨g, 0, none⟩)] w (Tells (m.all (fitB l)) w) := by
  obtain ⟨A1, c1, rfl⟩ := sliceDos h
  obtain ⟨A2, c2, rfl⟩ := sliceSus h'
  have hl1 := hs.len
  have hl2 := hs'.len
  have HR := Lib.hid h
  have HS := Lib.hid h'
  have HC0 := Lib.hid hc
  have HC1 := Lib.hid hc1
  have HG := Lib.hid hg
  have HA := Lib.hid (show ∀ (i : Nat) (d : Do), l[i]? = some d → docB d = true from fun i d h => docsB_all hda h)
  have HB := Lib.hid (show ∀ (i : Nat) (s : Su), m[i]? = some s → ringB (ringSu s) = true from fun i s h => subsI_ring hsa h)
  clear h h' hda hsa
  have HM := Lib.hid (Ms.start w)
  go_enter Tryz.func70, Tryz.ntmps70
  go_wp2
  clear hc hc1 hg
  go_loopw [12] (fun i wr => ∃ j : Nat, j ≤ m.length ∧ i = .int .i64 (j : Int) ∧ m.all (fitB l) = (m.drop j).all (fitB l) ∧ Ms w [] wr) (fun i _ => m.length - (intOf i).toNat)
  case atStart => exact ⟨0, Nat.zero_le _, rfl, by simp, HM.out⟩
  case round =>
    obtain ⟨j, hj, rfl, hi, hm⟩ := hrel
    clear HM
    have HM := Lib.hid hm
    have HI := Lib.hid hi
    clear hm hi
    by_cases hlt : j < m.length
    · obtain ⟨b, off, e, C5, c5, rfl, hbb, hp, y0, y1, y2, y3, y4, y5, q5⟩ := atSus HS.out hlt
      have x0 := (HM.out.bl.cell (p := ⟨b, off + j * 6, none⟩) hbb).trans y0
      have x1 := (HM.out.bl.cell (p := ⟨b, off + j * 6 + 1, none⟩) hbb).trans y1
      have x2 := (HM.out.bl.cell (p := ⟨b, off + j * 6 + 2, none⟩) hbb).trans y2
      have x3 := (HM.out.bl.cell (p := ⟨b, off + j * 6 + 3, none⟩) hbb).trans y3
      have x4 := (HM.out.bl.cell (p := ⟨b, off + j * 6 + 4, none⟩) hbb).trans y4
      have x5 := (HM.out.bl.cell (p := ⟨b, off + j * 6 + 5, none⟩) hbb).trans y5
      clear y0 y1 y2 y3 y4 y5
      have hse := hs'.at_ (List.mem_of_getElem? hp)
      have HT := Lib.hid (all_step (p := fitB l) hp)
      have RB := Lib.hid (ringB_of (HB.out _ _ hp))
      clear hp
      have Q5h := Lib.hid q5
      clear q5
      replace HM := Lib.hid (HM.out.new #[.int .i64 e.id, .string e.doc, .int .i64 e.cap, .int .i64 e.next, .bool e.out, .slice C5 e.list.length c5] 80)
      go_wp2
      clear x0 x1 x2 x3 x4 x5
      obtain ⟨W1, hW, hm⟩ := HM.out.name
      rw [← hW]
      replace HM := Lib.hid hm
      clear hm hW
      obtain ⟨kk, hkk⟩ : ∃ kk, ixInt (docIx l e.doc) = kk := ⟨_, rfl⟩
      have HK := Lib.hid hkk
      clear hkk
      replace HM := Lib.hid (HM.out.drew)
      refine wp_region_held_drew (S := fun W => Ms w [.bx wr.heap.size (.cells #[.int .i64 e.id, .string e.doc, .int .i64 e.cap, .int .i64 e.next, .bool e.out, .slice C5 e.list.length c5] 80 (0, 0))] W) (by kernel_rfl) (HM.out.pick (ks := [0]) (by decide) rfl) (fun hS => ?_)
      generalize W1.drew = W2 at HM hS  ⊢
      refine tk (v := ?_) 0 16 rfl (fun w' hS' => ?_) hS ?_
      rotate_left
      · go_simp; all_goals (with_reducible rfl)
      try simp only [Act.put, pa, pb, pc]
      refine tk (v := ?_) 1 17 rfl (fun w' hS' => ?_) hS ?_
      rotate_left
      · go_simp; all_goals (with_reducible rfl)
      try simp only [Act.put, pa, pb, pc]
      refine tk (v := ?_) 2 18 rfl (fun w' hS' => ?_) hS ?_
      rotate_left
      · go_simp; all_goals (with_reducible rfl)
      try simp only [Act.put, pa, pb, pc]
      refine tk (v := ?_) 3 19 rfl (fun w' hS' => ?_) hS ?_
      rotate_left
      · go_simp; all_goals (with_reducible rfl)
      try simp only [Act.put, pa, pb, pc]
      refine tk (v := ?_) 4 20 rfl (fun w' hS' => ?_) hS ?_
      rotate_left
      · (try dsimp only at hS'); have q0 := hS'.cell (i := 0) (j := 0) rfl rfl; have q1 := hS'.cell (i := 0) (j := 1) rfl rfl; have q2 := hS'.cell (i := 0) (j := 2) rfl rfl; have q3 := hS'.cell (i := 0) (j := 3) rfl rfl; have q4 := hS'.cell (i := 0) (j := 4) rfl rfl; have q5 := hS'.cell (i := 0) (j := 5) rfl rfl; have c0 := (hS'.bl.cell (p := ⟨g, 0, none⟩) HG.out).trans HC0.out; go_simp; all_goals (with_reducible rfl)
      try simp only [Act.put, pa, pb, pc]
      refine r1 5 (some 21) rfl (fun K hK => ?_)
      go_simp
      refine (document_any _ l e.doc g 0 _ (HM.out.arg HR.out) hs (Nat.lt_of_lt_of_le HG.out HM.out.size) ((HM.out.bl.cell (p := ⟨g, 0, none⟩) HG.out).trans HC0.out)).mono ?_
      rw [HK.out]
      rintro e' W3 ⟨rfl, b'⟩
      replace HM := Lib.hid (HM.out.past b')
      clear b'
      clear hS
      refine hK.out _ _ (HM.out.pick (ks := [0]) (by decide) rfl) (fun hS => ?_)
      clear hK K
      try simp only [Act.put, pa, pb, pc]
      refine tk (v := ?_) 6 5 rfl (fun w' hS' => ?_) hS ?_
      rotate_left
      · go_simp; all_goals (with_reducible rfl)
      try simp only [Act.put, pa, pb, pc]
      refine wpAnyH_done (by kernel_rfl) ?_ _
      clear hS
      go_wp2
      by_cases h3 : kk < 0
      · have hk0 := ix_neg HK.out h3
        have HE := Lib.hid (show m.all (fitB l) = false by rw [HI.out, HT.out, fit_none hk0, Bool.false_and])
        clear hk0
        have g3 : decide (kk < 0) = true := decide_eq_true h3
        clear h3
        replace HM := Lib.hid (HM.out.drew)
        refine wp_region_held_drew (S := fun W => Ms w [.bx wr.heap.size (.cells #[.int .i64 e.id, .string e.doc, .int .i64 e.cap, .int .i64 e.next, .bool e.out, .slice C5 e.list.length c5] 80 (0, 0))] W) (by kernel_rfl) (HM.out.pick (ks := [0]) (by decide) rfl) (fun hS => ?_)
        generalize W3.drew = W4 at HM hS  ⊢
        refine tk (v := ?_) 0 22 rfl (fun w' hS' => ?_) hS ?_
        rotate_left
        · go_simp; all_goals (with_reducible rfl)
        try simp only [Act.put, pa, pb, pc]
        refine tk (v := ?_) 1 23 rfl (fun w' hS' => ?_) hS ?_
        rotate_left
        · go_simp; all_goals (with_reducible rfl)
        try simp only [Act.put, pa, pb, pc]
        try rw [g3]
        refine tk (v := ?_) 2 24 rfl (fun w' hS' => ?_) hS ?_
        rotate_left
        · go_simp; all_goals (with_reducible rfl)
        try simp only [Act.put, pa, pb, pc]
        refine tu 3 25 rfl hS ?_
        try simp only [Act.put, pa, pb, pc]
        refine tu 4 26 rfl hS ?_
        try simp only [Act.put, pa, pb, pc]
        refine tu 5 27 rfl hS ?_
        try simp only [Act.put, pa, pb, pc]
        refine tu 6 28 rfl hS ?_
        try simp only [Act.put, pa, pb, pc]
        refine tu 7 29 rfl hS ?_
        try simp only [Act.put, pa, pb, pc]
        refine tu 8 30 rfl hS ?_
        try simp only [Act.put, pa, pb, pc]
        refine tu 9 31 rfl hS ?_
        try simp only [Act.put, pa, pb, pc]
        refine tu 10 32 rfl hS ?_
        try simp only [Act.put, pa, pb, pc]
        refine tu 11 33 rfl hS ?_
        try simp only [Act.put, pa, pb, pc]
        refine tu 12 34 rfl hS ?_
        try simp only [Act.put, pa, pb, pc]
        refine tu 13 35 rfl hS ?_
        try simp only [Act.put, pa, pb, pc]
        refine tu 14 36 rfl hS ?_
        try simp only [Act.put, pa, pb, pc]
        refine tu 15 37 rfl hS ?_
        try simp only [Act.put, pa, pb, pc]
        refine tu 16 38 rfl hS ?_
        try simp only [Act.put, pa, pb, pc]
        refine tu 17 39 rfl hS ?_
        try simp only [Act.put, pa, pb, pc]
        refine tu 18 40 rfl hS ?_
        try simp only [Act.put, pa, pb, pc]
        refine tu 19 41 rfl hS ?_
        try simp only [Act.put, pa, pb, pc]
        refine tu 20 42 rfl hS ?_
        try simp only [Act.put, pa, pb, pc]
        refine tu 21 43 rfl hS ?_
        try simp only [Act.put, pa, pb, pc]
        refine tu 22 44 rfl hS ?_
        try simp only [Act.put, pa, pb, pc]
        refine tu 23 45 rfl hS ?_
        try simp only [Act.put, pa, pb, pc]
        refine tu 24 46 rfl hS ?_
        try simp only [Act.put, pa, pb, pc]
        refine tu 25 47 rfl hS ?_
        try simp only [Act.put, pa, pb, pc]
        refine tu 26 48 rfl hS ?_
        try simp only [Act.put, pa, pb, pc]
        refine tu 27 49 rfl hS ?_
        try simp only [Act.put, pa, pb, pc]
        refine tk (v := ?_) 28 50 rfl (fun w' hS' => ?_) hS ?_
        rotate_left
        · go_simp; all_goals (with_reducible rfl)
        try simp only [Act.put, pa, pb, pc]
        refine wpAnyH_done (by kernel_rfl) ?_ _
        clear hS
        go_wp2
        go_ret
        exact ⟨ret_b HE.out.symm, HM.out.bl⟩
      obtain ⟨k, rfl, hk, hkl⟩ := ix_pos HK.out h3
      have g3 : decide ((k : Int) < 0) = false := decide_eq_false h3
      clear h3 HK
      obtain ⟨b3, off3, d, D2, d2, D3, d3, D4, d4, hA3, hb3, hp3, z0, z1, z2, z3, z4, p2, p3, p4⟩ := atDos HR.out (i := k) hkl
      subst hA3
      have HF := Lib.hid (fit_some hk hp3)
      have hre := docsOk_rev (HA.out _ _ hp3)
      have hsd := hs.at_ (List.mem_of_getElem? hp3)
      have P2h := Lib.hid p2
      have P3h := Lib.hid p3
      have P4h := Lib.hid p4
      have HRE := Lib.hid hre
      clear hp3 p2 p3 p4 hk hre
      rcases (show e.out = true ∨ e.out = false by cases e.out <;> simp) with h6 | h6
      · have HJ := Lib.hid (show m.all (fitB l) = (m.drop (j + 1)).all (fitB l) by rw [HI.out, HT.out, HF.out, h6, Bool.true_or, Bool.true_and])
        replace HM := Lib.hid (HM.out.drew)
        refine wp_region_held_drew (S := fun W => Ms w [.bx wr.heap.size (.cells #[.int .i64 e.id, .string e.doc, .int .i64 e.cap, .int .i64 e.next, .bool e.out, .slice C5 e.list.length c5] 80 (0, 0))] W) (by kernel_rfl) (HM.out.pick (ks := [0]) (by decide) rfl) (fun hS => ?_)
        generalize W3.drew = W5 at HM hS  ⊢
        refine tk (v := ?_) 0 22 rfl (fun w' hS' => ?_) hS ?_
        rotate_left
        · go_simp; all_goals (with_reducible rfl)
        try simp only [Act.put, pa, pb, pc]
        refine tk (v := ?_) 1 23 rfl (fun w' hS' => ?_) hS ?_
        rotate_left
        · go_simp; all_goals (with_reducible rfl)
        try simp only [Act.put, pa, pb, pc]
        try rw [g3]
        refine tk (v := ?_) 2 24 rfl (fun w' hS' => ?_) hS ?_
        rotate_left
        · go_simp; all_goals (with_reducible rfl)
        try simp only [Act.put, pa, pb, pc]
        refine tk (v := ?_) 3 25 rfl (fun w' hS' => ?_) hS ?_
        rotate_left
        · go_simp; all_goals (with_reducible rfl)
        try simp only [Act.put, pa, pb, pc]
        refine tk (v := ?_) 4 26 rfl (fun w' hS' => ?_) hS ?_
        rotate_left
        · go_simp; all_goals (with_reducible rfl)
        try simp only [Act.put, pa, pb, pc]
        refine tk (v := ?_) 5 27 rfl (fun w' hS' => ?_) hS ?_
        rotate_left
        · (try dsimp only at hS'); have q0 := hS'.cell (i := 0) (j := 0) rfl rfl; have q1 := hS'.cell (i := 0) (j := 1) rfl rfl; have q2 := hS'.cell (i := 0) (j := 2) rfl rfl; have q3 := hS'.cell (i := 0) (j := 3) rfl rfl; have q4 := hS'.cell (i := 0) (j := 4) rfl rfl; have q5 := hS'.cell (i := 0) (j := 5) rfl rfl; have c0 := (hS'.bl.cell (p := ⟨g, 0, none⟩) HG.out).trans HC0.out; rw [h6] at q4; go_simp; all_goals (with_reducible rfl)
        try simp only [Act.put, pa, pb, pc]
        refine tk (v := ?_) 6 28 rfl (fun w' hS' => ?_) hS ?_
        rotate_left
        · go_simp; all_goals (with_reducible rfl)
        try simp only [Act.put, pa, pb, pc]
        refine tk (v := ?_) 7 29 rfl (fun w' hS' => ?_) hS ?_
        rotate_left
        · go_simp; all_goals (with_reducible rfl)
        try simp only [Act.put, pa, pb, pc]
        refine tu 8 30 rfl hS ?_
        try simp only [Act.put, pa, pb, pc]
        refine tu 9 31 rfl hS ?_
        try simp only [Act.put, pa, pb, pc]
        refine tu 10 32 rfl hS ?_
        try simp only [Act.put, pa, pb, pc]
        refine tu 11 33 rfl hS ?_
        try simp only [Act.put, pa, pb, pc]
        refine tu 12 34 rfl hS ?_
        try simp only [Act.put, pa, pb, pc]
        refine tu 13 35 rfl hS ?_
        try simp only [Act.put, pa, pb, pc]
        refine tu 14 36 rfl hS ?_
        try simp only [Act.put, pa, pb, pc]
        refine tu 15 37 rfl hS ?_
        try simp only [Act.put, pa, pb, pc]
        refine tu 16 38 rfl hS ?_
        try simp only [Act.put, pa, pb, pc]
        refine tu 17 39 rfl hS ?_
        try simp only [Act.put, pa, pb, pc]
        refine tu 18 40 rfl hS ?_
        try simp only [Act.put, pa, pb, pc]
        refine tu 19 41 rfl hS ?_
        try simp only [Act.put, pa, pb, pc]
        refine tu 20 42 rfl hS ?_
        try simp only [Act.put, pa, pb, pc]
        refine tu 21 43 rfl hS ?_
        try simp only [Act.put, pa, pb, pc]
        refine tu 22 44 rfl hS ?_
        try simp only [Act.put, pa, pb, pc]
        refine tu 23 45 rfl hS ?_
        try simp only [Act.put, pa, pb, pc]
        refine tu 24 46 rfl hS ?_
        try simp only [Act.put, pa, pb, pc]
        refine tu 25 47 rfl hS ?_
        try simp only [Act.put, pa, pb, pc]
        refine tu 26 48 rfl hS ?_
        try simp only [Act.put, pa, pb, pc]
        refine tk (v := ?_) 27 49 rfl (fun w' hS' => ?_) hS ?_
        rotate_left
        · go_simp; all_goals (with_reducible rfl)
        try simp only [Act.put, pa, pb, pc]
        refine tk (v := ?_) 28 50 rfl (fun w' hS' => ?_) hS ?_
        rotate_left
        · go_simp; all_goals (with_reducible rfl)
        try simp only [Act.put, pa, pb, pc]
        refine wpAnyH_done (by kernel_rfl) ?_ _
        clear hS
        go_wp2
        go_roundw
        case rel => exact ⟨j + 1, by omega, by go_num, HJ.out, HM.out.pick (ks := []) (by decide) rfl⟩
        case measure => simp [intOf]; omega
      have hrb := RB.out
      have hn1 : e.next ≤ 1000000000 ∧ 1 ≤ e.next ∧ (e.list.length : Int) ≤ e.cap ∧ e.cap ≤ 6 := ⟨hrb.2.2.2.2.1, hrb.2.2.2.1, hrb.2.2.2.2.2.1, hrb.2.2.1⟩
      obtain ⟨hn1, hn2, hn3, hn4⟩ := hn1
      obtain ⟨hr1, hr2⟩ := HRE.out
      clear hrb
      have hw1 : IntKind.i64.wrap (e.next + (e.list.length : Int)) = e.next + (e.list.length : Int) := IntWalk.i64_in _ (by omega)
      have hw2 : IntKind.i64.wrap (headRevT d + 1) = headRevT d + 1 := IntWalk.i64_in _ (by omega)
      by_cases h7 : e.next + (e.list.length : Int) = headRevT d + 1
      rotate_left
      · have HE := Lib.hid (show m.all (fitB l) = false by rw [HI.out, HT.out, HF.out, h6, decide_eq_false h7, Bool.or_false, Bool.false_and])
        have g7 : (e.next + (e.list.length : Int) != headRevT d + 1) = true := by rw [bne_iff_ne]; exact h7
        clear h7
        replace HM := Lib.hid (HM.out.drew)
        refine wp_region_held_drew (S := fun W => Ms w [.bx wr.heap.size (.cells #[.int .i64 e.id, .string e.doc, .int .i64 e.cap, .int .i64 e.next, .bool e.out, .slice C5 e.list.length c5] 80 (0, 0))] W) (by kernel_rfl) (HM.out.pick (ks := [0]) (by decide) rfl) (fun hS => ?_)
        generalize W3.drew = W6 at HM hS  ⊢
        refine tk (v := ?_) 0 22 rfl (fun w' hS' => ?_) hS ?_
        rotate_left
        · go_simp; all_goals (with_reducible rfl)
        try simp only [Act.put, pa, pb, pc]
        refine tk (v := ?_) 1 23 rfl (fun w' hS' => ?_) hS ?_
        rotate_left
        · go_simp; all_goals (with_reducible rfl)
        try simp only [Act.put, pa, pb, pc]
        try rw [g3]
        refine tk (v := ?_) 2 24 rfl (fun w' hS' => ?_) hS ?_
        rotate_left
        · go_simp; all_goals (with_reducible rfl)
        try simp only [Act.put, pa, pb, pc]
        first | refine tu 3 25 rfl hS ?_ | (refine tk (v := ?_) 3 25 rfl (fun w' hS' => ?_) hS ?_; rotate_left; · (go_simp; all_goals (with_reducible rfl)))
        try simp only [Act.put, pa, pb, pc]
        first | refine tu 4 26 rfl hS ?_ | (refine tk (v := ?_) 4 26 rfl (fun w' hS' => ?_) hS ?_; rotate_left; · (go_simp; all_goals (with_reducible rfl)))
        try simp only [Act.put, pa, pb, pc]
        first | refine tu 5 27 rfl hS ?_ | (refine tk (v := ?_) 5 27 rfl (fun w' hS' => ?_) hS ?_; rotate_left; · ((try dsimp only at hS'); have q0 := hS'.cell (i := 0) (j := 0) rfl rfl; have q1 := hS'.cell (i := 0) (j := 1) rfl rfl; have q2 := hS'.cell (i := 0) (j := 2) rfl rfl; have q3 := hS'.cell (i := 0) (j := 3) rfl rfl; have q4 := hS'.cell (i := 0) (j := 4) rfl rfl; have q5 := hS'.cell (i := 0) (j := 5) rfl rfl; have c0 := (hS'.bl.cell (p := ⟨g, 0, none⟩) HG.out).trans HC0.out; have u0 := (hS'.bl.cell (p := ⟨b3, off3 + k * 5, none⟩) hb3).trans z0; have u1 := (hS'.bl.cell (p := ⟨b3, off3 + k * 5 + 1, none⟩) hb3).trans z1; have u2 := (hS'.bl.cell (p := ⟨b3, off3 + k * 5 + 2, none⟩) hb3).trans z2; have u3 := (hS'.bl.cell (p := ⟨b3, off3 + k * 5 + 3, none⟩) hb3).trans z3; have u4 := (hS'.bl.cell (p := ⟨b3, off3 + k * 5 + 4, none⟩) hb3).trans z4; rw [h6] at q4; go_simp; all_goals (with_reducible rfl)))
        try simp only [Act.put, pa, pb, pc]
        first | refine tu 6 28 rfl hS ?_ | (refine tk (v := ?_) 6 28 rfl (fun w' hS' => ?_) hS ?_; rotate_left; · (go_simp; all_goals (with_reducible rfl)))
        try simp only [Act.put, pa, pb, pc]
        first | refine tu 7 29 rfl hS ?_ | (refine tk (v := ?_) 7 29 rfl (fun w' hS' => ?_) hS ?_; rotate_left; · (go_simp; all_goals (with_reducible rfl)))
        try simp only [Act.put, pa, pb, pc]
        first | refine tu 8 30 rfl hS ?_ | (refine tk (v := ?_) 8 30 rfl (fun w' hS' => ?_) hS ?_; rotate_left; · (go_simp; all_goals (with_reducible rfl)))
        try simp only [Act.put, pa, pb, pc]
        first | refine tu 9 31 rfl hS ?_ | (refine tk (v := ?_) 9 31 rfl (fun w' hS' => ?_) hS ?_; rotate_left; · (go_simp; all_goals (with_reducible rfl)))
        try simp only [Act.put, pa, pb, pc]
        first | refine tu 10 32 rfl hS ?_ | (refine tk (v := ?_) 10 32 rfl (fun w' hS' => ?_) hS ?_; rotate_left; · ((try dsimp only at hS'); have q0 := hS'.cell (i := 0) (j := 0) rfl rfl; have q1 := hS'.cell (i := 0) (j := 1) rfl rfl; have q2 := hS'.cell (i := 0) (j := 2) rfl rfl; have q3 := hS'.cell (i := 0) (j := 3) rfl rfl; have q4 := hS'.cell (i := 0) (j := 4) rfl rfl; have q5 := hS'.cell (i := 0) (j := 5) rfl rfl; have c0 := (hS'.bl.cell (p := ⟨g, 0, none⟩) HG.out).trans HC0.out; have u0 := (hS'.bl.cell (p := ⟨b3, off3 + k * 5, none⟩) hb3).trans z0; have u1 := (hS'.bl.cell (p := ⟨b3, off3 + k * 5 + 1, none⟩) hb3).trans z1; have u2 := (hS'.bl.cell (p := ⟨b3, off3 + k * 5 + 2, none⟩) hb3).trans z2; have u3 := (hS'.bl.cell (p := ⟨b3, off3 + k * 5 + 3, none⟩) hb3).trans z3; have u4 := (hS'.bl.cell (p := ⟨b3, off3 + k * 5 + 4, none⟩) hb3).trans z4; rw [h6] at q4; go_simp; all_goals (with_reducible rfl)))
        try simp only [Act.put, pa, pb, pc]
        first | refine tu 11 33 rfl hS ?_ | (refine tk (v := ?_) 11 33 rfl (fun w' hS' => ?_) hS ?_; rotate_left; · (go_simp; all_goals (with_reducible rfl)))
        try simp only [Act.put, pa, pb, pc]
        first | refine tu 12 34 rfl hS ?_ | (refine tk (v := ?_) 12 34 rfl (fun w' hS' => ?_) hS ?_; rotate_left; · (go_simp; all_goals (with_reducible rfl)))
        try simp only [Act.put, pa, pb, pc]
        first | refine tu 13 35 rfl hS ?_ | (refine tk (v := ?_) 13 35 rfl (fun w' hS' => ?_) hS ?_; rotate_left; · ((try dsimp only at hS'); have q0 := hS'.cell (i := 0) (j := 0) rfl rfl; have q1 := hS'.cell (i := 0) (j := 1) rfl rfl; have q2 := hS'.cell (i := 0) (j := 2) rfl rfl; have q3 := hS'.cell (i := 0) (j := 3) rfl rfl; have q4 := hS'.cell (i := 0) (j := 4) rfl rfl; have q5 := hS'.cell (i := 0) (j := 5) rfl rfl; have c0 := (hS'.bl.cell (p := ⟨g, 0, none⟩) HG.out).trans HC0.out; have u0 := (hS'.bl.cell (p := ⟨b3, off3 + k * 5, none⟩) hb3).trans z0; have u1 := (hS'.bl.cell (p := ⟨b3, off3 + k * 5 + 1, none⟩) hb3).trans z1; have u2 := (hS'.bl.cell (p := ⟨b3, off3 + k * 5 + 2, none⟩) hb3).trans z2; have u3 := (hS'.bl.cell (p := ⟨b3, off3 + k * 5 + 3, none⟩) hb3).trans z3; have u4 := (hS'.bl.cell (p := ⟨b3, off3 + k * 5 + 4, none⟩) hb3).trans z4; rw [h6] at q4; go_simp; all_goals (with_reducible rfl)))
        try simp only [Act.put, pa, pb, pc]
        first | refine tu 14 36 rfl hS ?_ | (refine tk (v := ?_) 14 36 rfl (fun w' hS' => ?_) hS ?_; rotate_left; · (go_simp; all_goals (with_reducible rfl)))
        try simp only [Act.put, pa, pb, pc]
        first | refine tu 15 37 rfl hS ?_ | (refine tk (v := ?_) 15 37 rfl (fun w' hS' => ?_) hS ?_; rotate_left; · (go_simp; all_goals (with_reducible rfl)))
        try simp only [Act.put, pa, pb, pc]
        first | refine tu 16 38 rfl hS ?_ | (refine tk (v := ?_) 16 38 rfl (fun w' hS' => ?_) hS ?_; rotate_left; · (go_simp; all_goals (with_reducible rfl)))
        try simp only [Act.put, pa, pb, pc]
        first | refine tu 17 39 rfl hS ?_ | (refine tk (v := ?_) 17 39 rfl (fun w' hS' => ?_) hS ?_; rotate_left; · (go_simp; all_goals (with_reducible rfl)))
        try simp only [Act.put, pa, pb, pc]
        first | refine tu 18 40 rfl hS ?_ | (refine tk (v := ?_) 18 40 rfl (fun w' hS' => ?_) hS ?_; rotate_left; · (go_simp; all_goals (with_reducible rfl)))
        try simp only [Act.put, pa, pb, pc]
        first | refine tu 19 41 rfl hS ?_ | (refine tk (v := ?_) 19 41 rfl (fun w' hS' => ?_) hS ?_; rotate_left; · (go_simp; all_goals (with_reducible rfl)))
        try simp only [Act.put, pa, pb, pc]
        first | refine tu 20 42 rfl hS ?_ | (refine tk (v := ?_) 20 42 rfl (fun w' hS' => ?_) hS ?_; rotate_left; · ((try dsimp only at hS'); have q0 := hS'.cell (i := 0) (j := 0) rfl rfl; have q1 := hS'.cell (i := 0) (j := 1) rfl rfl; have q2 := hS'.cell (i := 0) (j := 2) rfl rfl; have q3 := hS'.cell (i := 0) (j := 3) rfl rfl; have q4 := hS'.cell (i := 0) (j := 4) rfl rfl; have q5 := hS'.cell (i := 0) (j := 5) rfl rfl; have c0 := (hS'.bl.cell (p := ⟨g, 0, none⟩) HG.out).trans HC0.out; have u0 := (hS'.bl.cell (p := ⟨b3, off3 + k * 5, none⟩) hb3).trans z0; have u1 := (hS'.bl.cell (p := ⟨b3, off3 + k * 5 + 1, none⟩) hb3).trans z1; have u2 := (hS'.bl.cell (p := ⟨b3, off3 + k * 5 + 2, none⟩) hb3).trans z2; have u3 := (hS'.bl.cell (p := ⟨b3, off3 + k * 5 + 3, none⟩) hb3).trans z3; have u4 := (hS'.bl.cell (p := ⟨b3, off3 + k * 5 + 4, none⟩) hb3).trans z4; rw [h6] at q4; go_simp; all_goals (with_reducible rfl)))
        try simp only [Act.put, pa, pb, pc]
        first | refine tu 21 43 rfl hS ?_ | (refine tk (v := ?_) 21 43 rfl (fun w' hS' => ?_) hS ?_; rotate_left; · (go_simp; all_goals (with_reducible rfl)))
        try simp only [Act.put, pa, pb, pc]
        first | refine tu 22 44 rfl hS ?_ | (refine tk (v := ?_) 22 44 rfl (fun w' hS' => ?_) hS ?_; rotate_left; · (go_simp; all_goals (with_reducible rfl)))
        try simp only [Act.put, pa, pb, pc]
        first | refine tu 23 45 rfl hS ?_ | (refine tk (v := ?_) 23 45 rfl (fun w' hS' => ?_) hS ?_; rotate_left; · ((try dsimp only at hS'); have q0 := hS'.cell (i := 0) (j := 0) rfl rfl; have q1 := hS'.cell (i := 0) (j := 1) rfl rfl; have q2 := hS'.cell (i := 0) (j := 2) rfl rfl; have q3 := hS'.cell (i := 0) (j := 3) rfl rfl; have q4 := hS'.cell (i := 0) (j := 4) rfl rfl; have q5 := hS'.cell (i := 0) (j := 5) rfl rfl; have c0 := (hS'.bl.cell (p := ⟨g, 0, none⟩) HG.out).trans HC0.out; have u0 := (hS'.bl.cell (p := ⟨b3, off3 + k * 5, none⟩) hb3).trans z0; have u1 := (hS'.bl.cell (p := ⟨b3, off3 + k * 5 + 1, none⟩) hb3).trans z1; have u2 := (hS'.bl.cell (p := ⟨b3, off3 + k * 5 + 2, none⟩) hb3).trans z2; have u3 := (hS'.bl.cell (p := ⟨b3, off3 + k * 5 + 3, none⟩) hb3).trans z3; have u4 := (hS'.bl.cell (p := ⟨b3, off3 + k * 5 + 4, none⟩) hb3).trans z4; rw [h6] at q4; go_simp; all_goals (with_reducible rfl)))
        try simp only [Act.put, pa, pb, pc]
        refine r1 24 (some 46) rfl (fun K hK => ?_)
        go_simp
        refine (implHeadRev_w _ d _ (rdDo d (HM.out.arg P2h.out) (HM.out.arg P3h.out) (HM.out.arg P4h.out))).mono ?_
        rintro e' W7 ⟨rfl, b'⟩
        replace HM := Lib.hid (HM.out.past b')
        clear b'
        clear hS
        refine hK.out _ _ (HM.out.pick (ks := [0]) (by decide) rfl) (fun hS => ?_)
        clear hK K
        try simp only [Act.put, pa, pb, pc]
        first | refine tu 25 47 rfl hS ?_ | (refine tk (v := ?_) 25 47 rfl (fun w' hS' => ?_) hS ?_; rotate_left; · (go_simp; all_goals (with_reducible rfl)))
        try simp only [Act.put, pa, pb, pc]
        first | refine tu 26 48 rfl hS ?_ | (refine tk (v := ?_) 26 48 rfl (fun w' hS' => ?_) hS ?_; rotate_left; · (go_simp; all_goals (with_reducible rfl)))
        try simp only [Act.put, pa, pb, pc]
        try rw [g7]
        first | refine tu 27 49 rfl hS ?_ | (refine tk (v := ?_) 27 49 rfl (fun w' hS' => ?_) hS ?_; rotate_left; · (go_simp; all_goals (with_reducible rfl)))
        try simp only [Act.put, pa, pb, pc]
        refine tk (v := ?_) 28 50 rfl (fun w' hS' => ?_) hS ?_
        rotate_left
        · go_simp; all_goals (with_reducible rfl)
        try simp only [Act.put, pa, pb, pc]
        refine wpAnyH_done (by kernel_rfl) ?_ _
        clear hS
        go_wp2
        go_ret
        exact ⟨ret_b HE.out.symm, HM.out.bl⟩
      have HJ := Lib.hid (show m.all (fitB l) = (m.drop (j + 1)).all (fitB l) by rw [HI.out, HT.out, HF.out, h6, decide_eq_true h7, Bool.or_true, Bool.true_and])
      have g7 : (e.next + (e.list.length : Int) != headRevT d + 1) = false := by rw [bne_eq_false_iff_eq]; exact h7
      replace h7 := Lib.hid h7
      replace HM := Lib.hid (HM.out.drew)
      refine wp_region_held_drew (S := fun W => Ms w [.bx wr.heap.size (.cells #[.int .i64 e.id, .string e.doc, .int .i64 e.cap, .int .i64 e.next, .bool e.out, .slice C5 e.list.length c5] 80 (0, 0))] W) (by kernel_rfl) (HM.out.pick (ks := [0]) (by decide) rfl) (fun hS => ?_)
      generalize W3.drew = W8 at HM hS  ⊢
      refine tk (v := ?_) 0 22 rfl (fun w' hS' => ?_) hS ?_
      rotate_left
      · go_simp; all_goals (with_reducible rfl)
      try simp only [Act.put, pa, pb, pc]
      refine tk (v := ?_) 1 23 rfl (fun w' hS' => ?_) hS ?_
      rotate_left
      · go_simp; all_goals (with_reducible rfl)
      try simp only [Act.put, pa, pb, pc]
      try rw [g3]
      refine tk (v := ?_) 2 24 rfl (fun w' hS' => ?_) hS ?_
      rotate_left
      · go_simp; all_goals (with_reducible rfl)
      try simp only [Act.put, pa, pb, pc]
      first | refine tu 3 25 rfl hS ?_ | (refine tk (v := ?_) 3 25 rfl (fun w' hS' => ?_) hS ?_; rotate_left; · (go_simp; all_goals (with_reducible rfl)))
      try simp only [Act.put, pa, pb, pc]
      first | refine tu 4 26 rfl hS ?_ | (refine tk (v := ?_) 4 26 rfl (fun w' hS' => ?_) hS ?_; rotate_left; · (go_simp; all_goals (with_reducible rfl)))
      try simp only [Act.put, pa, pb, pc]
      first | refine tu 5 27 rfl hS ?_ | (refine tk (v := ?_) 5 27 rfl (fun w' hS' => ?_) hS ?_; rotate_left; · ((try dsimp only at hS'); have q0 := hS'.cell (i := 0) (j := 0) rfl rfl; have q1 := hS'.cell (i := 0) (j := 1) rfl rfl; have q2 := hS'.cell (i := 0) (j := 2) rfl rfl; have q3 := hS'.cell (i := 0) (j := 3) rfl rfl; have q4 := hS'.cell (i := 0) (j := 4) rfl rfl; have q5 := hS'.cell (i := 0) (j := 5) rfl rfl; have c0 := (hS'.bl.cell (p := ⟨g, 0, none⟩) HG.out).trans HC0.out; have u0 := (hS'.bl.cell (p := ⟨b3, off3 + k * 5, none⟩) hb3).trans z0; have u1 := (hS'.bl.cell (p := ⟨b3, off3 + k * 5 + 1, none⟩) hb3).trans z1; have u2 := (hS'.bl.cell (p := ⟨b3, off3 + k * 5 + 2, none⟩) hb3).trans z2; have u3 := (hS'.bl.cell (p := ⟨b3, off3 + k * 5 + 3, none⟩) hb3).trans z3; have u4 := (hS'.bl.cell (p := ⟨b3, off3 + k * 5 + 4, none⟩) hb3).trans z4; rw [h6] at q4; go_simp; all_goals (with_reducible rfl)))
      try simp only [Act.put, pa, pb, pc]
      first | refine tu 6 28 rfl hS ?_ | (refine tk (v := ?_) 6 28 rfl (fun w' hS' => ?_) hS ?_; rotate_left; · (go_simp; all_goals (with_reducible rfl)))
      try simp only [Act.put, pa, pb, pc]
      first | refine tu 7 29 rfl hS ?_ | (refine tk (v := ?_) 7 29 rfl (fun w' hS' => ?_) hS ?_; rotate_left; · (go_simp; all_goals (with_reducible rfl)))
      try simp only [Act.put, pa, pb, pc]
      first | refine tu 8 30 rfl hS ?_ | (refine tk (v := ?_) 8 30 rfl (fun w' hS' => ?_) hS ?_; rotate_left; · (go_simp; all_goals (with_reducible rfl)))
      try simp only [Act.put, pa, pb, pc]
      first | refine tu 9 31 rfl hS ?_ | (refine tk (v := ?_) 9 31 rfl (fun w' hS' => ?_) hS ?_; rotate_left; · (go_simp; all_goals (with_reducible rfl)))
      try simp only [Act.put, pa, pb, pc]
      first | refine tu 10 32 rfl hS ?_ | (refine tk (v := ?_) 10 32 rfl (fun w' hS' => ?_) hS ?_; rotate_left; · ((try dsimp only at hS'); have q0 := hS'.cell (i := 0) (j := 0) rfl rfl; have q1 := hS'.cell (i := 0) (j := 1) rfl rfl; have q2 := hS'.cell (i := 0) (j := 2) rfl rfl; have q3 := hS'.cell (i := 0) (j := 3) rfl rfl; have q4 := hS'.cell (i := 0) (j := 4) rfl rfl; have q5 := hS'.cell (i := 0) (j := 5) rfl rfl; have c0 := (hS'.bl.cell (p := ⟨g, 0, none⟩) HG.out).trans HC0.out; have u0 := (hS'.bl.cell (p := ⟨b3, off3 + k * 5, none⟩) hb3).trans z0; have u1 := (hS'.bl.cell (p := ⟨b3, off3 + k * 5 + 1, none⟩) hb3).trans z1; have u2 := (hS'.bl.cell (p := ⟨b3, off3 + k * 5 + 2, none⟩) hb3).trans z2; have u3 := (hS'.bl.cell (p := ⟨b3, off3 + k * 5 + 3, none⟩) hb3).trans z3; have u4 := (hS'.bl.cell (p := ⟨b3, off3 + k * 5 + 4, none⟩) hb3).trans z4; rw [h6] at q4; go_simp; all_goals (with_reducible rfl)))
      try simp only [Act.put, pa, pb, pc]
      first | refine tu 11 33 rfl hS ?_ | (refine tk (v := ?_) 11 33 rfl (fun w' hS' => ?_) hS ?_; rotate_left; · (go_simp; all_goals (with_reducible rfl)))
      try simp only [Act.put, pa, pb, pc]
      first | refine tu 12 34 rfl hS ?_ | (refine tk (v := ?_) 12 34 rfl (fun w' hS' => ?_) hS ?_; rotate_left; · (go_simp; all_goals (with_reducible rfl)))
      try simp only [Act.put, pa, pb, pc]
      first | refine tu 13 35 rfl hS ?_ | (refine tk (v := ?_) 13 35 rfl (fun w' hS' => ?_) hS ?_; rotate_left; · ((try dsimp only at hS'); have q0 := hS'.cell (i := 0) (j := 0) rfl rfl; have q1 := hS'.cell (i := 0) (j := 1) rfl rfl; have q2 := hS'.cell (i := 0) (j := 2) rfl rfl; have q3 := hS'.cell (i := 0) (j := 3) rfl rfl; have q4 := hS'.cell (i := 0) (j := 4) rfl rfl; have q5 := hS'.cell (i := 0) (j := 5) rfl rfl; have c0 := (hS'.bl.cell (p := ⟨g, 0, none⟩) HG.out).trans HC0.out; have u0 := (hS'.bl.cell (p := ⟨b3, off3 + k * 5, none⟩) hb3).trans z0; have u1 := (hS'.bl.cell (p := ⟨b3, off3 + k * 5 + 1, none⟩) hb3).trans z1; have u2 := (hS'.bl.cell (p := ⟨b3, off3 + k * 5 + 2, none⟩) hb3).trans z2; have u3 := (hS'.bl.cell (p := ⟨b3, off3 + k * 5 + 3, none⟩) hb3).trans z3; have u4 := (hS'.bl.cell (p := ⟨b3, off3 + k * 5 + 4, none⟩) hb3).trans z4; rw [h6] at q4; go_simp; all_goals (with_reducible rfl)))
      try simp only [Act.put, pa, pb, pc]
      first | refine tu 14 36 rfl hS ?_ | (refine tk (v := ?_) 14 36 rfl (fun w' hS' => ?_) hS ?_; rotate_left; · (go_simp; all_goals (with_reducible rfl)))
      try simp only [Act.put, pa, pb, pc]
      first | refine tu 15 37 rfl hS ?_ | (refine tk (v := ?_) 15 37 rfl (fun w' hS' => ?_) hS ?_; rotate_left; · (go_simp; all_goals (with_reducible rfl)))
      try simp only [Act.put, pa, pb, pc]
      first | refine tu 16 38 rfl hS ?_ | (refine tk (v := ?_) 16 38 rfl (fun w' hS' => ?_) hS ?_; rotate_left; · (go_simp; all_goals (with_reducible rfl)))
      try simp only [Act.put, pa, pb, pc]
      first | refine tu 17 39 rfl hS ?_ | (refine tk (v := ?_) 17 39 rfl (fun w' hS' => ?_) hS ?_; rotate_left; · (go_simp; all_goals (with_reducible rfl)))
      try simp only [Act.put, pa, pb, pc]
      first | refine tu 18 40 rfl hS ?_ | (refine tk (v := ?_) 18 40 rfl (fun w' hS' => ?_) hS ?_; rotate_left; · (go_simp; all_goals (with_reducible rfl)))
      try simp only [Act.put, pa, pb, pc]
      first | refine tu 19 41 rfl hS ?_ | (refine tk (v := ?_) 19 41 rfl (fun w' hS' => ?_) hS ?_; rotate_left; · (go_simp; all_goals (with_reducible rfl)))
      try simp only [Act.put, pa, pb, pc]
      first | refine tu 20 42 rfl hS ?_ | (refine tk (v := ?_) 20 42 rfl (fun w' hS' => ?_) hS ?_; rotate_left; · ((try dsimp only at hS'); have q0 := hS'.cell (i := 0) (j := 0) rfl rfl; have q1 := hS'.cell (i := 0) (j := 1) rfl rfl; have q2 := hS'.cell (i := 0) (j := 2) rfl rfl; have q3 := hS'.cell (i := 0) (j := 3) rfl rfl; have q4 := hS'.cell (i := 0) (j := 4) rfl rfl; have q5 := hS'.cell (i := 0) (j := 5) rfl rfl; have c0 := (hS'.bl.cell (p := ⟨g, 0, none⟩) HG.out).trans HC0.out; have u0 := (hS'.bl.cell (p := ⟨b3, off3 + k * 5, none⟩) hb3).trans z0; have u1 := (hS'.bl.cell (p := ⟨b3, off3 + k * 5 + 1, none⟩) hb3).trans z1; have u2 := (hS'.bl.cell (p := ⟨b3, off3 + k * 5 + 2, none⟩) hb3).trans z2; have u3 := (hS'.bl.cell (p := ⟨b3, off3 + k * 5 + 3, none⟩) hb3).trans z3; have u4 := (hS'.bl.cell (p := ⟨b3, off3 + k * 5 + 4, none⟩) hb3).trans z4; rw [h6] at q4; go_simp; all_goals (with_reducible rfl)))
      try simp only [Act.put, pa, pb, pc]
      first | refine tu 21 43 rfl hS ?_ | (refine tk (v := ?_) 21 43 rfl (fun w' hS' => ?_) hS ?_; rotate_left; · (go_simp; all_goals (with_reducible rfl)))
      try simp only [Act.put, pa, pb, pc]
      first | refine tu 22 44 rfl hS ?_ | (refine tk (v := ?_) 22 44 rfl (fun w' hS' => ?_) hS ?_; rotate_left; · (go_simp; all_goals (with_reducible rfl)))
      try simp only [Act.put, pa, pb, pc]
      first | refine tu 23 45 rfl hS ?_ | (refine tk (v := ?_) 23 45 rfl (fun w' hS' => ?_) hS ?_; rotate_left; · ((try dsimp only at hS'); have q0 := hS'.cell (i := 0) (j := 0) rfl rfl; have q1 := hS'.cell (i := 0) (j := 1) rfl rfl; have q2 := hS'.cell (i := 0) (j := 2) rfl rfl; have q3 := hS'.cell (i := 0) (j := 3) rfl rfl; have q4 := hS'.cell (i := 0) (j := 4) rfl rfl; have q5 := hS'.cell (i := 0) (j := 5) rfl rfl; have c0 := (hS'.bl.cell (p := ⟨g, 0, none⟩) HG.out).trans HC0.out; have u0 := (hS'.bl.cell (p := ⟨b3, off3 + k * 5, none⟩) hb3).trans z0; have u1 := (hS'.bl.cell (p := ⟨b3, off3 + k * 5 + 1, none⟩) hb3).trans z1; have u2 := (hS'.bl.cell (p := ⟨b3, off3 + k * 5 + 2, none⟩) hb3).trans z2; have u3 := (hS'.bl.cell (p := ⟨b3, off3 + k * 5 + 3, none⟩) hb3).trans z3; have u4 := (hS'.bl.cell (p := ⟨b3, off3 + k * 5 + 4, none⟩) hb3).trans z4; rw [h6] at q4; go_simp; all_goals (with_reducible rfl)))
      try simp only [Act.put, pa, pb, pc]
      refine r1 24 (some 46) rfl (fun K hK => ?_)
      go_simp
      refine (implHeadRev_w _ d _ (rdDo d (HM.out.arg P2h.out) (HM.out.arg P3h.out) (HM.out.arg P4h.out))).mono ?_
      rintro e' W9 ⟨rfl, b'⟩
      replace HM := Lib.hid (HM.out.past b')
      clear b'
      clear hS
      refine hK.out _ _ (HM.out.pick (ks := [0]) (by decide) rfl) (fun hS => ?_)
      clear hK K
      try simp only [Act.put, pa, pb, pc]
      first | refine tu 25 47 rfl hS ?_ | (refine tk (v := ?_) 25 47 rfl (fun w' hS' => ?_) hS ?_; rotate_left; · (go_simp; all_goals (with_reducible rfl)))
      try simp only [Act.put, pa, pb, pc]
      first | refine tu 26 48 rfl hS ?_ | (refine tk (v := ?_) 26 48 rfl (fun w' hS' => ?_) hS ?_; rotate_left; · (go_simp; all_goals (with_reducible rfl)))
      try simp only [Act.put, pa, pb, pc]
      try rw [g7]
      first | refine tu 27 49 rfl hS ?_ | (refine tk (v := ?_) 27 49 rfl (fun w' hS' => ?_) hS ?_; rotate_left; · (go_simp; all_goals (with_reducible rfl)))
      try simp only [Act.put, pa, pb, pc]
      refine tk (v := ?_) 28 50 rfl (fun w' hS' => ?_) hS ?_
      rotate_left
      · go_simp; all_goals (with_reducible rfl)
      try simp only [Act.put, pa, pb, pc]
      refine wpAnyH_done (by kernel_rfl) ?_ _
      clear hS
      go_wp2
      go_roundw
      case rel => exact ⟨j + 1, by omega, by go_num, HJ.out, HM.out.pick (ks := []) (by decide) rfl⟩
      case measure => simp [intOf]; omega
    · have h9 : m.drop j = [] := List.drop_eq_nil_of_le (by omega)
      have HE := Lib.hid (show m.all (fitB l) = true by rw [HI.out, h9]; rfl)
      clear h9
      go_wp2
      go_ret
      exact ⟨ret_b HE.out.symm, HM.out.bl⟩
theorem hub_short {x : Hu} : hubB x = ((decide (x.docs.length ≤ 5) && docsB none x.docs) && ((decide (x.subs.length ≤ 6) && (inB x.last 0 1000000000 && subsI x.last 0 x.subs)) && x.subs.all (fitB x.docs))) := by
  unfold hubB
  rw [subs_eq (Int.le_refl 0)]
  cases decide (x.docs.length ≤ 5) <;> cases decide (x.subs.length ≤ 6) <;> cases inB x.last 0 1000000000 <;> cases docsB none x.docs <;> cases subsI x.last 0 x.subs <;> cases x.subs.all (fitB x.docs) <;> rfl
set_option maxRecDepth 100000 in
set_option maxHeartbeats 3200000 in
theorem implHubOk_d (v : Value) (x : Hu) (w : World) (h : RdC w w.heap.size (datHu x) v) (hs : SmHu x) : Calls Tryz.prog 39 #[v] w (Tells (hubB x) w) := by
  have HR := Lib.hid h
  obtain ⟨A1, ca, A2, cb, rfl, r1, r2⟩ := aggHu h
  have R1 := Lib.hid r1
  have R2 := Lib.hid r2
  have hl1 := hs.docs.len
  have hl2 := hs.subs.len
  clear h r1 r2
  have HM := Lib.hid (Ms.start w)
  replace HM := Lib.hid (HM.out.new #[.bool x.shut, .slice A1 x.docs.length ca, .slice A2 x.subs.length cb, .int .i64 x.last] 30)
  have HD := Lib.hid (hub_short (x := x))
  go_enter Tryz.func39, Tryz.ntmps39
  go_wp2_with fail
  obtain ⟨W1, hW, hm⟩ := HM.out.name
  rw [← hW]
  replace HM := Lib.hid hm
  clear hm hW
  refine (regs_any _ _ _ _ _ _ _ _ _).mono ?_
  rintro e' W2 ⟨g, rfl, hm9⟩
  have hm := Ms.joinH HM.out hm9
  clear hm9
  replace HM := Lib.hid hm
  clear hm
  go_wp2_with fail
  refine (docsOk_any _ x.docs g _ (HM.out.arg R1.out) hs.docs (HM.out.glt (i := 0) rfl).2 ((HM.out.cell (i := 0) (j := 0) rfl rfl))).mono ?_
  rintro e' W3 ⟨rfl, b'⟩
  replace HM := Lib.hid (HM.out.past b')
  clear b'
  cases h1 : (decide (x.docs.length ≤ 5) && docsB none x.docs)
  · have HE := Lib.hid (show hubB x = false by rw [HD.out, h1]; rfl)
    go_wp2
    go_ret
    exact ⟨ret_b HE.out.symm, HM.out.bl⟩
  go_wp2_with fail
  refine (subsOk_any _ x.subs x.last g _ (HM.out.arg R2.out) hs.subs (HM.out.glt (i := 0) rfl).2 ((HM.out.cell (i := 0) (j := 1) rfl rfl)) ((HM.out.cell (i := 0) (j := 2) rfl rfl))).mono ?_
  rintro e' W4 ⟨rfl, b'⟩
  replace HM := Lib.hid (HM.out.past b')
  clear b'
  cases h2 : (decide (x.subs.length ≤ 6) && (inB x.last 0 1000000000 && subsI x.last 0 x.subs))
  · have HE := Lib.hid (show hubB x = false by rw [HD.out, h1, h2]; rfl)
    go_wp2
    go_ret
    exact ⟨ret_b HE.out.symm, HM.out.bl⟩
  have hq1 : docsB none x.docs = true := by rw [Bool.and_eq_true] at h1; exact h1.2
  have hq2 : subsI x.last 0 x.subs = true := by rw [Bool.and_eq_true, Bool.and_eq_true] at h2; exact h2.2.2
  have HQ1 := Lib.hid hq1
  have HQ2 := Lib.hid hq2
  have HE := Lib.hid (show hubB x = x.subs.all (fitB x.docs) by rw [HD.out, h1, h2]; rfl)
  clear hq1 hq2 h1 h2
  go_wp2_with fail
  refine (consistent_any _ _ x.docs x.subs x.last g _ (HM.out.arg R1.out) (HM.out.arg R2.out) hs.docs hs.subs (HM.out.glt (i := 0) rfl).2 ((HM.out.cell (i := 0) (j := 0) rfl rfl)) ((HM.out.cell (i := 0) (j := 1) rfl rfl)) HQ1.out HQ2.out).mono ?_
  rintro e' W5 ⟨rfl, b'⟩
  replace HM := Lib.hid (HM.out.past b')
  clear b'
  go_wp2
  go_ret
  exact ⟨ret_b HE.out.symm, HM.out.bl⟩
end Go.Proofs.YtamainhocghlgaaGreatDoor.low


/-
  Contract of impl.copyDoc. Written by mkcopy.py.
-/
namespace Go.Proofs.YtamainhocghlgaaGreatDoor.low
open Go.RowKit
set_option linter.unusedVariables false

set_option maxRecDepth 100000 in
set_option maxHeartbeats 3200000 in
theorem implCopyDoc_d (v : Value) (x : Do) (w : World) (h : RdC w w.heap.size (datDo x) v) (hs : SmD4 x) : Calls Tryz.prog 42 #[v] w (OwnPost (datDo x) w) := by
  obtain ⟨A2, c2, A3, c3, A4, c4, rfl, r2, r3, r4⟩ := aggDo h
  have R2 := Lib.hid r2
  have R3 := Lib.hid r3
  have R4 := Lib.hid r4
  clear h r2 r3 r4
  have HM := Lib.hid (Ms.start w)
  replace HM := Lib.hid (HM.out.new #[.string x.name, .int .i64 x.from_, .slice A2 x.text.length c2, .slice A3 x.list.length c3, .slice A4 x.seen.length c4] 75)
  have hm := HM.out.new #[.string ⟨#[]⟩, .int .i64 0, .slice none 0 0, .slice none 0 0, .slice none 0 0] 75
  simp only [World.size_alloc] at hm
  replace HM := Lib.hid hm
  clear hm
  go_enter Tryz.func42, Tryz.ntmps42
  go_wp2_with fail
  obtain ⟨W1, hW, hm⟩ := HM.out.name
  rw [← hW]
  replace HM := Lib.hid hm
  clear hm hW
  refine (strClone_any x.name _ hs.nameL).mono ?_
  rintro e' W2 ⟨rfl, b'⟩
  replace HM := Lib.hid (HM.out.past b')
  clear b'
  obtain ⟨kx0, kx1, kx2, kx3, kx4⟩ := HM.out.c5 1 rfl
  obtain ⟨fx0, fx1, fx2, fx3, fx4⟩ := HM.out.f5 1 rfl
  go_wp2_with fail
  clear kx0 kx1 kx2 kx3 kx4 fx0 fx1 fx2 fx3 fx4
  have hm := HM.out.pk [1, 0] (by decide) (by simp)
  simp only [low.pk, List.getElem?_cons_zero, List.getElem?_cons_succ] at hm
  replace HM := Lib.hid hm
  clear hm
  have hm := HM.out.set (j := 0) (.string x.name)
  simp only [pa, pb] at hm
  replace HM := Lib.hid hm
  clear hm
  obtain ⟨W3, hW, hm⟩ := HM.out.name
  rw [← hW]
  replace HM := Lib.hid hm
  clear hm hW
  refine (cloneI_d _ x.text _ (HM.out.arg R2.out) hs.text).mono ?_
  rintro e' W4 ⟨v', rfl, o', b'⟩
  obtain ⟨At, ct, rfl⟩ := sliceI o'.read
  obtain ⟨bt, hm⟩ := HM.out.got o' b'
  clear o' b'
  replace HM := Lib.hid hm
  clear hm
  obtain ⟨kx0, kx1, kx2, kx3, kx4⟩ := HM.out.c5 1 rfl
  obtain ⟨fx0, fx1, fx2, fx3, fx4⟩ := HM.out.f5 1 rfl
  go_wp2_with fail
  clear kx0 kx1 kx2 kx3 kx4 fx0 fx1 fx2 fx3 fx4
  have hm := HM.out.pk [1, 0, 2] (by decide) (by simp)
  simp only [low.pk, List.getElem?_cons_zero, List.getElem?_cons_succ] at hm
  replace HM := Lib.hid hm
  clear hm
  have hm := HM.out.set (j := 2) (.slice At x.text.length ct)
  simp only [pa, pb, pc] at hm
  replace HM := Lib.hid hm
  clear hm
  obtain ⟨W5, hW, hm⟩ := HM.out.name
  rw [← hW]
  replace HM := Lib.hid hm
  clear hm hW
  refine (implCopyEntries_d _ x.list _ (HM.out.arg R3.out) hs.list).mono ?_
  rintro e' W6 ⟨v', rfl, o', b'⟩
  obtain ⟨Al, cl, rfl⟩ := sliceEns o'.read
  obtain ⟨bl, hm⟩ := HM.out.got o' b'
  clear o' b'
  replace HM := Lib.hid hm
  clear hm
  obtain ⟨kx0, kx1, kx2, kx3, kx4⟩ := HM.out.c5 1 rfl
  obtain ⟨fx0, fx1, fx2, fx3, fx4⟩ := HM.out.f5 1 rfl
  go_wp2_with fail
  clear kx0 kx1 kx2 kx3 kx4 fx0 fx1 fx2 fx3 fx4
  have hm := HM.out.pk [1, 0, 2, 3] (by decide) (by simp)
  simp only [low.pk, List.getElem?_cons_zero, List.getElem?_cons_succ] at hm
  replace HM := Lib.hid hm
  clear hm
  have hm := HM.out.set (j := 3) (.slice Al x.list.length cl)
  simp only [pa, pb, pc] at hm
  replace HM := Lib.hid hm
  clear hm
  obtain ⟨W7, hW, hm⟩ := HM.out.name
  rw [← hW]
  replace HM := Lib.hid hm
  clear hm hW
  refine (cloneSe_d _ x.seen _ (HM.out.arg R4.out) hs.seen.len).mono ?_
  rintro e' W8 ⟨v', rfl, o', b'⟩
  obtain ⟨As, cs, rfl⟩ := sliceSes o'.read
  obtain ⟨bs, hm⟩ := HM.out.got o' b'
  clear o' b'
  replace HM := Lib.hid hm
  clear hm
  obtain ⟨nrx, nxr⟩ := HM.out.ne (i := 1) (j := 4) rfl rfl (by omega)
  obtain ⟨kx0, kx1, kx2, kx3, kx4⟩ := HM.out.c5 1 rfl
  obtain ⟨fx0, fx1, fx2, fx3, fx4⟩ := HM.out.f5 1 rfl
  obtain ⟨kr0, kr1, kr2, kr3, kr4⟩ := HM.out.c5 4 rfl
  obtain ⟨fr0, fr1, fr2, fr3, fr4⟩ := HM.out.f5 4 rfl
  go_wp2
  clear kx0 kx1 kx2 kx3 kx4 fx0 fx1 fx2 fx3 fx4 kr0 kr1 kr2 kr3 kr4 fr0 fr1 fr2 fr3 fr4
  have hm := HM.out.pk [1, 0, 2, 3, 4] (by decide) (by simp)
  simp only [low.pk, List.getElem?_cons_zero, List.getElem?_cons_succ] at hm
  replace HM := Lib.hid hm
  clear hm
  have hm := HM.out.set (j := 4) (.slice As x.seen.length cs)
  simp only [pa, pb, pc] at hm
  replace HM := Lib.hid hm
  clear hm
  have hm := HM.out.pk [4, 0, 1, 2, 3] (by decide) (by simp)
  simp only [low.pk, List.getElem?_cons_zero, List.getElem?_cons_succ] at hm
  replace HM := Lib.hid hm
  clear hm
  have hm := HM.out.putRow (ys := [.string x.name, .int .i64 x.from_, .slice At x.text.length ct, .slice Al x.list.length cl, .slice As x.seen.length cs]) rfl
  simp only [low.putRow, Nat.zero_add, Nat.reduceAdd] at hm
  replace HM := Lib.hid hm
  clear hm
  obtain ⟨W9, hW, hm⟩ := HM.out.name
  rw [← hW]
  replace HM := Lib.hid hm
  clear hm hW
  obtain ⟨kr0, kr1, kr2, kr3, kr4⟩ := HM.out.c5 0 rfl
  have hm := HM.out.pk [2, 3, 4, 0, 1] (by decide) (by simp)
  simp only [low.pk, List.getElem?_cons_zero, List.getElem?_cons_succ] at hm
  replace HM := Lib.hid hm
  clear hm
  exact bodyPost_ret (v := .agg #[.string x.name, .int .i64 x.from_, .slice At x.text.length ct, .slice Al x.list.length cl, .slice As x.seen.length cs]) (by simp [results, Tryz.results42, go_sem, kr0, kr1, kr2, kr3, kr4]) rfl (show Ms w (.dt (datDo x) (.agg #[.string x.name, .int .i64 x.from_, .slice At x.text.length ct, .slice Al x.list.length cl, .slice As x.seen.length cs]) _ :: _) _ from (HM.out.pk0.pkO.pkO.pkO.pkF rfl).pkF rfl).post
end Go.Proofs.YtamainhocghlgaaGreatDoor.low


/-
  Contracts of the program: documents and subscribers cloned, copySub, copyHub. Written by mkhub6.py.
-/
namespace Go.Proofs.YtamainhocghlgaaGreatDoor.low
open Go.RowKit
set_option linter.unusedVariables false

/-- the cells that a clone holds and that are not yet taken over, from the k-th on; nothing is said of an empty one -/
def RawQ (n : Nat) (G : Option Addr) (W : World) (g k : Nat) (ys : List Value) : Prop := 0 < n → G = some ⟨g, 0, none⟩ ∧ Raw W g k ys
theorem RawQ.past {n : Nat} {G : Option Addr} {W W' : World} {g k : Nat} {ys : List Value} (h : RawQ n G W g k ys) (hb : Below W.heap.size W W') : RawQ n G W' g k ys := fun h0 => ⟨(h h0).1, (h h0).2.past hb⟩
theorem RawQ.other {w0 W : World} {L : List It} {n m cap : Nat} {G : Option Addr} {g k : Nat} {ys : List Value} {e : TypeId} {sz i q o : Nat} {ds : List (List Dat)} {b : List Nat} {ob : Obj} (h : RawQ n G W g k ys) (hm : Ms w0 (.dt (.rows e sz ds) (.slice G m cap) b :: L) W) (hi : L[i]? = some (.bx q ob)) (u : Value) : RawQ n G (W.setCell ⟨q, o, none⟩ u) g k ys := fun h0 => by
  obtain ⟨rfl, hr⟩ := h h0
  refine ⟨rfl, hr.other (fun e => ?_) u⟩
  subst e
  have hh : g ∈ b := (show OwC W (.rows _ sz ds) (.slice (some ⟨g, 0, none⟩) m cap) b from hm.at_ (i := 0) rfl).head
  have hnd := hm.nd
  rw [List.flatMap_cons, List.nodup_append] at hnd
  exact hnd.2.2 g hh g (List.mem_flatMap.2 ⟨_, List.mem_of_getElem? hi, by simp [It.bs]⟩) rfl
theorem Raw.drew9 {W : World} {g k : Nat} {ys : List Value} (h : Raw W g k ys) : Raw W.drew g k ys := h
set_option maxRecDepth 100000 in
set_option maxHeartbeats 3200000 in
theorem cloneDos_m (v : Value) (u : World) (L : List It) (l : List Do) (w : World) (HM0 : Ms u L w) (h : RdC u u.heap.size (encDos l) v) (hs : l.length ≤ 1048576) : Calls Tryz.prog 41 #[v] w fun E W' => ∃ G cap b ys g, E = .returned (.slice G l.length cap) ∧ l.length ≤ cap ∧ Ms u (.dt (.rows 75 5 []) (.slice G 0 cap) b :: L) W' ∧ RawQ l.length G W' g 0 ys ∧ (0 < l.length → CellsN 5 u (l.map encDo) ys) := by
  obtain ⟨A, c, rfl⟩ := sliceDos h
  have hq : ∀ (w : World) (A : Option Addr) (n c n' c' : Nat), (binOp .eql 27 (.slice A n c) (.slice none n' c')).run Tryz.prog w = .ok (.bool A.isNone) w := fun w A n c n' c' => Lib.run_eql_slice_nil w _ _ A n c n' c' Tryz.underlying27
  cases A with
  | none =>
    obtain rfl : l = [] := by
      obtain ⟨A9, c9, hv, _, h9⟩ := h
      injection hv with e1 e2 e3
      by_cases h0 : 0 < l.length
      · obtain ⟨ad, e4, _⟩ := h9 (by simpa using h0)
        rw [← e1] at e4
        cases e4
      · exact List.eq_nil_of_length_eq_zero (by omega)
    clear h
    have HM := Lib.hid HM0
    clear HM0
    go_enter Tryz.func41, Tryz.ntmps41
    go_wp2
    go_ret
    exact ⟨none, 0, [], [], 0, rfl, Nat.le_refl _, HM.out.nil 75 5, fun h0 => absurd h0 (by simp), fun h0 => absurd h0 (by simp)⟩
  | some ad =>
    have HR := Lib.hid h
    clear h
    have e0 : (l.map encDo).length = l.length := List.length_map _
    have E0 := Lib.hid e0
    clear e0
    have HM := Lib.hid (HM0.empty 75 5)
    clear HM0
    go_enter Tryz.func41, Tryz.ntmps41
    go_wp2_with (at_builtin; refine wpList_rawN (rs := l.map encDo) rfl (.tmp 5) (.tmp 6) 27 rfl eltDo HM.out rfl (some ad) l.length c rfl HR.out (fun r hr => by obtain ⟨q, _, rfl⟩ := List.mem_map.1 hr; exact ⟨rfl, fun d hd => by simp only [encDo, List.mem_cons, List.not_mem_nil, or_false] at hd; rcases hd with rfl | rfl | rfl | rfl | rfl <;> rfl⟩) (by rw [E0.out]; omega) ?_; intro g cap w1 b1 ys hcap hm hraw hcells)
    have HM1 := Lib.hid hm
    have HX := Lib.hid (And.intro hraw (And.intro hcells hcap))
    clear hm HM hraw hcells hcap
    go_wp2
    go_ret
    exact ⟨some ⟨g, 0, none⟩, cap, b1, ys, g, rfl, HX.out.2.2, HM1.out, fun _ => ⟨rfl, HX.out.1⟩, fun _ => HX.out.2.1⟩
set_option maxRecDepth 100000 in
set_option maxHeartbeats 3200000 in
theorem cloneSus_m (v : Value) (u : World) (L : List It) (l : List Su) (w : World) (HM0 : Ms u L w) (h : RdC u u.heap.size (encSus l) v) (hs : l.length ≤ 1048576) : Calls Tryz.prog 43 #[v] w fun E W' => ∃ G cap b ys g, E = .returned (.slice G l.length cap) ∧ l.length ≤ cap ∧ Ms u (.dt (.rows 80 6 []) (.slice G 0 cap) b :: L) W' ∧ RawQ l.length G W' g 0 ys ∧ (0 < l.length → CellsN 6 u (l.map encSu) ys) := by
  obtain ⟨A, c, rfl⟩ := sliceSus h
  have hq : ∀ (w : World) (A : Option Addr) (n c n' c' : Nat), (binOp .eql 28 (.slice A n c) (.slice none n' c')).run Tryz.prog w = .ok (.bool A.isNone) w := fun w A n c n' c' => Lib.run_eql_slice_nil w _ _ A n c n' c' Tryz.underlying28
  cases A with
  | none =>
    obtain rfl : l = [] := by
      obtain ⟨A9, c9, hv, _, h9⟩ := h
      injection hv with e1 e2 e3
      by_cases h0 : 0 < l.length
      · obtain ⟨ad, e4, _⟩ := h9 (by simpa using h0)
        rw [← e1] at e4
        cases e4
      · exact List.eq_nil_of_length_eq_zero (by omega)
    clear h
    have HM := Lib.hid HM0
    clear HM0
    go_enter Tryz.func43, Tryz.ntmps43
    go_wp2
    go_ret
    exact ⟨none, 0, [], [], 0, rfl, Nat.le_refl _, HM.out.nil 80 6, fun h0 => absurd h0 (by simp), fun h0 => absurd h0 (by simp)⟩
  | some ad =>
    have HR := Lib.hid h
    clear h
    have e0 : (l.map encSu).length = l.length := List.length_map _
    have E0 := Lib.hid e0
    clear e0
    have HM := Lib.hid (HM0.empty 80 6)
    clear HM0
    go_enter Tryz.func43, Tryz.ntmps43
    go_wp2_with (at_builtin; refine wpList_rawN (rs := l.map encSu) rfl (.tmp 5) (.tmp 6) 28 rfl eltSu HM.out rfl (some ad) l.length c rfl HR.out (fun r hr => by obtain ⟨q, _, rfl⟩ := List.mem_map.1 hr; exact ⟨rfl, fun d hd => by simp only [encSu, List.mem_cons, List.not_mem_nil, or_false] at hd; rcases hd with rfl | rfl | rfl | rfl | rfl | rfl <;> rfl⟩) (by rw [E0.out]; omega) ?_; intro g cap w1 b1 ys hcap hm hraw hcells)
    have HM1 := Lib.hid hm
    have HX := Lib.hid (And.intro hraw (And.intro hcells hcap))
    clear hm HM hraw hcells hcap
    go_wp2
    go_ret
    exact ⟨some ⟨g, 0, none⟩, cap, b1, ys, g, rfl, HX.out.2.2, HM1.out, fun _ => ⟨rfl, HX.out.1⟩, fun _ => HX.out.2.1⟩
set_option maxRecDepth 100000 in
set_option maxHeartbeats 3200000 in
theorem implCopySub_d (v : Value) (x : Su) (w : World) (h : RdC w w.heap.size (datSu x) v) (hs : SmSu x) : Calls Tryz.prog 44 #[v] w (OwnPost (datSu x) w) := by
  obtain ⟨C5, c5, rfl, q5⟩ := aggSu h
  have Q5 := Lib.hid q5
  clear h q5
  have HM := Lib.hid (Ms.start w)
  replace HM := Lib.hid (HM.out.new #[.int .i64 x.id, .string x.doc, .int .i64 x.cap, .int .i64 x.next, .bool x.out, .slice C5 x.list.length c5] 80)
  have hm := HM.out.new #[.int .i64 0, .string ⟨#[]⟩, .int .i64 0, .int .i64 0, .bool false, .slice none 0 0] 80
  simp only [World.size_alloc] at hm
  replace HM := Lib.hid hm
  clear hm
  go_enter Tryz.func44, Tryz.ntmps44
  go_wp2
  obtain ⟨W1, hW, hm⟩ := HM.out.name
  rw [← hW]
  replace HM := Lib.hid hm
  clear hm hW
  replace HM := Lib.hid (HM.out.drew)
  refine wp_region_held_drew (S := fun W => Ms w [.bx w.heap.size (.cells #[.int .i64 x.id, .string x.doc, .int .i64 x.cap, .int .i64 x.next, .bool x.out, .slice C5 x.list.length c5] 80 (0, 0))] W) (by kernel_rfl) (HM.out.pick (ks := [1]) (by decide) rfl) (fun hS => ?_)
  generalize W1.drew = W2 at HM hS  ⊢
  refine tk (v := ?_) 0 3 rfl (fun w' hS' => ?_) hS ?_
  rotate_left
  · go_simp; all_goals (with_reducible rfl)
  try simp only [Act.put, pa, pb, pc]
  refine tk (v := ?_) 1 4 rfl (fun w' hS' => ?_) hS ?_
  rotate_left
  · (try dsimp only at hS'); have q0 := hS'.cell (i := 0) (j := 0) rfl rfl; have q1 := hS'.cell (i := 0) (j := 1) rfl rfl; have q2 := hS'.cell (i := 0) (j := 2) rfl rfl; have q3 := hS'.cell (i := 0) (j := 3) rfl rfl; have q4 := hS'.cell (i := 0) (j := 4) rfl rfl; have q5 := hS'.cell (i := 0) (j := 5) rfl rfl; go_simp; all_goals (with_reducible rfl)
  try simp only [Act.put, pa, pb, pc]
  refine tk (v := ?_) 2 5 rfl (fun w' hS' => ?_) hS ?_
  rotate_left
  · go_simp; all_goals (with_reducible rfl)
  try simp only [Act.put, pa, pb, pc]
  refine tk (v := ?_) 3 6 rfl (fun w' hS' => ?_) hS ?_
  rotate_left
  · (try dsimp only at hS'); have q0 := hS'.cell (i := 0) (j := 0) rfl rfl; have q1 := hS'.cell (i := 0) (j := 1) rfl rfl; have q2 := hS'.cell (i := 0) (j := 2) rfl rfl; have q3 := hS'.cell (i := 0) (j := 3) rfl rfl; have q4 := hS'.cell (i := 0) (j := 4) rfl rfl; have q5 := hS'.cell (i := 0) (j := 5) rfl rfl; go_simp; all_goals (with_reducible rfl)
  try simp only [Act.put, pa, pb, pc]
  refine tk (v := ?_) 5 8 rfl (fun w' hS' => ?_) hS ?_
  rotate_left
  · go_simp; all_goals (with_reducible rfl)
  try simp only [Act.put, pa, pb, pc]
  refine tk (v := ?_) 6 9 rfl (fun w' hS' => ?_) hS ?_
  rotate_left
  · (try dsimp only at hS'); have q0 := hS'.cell (i := 0) (j := 0) rfl rfl; have q1 := hS'.cell (i := 0) (j := 1) rfl rfl; have q2 := hS'.cell (i := 0) (j := 2) rfl rfl; have q3 := hS'.cell (i := 0) (j := 3) rfl rfl; have q4 := hS'.cell (i := 0) (j := 4) rfl rfl; have q5 := hS'.cell (i := 0) (j := 5) rfl rfl; go_simp; all_goals (with_reducible rfl)
  try simp only [Act.put, pa, pb, pc]
  refine r1 4 (some 7) rfl (fun K hK => ?_)
  go_simp
  refine (strClone_any x.doc _ (by have := hs; unfold SmSu totSu at this; omega)).mono ?_
  rintro e' W3 ⟨rfl, b'⟩
  replace HM := Lib.hid (HM.out.past b')
  clear b'
  clear hS
  refine hK.out _ _ (HM.out.pick (ks := [1]) (by decide) rfl) (fun hS => ?_)
  clear hK K
  try simp only [Act.put, pa, pb, pc]
  refine r1 7 (some 10) rfl (fun K hK => ?_)
  go_simp
  refine (implCopyRing_d _ (ringSu x) _ (rdRi (ringSu x) (HM.out.arg Q5.out)) (show SmRi (ringSu x) from hs.list)).mono ?_
  rintro e' W4 ⟨v', rfl, o', b'⟩
  obtain ⟨Al, cl, rfl⟩ := aggRSu o'.read
  obtain ⟨bl, hm⟩ := HM.out.got o' b'
  clear o' b'
  replace HM := Lib.hid hm
  clear hm
  clear hS
  refine hK.out _ _ (HM.out.pick (ks := [2]) (by decide) rfl) (fun hS => ?_)
  clear hK K
  try simp only [Act.put, pa, pb, pc]
  refine tk (v := ?_) 8 11 rfl (fun w' hS' => ?_) hS ?_
  rotate_left
  · go_simp; all_goals (with_reducible rfl)
  try simp only [Act.put, pa, pb, pc]
  refine r1 9 none rfl (fun K hK => ?_)
  have kr0 := HM.out.cell (i := 1) (j := 0) rfl rfl
  have kr1 := HM.out.cell (i := 1) (j := 1) rfl rfl
  have kr2 := HM.out.cell (i := 1) (j := 2) rfl rfl
  have kr3 := HM.out.cell (i := 1) (j := 3) rfl rfl
  have kr4 := HM.out.cell (i := 1) (j := 4) rfl rfl
  have kr5 := HM.out.cell (i := 1) (j := 5) rfl rfl
  have fr0 := HM.out.free (i := 1) (j := 0) rfl
  have fr1 := HM.out.free (i := 1) (j := 1) rfl
  have fr2 := HM.out.free (i := 1) (j := 2) rfl
  have fr3 := HM.out.free (i := 1) (j := 3) rfl
  have fr4 := HM.out.free (i := 1) (j := 4) rfl
  have fr5 := HM.out.free (i := 1) (j := 5) rfl
  go_simp
  clear hS kr0 kr1 kr2 kr3 kr4 kr5 fr0 fr1 fr2 fr3 fr4 fr5
  have hm := HM.out.pk [1, 0, 2] (by decide) (by simp)
  simp only [low.pk, List.getElem?_cons_zero, List.getElem?_cons_succ] at hm
  replace HM := Lib.hid hm
  clear hm
  have hm := HM.out.putRow (ys := [.int .i64 x.id, .string x.doc, .int .i64 x.cap, .int .i64 x.next, .bool x.out, .slice Al x.list.length cl]) rfl
  simp only [low.putRow, Nat.zero_add, Nat.reduceAdd] at hm
  replace HM := Lib.hid hm
  clear hm
  obtain ⟨W5, hW, hm⟩ := HM.out.name
  rw [← hW]
  replace HM := Lib.hid hm
  clear hm hW
  refine hK.out _ _ (HM.out.pick (ks := [2]) (by decide) rfl) (fun hS => ?_)
  clear hK K
  try simp only [Act.put]
  refine wpAnyH_done (by kernel_rfl) ?_ _
  clear hS
  go_wp2
  have kr0 := HM.out.cell (i := 0) (j := 0) rfl rfl
  have kr1 := HM.out.cell (i := 0) (j := 1) rfl rfl
  have kr2 := HM.out.cell (i := 0) (j := 2) rfl rfl
  have kr3 := HM.out.cell (i := 0) (j := 3) rfl rfl
  have kr4 := HM.out.cell (i := 0) (j := 4) rfl rfl
  have kr5 := HM.out.cell (i := 0) (j := 5) rfl rfl
  have hm := HM.out.pk [1, 0, 2] (by decide) (by simp)
  simp only [low.pk, List.getElem?_cons_zero, List.getElem?_cons_succ] at hm
  replace HM := Lib.hid hm
  clear hm
  obtain ⟨b9, hm⟩ := Ms.pkSu HM.out
  exact bodyPost_ret (v := .agg #[.int .i64 x.id, .string x.doc, .int .i64 x.cap, .int .i64 x.next, .bool x.out, .slice Al x.list.length cl]) (by simp [results, Tryz.results44, go_sem, kr0, kr1, kr2, kr3, kr4, kr5]) rfl hm.post
set_option maxRecDepth 100000 in
set_option maxHeartbeats 3200000 in
theorem implCopyHub_d (v : Value) (x : Hu) (w : World) (h : RdC w w.heap.size (datHu x) v) (hs : SmHu x) : Calls Tryz.prog 20 #[v] w (OwnPost (datHu x) w) := by
  have HR := Lib.hid h
  obtain ⟨A1, ca, A2, cb, rfl, r1, r2⟩ := aggHu h
  have R1 := Lib.hid r1
  have R2 := Lib.hid r2
  have hl1 := hs.docs.len
  have hl2 := hs.subs.len
  clear h r1 r2
  have HM := Lib.hid (Ms.start w)
  replace HM := Lib.hid (HM.out.new #[.bool x.shut, .slice A1 x.docs.length ca, .slice A2 x.subs.length cb, .int .i64 x.last] 30)
  have hm := HM.out.new #[.bool false, .slice none 0 0, .slice none 0 0, .int .i64 0] 30
  simp only [World.size_alloc] at hm
  replace HM := Lib.hid hm
  clear hm
  go_enter Tryz.func20, Tryz.ntmps20
  go_wp2_with fail
  obtain ⟨W1, hW, hm⟩ := HM.out.name
  rw [← hW]
  replace HM := Lib.hid hm
  clear hm hW
  refine (cloneDos_m _ w _ x.docs _ HM.out R1.out hs.docs.len).mono ?_
  rintro e' W2 ⟨G1, g1, bd, ya, qa, rfl, hcap, hm, hraw, hcel⟩
  have HW := Lib.hid hraw
  have HC := Lib.hid hcel
  have HCAPd := Lib.hid hcap
  clear hraw hcel hcap
  replace HM := Lib.hid hm
  clear hm
  have kx0 := HM.out.cell (i := 2) (j := 0) rfl rfl
  have kx1 := HM.out.cell (i := 2) (j := 1) rfl rfl
  have kx2 := HM.out.cell (i := 2) (j := 2) rfl rfl
  have kx3 := HM.out.cell (i := 2) (j := 3) rfl rfl
  have fx0 := HM.out.free (i := 2) (j := 0) rfl
  have fx1 := HM.out.free (i := 2) (j := 1) rfl
  have fx2 := HM.out.free (i := 2) (j := 2) rfl
  have fx3 := HM.out.free (i := 2) (j := 3) rfl
  have HW := Lib.hid (HW.out.other (o := 1) HM.out (i := 1) rfl (.slice G1 x.docs.length g1))
  have hm := HM.out.pk [2, 0, 1] (by decide) (by simp)
  simp only [low.pk, List.getElem?_cons_zero, List.getElem?_cons_succ] at hm
  replace HM := Lib.hid hm
  clear hm
  have hm := HM.out.set (j := 1) (.slice G1 x.docs.length g1)
  simp only [pa, pb, pc] at hm
  replace HM := Lib.hid hm
  clear hm
  have hm := HM.out.pk [1, 0, 2] (by decide) (by simp)
  simp only [low.pk, List.getElem?_cons_zero, List.getElem?_cons_succ] at hm
  replace HM := Lib.hid hm
  clear hm
  have mx0 := HM.out.cell (i := 1) (j := 0) rfl rfl
  have mx1 := HM.out.cell (i := 1) (j := 1) rfl rfl
  have mx2 := HM.out.cell (i := 1) (j := 2) rfl rfl
  have mx3 := HM.out.cell (i := 1) (j := 3) rfl rfl
  go_wp2_with fail
  clear kx0 kx1 kx2 kx3 fx0 fx1 fx2 fx3 mx0 mx1 mx2 mx3
  have hm := HM.out
  generalize (W2.setCell ⟨w.heap.size, 1, none⟩ (.slice G1 x.docs.length g1)) = W9 at hm HW ⊢
  replace HM := Lib.hid hm
  clear hm
  go_loopw [14] (fun i wr => ∃ (j : Nat) (bd : List Nat), j ≤ x.docs.length ∧ i = .int .i64 (j : Int) ∧ Ms w [.dt (.rows 75 5 ((x.docs.take j).map encDo)) (.slice G1 j g1) bd, .bx w.heap.size (.cells #[.bool x.shut, .slice G1 x.docs.length g1, .slice A2 x.subs.length cb, .int .i64 x.last] 30 (0, 0)), .bx (w.heap.size + 1) (.cells #[.bool false, .slice none 0 0, .slice none 0 0, .int .i64 0] 30 (0, 0))] wr ∧ RawQ x.docs.length G1 wr qa (j * 5) ya) (fun i _ => x.docs.length - (intOf i).toNat)
  case atStart => exact ⟨0, bd, Nat.zero_le _, rfl, HM.out, by simpa using HW.out⟩
  case round =>
    obtain ⟨j, bd, hj, rfl, hm, hw⟩ := hrel
    clear HM HW
    have HM := Lib.hid hm
    have HQ := Lib.hid hw
    clear hm hw
    by_cases hlt : j < x.docs.length
    · obtain ⟨rfl, hw⟩ := HQ.out (by omega)
      have HW := Lib.hid hw
      clear hw HQ
      obtain ⟨e, hp⟩ : ∃ e, x.docs[j]? = some e := ⟨_, List.getElem?_eq_getElem hlt⟩
      obtain ⟨y, hy, hyl, hyk⟩ := HC.out (by omega) j (encDo e) (by rw [List.getElem?_map, hp]; rfl)
      obtain ⟨_, _, rfl, rfl, _, _, rfl, rfl, v2, _, rfl, hr2, v3, _, rfl, hr3, v4, _, rfl, hr4, rfl⟩ := hy
      obtain ⟨C2, c2, rfl⟩ := sliceI hr2
      have Q2 := Lib.hid hr2
      clear hr2
      obtain ⟨C3, c3, rfl⟩ := sliceEns hr3
      have Q3 := Lib.hid hr3
      clear hr3
      obtain ⟨C4, c4, rfl⟩ := sliceSes hr4
      have Q4 := Lib.hid hr4
      clear hr4
      have x0 : wr.cell? ⟨qa, j * 5, none⟩ = some (.string e.name) := HW.out.cell (by omega) (hyk 0 _ rfl)
      have X0 := Lib.hid (show ya[j * 5]? = some (.string e.name) from hyk 0 _ rfl)
      have x1 : wr.cell? ⟨qa, j * 5 + 1, none⟩ = some (.int .i64 e.from_) := HW.out.cell (by omega) (hyk 1 _ rfl)
      have X1 := Lib.hid (show ya[j * 5 + 1]? = some (.int .i64 e.from_) from hyk 1 _ rfl)
      have x2 : wr.cell? ⟨qa, j * 5 + 2, none⟩ = some (.slice C2 e.text.length c2) := HW.out.cell (by omega) (hyk 2 _ rfl)
      have X2 := Lib.hid (show ya[j * 5 + 2]? = some (.slice C2 e.text.length c2) from hyk 2 _ rfl)
      have x3 : wr.cell? ⟨qa, j * 5 + 3, none⟩ = some (.slice C3 e.list.length c3) := HW.out.cell (by omega) (hyk 3 _ rfl)
      have X3 := Lib.hid (show ya[j * 5 + 3]? = some (.slice C3 e.list.length c3) from hyk 3 _ rfl)
      have x4 : wr.cell? ⟨qa, j * 5 + 4, none⟩ = some (.slice C4 e.seen.length c4) := HW.out.cell (by omega) (hyk 4 _ rfl)
      have X4 := Lib.hid (show ya[j * 5 + 4]? = some (.slice C4 e.seen.length c4) from hyk 4 _ rfl)
      have HT := Lib.hid (show (x.docs.take (j + 1)).map encDo = (x.docs.take j).map encDo ++ [encDo e] by rw [List.take_add_one, hp]; simp)
      have hse := hs.docs.at_ (List.mem_of_getElem? hp)
      have hlj : j < g1 := by have := HCAPd.out; omega
      have HLN := Lib.hid (show j = ((x.docs.take j).map encDo).length by simp; omega)
      clear hyk hyl hp
      have HW := Lib.hid (HW.out.past (alloc_below wr (.cells #[.string e.name, .int .i64 e.from_, .slice C2 e.text.length c2, .slice C3 e.list.length c3, .slice C4 e.seen.length c4] 75)))
      replace HM := Lib.hid (HM.out.new #[.string e.name, .int .i64 e.from_, .slice C2 e.text.length c2, .slice C3 e.list.length c3, .slice C4 e.seen.length c4] 75)
      go_wp2
      clear x0 x1 x2 x3 x4
      have hm := HM.out
      generalize (wr.alloc (.cells #[.string e.name, .int .i64 e.from_, .slice C2 e.text.length c2, .slice C3 e.list.length c3, .slice C4 e.seen.length c4] 75)) = W8 at hm HW ⊢
      replace HM := Lib.hid hm
      clear hm
      replace HM := Lib.hid (HM.out.drew)
      have HW := Lib.hid HW.out.drew9
      refine wp_region_held_drew (S := fun W => Ms w [.bx wr.heap.size (.cells #[.string e.name, .int .i64 e.from_, .slice C2 e.text.length c2, .slice C3 e.list.length c3, .slice C4 e.seen.length c4] 75 (0, 0)), .bx w.heap.size (.cells #[.bool x.shut, .slice (some ⟨qa, 0, none⟩) x.docs.length g1, .slice A2 x.subs.length cb, .int .i64 x.last] 30 (0, 0))] W) (by kernel_rfl) (HM.out.pick (ks := [0, 2]) (by decide) rfl) (fun hS => ?_)
      generalize W8.drew = W3 at HM hS HW ⊢
      refine tk (v := ?_) 0 19 rfl (fun w' hS' => ?_) hS ?_
      rotate_left
      · go_simp; all_goals (with_reducible rfl)
      try simp only [Act.put, pa, pb, pc]
      refine tk (v := ?_) 1 20 rfl (fun w' hS' => ?_) hS ?_
      rotate_left
      · (try dsimp only at hS'); have q0 := hS'.cell (i := 0) (j := 0) rfl rfl; have q1 := hS'.cell (i := 0) (j := 1) rfl rfl; have q2 := hS'.cell (i := 0) (j := 2) rfl rfl; have q3 := hS'.cell (i := 0) (j := 3) rfl rfl; have q4 := hS'.cell (i := 0) (j := 4) rfl rfl; have p0 := hS'.cell (i := 1) (j := 0) rfl rfl; have p1 := hS'.cell (i := 1) (j := 1) rfl rfl; have p2 := hS'.cell (i := 1) (j := 2) rfl rfl; have p3 := hS'.cell (i := 1) (j := 3) rfl rfl; go_simp; all_goals (with_reducible rfl)
      try simp only [Act.put, pa, pb, pc]
      refine tk (v := ?_) 2 21 rfl (fun w' hS' => ?_) hS ?_
      rotate_left
      · go_simp; all_goals (with_reducible rfl)
      try simp only [Act.put, pa, pb, pc]
      refine tk (v := ?_) 3 22 rfl (fun w' hS' => ?_) hS ?_
      rotate_left
      · (try dsimp only at hS'); have q0 := hS'.cell (i := 0) (j := 0) rfl rfl; have q1 := hS'.cell (i := 0) (j := 1) rfl rfl; have q2 := hS'.cell (i := 0) (j := 2) rfl rfl; have q3 := hS'.cell (i := 0) (j := 3) rfl rfl; have q4 := hS'.cell (i := 0) (j := 4) rfl rfl; have p0 := hS'.cell (i := 1) (j := 0) rfl rfl; have p1 := hS'.cell (i := 1) (j := 1) rfl rfl; have p2 := hS'.cell (i := 1) (j := 2) rfl rfl; have p3 := hS'.cell (i := 1) (j := 3) rfl rfl; go_simp; all_goals (with_reducible rfl)
      try simp only [Act.put, pa, pb, pc]
      refine r1 4 (some 23) rfl (fun K hK => ?_)
      go_simp
      refine (implCopyDoc_d _ e _ (rdDo e (HM.out.arg Q2.out) (HM.out.arg Q3.out) (HM.out.arg Q4.out)) hse.four).mono ?_
      rintro e' W4 ⟨v', rfl, o', b'⟩
      obtain ⟨N2, n2, N3, n3, N4, n4, rfl, -, -, -⟩ := aggDo o'.read
      have HW := Lib.hid (HW.out.past b')
      obtain ⟨bn, hm⟩ := HM.out.got o' b'
      clear o' b'
      replace HM := Lib.hid hm
      clear hm
      clear hS
      refine hK.out _ _ (HM.out.pick (ks := [1, 3]) (by decide) rfl) (fun hS => ?_)
      clear hK K
      try simp only [Act.put, pa, pb, pc]
      refine tk (v := ?_) 5 24 rfl (fun w' hS' => ?_) hS ?_
      rotate_left
      · go_simp; all_goals (with_reducible rfl)
      try simp only [Act.put, pa, pb, pc]
      refine r1 6 none rfl (fun K hK => ?_)
      have hm := HM.out.pk [2, 0, 1, 3, 4] (by decide) (by simp)
      simp only [low.pk, List.getElem?_cons_zero, List.getElem?_cons_succ] at hm
      replace HM := Lib.hid hm
      clear hm
      have y0 : W4.cell? ⟨qa, j * 5, none⟩ = some (.string e.name) := HW.out.cell (by omega) X0.out
      have z0 : W4.frozen? ⟨qa, j * 5, none⟩ = false := HW.out.free
      have y1 : W4.cell? ⟨qa, j * 5 + 1, none⟩ = some (.int .i64 e.from_) := HW.out.cell (by omega) X1.out
      have z1 : W4.frozen? ⟨qa, j * 5 + 1, none⟩ = false := HW.out.free
      have y2 : W4.cell? ⟨qa, j * 5 + 2, none⟩ = some (.slice C2 e.text.length c2) := HW.out.cell (by omega) X2.out
      have z2 : W4.frozen? ⟨qa, j * 5 + 2, none⟩ = false := HW.out.free
      have y3 : W4.cell? ⟨qa, j * 5 + 3, none⟩ = some (.slice C3 e.list.length c3) := HW.out.cell (by omega) X3.out
      have z3 : W4.frozen? ⟨qa, j * 5 + 3, none⟩ = false := HW.out.free
      have y4 : W4.cell? ⟨qa, j * 5 + 4, none⟩ = some (.slice C4 e.seen.length c4) := HW.out.cell (by omega) X4.out
      have z4 : W4.frozen? ⟨qa, j * 5 + 4, none⟩ = false := HW.out.free
      go_simp
      clear hS y0 z0 y1 z1 y2 z2 y3 z3 y4 z4
      obtain ⟨b8, hm⟩ := Ms.fillN (r := encDo e) (ys := [.string e.name, .int .i64 e.from_, .slice N2 e.text.length n2, .slice N3 e.list.length n3, .slice N4 e.seen.length n4]) HM.out HLN.out hlj rfl
      rw [← HT.out] at hm
      have HW := Lib.hid (show Raw (((((W4.setCell ⟨qa, j * 5, none⟩ (.string e.name)).setCell ⟨qa, j * 5 + 1, none⟩ (.int .i64 e.from_)).setCell ⟨qa, j * 5 + 2, none⟩ (.slice N2 e.text.length n2)).setCell ⟨qa, j * 5 + 3, none⟩ (.slice N3 e.list.length n3)).setCell ⟨qa, j * 5 + 4, none⟩ (.slice N4 e.seen.length n4)) qa ((j + 1) * 5) ya from (((((HW.out.set (k' := (j + 1) * 5) (j * 5) (.string e.name) (by omega) (by omega)).set (k' := (j + 1) * 5) (j * 5 + 1) (.int .i64 e.from_) (by omega) (by omega)).set (k' := (j + 1) * 5) (j * 5 + 2) (.slice N2 e.text.length n2) (by omega) (by omega)).set (k' := (j + 1) * 5) (j * 5 + 3) (.slice N3 e.list.length n3) (by omega) (by omega)).set (k' := (j + 1) * 5) (j * 5 + 4) (.slice N4 e.seen.length n4) (by omega) (by omega)))
      replace HM := Lib.hid (show Ms w [.dt (.rows 75 5 ((x.docs.take (j + 1)).map encDo)) (.slice (some ⟨qa, 0, none⟩) (j + 1) g1) b8, .bx wr.heap.size (.cells #[.string e.name, .int .i64 e.from_, .slice C2 e.text.length c2, .slice C3 e.list.length c3, .slice C4 e.seen.length c4] 75 (0, 0)), .bx w.heap.size (.cells #[.bool x.shut, .slice (some ⟨qa, 0, none⟩) x.docs.length g1, .slice A2 x.subs.length cb, .int .i64 x.last] 30 (0, 0)), .bx (w.heap.size + 1) (.cells #[.bool false, .slice none 0 0, .slice none 0 0, .int .i64 0] 30 (0, 0))] (((((W4.setCell ⟨qa, j * 5, none⟩ (.string e.name)).setCell ⟨qa, j * 5 + 1, none⟩ (.int .i64 e.from_)).setCell ⟨qa, j * 5 + 2, none⟩ (.slice N2 e.text.length n2)).setCell ⟨qa, j * 5 + 3, none⟩ (.slice N3 e.list.length n3)).setCell ⟨qa, j * 5 + 4, none⟩ (.slice N4 e.seen.length n4)) from hm)
      clear hm
      have hm := HM.out
      generalize (((((W4.setCell ⟨qa, j * 5, none⟩ (.string e.name)).setCell ⟨qa, j * 5 + 1, none⟩ (.int .i64 e.from_)).setCell ⟨qa, j * 5 + 2, none⟩ (.slice N2 e.text.length n2)).setCell ⟨qa, j * 5 + 3, none⟩ (.slice N3 e.list.length n3)).setCell ⟨qa, j * 5 + 4, none⟩ (.slice N4 e.seen.length n4)) = W5 at hm HW ⊢
      replace HM := Lib.hid hm
      clear hm
      refine hK.out _ _ (HM.out.pick (ks := [1, 2]) (by decide) rfl) (fun hS => ?_)
      clear hK K
      try simp only [Act.put]
      refine wpAnyH_done (by kernel_rfl) ?_ _
      clear hS
      go_wp2
      go_roundw
      case rel => exact ⟨j + 1, b8, by omega, by go_num, HM.out.pick (ks := [0, 2, 3]) (by decide) rfl, fun _ => ⟨rfl, HW.out⟩⟩
      case measure => simp [intOf]; omega
    · obtain rfl : j = x.docs.length := by omega
      have hm := HM.out
      rw [List.take_length] at hm
      replace HM := Lib.hid hm
      clear hm HQ HC
      have kx0 := HM.out.cell (i := 1) (j := 0) rfl rfl
      have kx1 := HM.out.cell (i := 1) (j := 1) rfl rfl
      have kx2 := HM.out.cell (i := 1) (j := 2) rfl rfl
      have kx3 := HM.out.cell (i := 1) (j := 3) rfl rfl
      go_wp2_with fail
      clear hlt hj kx0 kx1 kx2 kx3
      refine (cloneSus_m _ w _ x.subs _ HM.out R2.out hs.subs.len).mono ?_
      rintro e' W6 ⟨G2, g2, bs, yb, qb, rfl, hcap, hm, hraw, hcel⟩
      have HW := Lib.hid hraw
      have HC := Lib.hid hcel
      have HCAPs := Lib.hid hcap
      clear hraw hcel hcap
      replace HM := Lib.hid hm
      clear hm
      have kx0 := HM.out.cell (i := 2) (j := 0) rfl rfl
      have kx1 := HM.out.cell (i := 2) (j := 1) rfl rfl
      have kx2 := HM.out.cell (i := 2) (j := 2) rfl rfl
      have kx3 := HM.out.cell (i := 2) (j := 3) rfl rfl
      have fx0 := HM.out.free (i := 2) (j := 0) rfl
      have fx1 := HM.out.free (i := 2) (j := 1) rfl
      have fx2 := HM.out.free (i := 2) (j := 2) rfl
      have fx3 := HM.out.free (i := 2) (j := 3) rfl
      have HW := Lib.hid (HW.out.other (o := 2) HM.out (i := 1) rfl (.slice G2 x.subs.length g2))
      have hm := HM.out.pk [2, 0, 1, 3] (by decide) (by simp)
      simp only [low.pk, List.getElem?_cons_zero, List.getElem?_cons_succ] at hm
      replace HM := Lib.hid hm
      clear hm
      have hm := HM.out.set (j := 2) (.slice G2 x.subs.length g2)
      simp only [pa, pb, pc] at hm
      replace HM := Lib.hid hm
      clear hm
      have hm := HM.out.pk [1, 0, 2, 3] (by decide) (by simp)
      simp only [low.pk, List.getElem?_cons_zero, List.getElem?_cons_succ] at hm
      replace HM := Lib.hid hm
      clear hm
      have mx0 := HM.out.cell (i := 1) (j := 0) rfl rfl
      have mx1 := HM.out.cell (i := 1) (j := 1) rfl rfl
      have mx2 := HM.out.cell (i := 1) (j := 2) rfl rfl
      have mx3 := HM.out.cell (i := 1) (j := 3) rfl rfl
      go_wp2_with fail
      clear kx0 kx1 kx2 kx3 fx0 fx1 fx2 fx3 mx0 mx1 mx2 mx3
      have hm := HM.out
      generalize (W6.setCell ⟨w.heap.size, 2, none⟩ (.slice G2 x.subs.length g2)) = W9 at hm HW ⊢
      replace HM := Lib.hid hm
      clear hm
      go_loopw [33] (fun i wr => ∃ (j : Nat) (bs : List Nat), j ≤ x.subs.length ∧ i = .int .i64 (j : Int) ∧ Ms w [.dt (.rows 80 6 ((x.subs.take j).map encSu)) (.slice G2 j g2) bs, .bx w.heap.size (.cells #[.bool x.shut, .slice G1 x.docs.length g1, .slice G2 x.subs.length g2, .int .i64 x.last] 30 (0, 0)), .dt (encDos x.docs) (.slice G1 x.docs.length g1) bd, .bx (w.heap.size + 1) (.cells #[.bool false, .slice none 0 0, .slice none 0 0, .int .i64 0] 30 (0, 0))] wr ∧ RawQ x.subs.length G2 wr qb (j * 6) yb) (fun i _ => x.subs.length - (intOf i).toNat)
      case atStart => exact ⟨0, bs, Nat.zero_le _, rfl, HM.out, by simpa using HW.out⟩
      case round =>
        obtain ⟨j, bs, hj, rfl, hm, hw⟩ := hrel
        clear HM HW
        have HM := Lib.hid hm
        have HQ := Lib.hid hw
        clear hm hw
        by_cases hlt : j < x.subs.length
        · obtain ⟨rfl, hw⟩ := HQ.out (by omega)
          have HW := Lib.hid hw
          clear hw HQ
          obtain ⟨e, hp⟩ : ∃ e, x.subs[j]? = some e := ⟨_, List.getElem?_eq_getElem hlt⟩
          obtain ⟨y, hy, hyl, hyk⟩ := HC.out (by omega) j (encSu e) (by rw [List.getElem?_map, hp]; rfl)
          obtain ⟨_, _, rfl, rfl, _, _, rfl, rfl, _, _, rfl, rfl, _, _, rfl, rfl, _, _, rfl, rfl, v5, _, rfl, hr5, rfl⟩ := hy
          obtain ⟨C5, c5, rfl⟩ := sliceEns hr5
          have Q5 := Lib.hid hr5
          clear hr5
          have x0 : wr.cell? ⟨qb, j * 6, none⟩ = some (.int .i64 e.id) := HW.out.cell (by omega) (hyk 0 _ rfl)
          have X0 := Lib.hid (show yb[j * 6]? = some (.int .i64 e.id) from hyk 0 _ rfl)
          have x1 : wr.cell? ⟨qb, j * 6 + 1, none⟩ = some (.string e.doc) := HW.out.cell (by omega) (hyk 1 _ rfl)
          have X1 := Lib.hid (show yb[j * 6 + 1]? = some (.string e.doc) from hyk 1 _ rfl)
          have x2 : wr.cell? ⟨qb, j * 6 + 2, none⟩ = some (.int .i64 e.cap) := HW.out.cell (by omega) (hyk 2 _ rfl)
          have X2 := Lib.hid (show yb[j * 6 + 2]? = some (.int .i64 e.cap) from hyk 2 _ rfl)
          have x3 : wr.cell? ⟨qb, j * 6 + 3, none⟩ = some (.int .i64 e.next) := HW.out.cell (by omega) (hyk 3 _ rfl)
          have X3 := Lib.hid (show yb[j * 6 + 3]? = some (.int .i64 e.next) from hyk 3 _ rfl)
          have x4 : wr.cell? ⟨qb, j * 6 + 4, none⟩ = some (.bool e.out) := HW.out.cell (by omega) (hyk 4 _ rfl)
          have X4 := Lib.hid (show yb[j * 6 + 4]? = some (.bool e.out) from hyk 4 _ rfl)
          have x5 : wr.cell? ⟨qb, j * 6 + 5, none⟩ = some (.slice C5 e.list.length c5) := HW.out.cell (by omega) (hyk 5 _ rfl)
          have X5 := Lib.hid (show yb[j * 6 + 5]? = some (.slice C5 e.list.length c5) from hyk 5 _ rfl)
          have HT := Lib.hid (show (x.subs.take (j + 1)).map encSu = (x.subs.take j).map encSu ++ [encSu e] by rw [List.take_add_one, hp]; simp)
          have hse := hs.subs.at_ (List.mem_of_getElem? hp)
          have hlj : j < g2 := by have := HCAPs.out; omega
          have HLN := Lib.hid (show j = ((x.subs.take j).map encSu).length by simp; omega)
          clear hyk hyl hp
          have HW := Lib.hid (HW.out.past (alloc_below wr (.cells #[.int .i64 e.id, .string e.doc, .int .i64 e.cap, .int .i64 e.next, .bool e.out, .slice C5 e.list.length c5] 80)))
          replace HM := Lib.hid (HM.out.new #[.int .i64 e.id, .string e.doc, .int .i64 e.cap, .int .i64 e.next, .bool e.out, .slice C5 e.list.length c5] 80)
          go_wp2
          clear x0 x1 x2 x3 x4 x5
          have hm := HM.out
          generalize (wr.alloc (.cells #[.int .i64 e.id, .string e.doc, .int .i64 e.cap, .int .i64 e.next, .bool e.out, .slice C5 e.list.length c5] 80)) = W8 at hm HW ⊢
          replace HM := Lib.hid hm
          clear hm
          replace HM := Lib.hid (HM.out.drew)
          have HW := Lib.hid HW.out.drew9
          refine wp_region_held_drew (S := fun W => Ms w [.bx wr.heap.size (.cells #[.int .i64 e.id, .string e.doc, .int .i64 e.cap, .int .i64 e.next, .bool e.out, .slice C5 e.list.length c5] 80 (0, 0)), .bx w.heap.size (.cells #[.bool x.shut, .slice G1 x.docs.length g1, .slice (some ⟨qb, 0, none⟩) x.subs.length g2, .int .i64 x.last] 30 (0, 0))] W) (by kernel_rfl) (HM.out.pick (ks := [0, 2]) (by decide) rfl) (fun hS => ?_)
          generalize W8.drew = W7 at HM hS HW ⊢
          refine tk (v := ?_) 0 38 rfl (fun w' hS' => ?_) hS ?_
          rotate_left
          · go_simp; all_goals (with_reducible rfl)
          try simp only [Act.put, pa, pb, pc]
          refine tk (v := ?_) 1 39 rfl (fun w' hS' => ?_) hS ?_
          rotate_left
          · (try dsimp only at hS'); have q0 := hS'.cell (i := 0) (j := 0) rfl rfl; have q1 := hS'.cell (i := 0) (j := 1) rfl rfl; have q2 := hS'.cell (i := 0) (j := 2) rfl rfl; have q3 := hS'.cell (i := 0) (j := 3) rfl rfl; have q4 := hS'.cell (i := 0) (j := 4) rfl rfl; have q5 := hS'.cell (i := 0) (j := 5) rfl rfl; have p0 := hS'.cell (i := 1) (j := 0) rfl rfl; have p1 := hS'.cell (i := 1) (j := 1) rfl rfl; have p2 := hS'.cell (i := 1) (j := 2) rfl rfl; have p3 := hS'.cell (i := 1) (j := 3) rfl rfl; go_simp; all_goals (with_reducible rfl)
          try simp only [Act.put, pa, pb, pc]
          refine tk (v := ?_) 2 40 rfl (fun w' hS' => ?_) hS ?_
          rotate_left
          · go_simp; all_goals (with_reducible rfl)
          try simp only [Act.put, pa, pb, pc]
          refine tk (v := ?_) 3 41 rfl (fun w' hS' => ?_) hS ?_
          rotate_left
          · (try dsimp only at hS'); have q0 := hS'.cell (i := 0) (j := 0) rfl rfl; have q1 := hS'.cell (i := 0) (j := 1) rfl rfl; have q2 := hS'.cell (i := 0) (j := 2) rfl rfl; have q3 := hS'.cell (i := 0) (j := 3) rfl rfl; have q4 := hS'.cell (i := 0) (j := 4) rfl rfl; have q5 := hS'.cell (i := 0) (j := 5) rfl rfl; have p0 := hS'.cell (i := 1) (j := 0) rfl rfl; have p1 := hS'.cell (i := 1) (j := 1) rfl rfl; have p2 := hS'.cell (i := 1) (j := 2) rfl rfl; have p3 := hS'.cell (i := 1) (j := 3) rfl rfl; go_simp; all_goals (with_reducible rfl)
          try simp only [Act.put, pa, pb, pc]
          refine r1 4 (some 42) rfl (fun K hK => ?_)
          go_simp
          refine (implCopySub_d _ e _ (rdSu e (HM.out.arg Q5.out)) hse).mono ?_
          rintro e' W8 ⟨v', rfl, o', b'⟩
          obtain ⟨N5, n5, rfl, -⟩ := aggSu o'.read
          have HW := Lib.hid (HW.out.past b')
          obtain ⟨bn, hm⟩ := HM.out.got o' b'
          clear o' b'
          replace HM := Lib.hid hm
          clear hm
          clear hS
          refine hK.out _ _ (HM.out.pick (ks := [1, 3]) (by decide) rfl) (fun hS => ?_)
          clear hK K
          try simp only [Act.put, pa, pb, pc]
          refine tk (v := ?_) 5 43 rfl (fun w' hS' => ?_) hS ?_
          rotate_left
          · go_simp; all_goals (with_reducible rfl)
          try simp only [Act.put, pa, pb, pc]
          refine r1 6 none rfl (fun K hK => ?_)
          have hm := HM.out.pk [2, 0, 1, 3, 4, 5] (by decide) (by simp)
          simp only [low.pk, List.getElem?_cons_zero, List.getElem?_cons_succ] at hm
          replace HM := Lib.hid hm
          clear hm
          have y0 : W8.cell? ⟨qb, j * 6, none⟩ = some (.int .i64 e.id) := HW.out.cell (by omega) X0.out
          have z0 : W8.frozen? ⟨qb, j * 6, none⟩ = false := HW.out.free
          have y1 : W8.cell? ⟨qb, j * 6 + 1, none⟩ = some (.string e.doc) := HW.out.cell (by omega) X1.out
          have z1 : W8.frozen? ⟨qb, j * 6 + 1, none⟩ = false := HW.out.free
          have y2 : W8.cell? ⟨qb, j * 6 + 2, none⟩ = some (.int .i64 e.cap) := HW.out.cell (by omega) X2.out
          have z2 : W8.frozen? ⟨qb, j * 6 + 2, none⟩ = false := HW.out.free
          have y3 : W8.cell? ⟨qb, j * 6 + 3, none⟩ = some (.int .i64 e.next) := HW.out.cell (by omega) X3.out
          have z3 : W8.frozen? ⟨qb, j * 6 + 3, none⟩ = false := HW.out.free
          have y4 : W8.cell? ⟨qb, j * 6 + 4, none⟩ = some (.bool e.out) := HW.out.cell (by omega) X4.out
          have z4 : W8.frozen? ⟨qb, j * 6 + 4, none⟩ = false := HW.out.free
          have y5 : W8.cell? ⟨qb, j * 6 + 5, none⟩ = some (.slice C5 e.list.length c5) := HW.out.cell (by omega) X5.out
          have z5 : W8.frozen? ⟨qb, j * 6 + 5, none⟩ = false := HW.out.free
          go_simp
          clear hS y0 z0 y1 z1 y2 z2 y3 z3 y4 z4 y5 z5
          obtain ⟨b8, hm⟩ := Ms.fillN (r := encSu e) (ys := [.int .i64 e.id, .string e.doc, .int .i64 e.cap, .int .i64 e.next, .bool e.out, .slice N5 e.list.length n5]) HM.out HLN.out hlj rfl
          rw [← HT.out] at hm
          have HW := Lib.hid (show Raw ((((((W8.setCell ⟨qb, j * 6, none⟩ (.int .i64 e.id)).setCell ⟨qb, j * 6 + 1, none⟩ (.string e.doc)).setCell ⟨qb, j * 6 + 2, none⟩ (.int .i64 e.cap)).setCell ⟨qb, j * 6 + 3, none⟩ (.int .i64 e.next)).setCell ⟨qb, j * 6 + 4, none⟩ (.bool e.out)).setCell ⟨qb, j * 6 + 5, none⟩ (.slice N5 e.list.length n5)) qb ((j + 1) * 6) yb from ((((((HW.out.set (k' := (j + 1) * 6) (j * 6) (.int .i64 e.id) (by omega) (by omega)).set (k' := (j + 1) * 6) (j * 6 + 1) (.string e.doc) (by omega) (by omega)).set (k' := (j + 1) * 6) (j * 6 + 2) (.int .i64 e.cap) (by omega) (by omega)).set (k' := (j + 1) * 6) (j * 6 + 3) (.int .i64 e.next) (by omega) (by omega)).set (k' := (j + 1) * 6) (j * 6 + 4) (.bool e.out) (by omega) (by omega)).set (k' := (j + 1) * 6) (j * 6 + 5) (.slice N5 e.list.length n5) (by omega) (by omega)))
          replace HM := Lib.hid (show Ms w [.dt (.rows 80 6 ((x.subs.take (j + 1)).map encSu)) (.slice (some ⟨qb, 0, none⟩) (j + 1) g2) b8, .bx wr.heap.size (.cells #[.int .i64 e.id, .string e.doc, .int .i64 e.cap, .int .i64 e.next, .bool e.out, .slice C5 e.list.length c5] 80 (0, 0)), .bx w.heap.size (.cells #[.bool x.shut, .slice G1 x.docs.length g1, .slice (some ⟨qb, 0, none⟩) x.subs.length g2, .int .i64 x.last] 30 (0, 0)), .dt (encDos x.docs) (.slice G1 x.docs.length g1) bd, .bx (w.heap.size + 1) (.cells #[.bool false, .slice none 0 0, .slice none 0 0, .int .i64 0] 30 (0, 0))] ((((((W8.setCell ⟨qb, j * 6, none⟩ (.int .i64 e.id)).setCell ⟨qb, j * 6 + 1, none⟩ (.string e.doc)).setCell ⟨qb, j * 6 + 2, none⟩ (.int .i64 e.cap)).setCell ⟨qb, j * 6 + 3, none⟩ (.int .i64 e.next)).setCell ⟨qb, j * 6 + 4, none⟩ (.bool e.out)).setCell ⟨qb, j * 6 + 5, none⟩ (.slice N5 e.list.length n5)) from hm)
          clear hm
          have hm := HM.out
          generalize ((((((W8.setCell ⟨qb, j * 6, none⟩ (.int .i64 e.id)).setCell ⟨qb, j * 6 + 1, none⟩ (.string e.doc)).setCell ⟨qb, j * 6 + 2, none⟩ (.int .i64 e.cap)).setCell ⟨qb, j * 6 + 3, none⟩ (.int .i64 e.next)).setCell ⟨qb, j * 6 + 4, none⟩ (.bool e.out)).setCell ⟨qb, j * 6 + 5, none⟩ (.slice N5 e.list.length n5)) = W9 at hm HW ⊢
          replace HM := Lib.hid hm
          clear hm
          refine hK.out _ _ (HM.out.pick (ks := [1, 2]) (by decide) rfl) (fun hS => ?_)
          clear hK K
          try simp only [Act.put]
          refine wpAnyH_done (by kernel_rfl) ?_ _
          clear hS
          go_wp2
          go_roundw
          case rel => exact ⟨j + 1, b8, by omega, by go_num, HM.out.pick (ks := [0, 2, 3, 4]) (by decide) rfl, fun _ => ⟨rfl, HW.out⟩⟩
          case measure => simp [intOf]; omega
        · obtain rfl : j = x.subs.length := by omega
          have hm := HM.out
          rw [List.take_length] at hm
          replace HM := Lib.hid hm
          clear hm HQ HC
          have kx0 := HM.out.cell (i := 1) (j := 0) rfl rfl
          have kx1 := HM.out.cell (i := 1) (j := 1) rfl rfl
          have kx2 := HM.out.cell (i := 1) (j := 2) rfl rfl
          have kx3 := HM.out.cell (i := 1) (j := 3) rfl rfl
          have kr0 := HM.out.cell (i := 3) (j := 0) rfl rfl
          have kr1 := HM.out.cell (i := 3) (j := 1) rfl rfl
          have kr2 := HM.out.cell (i := 3) (j := 2) rfl rfl
          have kr3 := HM.out.cell (i := 3) (j := 3) rfl rfl
          have fr0 := HM.out.free (i := 3) (j := 0) rfl
          have fr1 := HM.out.free (i := 3) (j := 1) rfl
          have fr2 := HM.out.free (i := 3) (j := 2) rfl
          have fr3 := HM.out.free (i := 3) (j := 3) rfl
          go_wp2
          clear kx0 kx1 kx2 kx3 kr0 kr1 kr2 kr3 fr0 fr1 fr2 fr3
          have hm := HM.out.pk [3, 0, 1, 2] (by decide) (by simp)
          simp only [low.pk, List.getElem?_cons_zero, List.getElem?_cons_succ] at hm
          replace HM := Lib.hid hm
          clear hm
          have hm := HM.out.putRow (ys := [.bool x.shut, .slice G1 x.docs.length g1, .slice G2 x.subs.length g2, .int .i64 x.last]) rfl
          simp only [low.putRow, Nat.zero_add, Nat.reduceAdd] at hm
          replace HM := Lib.hid hm
          clear hm
          obtain ⟨W10, hW, hm⟩ := HM.out.name
          rw [← hW]
          replace HM := Lib.hid hm
          clear hm hW
          have kr0 := HM.out.cell (i := 0) (j := 0) rfl rfl
          have kr1 := HM.out.cell (i := 0) (j := 1) rfl rfl
          have kr2 := HM.out.cell (i := 0) (j := 2) rfl rfl
          have kr3 := HM.out.cell (i := 0) (j := 3) rfl rfl
          have hm := HM.out.pk [1, 3, 0, 2] (by decide) (by simp)
          simp only [low.pk, List.getElem?_cons_zero, List.getElem?_cons_succ] at hm
          replace HM := Lib.hid hm
          clear hm
          obtain ⟨b9, hm⟩ := Ms.pkHu (sh := x.shut) (la := x.last) HM.out
          exact bodyPost_ret (v := .agg #[.bool x.shut, .slice G1 x.docs.length g1, .slice G2 x.subs.length g2, .int .i64 x.last]) (by simp [results, Tryz.results20, go_sem, kr0, kr1, kr2, kr3]) rfl (show OwnPost (datHu x) w _ _ from hm.post)
end Go.Proofs.YtamainhocghlgaaGreatDoor.low


/-
  errors.As at a rejection's own type, and impl.codeOf: the code of a rejection, 0 for none.
-/
namespace Go.Proofs.YtamainhocghlgaaGreatDoor.low
open Go.RowKit Go.Extern.Stop Go.Stop Go.Extern
set_option linter.unusedVariables false

/-- the library's own variable that holds the type of errors -/
def ET (w : World) : Prop := w.cell? ⟨0, 0, none⟩ = some (.iface 155 (.agg #[.pointer (some ⟨1, 44, none⟩)]))
theorem ET.lt {w : World} (h : ET w) : 0 < w.heap.size := by
  unfold ET at h
  rcases Nat.lt_or_ge 0 w.heap.size with h1 | h1
  · exact h1
  · simp [World.cell?, Array.getElem?_eq_none h1] at h
theorem ET.past {w w' : World} (h : ET w) {B : Nat} (hB : B = w.heap.size) (hb : Below B w w') : ET w' := (hb.cell (p := ⟨0, 0, none⟩) (by rw [hB]; exact h.lt)).trans h
/-- what the worked example says of the two entries that take their arguments apart -/
theorem rlMethod (z : Sem Value) (f : TypeId → Addr → Nat → Nat → Sem Value) (v : Value) :
    ReflectliteValue.method z f #[v] = (do match ← ReflectliteValue.parts v with | none => z | some (t, a, fl) => f t a fl (fl % 32)) := rfl
theorem rlSet (v x : Value) : ReflectliteValue.set #[v, x] = (do
    let (some (dst, a, fl), some (src, b, _)) := (← ReflectliteValue.parts v, ← ReflectliteValue.parts x)
      | unsupported (.noEntry "extern/(internal/reflectlite.Value).Set.zeroValue")
    if fl / ReflectliteValue.flagAddr % 2 == 0 then unsupported (.noEntry "extern/(internal/reflectlite.Value).Set.unaddressable")
    let val ← loadVar src b
    if ← Rtype.directlyAssignable dst src then storeVar dst a val
    else if ← Rtype.implements dst src then
      if (← Rtype.kind src) == 20 then
        match val with
        | .nilIface => unsupported (.noEntry "extern/reflectlite: a nil value of one interface type handed on as a value of another")
        | _ => storeVar dst a val
      else storeVar dst a (.iface src val)
    else panicString ("reflectlite.Set: value of type " ++ (← Rtype.spelt src) ++ " is not assignable to type " ++ (← Rtype.spelt dst))
    pure (.tuple #[])) := rfl
theorem rjValueOfP (t : Addr) (w : World) : (ReflectliteValue.unpack (.iface 90 (.pointer (some t)))).run Tryz.prog w
    = .ok (.agg #[.pointer (some ⟨1, 90, none⟩), .pointer (some ⟨w.heap.size, 0, none⟩), .int .u64 150]) (w.alloc (.cells #[.pointer (some t)] 90)) := by kernel_rfl
theorem rjTypeP (a : Addr) (w : World) : (ReflectliteValue.methodAny (ReflectliteValue.valueError "reflectlite.Value.Type" 0) (fun t _ _ _ => ReflectliteType.toType t) #[.agg #[.pointer (some ⟨1, 90, none⟩), .pointer (some a), .int .u64 150]]).run Tryz.prog w
    = .ok (.iface 155 (.agg #[.pointer (some ⟨1, 90, none⟩)])) w := by kernel_rfl
theorem rjMKind (h : Value) (w : World) : (Go.method 369 155 (.agg #[h]) "Kind").run Tryz.prog w = .ok (204, h) w := by kernel_rfl
theorem rjKindP (w : World) : ((ReflectliteType.abiMethod fun t => (fun a : Nat => Value.int IntKind.u8 (a : Int)) <$> Rtype.kind t) #[.pointer (some ⟨1, 90, none⟩)]).run Tryz.prog w = .ok (.int .u8 22) w := by kernel_rfl
theorem rjKind (w : World) : ((ReflectliteType.abiMethod fun t => (fun a : Nat => Value.int IntKind.u8 (a : Int)) <$> Rtype.kind t) #[.pointer (some ⟨1, 88, none⟩)]).run Tryz.prog w = .ok (.int .u8 2) w := by kernel_rfl
theorem rjPartsP (a : Addr) (w : World) : (ReflectliteValue.parts (.agg #[.pointer (some ⟨1, 90, none⟩), .pointer (some a), .int .u64 150])).run Tryz.prog w = .ok (some (90, a, 150)) w := by kernel_rfl
theorem rjIsNilP (a p : Addr) (W : World) (ha : W.cell? a = some (.pointer (some p))) :
    (ReflectliteValue.method (ReflectliteValue.valueError "reflectlite.Value.IsNil" 0) ReflectliteValue.isNil #[.agg #[.pointer (some ⟨1, 90, none⟩), .pointer (some a), .int .u64 150]]).run Tryz.prog W = .ok (.bool false) W := by
  rw [rlMethod]
  simp only [Sem.run_bind, rjPartsP, Result.andThen]
  simp [ReflectliteValue.isNil, loadVar, isAgg, underlying, Tryz.underlying90, ha, Result.andThen]
theorem rjMElem (h : Value) (w : World) : (Go.method 369 155 (.agg #[h]) "Elem").run Tryz.prog w = .ok (214, .agg #[h]) w := by kernel_rfl
theorem rjMImpl (h : Value) (w : World) : (Go.method 369 155 (.agg #[h]) "Implements").run Tryz.prog w = .ok (215, .agg #[h]) w := by kernel_rfl
theorem rjMAssign (h : Value) (w : World) : (Go.method 369 155 (.agg #[h]) "AssignableTo").run Tryz.prog w = .ok (212, .agg #[h]) w := by kernel_rfl
theorem rjElemT (w : World) : (ReflectliteType.method ReflectliteType.elem #[.agg #[.pointer (some ⟨1, 90, none⟩)]]).run Tryz.prog w = .ok (.iface 155 (.agg #[.pointer (some ⟨1, 88, none⟩)])) w := by kernel_rfl
theorem rjImpl (w : World) : (ReflectliteType.relation "Implements" ReflectliteType.implements_ #[.agg #[.pointer (some ⟨1, 88, none⟩)], .iface 155 (.agg #[.pointer (some ⟨1, 44, none⟩)])]).run Tryz.prog w = .ok (.bool true) w := by kernel_rfl
theorem rjTypeOf (v : Value) (w : World) : (ReflectliteType.typeOf #[.iface 88 v]).run Tryz.prog w = .ok (.iface 155 (.agg #[.pointer (some ⟨1, 88, none⟩)])) w := by kernel_rfl
theorem rjAssign (w : World) : (ReflectliteType.relation "AssignableTo" ReflectliteType.assignableTo #[.agg #[.pointer (some ⟨1, 88, none⟩)], .iface 155 (.agg #[.pointer (some ⟨1, 88, none⟩)])]).run Tryz.prog w = .ok (.bool true) w := by kernel_rfl
theorem rjValueOf (k : Int) (w : World) : (ReflectliteValue.unpack (.iface 88 (.int .i64 k))).run Tryz.prog w
    = .ok (.agg #[.pointer (some ⟨1, 88, none⟩), .pointer (some ⟨w.heap.size, 0, none⟩), .int .u64 130]) (w.alloc (.cells #[.int .i64 k] 88)) := by kernel_rfl
theorem rjElemOf (w : World) : (Rtype.elem? 90).run Tryz.prog w = .ok (some 88) w := by kernel_rfl
theorem rjMk (p : Addr) (w : World) : (ReflectliteValue.mk 88 p ReflectliteValue.flagAddr).run Tryz.prog w = .ok (.agg #[.pointer (some ⟨1, 88, none⟩), .pointer (some p), .int .u64 386]) w := by kernel_rfl
theorem rjElemV (a p : Addr) (W : World) (ha : W.cell? a = some (.pointer (some p))) :
    (ReflectliteValue.method (ReflectliteValue.valueError "reflectlite.Value.Elem" 0) ReflectliteValue.elem #[.agg #[.pointer (some ⟨1, 90, none⟩), .pointer (some a), .int .u64 150]]).run Tryz.prog W
      = .ok (.agg #[.pointer (some ⟨1, 88, none⟩), .pointer (some p), .int .u64 386]) W := by
  rw [rlMethod]
  simp only [Sem.run_bind, rjPartsP, Result.andThen]
  simp [ReflectliteValue.elem, loadVar, isAgg, underlying, Tryz.underlying90, ha, Result.andThen, rjElemOf, rjMk]
theorem rjPartsA (a : Addr) (w : World) : (ReflectliteValue.parts (.agg #[.pointer (some ⟨1, 88, none⟩), .pointer (some a), .int .u64 386])).run Tryz.prog w = .ok (some (88, a, 386)) w := by kernel_rfl
theorem rjParts (a : Addr) (w : World) : (ReflectliteValue.parts (.agg #[.pointer (some ⟨1, 88, none⟩), .pointer (some a), .int .u64 130])).run Tryz.prog w = .ok (some (88, a, 130)) w := by kernel_rfl
theorem rjDirect (w : World) : (Rtype.directlyAssignable 88 88).run Tryz.prog w = .ok true w := by kernel_rfl
theorem rjSet (ta b : Addr) (k : Int) (old : Value) (W : World) (hb : W.cell? b = some (.int .i64 k)) (ht : W.cell? ta = some old) (hf : W.frozen? ta = false) :
    (ReflectliteValue.set #[.agg #[.pointer (some ⟨1, 88, none⟩), .pointer (some ta), .int .u64 386], .agg #[.pointer (some ⟨1, 88, none⟩), .pointer (some b), .int .u64 130]]).run Tryz.prog W
      = .ok (.tuple #[]) (W.setCell ta (.int .i64 k)) := by
  rw [rlSet]
  simp only [Sem.run_bind, rjPartsA, rjParts, Result.andThen]
  simp [ReflectliteValue.flagAddr, loadVar, isAgg, underlying, Tryz.underlying88, hb, Result.andThen, rjDirect, storeVar, Value.cells, storeCells, Addr.add]
  rw [run_store Tryz.prog W ta _ _ (by rfl)]
  simp [ht, hf]
set_option maxRecDepth 100000 in
set_option maxHeartbeats 4000000 in
theorem asHit (k : Int) (t : Addr) (old : Value) (w : World) (hg : ET w) (ht0 : w.cell? t = some old) (hf0 : w.frozen? t = false) :
    Calls Tryz.prog 40 #[.iface 88 (.int .i64 k), .iface 90 (.pointer (some t))] w fun ev w' => ev = .returned (.bool true) ∧ w' = ((((w.alloc (.cells #[.pointer (some t)] 90)).alloc (.cells #[.pointer (some ⟨1, 90, none⟩), .pointer (some ⟨w.heap.size, 0, none⟩), .int .u64 150] 122)).alloc (.cells #[.pointer (some ⟨1, 90, none⟩), .pointer (some ⟨w.heap.size, 0, none⟩), .int .u64 150] 122)).alloc (.cells #[.int .i64 k] 88)).setCell t (.int .i64 k) := by
  have h0 := @run_callFunc_extern Tryz.prog 71 _ (fun args => ReflectliteValue.unpack (args.getD 0 (.tuple #[]))) Tryz.func71 (by kernel_rfl) (by kernel_rfl) (by kernel_rfl) (by kernel_rfl)
  have h1 := @run_callFunc_extern Tryz.prog 72 _ (ReflectliteValue.methodAny (ReflectliteValue.valueError "reflectlite.Value.Type" 0) (fun t _ _ _ => ReflectliteType.toType t)) Tryz.func72 (by kernel_rfl) (by kernel_rfl) (by kernel_rfl) (by kernel_rfl)
  have h2 := @run_callFunc_extern Tryz.prog 73 _ (ReflectliteValue.method (ReflectliteValue.valueError "reflectlite.Value.IsNil" 0) ReflectliteValue.isNil) Tryz.func73 (by kernel_rfl) (by kernel_rfl) (by kernel_rfl) (by kernel_rfl)
  have h3 := @run_callFunc_extern Tryz.prog 204 _ (ReflectliteType.abiMethod fun t => do pure (.int .u8 (← Rtype.kind t))) Tryz.func204 (by kernel_rfl) (by kernel_rfl) (by kernel_rfl) (by kernel_rfl)
  have h4 := @run_callFunc_extern Tryz.prog 214 _ (ReflectliteType.method ReflectliteType.elem) Tryz.func214 (by kernel_rfl) (by kernel_rfl) (by kernel_rfl) (by kernel_rfl)
  have h5 := @run_callFunc_extern Tryz.prog 215 _ (ReflectliteType.relation "Implements" ReflectliteType.implements_) Tryz.func215 (by kernel_rfl) (by kernel_rfl) (by kernel_rfl) (by kernel_rfl)
  have h6 := @run_callFunc_extern Tryz.prog 97 _ ReflectliteType.typeOf Tryz.func97 (by kernel_rfl) (by kernel_rfl) (by kernel_rfl) (by kernel_rfl)
  have h7 := @run_callFunc_extern Tryz.prog 212 _ (ReflectliteType.relation "AssignableTo" ReflectliteType.assignableTo) Tryz.func212 (by kernel_rfl) (by kernel_rfl) (by kernel_rfl) (by kernel_rfl)
  have h8 := @run_callFunc_extern Tryz.prog 98 _ (ReflectliteValue.method (ReflectliteValue.valueError "reflectlite.Value.Elem" 0) ReflectliteValue.elem) Tryz.func98 (by kernel_rfl) (by kernel_rfl) (by kernel_rfl) (by kernel_rfl)
  have h9 := @run_callFunc_extern Tryz.prog 99 _ ReflectliteValue.set Tryz.func99 (by kernel_rfl) (by kernel_rfl) (by kernel_rfl) (by kernel_rfl)
  have q0 := rjTypeOf
  have q1 := rjMAssign
  have q2 := rjAssign
  have q3 := rjValueOf
  have q4 := rjValueOfP
  have q5 := rjTypeP
  have q6 := rjMKind
  have q7 := rjMElem
  have q8 := rjMImpl
  have q9 := rjKindP
  have q10 := rjKind
  have q11 := rjElemT
  have q12 := rjImpl
  have n8 := rjIsNilP ⟨w.heap.size, 0, none⟩ t ((w.alloc (.cells #[.pointer (some t)] 90)).alloc (.cells #[.pointer (some ⟨1, 90, none⟩), .pointer (some ⟨w.heap.size, 0, none⟩), .int .u64 150] 122)) (by simp)
  have hlt := hg.lt
  unfold ET at hg
  have hg2 : ((w.alloc (.cells #[.pointer (some t)] 90)).alloc (.cells #[.pointer (some ⟨1, 90, none⟩), .pointer (some ⟨w.heap.size, 0, none⟩), .int .u64 150] 122)).cell? ⟨0, 0, none⟩ = some (.iface 155 (.agg #[.pointer (some ⟨1, 44, none⟩)])) := by
    rw [World.cell?_alloc_lt _ _ ⟨0, 0, none⟩ (by simp), World.cell?_alloc_lt _ _ ⟨0, 0, none⟩ hlt]; exact hg
  have htl : t.block < w.heap.size := by
    rcases Nat.lt_or_ge t.block w.heap.size with h | h
    · exact h
    · simp [World.cell?, Array.getElem?_eq_none h] at ht0
  have el := rjElemV ⟨w.heap.size, 0, none⟩ t (((w.alloc (.cells #[.pointer (some t)] 90)).alloc (.cells #[.pointer (some ⟨1, 90, none⟩), .pointer (some ⟨w.heap.size, 0, none⟩), .int .u64 150] 122)).alloc (.cells #[.pointer (some ⟨1, 90, none⟩), .pointer (some ⟨w.heap.size, 0, none⟩), .int .u64 150] 122)) (by rw [World.cell?_alloc_lt _ _ ⟨w.heap.size, 0, none⟩ (by simp; omega)]; simp)
  have st := rjSet t ⟨w.heap.size + 1 + 1 + 1, 0, none⟩ k old ((((w.alloc (.cells #[.pointer (some t)] 90)).alloc (.cells #[.pointer (some ⟨1, 90, none⟩), .pointer (some ⟨w.heap.size, 0, none⟩), .int .u64 150] 122)).alloc (.cells #[.pointer (some ⟨1, 90, none⟩), .pointer (some ⟨w.heap.size, 0, none⟩), .int .u64 150] 122)).alloc (.cells #[.int .i64 k] 88))
    (by rw [World.cell?_alloc_at _ _ _ _ (by simp)]; rfl)
    (by rw [World.cell?_alloc_lt _ _ t (by simp; omega), World.cell?_alloc_lt _ _ t (by simp; omega), World.cell?_alloc_lt _ _ t (by simp; omega), World.cell?_alloc_lt _ _ t htl]; exact ht0)
    (by rw [World.frozen?_alloc_old _ _ t (by simp; omega), World.frozen?_alloc_old _ _ t (by simp; omega), World.frozen?_alloc_old _ _ t (by simp; omega), World.frozen?_alloc_old _ _ t (Nat.ne_of_lt htl)]; exact hf0)
  go_enter Tryz.func40, Tryz.ntmps40
  go_wp2
  refine wp_loop_rounds 1 ?_
  rw [rounds_succ]
  go_wp2
  go_ret
  exact ⟨rfl, rfl⟩
set_option maxRecDepth 100000 in
set_option maxHeartbeats 4000000 in
theorem codeOf_hit (k : Int) (w : World) (hg : ET w) : Calls Tryz.prog 18 #[.iface 88 (.int .i64 k)] w (Nums1 k w) := by
  have b0 := alloc_below w (.cells #[.int .i64 0] 88)
  have HG := Lib.hid (hg.past rfl b0)
  have HB := Lib.hid b0
  have hcon := Lib.hid (asHit k ⟨w.heap.size, 0, none⟩ (.int .i64 0) (w.alloc (.cells #[.int .i64 0] 88)) HG.out (by simp) (by simp))
  clear hg b0
  go_enter Tryz.func18, Tryz.ntmps18
  go_wp2_with fail
  refine (hcon.out).mono ?_
  rintro e w' ⟨rfl, hw⟩
  have hk : w'.cell? ⟨w.heap.size, 0, none⟩ = some (.int .i64 k) := by
    rw [hw]
    refine bxcell (bxset (j := 0) (cs := #[.int .i64 0]) (T := 88) ?_ (.int .i64 k)) rfl
    refine (Below.block (B := w.heap.size + 1) (w := w.alloc (.cells #[.int .i64 0] 88)) ((((Below.refl _ _).alloc (by simp) _).alloc (by simp) _).alloc (by simp) _ |>.alloc (by simp) _) w.heap.size (by omega)).trans (heap_alloc_new w _)
  have hbl : Below w.heap.size w w' := by
    rw [hw]
    exact ((((HB.out.alloc (by simp) _).alloc (by simp; omega) _).alloc (by simp; omega) _).alloc (by simp; omega) _).setCell (p := ⟨w.heap.size, 0, none⟩) (Nat.le_refl _) _
  have HBL := Lib.hid hbl
  clear hw hbl
  go_wp2
  go_ret
  exact ⟨rfl, HBL.out⟩
end Go.Proofs.YtamainhocghlgaaGreatDoor.low


/-
  Contracts of the program: the registries as a hub again, checkOpen and HubShut. Written by mkhub6.py.
-/
namespace Go.Proofs.YtamainhocghlgaaGreatDoor.low
open Go.RowKit
set_option linter.unusedVariables false

set_option maxRecDepth 100000 in
set_option maxHeartbeats 3200000 in
theorem regsHub_any (sh : Bool) (A1 A2 : Option Addr) (n1 c1 n2 c2 : Nat) (la : Int) (g : Nat) (w : World) (hg : g < w.heap.size) (hc : w.cell? ⟨g, 0, none⟩ = some (.slice A1 n1 c1) ∧ w.cell? ⟨g, 1, none⟩ = some (.slice A2 n2 c2) ∧ w.cell? ⟨g, 2, none⟩ = some (.int .i64 la) ∧ w.cell? ⟨g, 3, none⟩ = some (.bool sh)) : Calls Tryz.prog 21 #[.pointer (some ⟨g, 0, none⟩)] w (fun e w' => e = .returned (.agg #[.bool sh, .slice A1 n1 c1, .slice A2 n2 c2, .int .i64 la]) ∧ Below w.heap.size w w') := by
  have HC := Lib.hid hc
  have HG := Lib.hid hg
  clear hc hg
  have HM := Lib.hid (Ms.start w)
  replace HM := Lib.hid (HM.out.new #[.bool false, .slice none 0 0, .slice none 0 0, .int .i64 0] 30)
  go_enter Tryz.func21, Tryz.ntmps21
  go_wp2
  obtain ⟨W1, hW, hm⟩ := HM.out.name
  rw [← hW]
  replace HM := Lib.hid hm
  clear hm hW
  replace HM := Lib.hid (HM.out.drew)
  refine wp_region_held_drew (S := fun W => Ms w [] W) (by kernel_rfl) (HM.out.pick (ks := []) (by decide) rfl) (fun hS => ?_)
  generalize W1.drew = W2 at HM hS  ⊢
  refine tk (v := ?_) 0 3 rfl (fun w' hS' => ?_) hS ?_
  rotate_left
  · go_simp; all_goals (with_reducible rfl)
  try simp only [Act.put, pa, pb, pc]
  refine tk (v := ?_) 1 4 rfl (fun w' hS' => ?_) hS ?_
  rotate_left
  · go_simp; all_goals (with_reducible rfl)
  try simp only [Act.put, pa, pb, pc]
  refine tk (v := ?_) 2 5 rfl (fun w' hS' => ?_) hS ?_
  rotate_left
  · go_simp; all_goals (with_reducible rfl)
  try simp only [Act.put, pa, pb, pc]
  refine tk (v := ?_) 3 6 rfl (fun w' hS' => ?_) hS ?_
  rotate_left
  · (try dsimp only at hS'); have q0 := (hS'.bl.cell (p := ⟨g, 0, none⟩) HG.out).trans HC.out.1; have q1 := (hS'.bl.cell (p := ⟨g, 1, none⟩) HG.out).trans HC.out.2.1; have q2 := (hS'.bl.cell (p := ⟨g, 2, none⟩) HG.out).trans HC.out.2.2.1; have q3 := (hS'.bl.cell (p := ⟨g, 3, none⟩) HG.out).trans HC.out.2.2.2; go_simp; all_goals (with_reducible rfl)
  try simp only [Act.put, pa, pb, pc]
  refine tk (v := ?_) 4 7 rfl (fun w' hS' => ?_) hS ?_
  rotate_left
  · go_simp; all_goals (with_reducible rfl)
  try simp only [Act.put, pa, pb, pc]
  refine tk (v := ?_) 5 8 rfl (fun w' hS' => ?_) hS ?_
  rotate_left
  · go_simp; all_goals (with_reducible rfl)
  try simp only [Act.put, pa, pb, pc]
  refine tk (v := ?_) 6 9 rfl (fun w' hS' => ?_) hS ?_
  rotate_left
  · go_simp; all_goals (with_reducible rfl)
  try simp only [Act.put, pa, pb, pc]
  refine tk (v := ?_) 7 10 rfl (fun w' hS' => ?_) hS ?_
  rotate_left
  · go_simp; all_goals (with_reducible rfl)
  try simp only [Act.put, pa, pb, pc]
  refine tk (v := ?_) 8 11 rfl (fun w' hS' => ?_) hS ?_
  rotate_left
  · (try dsimp only at hS'); have q0 := (hS'.bl.cell (p := ⟨g, 0, none⟩) HG.out).trans HC.out.1; have q1 := (hS'.bl.cell (p := ⟨g, 1, none⟩) HG.out).trans HC.out.2.1; have q2 := (hS'.bl.cell (p := ⟨g, 2, none⟩) HG.out).trans HC.out.2.2.1; have q3 := (hS'.bl.cell (p := ⟨g, 3, none⟩) HG.out).trans HC.out.2.2.2; go_simp; all_goals (with_reducible rfl)
  try simp only [Act.put, pa, pb, pc]
  refine tk (v := ?_) 9 12 rfl (fun w' hS' => ?_) hS ?_
  rotate_left
  · go_simp; all_goals (with_reducible rfl)
  try simp only [Act.put, pa, pb, pc]
  refine tk (v := ?_) 10 13 rfl (fun w' hS' => ?_) hS ?_
  rotate_left
  · go_simp; all_goals (with_reducible rfl)
  try simp only [Act.put, pa, pb, pc]
  refine tk (v := ?_) 11 14 rfl (fun w' hS' => ?_) hS ?_
  rotate_left
  · go_simp; all_goals (with_reducible rfl)
  try simp only [Act.put, pa, pb, pc]
  refine tk (v := ?_) 12 15 rfl (fun w' hS' => ?_) hS ?_
  rotate_left
  · go_simp; all_goals (with_reducible rfl)
  try simp only [Act.put, pa, pb, pc]
  refine tk (v := ?_) 13 16 rfl (fun w' hS' => ?_) hS ?_
  rotate_left
  · (try dsimp only at hS'); have q0 := (hS'.bl.cell (p := ⟨g, 0, none⟩) HG.out).trans HC.out.1; have q1 := (hS'.bl.cell (p := ⟨g, 1, none⟩) HG.out).trans HC.out.2.1; have q2 := (hS'.bl.cell (p := ⟨g, 2, none⟩) HG.out).trans HC.out.2.2.1; have q3 := (hS'.bl.cell (p := ⟨g, 3, none⟩) HG.out).trans HC.out.2.2.2; go_simp; all_goals (with_reducible rfl)
  try simp only [Act.put, pa, pb, pc]
  refine tk (v := ?_) 14 17 rfl (fun w' hS' => ?_) hS ?_
  rotate_left
  · go_simp; all_goals (with_reducible rfl)
  try simp only [Act.put, pa, pb, pc]
  refine tk (v := ?_) 15 18 rfl (fun w' hS' => ?_) hS ?_
  rotate_left
  · go_simp; all_goals (with_reducible rfl)
  try simp only [Act.put, pa, pb, pc]
  refine tk (v := ?_) 16 19 rfl (fun w' hS' => ?_) hS ?_
  rotate_left
  · go_simp; all_goals (with_reducible rfl)
  try simp only [Act.put, pa, pb, pc]
  refine tk (v := ?_) 17 20 rfl (fun w' hS' => ?_) hS ?_
  rotate_left
  · go_simp; all_goals (with_reducible rfl)
  try simp only [Act.put, pa, pb, pc]
  refine tk (v := ?_) 18 21 rfl (fun w' hS' => ?_) hS ?_
  rotate_left
  · (try dsimp only at hS'); have q0 := (hS'.bl.cell (p := ⟨g, 0, none⟩) HG.out).trans HC.out.1; have q1 := (hS'.bl.cell (p := ⟨g, 1, none⟩) HG.out).trans HC.out.2.1; have q2 := (hS'.bl.cell (p := ⟨g, 2, none⟩) HG.out).trans HC.out.2.2.1; have q3 := (hS'.bl.cell (p := ⟨g, 3, none⟩) HG.out).trans HC.out.2.2.2; go_simp; all_goals (with_reducible rfl)
  try simp only [Act.put, pa, pb, pc]
  refine tk (v := ?_) 19 22 rfl (fun w' hS' => ?_) hS ?_
  rotate_left
  · go_simp; all_goals (with_reducible rfl)
  try simp only [Act.put, pa, pb, pc]
  refine r1 20 none rfl (fun K hK => ?_)
  have kr0 := HM.out.cell (i := 0) (j := 0) rfl rfl
  have kr1 := HM.out.cell (i := 0) (j := 1) rfl rfl
  have kr2 := HM.out.cell (i := 0) (j := 2) rfl rfl
  have kr3 := HM.out.cell (i := 0) (j := 3) rfl rfl
  have fr0 := HM.out.free (i := 0) (j := 0) rfl
  have fr1 := HM.out.free (i := 0) (j := 1) rfl
  have fr2 := HM.out.free (i := 0) (j := 2) rfl
  have fr3 := HM.out.free (i := 0) (j := 3) rfl
  go_simp
  clear hS kr0 kr1 kr2 kr3 fr0 fr1 fr2 fr3
  have hm := HM.out.putRow (ys := [.bool sh, .slice A1 n1 c1, .slice A2 n2 c2, .int .i64 la]) rfl
  simp only [low.putRow, Nat.zero_add, Nat.reduceAdd] at hm
  replace HM := Lib.hid hm
  clear hm
  obtain ⟨W3, hW, hm⟩ := HM.out.name
  rw [← hW]
  replace HM := Lib.hid hm
  clear hm hW
  refine hK.out _ _ (HM.out.pick (ks := []) (by decide) rfl) (fun hS => ?_)
  clear hK K
  try simp only [Act.put]
  refine wpAnyH_done (by kernel_rfl) ?_ _
  clear hS
  go_wp2
  have kr0 := HM.out.cell (i := 0) (j := 0) rfl rfl
  have kr1 := HM.out.cell (i := 0) (j := 1) rfl rfl
  have kr2 := HM.out.cell (i := 0) (j := 2) rfl rfl
  have kr3 := HM.out.cell (i := 0) (j := 3) rfl rfl
  exact bodyPost_ret (v := .agg #[.bool sh, .slice A1 n1 c1, .slice A2 n2 c2, .int .i64 la]) (by simp [results, Tryz.results21, go_sem, kr0, kr1, kr2, kr3]) rfl ⟨rfl, HM.out.bl⟩
/-- an error value by its code -/
def errH (k : Int) : Value := if k = 0 then .nilIface else .iface 88 (.int .i64 k)
set_option maxRecDepth 100000 in
set_option maxHeartbeats 3200000 in
theorem checkOpen_any (v : Value) (x : Hu) (w : World) (h : RdC w w.heap.size (datHu x) v) (hs : SmHu x) : Calls Tryz.prog 17 #[v] w (fun e w' => e = .returned (errH (shutC x)) ∧ Below w.heap.size w w') := by
  have HR := Lib.hid h
  obtain ⟨A1, ca, A2, cb, rfl, r1, r2⟩ := aggHu h
  have R1 := Lib.hid r1
  have R2 := Lib.hid r2
  have hl1 := hs.docs.len
  have hl2 := hs.subs.len
  clear h r1 r2
  have HM := Lib.hid (Ms.start w)
  replace HM := Lib.hid (HM.out.new #[.bool x.shut, .slice A1 x.docs.length ca, .slice A2 x.subs.length cb, .int .i64 x.last] 30)
  generalize hE : errH (shutC x) = EV
  have HE := Lib.hid hE
  clear hE
  go_enter Tryz.func17, Tryz.ntmps17
  go_wp2_with fail
  obtain ⟨W1, hW, hm⟩ := HM.out.name
  rw [← hW]
  replace HM := Lib.hid hm
  clear hm hW
  refine (implHubOk_d _ x _ (HM.out.arg HR.out) hs).mono ?_
  rintro e' W2 ⟨rfl, b'⟩
  replace HM := Lib.hid (HM.out.past b')
  clear b'
  rcases (show hubB x = false ∨ hubB x = true by cases hubB x <;> simp) with h1 | h1
  · rw [h1]
    have H1 := Lib.hid h1
    clear h1
    have HN := Lib.hid (show errH (shutC x) = .iface 88 (.int .i64 1) by unfold errH shutC; rw [H1.out]; simp)
    go_wp2
    go_ret
    exact ⟨congrArg Ending.returned (HN.out.symm.trans HE.out), HM.out.bl⟩
  rw [h1]
  have H1 := Lib.hid h1
  clear h1
  have kx0 := HM.out.cell (i := 0) (j := 0) rfl rfl
  have kx1 := HM.out.cell (i := 0) (j := 1) rfl rfl
  have kx2 := HM.out.cell (i := 0) (j := 2) rfl rfl
  have kx3 := HM.out.cell (i := 0) (j := 3) rfl rfl
  rcases (show x.shut = false ∨ x.shut = true by cases x.shut <;> simp) with h2 | h2
  · rw [h2] at kx0
    have H2 := Lib.hid h2
    clear h2
    have HN := Lib.hid (show errH (shutC x) = .nilIface by unfold errH shutC; rw [H1.out, H2.out]; simp)
    go_wp2
    go_ret
    exact ⟨congrArg Ending.returned (HN.out.symm.trans HE.out), HM.out.bl⟩
  rw [h2] at kx0
  have H2 := Lib.hid h2
  clear h2
  have HN := Lib.hid (show errH (shutC x) = .iface 88 (.int .i64 12) by unfold errH shutC; rw [H1.out, H2.out]; simp)
  go_wp2
  go_ret
  exact ⟨congrArg Ending.returned (HN.out.symm.trans HE.out), HM.out.bl⟩
set_option maxRecDepth 100000 in
set_option maxHeartbeats 3200000 in
theorem implHubShut_d (v : Value) (x : Hu) (w : World) (h : RdC w w.heap.size (datHu x) v) (hs : SmHu x) (hg : ET w) : Calls Tryz.prog 7 #[v] w (ResN (datHu (shutT x)) (shutC x) w) := by
  have HET := Lib.hid hg
  clear hg
  have HR := Lib.hid h
  obtain ⟨A1, ca, A2, cb, rfl, r1, r2⟩ := aggHu h
  have R1 := Lib.hid r1
  have R2 := Lib.hid r2
  have hl1 := hs.docs.len
  have hl2 := hs.subs.len
  clear h r1 r2
  have HM := Lib.hid (Ms.start w)
  replace HM := Lib.hid (HM.out.new #[.bool x.shut, .slice A1 x.docs.length ca, .slice A2 x.subs.length cb, .int .i64 x.last] 30)
  have hm := HM.out.new #[.bool false, .slice none 0 0, .slice none 0 0, .int .i64 0] 30
  simp only [World.size_alloc] at hm
  replace HM := Lib.hid hm
  clear hm
  go_enter Tryz.func7, Tryz.ntmps7
  go_wp2_with fail
  obtain ⟨W1, hW, hm⟩ := HM.out.name
  rw [← hW]
  replace HM := Lib.hid hm
  clear hm hW
  refine (checkOpen_any _ x _ (HM.out.arg HR.out) hs).mono ?_
  rintro e' W2 ⟨rfl, b'⟩
  replace HM := Lib.hid (HM.out.past b')
  clear b'
  have HSC := Lib.hid (show shutC x = 1 ∨ shutC x = 12 ∨ shutC x = 0 by unfold shutC; cases hubB x <;> cases x.shut <;> simp)
  rcases HSC.out with h1 | h1 | h1
  · have HN := Lib.hid (show shutC x = 1 ∧ shutT x = noHu from ⟨h1, by unfold shutT; rw [h1]; rfl⟩)
    rw [show errH (shutC x) = .iface 88 (.int .i64 1) by rw [h1]; rfl]
    clear h1
    go_wp2_with fail
    refine (codeOf_hit 1 _ (HET.out.past rfl HM.out.bl)).mono ?_
    rintro e' W3 ⟨rfl, b'⟩
    replace HM := Lib.hid (HM.out.past b')
    clear b'
    have kr0 := HM.out.cell (i := 0) (j := 0) rfl rfl
    have kr1 := HM.out.cell (i := 0) (j := 1) rfl rfl
    have kr2 := HM.out.cell (i := 0) (j := 2) rfl rfl
    have kr3 := HM.out.cell (i := 0) (j := 3) rfl rfl
    have fr0 := HM.out.free (i := 0) (j := 0) rfl
    have fr1 := HM.out.free (i := 0) (j := 1) rfl
    have fr2 := HM.out.free (i := 0) (j := 2) rfl
    have fr3 := HM.out.free (i := 0) (j := 3) rfl
    go_wp2
    clear kr0 kr1 kr2 kr3 fr0 fr1 fr2 fr3
    have hm := HM.out.putRow (ys := [.bool false, .slice none 0 0, .slice none 0 0, .int .i64 0]) rfl
    simp only [low.putRow, Nat.zero_add, Nat.reduceAdd] at hm
    replace HM := Lib.hid hm
    clear hm
    obtain ⟨W4, hW, hm⟩ := HM.out.name
    rw [← hW]
    replace HM := Lib.hid hm
    clear hm hW
    have kr0 := HM.out.cell (i := 0) (j := 0) rfl rfl
    have kr1 := HM.out.cell (i := 0) (j := 1) rfl rfl
    have kr2 := HM.out.cell (i := 0) (j := 2) rfl rfl
    have kr3 := HM.out.cell (i := 0) (j := 3) rfl rfl
    obtain ⟨b9, hm⟩ := Ms.noHu HM.out
    rw [HN.out.1, HN.out.2]
    exact bodyPost_ret (v := .tuple #[.agg #[.bool false, .slice none 0 0, .slice none 0 0, .int .i64 0], .int .i64 1]) (by simp [results, Tryz.results7, go_sem, kr0, kr1, kr2, kr3]) rfl (hm.resN 1)
  · have HN := Lib.hid (show shutC x = 12 ∧ shutT x = noHu from ⟨h1, by unfold shutT; rw [h1]; rfl⟩)
    rw [show errH (shutC x) = .iface 88 (.int .i64 12) by rw [h1]; rfl]
    clear h1
    go_wp2_with fail
    refine (codeOf_hit 12 _ (HET.out.past rfl HM.out.bl)).mono ?_
    rintro e' W5 ⟨rfl, b'⟩
    replace HM := Lib.hid (HM.out.past b')
    clear b'
    have kr0 := HM.out.cell (i := 0) (j := 0) rfl rfl
    have kr1 := HM.out.cell (i := 0) (j := 1) rfl rfl
    have kr2 := HM.out.cell (i := 0) (j := 2) rfl rfl
    have kr3 := HM.out.cell (i := 0) (j := 3) rfl rfl
    have fr0 := HM.out.free (i := 0) (j := 0) rfl
    have fr1 := HM.out.free (i := 0) (j := 1) rfl
    have fr2 := HM.out.free (i := 0) (j := 2) rfl
    have fr3 := HM.out.free (i := 0) (j := 3) rfl
    go_wp2
    clear kr0 kr1 kr2 kr3 fr0 fr1 fr2 fr3
    have hm := HM.out.putRow (ys := [.bool false, .slice none 0 0, .slice none 0 0, .int .i64 0]) rfl
    simp only [low.putRow, Nat.zero_add, Nat.reduceAdd] at hm
    replace HM := Lib.hid hm
    clear hm
    obtain ⟨W6, hW, hm⟩ := HM.out.name
    rw [← hW]
    replace HM := Lib.hid hm
    clear hm hW
    have kr0 := HM.out.cell (i := 0) (j := 0) rfl rfl
    have kr1 := HM.out.cell (i := 0) (j := 1) rfl rfl
    have kr2 := HM.out.cell (i := 0) (j := 2) rfl rfl
    have kr3 := HM.out.cell (i := 0) (j := 3) rfl rfl
    obtain ⟨b9, hm⟩ := Ms.noHu HM.out
    rw [HN.out.1, HN.out.2]
    exact bodyPost_ret (v := .tuple #[.agg #[.bool false, .slice none 0 0, .slice none 0 0, .int .i64 0], .int .i64 12]) (by simp [results, Tryz.results7, go_sem, kr0, kr1, kr2, kr3]) rfl (hm.resN 12)
  have HN := Lib.hid (show shutC x = 0 ∧ shutT x = ⟨true, x.docs, x.subs, x.last⟩ from ⟨h1, by unfold shutT; rw [h1]; rfl⟩)
  rw [show errH (shutC x) = .nilIface by rw [h1]; rfl]
  clear h1
  have kx0 := HM.out.cell (i := 1) (j := 0) rfl rfl
  have kx1 := HM.out.cell (i := 1) (j := 1) rfl rfl
  have kx2 := HM.out.cell (i := 1) (j := 2) rfl rfl
  have kx3 := HM.out.cell (i := 1) (j := 3) rfl rfl
  go_wp2_with fail
  clear kx0 kx1 kx2 kx3
  refine (implCopyHub_d _ x _ (HM.out.arg HR.out) hs).mono ?_
  rintro e' W7 ⟨v', rfl, o', b'⟩
  obtain ⟨B1, da, B2, db, rfl, -, -⟩ := aggHu o'.read
  obtain ⟨bl, hm⟩ := HM.out.got o' b'
  clear o' b'
  replace HM := Lib.hid hm
  clear hm
  go_wp2_with fail
  refine (regs_any _ _ _ _ _ _ _ _ _).mono ?_
  rintro e' W8 ⟨g, rfl, hm9⟩
  have hm := Ms.joinH HM.out hm9
  clear hm9
  replace HM := Lib.hid hm
  clear hm
  have kg0 := HM.out.cell (i := 0) (j := 0) rfl rfl
  have kg1 := HM.out.cell (i := 0) (j := 1) rfl rfl
  have kg2 := HM.out.cell (i := 0) (j := 2) rfl rfl
  have kg3 := HM.out.cell (i := 0) (j := 3) rfl rfl
  have fg0 := HM.out.free (i := 0) (j := 0) rfl
  have fg1 := HM.out.free (i := 0) (j := 1) rfl
  have fg2 := HM.out.free (i := 0) (j := 2) rfl
  have fg3 := HM.out.free (i := 0) (j := 3) rfl
  go_wp2_with fail
  clear kg0 kg1 kg2 kg3 fg0 fg1 fg2 fg3
  have hm := HM.out.set (j := 3) (.bool true)
  simp only [pa, pb, pc] at hm
  replace HM := Lib.hid hm
  clear hm
  obtain ⟨W9, hW, hm⟩ := HM.out.name
  rw [← hW]
  replace HM := Lib.hid hm
  clear hm hW
  refine (regsHub_any true B1 B2 x.docs.length da x.subs.length db x.last g _ (HM.out.glt (i := 0) rfl).2 ⟨HM.out.cell (i := 0) (j := 0) rfl rfl, HM.out.cell (i := 0) (j := 1) rfl rfl, HM.out.cell (i := 0) (j := 2) rfl rfl, HM.out.cell (i := 0) (j := 3) rfl rfl⟩).mono ?_
  rintro e' W10 ⟨rfl, b'⟩
  replace HM := Lib.hid (HM.out.past b')
  clear b'
  have kr0 := HM.out.cell (i := 2) (j := 0) rfl rfl
  have kr1 := HM.out.cell (i := 2) (j := 1) rfl rfl
  have kr2 := HM.out.cell (i := 2) (j := 2) rfl rfl
  have kr3 := HM.out.cell (i := 2) (j := 3) rfl rfl
  have fr0 := HM.out.free (i := 2) (j := 0) rfl
  have fr1 := HM.out.free (i := 2) (j := 1) rfl
  have fr2 := HM.out.free (i := 2) (j := 2) rfl
  have fr3 := HM.out.free (i := 2) (j := 3) rfl
  go_wp2
  clear kr0 kr1 kr2 kr3 fr0 fr1 fr2 fr3
  have hm := HM.out.pk [2, 0, 1, 3] (by decide) (by simp)
  simp only [low.pk, List.getElem?_cons_zero, List.getElem?_cons_succ] at hm
  replace HM := Lib.hid hm
  clear hm
  have hm := HM.out.putRow (ys := [.bool true, .slice B1 x.docs.length da, .slice B2 x.subs.length db, .int .i64 x.last]) rfl
  simp only [low.putRow, Nat.zero_add, Nat.reduceAdd] at hm
  replace HM := Lib.hid hm
  clear hm
  obtain ⟨W11, hW, hm⟩ := HM.out.name
  rw [← hW]
  replace HM := Lib.hid hm
  clear hm hW
  have kr0 := HM.out.cell (i := 0) (j := 0) rfl rfl
  have kr1 := HM.out.cell (i := 0) (j := 1) rfl rfl
  have kr2 := HM.out.cell (i := 0) (j := 2) rfl rfl
  have kr3 := HM.out.cell (i := 0) (j := 3) rfl rfl
  have hm := HM.out.pk [2, 0, 1, 3] (by decide) (by simp)
  simp only [low.pk, List.getElem?_cons_zero, List.getElem?_cons_succ] at hm
  replace HM := Lib.hid hm
  clear hm
  obtain ⟨b9, hm⟩ := HM.out.reshut (s := true)
  rw [HN.out.1, HN.out.2]
  exact bodyPost_ret (v := .tuple #[.agg #[.bool true, .slice B1 x.docs.length da, .slice B2 x.subs.length db, .int .i64 x.last], .int .i64 0]) (by simp [results, Tryz.results7, go_sem, kr0, kr1, kr2, kr3]) rfl (hm.resN 0)
end Go.Proofs.YtamainhocghlgaaGreatDoor.low


/-
  Contracts of spec.l01Put, impl.further, impl.addBytes and impl.addSign: the encoding of one character is appended to a row of bytes of the caller's own.
-/
namespace Go.Proofs.YtamainhocghlgaaGreatDoor.low
open Go.RowKit
set_option linter.unusedVariables false

/-- v is a row of bytes of the caller's own (blocks from base on) that holds bs -/
def Buf (base : Nat) (w : World) (v : Value) (bs : List Int) : Prop := w.ownsRow base 5 1 v bs.length (bs.map (Value.int .u8)) ∧ base ≤ w.heap.size
theorem new_cells (w : World) (cs : List Value) (e : TypeId) : ∀ j u, cs[j]? = some u → (w.alloc (.cells cs.toArray e)).cell? (Addr.add ⟨w.heap.size, 0, none⟩ j) = some u := by
  intro j u hu
  have ha : (Addr.add ⟨w.heap.size, 0, none⟩ j) = ⟨w.heap.size, j, none⟩ := by unfold Addr.add; split <;> simp_all
  rw [ha]
  simpa using hu
theorem Buf.alloc {base : Nat} {w : World} {v : Value} {bs : List Int} (h : Buf base w v bs) (o : Obj) : Buf base (w.alloc o) v bs := ⟨h.1.alloc o, by have := h.2; simp; omega⟩

/-- block g is just these numbers -/
def Nums (w : World) (g : Nat) (is : List Int) : Prop := w.heap[g]? = some (.cells (is.map (Value.int .i64)).toArray 3 (0, 0))
theorem Nums.new (w : World) (is : List Int) : Nums (w.alloc (.cells (is.map (Value.int .i64)).toArray 3)) w.heap.size is := heap_alloc_new w _
theorem Nums.lt {w : World} {g : Nat} {is : List Int} (h : Nums w g is) : g < w.heap.size := by
  rcases Nat.lt_or_ge g w.heap.size with hlt | hge
  · exact hlt
  · unfold Nums at h; rw [Array.getElem?_eq_none hge] at h; cases h
theorem Nums.cell {w : World} {g : Nat} {is : List Int} (h : Nums w g is) {k : Nat} {i : Int} (hi : is[k]? = some i) : w.cell? ⟨g, k, none⟩ = some (.int .i64 i) := by
  unfold Nums at h
  simp [World.cell?, h, hi]
theorem Nums.alloc {w : World} {g : Nat} {is : List Int} (h : Nums w g is) (o : Obj) : Nums (w.alloc o) g is := (Below.heap_alloc w o g h.lt).trans h
theorem Nums.grown {w w' : World} {g base : Nat} {is bs : List Int} {v : Value} (h : Nums w g is) (hb : Buf base w v bs) (hg : w.grownBy w' v.ownBlock) : Nums w' g is := by
  refine (hg.block g h.lt ?_).trans h
  rcases hb.1.2 with ⟨rfl, _⟩ | ⟨g', cap, cur, rfl, _, hh, _⟩
  · simp [Value.ownBlock]
  · intro he
    have : g = g' := by simpa [Value.ownBlock] using he
    subst this
    unfold Nums at h
    rw [h] at hh
    injection hh with hh
    injection hh with _ ht
    exact absurd ht (by decide)
end Go.Proofs.YtamainhocghlgaaGreatDoor.low


/-
  Plain facts, of no program: how the model decodes one character of a string, case by case; the encoding of what was decoded.
-/
namespace Go.Proofs.YtamainhocghlgaaGreatDoor.low
open Go.RowKit
set_option linter.unusedVariables false

end Go.Proofs.YtamainhocghlgaaGreatDoor.low


/-
  Contracts of impl.addSign, spec.Bytes and impl.Bytes: the UTF-8 encoding of a list of characters, or the empty string where one is no character.
-/
namespace Go.Proofs.YtamainhocghlgaaGreatDoor.low
open Go.RowKit
set_option linter.unusedVariables false

/-- a call that returns this string and has made memory alone -/
def Strs (s : ByteArray) (w : World) (e : Ending) (w' : World) : Prop := e = .returned (.string s) ∧ Below w.heap.size w w'

end Go.Proofs.YtamainhocghlgaaGreatDoor.low


/-
  The contract of spec.l01Get: the character at a place of a string and its width, or zeros where no whole encoding stands.
-/
namespace Go.Proofs.YtamainhocghlgaaGreatDoor.low
open Go.RowKit
set_option linter.unusedVariables false

end Go.Proofs.YtamainhocghlgaaGreatDoor.low


/-
  Contracts of spec.Signs and impl.Signs: the characters of a string and true, or nothing and false where a byte belongs to no whole encoding.
-/
namespace Go.Proofs.YtamainhocghlgaaGreatDoor.low
open Go.RowKit
set_option linter.unusedVariables false

end Go.Proofs.YtamainhocghlgaaGreatDoor.low


/-
  Contracts of spec.l01Split and impl.splitAt: a string cut at every byte of a given value below 128.
-/
namespace Go.Proofs.YtamainhocghlgaaGreatDoor.low
open Go.RowKit
set_option linter.unusedVariables false

/-- v is a row of strings of the caller's own -/
def SBuf (base : Nat) (w : World) (v : Value) (zs : List ByteArray) : Prop := w.ownsRow base 9 1 v zs.length (zs.map Value.string) ∧ base ≤ w.heap.size
theorem SBuf.alloc {base : Nat} {w : World} {v : Value} {bs : List ByteArray} (h : SBuf base w v bs) (o : Obj) : SBuf base (w.alloc o) v bs := ⟨h.1.alloc o, by have := h.2; simp; omega⟩
theorem SBuf.nil (base : Nat) (w : World) (h : base ≤ w.heap.size) : SBuf base w (.slice none 0 0) [] := ⟨World.ownsRow_nil _ _ _ _, h⟩
theorem SBuf.slice {base : Nat} {w : World} {v : Value} {zs : List ByteArray} (h : SBuf base w v zs) : ∃ A c, v = .slice A zs.length c ∧ Row Value.string w w.heap.size A zs := by
  rcases h.1.2 with ⟨rfl, h0⟩ | ⟨g, cap, cur, rfl, _⟩
  · have : zs = [] := List.eq_nil_of_length_eq_zero h0
    subst this
    exact ⟨none, 0, rfl, Row.nil⟩
  · exact ⟨_, cap, rfl, Row.of_own h.1⟩
theorem SBuf.own {base : Nat} {w : World} {v : Value} {zs : List ByteArray} (h : SBuf base w v zs) : ∀ k, v.ownBlock = some k → base ≤ k := by
  intro k hk
  rcases h.1.2 with ⟨rfl, _⟩ | ⟨g, cap, cur, rfl, hge, _⟩
  · simp [Value.ownBlock] at hk
  · simp [Value.ownBlock] at hk; omega
theorem SBuf.past {base : Nat} {w w' : World} {v : Value} {zs : List ByteArray} (h : SBuf base w v zs) (hb : Below w.heap.size w w') : SBuf base w' v zs := by
  refine ⟨⟨h.1.1, ?_⟩, Nat.le_trans h.2 hb.size⟩
  rcases h.1.2 with hn | ⟨g, cap, cur, hv, hge, hh, hr⟩
  · exact .inl hn
  · exact .inr ⟨g, cap, cur, hv, hge, (hb.block g (lt_of_some hh)).trans hh, hr⟩
end Go.Proofs.YtamainhocghlgaaGreatDoor.low


/-
  Contracts of the laws' own eqStringS, markText, markStringS and heldStringS.
-/
namespace Go.Proofs.YtamainhocghlgaaGreatDoor.low
open Go.RowKit
set_option linter.unusedVariables false

/-- the text of a mark: the digits of k, from the last on -/
def digLoop : Nat → Int → ByteArray → ByteArray
  | 0, _, out => out
  | f + 1, k, out => if 0 < k then digLoop f (k / 10) (strOfNums [48 + k % 10] ++ out) else out
def markB (k : Int) : ByteArray := ⟨#[109]⟩ ++ digLoop k.toNat k ByteArray.empty
theorem digLoop_step {f : Nat} {k : Int} {out : ByteArray} (h : 0 < k) : digLoop (f + 1) k out = digLoop f (k / 10) (strOfNums [48 + k % 10] ++ out) := by
  show (if _ then _ else _) = _; rw [if_pos h]
theorem digLoop_end {f : Nat} {k : Int} {out : ByteArray} (h : ¬ 0 < k) : digLoop f k out = out := by
  cases f with
  | zero => rfl
  | succ f => show (if _ then _ else _) = _; rw [if_neg h]

end Go.Proofs.YtamainhocghlgaaGreatDoor.low


/-
  The text of a mark in the words of data; memory that has grown and changed in some blocks alone.
-/
namespace Go.Proofs.YtamainhocghlgaaGreatDoor.low
open Go.RowKit
set_option linter.unusedVariables false

theorem digLoop_digs : ∀ (f : Nat) (k : Int) (out : ByteArray), 0 ≤ k → digLoop f k out = ⟨(markDigs f k out.data.toList).toArray⟩
  | 0, k, out, _ => by simp [digLoop, markDigs]
  | f + 1, k, out, h => by
    show (if _ then _ else _) = _
    rw [markDigs]
    by_cases h0 : 0 < k
    · rw [if_pos h0, if_pos h0, digLoop_digs f _ _ (by omega)]
      congr 2
      have e1 : (strOfNums [48 + k % 10] ++ out).data.toList = UInt8.ofNat (48 + (k % 10).toNat) :: out.data.toList := by
        have e2 : (48 + k % 10).toNat = 48 + (k % 10).toNat := by omega
        simp [strOfNums, ByteArray.data_append, e2]
      rw [e1]
    · rw [if_neg h0, if_neg h0]
theorem markB_D {k : Int} (h : 0 ≤ k) : markB k = markD k := by
  unfold markB markD
  rw [digLoop_digs _ _ _ h]
  rfl
set_option maxHeartbeats 800000 in
theorem markText_d (k : Int) (w : World) (h0 : 0 < k) (h1 : k ≤ 4503599627370497) :
    Calls Tryz.prog 47 #[.int .i64 k] w (Strs (markD k) w) := by
  rw [← markB_D (by omega)]
  go_enter Tryz.func47, Tryz.ntmps47
  go_wp2
  go_loopw [0, 3] (fun kk o wr => ∃ (j : Int) (f : Nat) (out : ByteArray), 0 ≤ j ∧ j ≤ k ∧ kk = .int .i64 j ∧ o = .string out ∧ j.toNat ≤ f ∧ out.size + f ≤ 4503599627370498 ∧ digLoop f j out = digLoop k.toNat k ByteArray.empty ∧ Below w.heap.size w wr) (fun kk _ _ => (intOf kk).toNat)
  case atStart => exact ⟨k, k.toNat, ByteArray.empty, by omega, Int.le_refl _, rfl, rfl, Nat.le_refl _, by simp; omega, rfl, Below.refl _ _⟩
  case round =>
    obtain ⟨j, f, out, hj0, hj1, rfl, rfl, hf, hos, hd, hbel⟩ := hrel
    have HD := Lib.hid hd
    clear hd
    by_cases hlt : 0 < j
    · have hcv := run_convert_bytes_arg (P := Tryz.prog) (wr.alloc (.cells #[.int .u8 (48 + j % 10)] 5)) 137 5 Tryz.underlying137 Tryz.underlying5 wr.heap.size 0 1 1 [48 + j % 10] rfl (fun i hi => by
        obtain rfl : i = 0 := by omega
        exact new_cells wr [.int .u8 (48 + j % 10)] 5 0 _ rfl) 9 Tryz.underlying9
      have hs1 : (strOfNums [48 + j % 10]).size = 1 := by rw [strOfNums_size]; rfl
      have HS1 := Lib.hid hs1
      have hsum : (strOfNums [48 + j % 10]).size + out.size ≤ 9223372036854775807 := by omega
      clear hs1
      obtain ⟨f', rfl⟩ : ∃ f', f = f' + 1 := ⟨f - 1, by omega⟩
      have HDS := Lib.hid (digLoop_step (f := f') (out := out) hlt)
      go_wp2
      go_roundw
      case rel => exact ⟨j / 10, f', _, by omega, by omega, rfl, rfl, by omega, by rw [ByteArray.size_append, HS1.out]; omega, by rw [← HD.out, HDS.out], hbel.alloc hbel.size _⟩
      case measure => simp [intOf]; omega
    · have hsum : (ByteArray.mk #[109]).size + out.size ≤ 9223372036854775807 := by show 1 + out.size ≤ _; omega
      have HE := Lib.hid (digLoop_end (f := f) (out := out) hlt)
      go_wp2
      go_ret
      refine ⟨?_, hbel⟩
      unfold markB
      rw [← HD.out, HE.out]
      rfl
/-- memory that has grown, and changed in the blocks T alone -/
structure Grow (T : Nat → Prop) (w w' : World) : Prop where
  os : w'.os = w.os
  tape : w'.tape = w.tape
  output : w'.output = w.output
  size : w.heap.size ≤ w'.heap.size
  block : ∀ b, b < w.heap.size → ¬ T b → w'.heap[b]? = w.heap[b]?
theorem Grow.refl (T : Nat → Prop) (w : World) : Grow T w w := ⟨rfl, rfl, rfl, Nat.le_refl _, fun _ _ _ => rfl⟩
theorem Grow.trans {T : Nat → Prop} {a b c : World} (h : Grow T a b) (k : Grow T b c) : Grow T a c :=
  ⟨k.os.trans h.os, k.tape.trans h.tape, k.output.trans h.output, Nat.le_trans h.size k.size, fun i hi hn => (k.block i (Nat.lt_of_lt_of_le hi h.size) hn).trans (h.block i hi hn)⟩
theorem Grow.mono {T T' : Nat → Prop} {w w' : World} (h : Grow T w w') (hT : ∀ b, T b → T' b) : Grow T' w w' := ⟨h.os, h.tape, h.output, h.size, fun b hb hn => h.block b hb fun ht => hn (hT b ht)⟩
theorem Grow.touch {T : Nat → Prop} {w w' : World} (h : Touch T w w') : Grow T w w' := ⟨h.os, h.tape, h.output, Nat.le_of_eq h.size.symm, fun b _ hn => h.block b hn⟩
theorem Grow.below {T : Nat → Prop} {w w' : World} (h : Below w.heap.size w w') : Grow T w w' := ⟨h.os, h.tape, h.output, h.size, fun b hb _ => h.block b hb⟩
theorem Grow.set {T : Nat → Prop} {w w' : World} (h : Grow T w w') {g o : Nat} (hg : T g) (x : Value) : Grow T w (w'.setCell ⟨g, o, none⟩ x) := h.trans (Grow.touch (touch_set (Touch.refl T w') hg x))
/-- such memory is one that has grown, and then changed in the blocks alone -/
theorem Grow.cut {bs : List Nat} {w w' : World} (h : Grow (fun b => b ∈ bs) w w') : ∃ w1, Below w.heap.size w w1 ∧ Touch (fun b => b ∈ bs) w1 w' := by
  refine ⟨{ w' with heap := w'.heap.mapIdx (fun q o => if q ∈ bs then (w.heap[q]?).getD o else o) }, ⟨h.os, h.tape, h.output, by simpa using h.size, fun q hq => ?_⟩, ⟨rfl, rfl, rfl, by simp, fun q hq => ?_⟩⟩
  · have h1 : q < w'.heap.size := Nat.lt_of_lt_of_le hq h.size
    show (w'.heap.mapIdx _)[q]? = _
    rw [Array.getElem?_mapIdx, Array.getElem?_eq_getElem h1]
    by_cases hb : q ∈ bs
    · simp [hb, Array.getElem?_eq_getElem hq]
    · have h2 := h.block q hq hb
      rw [Array.getElem?_eq_getElem h1] at h2
      simp [hb, ← h2]
  · show _ = (w'.heap.mapIdx _)[q]?
    rw [Array.getElem?_mapIdx]
    simp [hq]
end Go.Proofs.YtamainhocghlgaaGreatDoor.low


/-
  The laws' mark and held on slices of the struct type Doc. Written by mkmark.py.
-/
namespace Go.Proofs.YtamainhocghlgaaGreatDoor.low
open Go.RowKit
set_option linter.unusedVariables false
theorem mkDo_l9 (k : Int) (x : Do) : mkL k (encDo x) = [.str (markD (k)), .int (k + 1), mkC (k + 1 + 1) (encInts x.text), mkC (k + 1 + 1 + (cntC (encInts x.text) : Int)) (encEns x.list), mkC (k + 1 + 1 + (cntC (encInts x.text) : Int) + (cntC (encEns x.list) : Int)) (encSes x.seen)] := by
  show mkL k [.str x.name, .int x.from_, encInts x.text, encEns x.list, encSes x.seen] = _
  simp [mkL, mkC, cntC]
  try exact decide_eq_decide.2 Iff.rfl

set_option maxRecDepth 100000 in
set_option maxHeartbeats 3200000 in
theorem mkDos_r (v : Value) (l : List Do) (bs : List Nat) (k : Int) (w : World) (h : OwC w (encDos l) v bs) (hnd : bs.Nodup) (h0 : 0 < k) (h1 : k + (cntC (encDos l) : Int) ≤ 4503599627370496) (hs : SmDos l) :
    Calls Tryz.prog 24 #[v, .int .i64 k] w (MarkG k (encDos l) v bs w) := by
  have hlen : (l.map encDo).length = l.length := by simp
  have hll := hs.len
  rcases h.cases with ⟨rfl, hds, rfl⟩ | ⟨g, cap, rfl⟩
  · have hz : l = [] := by simpa using hds
    subst hz
    go_enter Tryz.func24, Tryz.ntmps24
    go_wp2
    refine wp_loop_rounds 1 ?_
    rw [rounds_succ]
    go_wp2
    go_ret
    exact ⟨by rw [show cntC (encDos []) = 0 from rfl]; simp, h, w, Below.refl _ _, Touch.refl _ _⟩
  · have HC := Lib.hid (show ∀ j x, l[j]? = some x → k + (cntR ((l.map encDo).take j) : Int) + (cntL (encDo x) : Int) ≤ 4503599627370496 ∧ cntR ((l.map encDo).take (j + 1)) = cntR ((l.map encDo).take j) + cntL (encDo x) from fun j x hp => by
      have hj : (l.map encDo)[j]? = some (encDo x) := by rw [List.getElem?_map, hp]; rfl
      have a1 := cntR_at hj
      have a2 : cntC (encDos l) = cntR (l.map encDo) := rfl
      rw [a2] at h1
      exact ⟨by omega, cntR_snoc hj⟩)
    have HE : Hid (cntC (encDos l) = cntR (l.map encDo)) := rfl
    have HM : Hid (mkC k (encDos l) = .rows 75 5 (mkR k (l.map encDo))) := rfl
    have HAT := Lib.hid (show ∀ j, j < l.length → ∃ x, l[j]? = some x ∧ (l.map encDo)[j]? = some (encDo x) from fun j hj => map_at hj)
    change OwC w (.rows 75 5 (l.map encDo)) (.slice _ (l.map encDo).length _) bs at h
    change Calls _ _ #[.slice _ (l.map encDo).length _, _] _ (MarkG _ _ (.slice _ (l.map encDo).length _) _ _)
    have HL := Lib.hid hlen
    rw [hlen] at h ⊢
    clear hlen h1
    generalize l.map encDo = D at *
    have hgin := h.head
    go_enter Tryz.func24, Tryz.ntmps24
    go_wp2
    go_loopw [1, 5] (fun kk i wr => ∃ j : Nat, j ≤ l.length ∧ i = .int .i64 j ∧ kk = .int .i64 (k + (cntR (D.take j) : Int)) ∧ OwC wr (.rows 75 5 (mkR k (D.take j) ++ D.drop j)) (.slice (some ⟨g, 0, none⟩) l.length cap) bs ∧ Grow (fun b => b ∈ bs) w wr) (fun _ i _ => l.length - (intOf i).toNat)
    case atStart => exact ⟨0, Nat.zero_le _, rfl, by simp [cntR], by rw [mk_none]; exact h, Grow.refl _ _⟩
    case round =>
      obtain ⟨j, hj, rfl, rfl, ho, ht⟩ := hrel
      clear h
      by_cases hlt : j < l.length
      · obtain ⟨x, hp, hD⟩ := HAT.out j hlt
        obtain ⟨kb, kc⟩ := HC.out j x hp
        rw [cntDo_l] at kb kc
        have hsx := hs.at_ (List.mem_of_getElem? hp)
        have hk0 : 0 < k + (cntR (D.take j) : Int) := by omega
        have K := Lib.hid kc
        have hst := Lib.hid (mk_set k hD)
        rw [mkDo_l9] at hst
        have hself := set_same (mk_at k hD)
        rw [← hself] at ho
        have hjl : j < (mkR k (D.take j) ++ D.drop j).length := by rw [mk_len, HL.out]; exact hlt
        generalize hkk : k + (cntR (D.take j) : Int) = kk at *
        have HKK := Lib.hid hkk
        clear hkk
        have HT := Lib.hid ht
        have HJ := Lib.hid hjl
        have o0 := ho
        clear ho ht hjl hD hp hself kc
        have O0 := Lib.hid o0
        clear o0
        go_wp2_with fail
        have H0 := Lib.hid (show Grow (fun b => b ∈ bs) w _ from HT.out)
        have N0 := Lib.hid O0.out
        refine (markText_d (kk) _ (by omega) (by omega)).mono ?_
        rintro e w1 ⟨rfl, b1⟩
        have o1 := OwC.keep _ _ _ N0.out (fun q hq => b1.block q (N0.out.lt _ _ _ q hq))
        have T1 := Lib.hid (H0.out.trans (Grow.below b1))
        clear N0 b1
        have x0 := o1.get HJ.out 0 (d := .str x.name) rfl rfl
        have f0 := o1.frozen (j * 5)
        rw [Nat.add_zero] at x0
        have x1 := o1.get HJ.out 1 (d := .int x.from_) rfl rfl
        have f1 := o1.frozen (j * 5 + 1)
        obtain ⟨u2, c2, x2, r2, _⟩ := o1.sub hnd HJ.out 2 (d := encInts x.text) rfl
        obtain ⟨A2, e2, rfl⟩ := sliceI (r2.read _ _ _ (fun b hb => r2.lt _ _ _ b hb))
        clear r2
        have O1 := Lib.hid o1
        clear o1
        go_wp2_with fail
        have p1_0 := O1.out.put hnd HJ.out 0 (d := .str x.name) rfl rfl (d' := .str (markD (kk))) rfl
        rw [Nat.add_zero] at p1_0
        have p1_1 := p1_0.put hnd HJ.out 1 (d := .int x.from_) rfl rfl (d' := .int (kk + 1)) rfl
        have H1 := Lib.hid (show Grow (fun b => b ∈ bs) w _ from ((T1.out.set hgin (o := j * 5) (.string (markD (kk)))).set hgin (o := j * 5 + 1) (.int .i64 (kk + 1))))
        obtain ⟨u', c', y', q', nd', sub', _, back'⟩ := p1_1.sub hnd HJ.out 2 (d := encInts x.text) rfl
        have yy := (cell_set (x := .int .i64 (kk + 1)) (a := j * 5 + 1) (cell_set (x := .string (markD (kk))) (a := j * 5) x2 (by omega)) (by omega))
        rw [yy] at y'
        injection y' with y'
        subst y'
        clear yy
        refine (mkI_r _ x.text c' (kk + 1 + 1) _ q' nd' (by omega) (by omega) hsx.text).mono ?_
        rintro e w2 ⟨rfl, q'', t''⟩
        have o2 := back' w2 _ q'' t''
        have T2 := Lib.hid (H1.out.trans (Grow.touch (t''.mono sub')))
        clear x0 f0 x1 f1 p1_0 p1_1 x2 back' q' q'' t'' nd'
        obtain ⟨u3, c3, x3, r3, _⟩ := o2.sub hnd HJ.out 3 (d := encEns x.list) rfl
        obtain ⟨A3, e3, rfl⟩ := sliceEns (r3.read _ _ _ (fun b hb => r3.lt _ _ _ b hb))
        clear r3
        have O2 := Lib.hid o2
        clear o2
        go_wp2_with fail
        have H2 := Lib.hid (show Grow (fun b => b ∈ bs) w _ from T2.out)
        obtain ⟨u', c', y', q', nd', sub', _, back'⟩ := O2.out.sub hnd HJ.out 3 (d := encEns x.list) rfl
        have yy := x3
        rw [yy] at y'
        injection y' with y'
        subst y'
        clear yy
        refine (mkEns_r _ x.list c' (kk + 1 + 1 + (cntC (encInts x.text) : Int)) _ q' nd' (by omega) (by omega) hsx.list).mono ?_
        rintro e w3 ⟨rfl, q'', t''⟩
        have o3 := back' w3 _ q'' t''
        have T3 := Lib.hid (H2.out.trans (Grow.touch (t''.mono sub')))
        clear  x3 back' q' q'' t'' nd'
        obtain ⟨u4, c4, x4, r4, _⟩ := o3.sub hnd HJ.out 4 (d := encSes x.seen) rfl
        obtain ⟨A4, e4, rfl⟩ := sliceSes (r4.read _ _ _ (fun b hb => r4.lt _ _ _ b hb))
        clear r4
        have O3 := Lib.hid o3
        clear o3
        go_wp2_with fail
        have H3 := Lib.hid (show Grow (fun b => b ∈ bs) w _ from T3.out)
        obtain ⟨u', c', y', q', nd', sub', _, back'⟩ := O3.out.sub hnd HJ.out 4 (d := encSes x.seen) rfl
        have yy := x4
        rw [yy] at y'
        injection y' with y'
        subst y'
        clear yy
        refine (mkSes_r _ x.seen c' (kk + 1 + 1 + (cntC (encInts x.text) : Int) + (cntC (encEns x.list) : Int)) _ q' nd' (by omega) (by omega) hsx.seen).mono ?_
        rintro e w4 ⟨rfl, q'', t''⟩
        have o4 := back' w4 _ q'' t''
        have T4 := Lib.hid (H3.out.trans (Grow.touch (t''.mono sub')))
        clear  x4 back' q' q'' t'' nd'
        have O4 := Lib.hid o4
        clear o4
        go_wp2
        have H4 := Lib.hid (show Grow (fun b => b ∈ bs) w _ from T4.out)
        go_roundw
        case rel =>
          refine ⟨j + 1, by omega, by go_num, ?_, ?_, H4.out⟩
          · congr 1
            have := HKK.out
            rw [K.out]
            omega
          · rw [← hst.out]
            exact O4.out
        case measure => simp [intOf]; omega
      · obtain rfl : j = l.length := by omega
        go_wp2
        go_ret
        refine ⟨?_, ?_, ht.cut⟩
        · rw [HE.out, List.take_of_length_le (by rw [HL.out]; omega)]
          try rfl
        · rw [HM.out]
          rw [← HL.out, mk_all] at ho
          rw [← HL.out]
          exact ho

set_option maxRecDepth 100000 in
set_option maxHeartbeats 3200000 in
theorem hdDos_r (v : Value) (l : List Do) (k : Int) (w : World) (h : RdC w w.heap.size (mkC k (encDos l)) v) (h0 : 0 < k) (h1 : k + (cntC (encDos l) : Int) ≤ 4503599627370496) (hs : SmDos l) :
    Calls Tryz.prog 26 #[v, .int .i64 k] w (HeldG k (encDos l) w) := by
  have hll := hs.len
  have HC := Lib.hid (show ∀ j x, l[j]? = some x → k + (cntR ((l.map encDo).take j) : Int) + (cntL (encDo x) : Int) ≤ 4503599627370496 ∧ cntR ((l.map encDo).take (j + 1)) = cntR ((l.map encDo).take j) + cntL (encDo x) from fun j x hp => by
    have hj : (l.map encDo)[j]? = some (encDo x) := by rw [List.getElem?_map, hp]; rfl
    have a1 := cntR_at hj
    have a2 : cntC (encDos l) = cntR (l.map encDo) := rfl
    rw [a2] at h1
    exact ⟨by omega, cntR_snoc hj⟩)
  have HE : Hid (cntC (encDos l) = cntR (l.map encDo)) := rfl
  have HAT := Lib.hid (show ∀ j, j < l.length → ∃ x, l[j]? = some x ∧ (l.map encDo)[j]? = some (encDo x) from fun j hj => map_at hj)
  have hlen : (l.map encDo).length = l.length := by simp
  have h : RdC w w.heap.size (.rows 75 5 (mkR k (l.map encDo))) v := h
  generalize l.map encDo = D at *
  obtain ⟨A, c, rfl, _⟩ := h.len
  have HL := Lib.hid hlen
  rw [mkR_len, hlen] at h ⊢
  clear hlen h1
  go_enter Tryz.func26, Tryz.ntmps26
  go_wp2
  go_loopw [1, 5] (fun kk i wr => ∃ j : Nat, j ≤ l.length ∧ i = .int .i64 j ∧ kk = .int .i64 (k + (cntR (D.take j) : Int)) ∧ Below w.heap.size w wr) (fun _ i _ => l.length - (intOf i).toNat)
  case atStart => exact ⟨0, Nat.zero_le _, rfl, by simp [cntR], Below.refl _ _⟩
  case round =>
    obtain ⟨j, hj, rfl, rfl, hbel⟩ := hrel
    by_cases hlt : j < l.length
    · obtain ⟨x, hp, hD⟩ := HAT.out j hlt
      obtain ⟨kb, kc⟩ := HC.out j x hp
      rw [cntDo_l] at kb kc
      have hsx := hs.at_ (List.mem_of_getElem? hp)
      have hk0 : 0 < k + (cntR (D.take j) : Int) := by omega
      have K := Lib.hid kc
      obtain ⟨ad, r, rfl, hb, hsp, hr, hrl⟩ := h.at_ (i := j) (by rw [mkR_len, HL.out]; exact hlt)
      rw [mkR_at D k j _ hD, mkDo_l9] at hr
      obtain rfl : _ = r := by injection hr
      clear hr hD hp kc
      generalize hkk : k + (cntR (D.take j) : Int) = kk at *
      have HKK := Lib.hid hkk
      clear hkk
      obtain ⟨b, off, spot⟩ := ad
      obtain rfl : spot = none := by
        rcases hsp with hsp | hsp
        · cases hsp
        · exact hsp
      obtain ⟨⟨v0, z0, rfl⟩, ⟨v1, z1, rfl⟩, ⟨v2, z2, r2⟩, ⟨v3, z3, r3⟩, ⟨v4, z4, r4⟩, _⟩ := hrl
      obtain ⟨A2, e2, rfl⟩ := mklI r2
      obtain ⟨A3, e3, rfl⟩ := mklEns r3
      obtain ⟨A4, e4, rfl⟩ := mklSes r4
      rw [add_at] at z0 z1 z2 z3 z4
      rw [← Nat.add_assoc] at z1
      rw [← Nat.add_assoc, ← Nat.add_assoc] at z2
      rw [← Nat.add_assoc, ← Nat.add_assoc, ← Nat.add_assoc] at z3
      rw [← Nat.add_assoc, ← Nat.add_assoc, ← Nat.add_assoc, ← Nat.add_assoc] at z4
      have R2 := Lib.hid r2
      clear r2
      have R3 := Lib.hid r3
      clear r3
      have R4 := Lib.hid r4
      clear r4
      clear hsp
      have x0 := (hbel.cell (p := ⟨b, off + j * 5, none⟩) hb).trans z0
      have x1 := (hbel.cell (p := ⟨b, off + j * 5 + 1, none⟩) hb).trans z1
      have x2 := (hbel.cell (p := ⟨b, off + j * 5 + 2, none⟩) hb).trans z2
      have x3 := (hbel.cell (p := ⟨b, off + j * 5 + 3, none⟩) hb).trans z3
      have x4 := (hbel.cell (p := ⟨b, off + j * 5 + 4, none⟩) hb).trans z4
      have hq0 : ((markD (kk)).toList != (markD (kk)).toList) = false := by simp
      have lb : b < wr.heap.size := Nat.lt_of_lt_of_le hb hbel.size
      have SX := Lib.hid (show ∀ (W W1 : World), (W.cell? ⟨b, off + j * 5, none⟩ = some (.string (markD (kk))) ∧ KS wr W) → Below W.heap.size W W1 → (W1.cell? ⟨b, off + j * 5, none⟩ = some (.string (markD (kk))) ∧ KS wr W1) from fun W W1 h hb1 => ⟨(hb1.cell (p := ⟨b, off + j * 5, none⟩) (Nat.lt_of_lt_of_le lb h.2.size)).trans h.1, h.2.trans (hb1.mono h.2.size)⟩)
      have hS0 : wr.drew.cell? ⟨b, off + j * 5, none⟩ = some (.string (markD (kk))) ∧ KS wr wr.drew := ⟨x0, KS.start _⟩
      clear x0 x1 x2 x3 x4
      go_wp2
      go_region_held3 (fun W => W.cell? ⟨b, off + j * 5, none⟩ = some (.string (markD (kk))) ∧ KS wr W)
        (first | assumption | exact hS0 | (exact SX.out _ _ (by assumption) b1))
        (first | (go_at_call 47; refine (markText_d (kk) _ (by omega) (by omega)).mono ?_; rintro e u1 ⟨rfl, b1⟩))
      rename_i hS2
      have D1 : Below w.heap.size w u1 := hbel.trans (hS2.2.mono hbel.size)
      clear hS2 hS0 SX lb
      have x0 := (D1.cell (p := ⟨b, off + j * 5, none⟩) hb).trans z0
      have x1 := (D1.cell (p := ⟨b, off + j * 5 + 1, none⟩) hb).trans z1
      have x2 := (D1.cell (p := ⟨b, off + j * 5 + 2, none⟩) hb).trans z2
      have x3 := (D1.cell (p := ⟨b, off + j * 5 + 3, none⟩) hb).trans z3
      have x4 := (D1.cell (p := ⟨b, off + j * 5 + 4, none⟩) hb).trans z4
      go_wp2_with fail
      refine (hdI_r _ x.text (kk + 1 + 1) _ (R2.out.past D1) (by omega) (by omega) hsx.text).mono ?_
      rintro e w2 ⟨rfl, rfl⟩
      have nn2 : 0 ≤ kk + 1 + 1 + (cntC (encInts x.text) : Int) := by omega
      go_wp2_with fail
      refine (hdEns_r _ x.list (kk + 1 + 1 + (cntC (encInts x.text) : Int)) _ (R3.out.past D1) (by omega) (by omega) hsx.list).mono ?_
      rintro e w3 ⟨rfl, rfl⟩
      have nn3 : 0 ≤ kk + 1 + 1 + (cntC (encInts x.text) : Int) + (cntC (encEns x.list) : Int) := by omega
      go_wp2_with fail
      refine (hdSes_r _ x.seen (kk + 1 + 1 + (cntC (encInts x.text) : Int) + (cntC (encEns x.list) : Int)) _ (R4.out.past D1) (by omega) (by omega) hsx.seen).mono ?_
      rintro e w4 ⟨rfl, rfl⟩
      have nn4 : 0 ≤ kk + 1 + 1 + (cntC (encInts x.text) : Int) + (cntC (encEns x.list) : Int) + (cntC (encSes x.seen) : Int) := by omega
      go_wp2
      go_roundw
      case rel =>
        refine ⟨j + 1, by omega, by go_num, ?_, D1⟩
        congr 1
        have := HKK.out
        rw [K.out]
        omega
      case measure => simp [intOf]; omega
    · obtain rfl : j = l.length := by omega
      go_wp2
      go_ret
      refine ⟨?_, hbel⟩
      rw [HE.out, List.take_of_length_le (by rw [HL.out]; omega)]
      try rfl
end Go.Proofs.YtamainhocghlgaaGreatDoor.low


/-
  The laws' mark and held on slices of the struct type Sub. Written by mkmark.py.
-/
namespace Go.Proofs.YtamainhocghlgaaGreatDoor.low
open Go.RowKit
set_option linter.unusedVariables false
theorem mkSu_l9 (k : Int) (x : Su) : mkL k (encSu x) = [.int (k), .str (markD (k + 1)), .int (k + 1 + 1), .int (k + 1 + 1 + 1), .bool (decide ((k + 1 + 1 + 1 + 1) % 3 = 0)), mkC (k + 1 + 1 + 1 + 1 + 1) (encEns x.list)] := by
  show mkL k [.int x.id, .str x.doc, .int x.cap, .int x.next, .bool x.out, encEns x.list] = _
  simp [mkL, mkC, cntC]
  try exact decide_eq_decide.2 Iff.rfl

set_option maxRecDepth 100000 in
set_option maxHeartbeats 3200000 in
theorem mkSus_r (v : Value) (l : List Su) (bs : List Nat) (k : Int) (w : World) (h : OwC w (encSus l) v bs) (hnd : bs.Nodup) (h0 : 0 < k) (h1 : k + (cntC (encSus l) : Int) ≤ 4503599627370496) (hs : SmSus l) :
    Calls Tryz.prog 25 #[v, .int .i64 k] w (MarkG k (encSus l) v bs w) := by
  have hlen : (l.map encSu).length = l.length := by simp
  have hll := hs.len
  rcases h.cases with ⟨rfl, hds, rfl⟩ | ⟨g, cap, rfl⟩
  · have hz : l = [] := by simpa using hds
    subst hz
    go_enter Tryz.func25, Tryz.ntmps25
    go_wp2
    refine wp_loop_rounds 1 ?_
    rw [rounds_succ]
    go_wp2
    go_ret
    exact ⟨by rw [show cntC (encSus []) = 0 from rfl]; simp, h, w, Below.refl _ _, Touch.refl _ _⟩
  · have HC := Lib.hid (show ∀ j x, l[j]? = some x → k + (cntR ((l.map encSu).take j) : Int) + (cntL (encSu x) : Int) ≤ 4503599627370496 ∧ cntR ((l.map encSu).take (j + 1)) = cntR ((l.map encSu).take j) + cntL (encSu x) from fun j x hp => by
      have hj : (l.map encSu)[j]? = some (encSu x) := by rw [List.getElem?_map, hp]; rfl
      have a1 := cntR_at hj
      have a2 : cntC (encSus l) = cntR (l.map encSu) := rfl
      rw [a2] at h1
      exact ⟨by omega, cntR_snoc hj⟩)
    have HE : Hid (cntC (encSus l) = cntR (l.map encSu)) := rfl
    have HM : Hid (mkC k (encSus l) = .rows 80 6 (mkR k (l.map encSu))) := rfl
    have HAT := Lib.hid (show ∀ j, j < l.length → ∃ x, l[j]? = some x ∧ (l.map encSu)[j]? = some (encSu x) from fun j hj => map_at hj)
    change OwC w (.rows 80 6 (l.map encSu)) (.slice _ (l.map encSu).length _) bs at h
    change Calls _ _ #[.slice _ (l.map encSu).length _, _] _ (MarkG _ _ (.slice _ (l.map encSu).length _) _ _)
    have HL := Lib.hid hlen
    rw [hlen] at h ⊢
    clear hlen h1
    generalize l.map encSu = D at *
    have hgin := h.head
    go_enter Tryz.func25, Tryz.ntmps25
    go_wp2
    go_loopw [1, 5] (fun kk i wr => ∃ j : Nat, j ≤ l.length ∧ i = .int .i64 j ∧ kk = .int .i64 (k + (cntR (D.take j) : Int)) ∧ OwC wr (.rows 80 6 (mkR k (D.take j) ++ D.drop j)) (.slice (some ⟨g, 0, none⟩) l.length cap) bs ∧ Grow (fun b => b ∈ bs) w wr) (fun _ i _ => l.length - (intOf i).toNat)
    case atStart => exact ⟨0, Nat.zero_le _, rfl, by simp [cntR], by rw [mk_none]; exact h, Grow.refl _ _⟩
    case round =>
      obtain ⟨j, hj, rfl, rfl, ho, ht⟩ := hrel
      clear h
      by_cases hlt : j < l.length
      · obtain ⟨x, hp, hD⟩ := HAT.out j hlt
        obtain ⟨kb, kc⟩ := HC.out j x hp
        rw [cntSu_l] at kb kc
        have hsx := hs.at_ (List.mem_of_getElem? hp)
        have hk0 : 0 < k + (cntR (D.take j) : Int) := by omega
        have K := Lib.hid kc
        have hst := Lib.hid (mk_set k hD)
        rw [mkSu_l9] at hst
        have hself := set_same (mk_at k hD)
        rw [← hself] at ho
        have hjl : j < (mkR k (D.take j) ++ D.drop j).length := by rw [mk_len, HL.out]; exact hlt
        generalize hkk : k + (cntR (D.take j) : Int) = kk at *
        have HKK := Lib.hid hkk
        clear hkk
        have HT := Lib.hid ht
        have HJ := Lib.hid hjl
        have o0 := ho
        clear ho ht hjl hD hp hself kc
        have x0 := o0.get HJ.out 0 (d := .int x.id) rfl rfl
        have f0 := o0.frozen (j * 6)
        rw [Nat.add_zero] at x0
        have O0 := Lib.hid o0
        clear o0
        go_wp2_with fail
        have p0_0 := O0.out.put hnd HJ.out 0 (d := .int x.id) rfl rfl (d' := .int (kk)) rfl
        rw [Nat.add_zero] at p0_0
        have H0 := Lib.hid (show Grow (fun b => b ∈ bs) w _ from (HT.out.set hgin (o := j * 6) (.int .i64 (kk))))
        have N0 := Lib.hid p0_0
        clear x0 f0
        clear p0_0
        refine (markText_d (kk + 1) _ (by omega) (by omega)).mono ?_
        rintro e w1 ⟨rfl, b1⟩
        have o1 := OwC.keep _ _ _ N0.out (fun q hq => b1.block q (N0.out.lt _ _ _ q hq))
        have T1 := Lib.hid (H0.out.trans (Grow.below b1))
        clear N0 b1
        have x1 := o1.get HJ.out 1 (d := .str x.doc) rfl rfl
        have f1 := o1.frozen (j * 6 + 1)
        have x2 := o1.get HJ.out 2 (d := .int x.cap) rfl rfl
        have f2 := o1.frozen (j * 6 + 2)
        have x3 := o1.get HJ.out 3 (d := .int x.next) rfl rfl
        have f3 := o1.frozen (j * 6 + 3)
        have x4 := o1.get HJ.out 4 (d := .bool x.out) rfl rfl
        have f4 := o1.frozen (j * 6 + 4)
        obtain ⟨u5, c5, x5, r5, _⟩ := o1.sub hnd HJ.out 5 (d := encEns x.list) rfl
        obtain ⟨A5, e5, rfl⟩ := sliceEns (r5.read _ _ _ (fun b hb => r5.lt _ _ _ b hb))
        clear r5
        have hb4 : ((kk + 1 + 1 + 1 + 1) % 3 == 0) = decide ((kk + 1 + 1 + 1 + 1) % 3 = 0) := by rw [Bool.eq_iff_iff]; simp
        have O1 := Lib.hid o1
        clear o1
        go_wp2_with fail
        have p1_0 := O1.out.put hnd HJ.out 1 (d := .str x.doc) rfl rfl (d' := .str (markD (kk + 1))) rfl
        have p1_1 := p1_0.put hnd HJ.out 2 (d := .int x.cap) rfl rfl (d' := .int (kk + 1 + 1)) rfl
        have p1_2 := p1_1.put hnd HJ.out 3 (d := .int x.next) rfl rfl (d' := .int (kk + 1 + 1 + 1)) rfl
        have p1_3 := p1_2.put hnd HJ.out 4 (d := .bool x.out) rfl rfl (d' := .bool (decide ((kk + 1 + 1 + 1 + 1) % 3 = 0))) rfl
        have H1 := Lib.hid (show Grow (fun b => b ∈ bs) w _ from ((((T1.out.set hgin (o := j * 6 + 1) (.string (markD (kk + 1)))).set hgin (o := j * 6 + 2) (.int .i64 (kk + 1 + 1))).set hgin (o := j * 6 + 3) (.int .i64 (kk + 1 + 1 + 1))).set hgin (o := j * 6 + 4) (.bool (decide ((kk + 1 + 1 + 1 + 1) % 3 = 0)))))
        obtain ⟨u', c', y', q', nd', sub', _, back'⟩ := p1_3.sub hnd HJ.out 5 (d := encEns x.list) rfl
        have yy := (cell_set (x := .bool (decide ((kk + 1 + 1 + 1 + 1) % 3 = 0))) (a := j * 6 + 4) (cell_set (x := .int .i64 (kk + 1 + 1 + 1)) (a := j * 6 + 3) (cell_set (x := .int .i64 (kk + 1 + 1)) (a := j * 6 + 2) (cell_set (x := .string (markD (kk + 1))) (a := j * 6 + 1) x5 (by omega)) (by omega)) (by omega)) (by omega))
        rw [yy] at y'
        injection y' with y'
        subst y'
        clear yy
        refine (mkEns_r _ x.list c' (kk + 1 + 1 + 1 + 1 + 1) _ q' nd' (by omega) (by omega) hsx.list).mono ?_
        rintro e w2 ⟨rfl, q'', t''⟩
        have o2 := back' w2 _ q'' t''
        have T2 := Lib.hid (H1.out.trans (Grow.touch (t''.mono sub')))
        clear x1 f1 x2 f2 x3 f3 x4 f4 p1_0 p1_1 p1_2 p1_3 x5 back' q' q'' t'' nd'
        have O2 := Lib.hid o2
        clear o2
        go_wp2
        have H2 := Lib.hid (show Grow (fun b => b ∈ bs) w _ from T2.out)
        go_roundw
        case rel =>
          refine ⟨j + 1, by omega, by go_num, ?_, ?_, H2.out⟩
          · congr 1
            have := HKK.out
            rw [K.out]
            omega
          · rw [← hst.out]
            exact O2.out
        case measure => simp [intOf]; omega
      · obtain rfl : j = l.length := by omega
        go_wp2
        go_ret
        refine ⟨?_, ?_, ht.cut⟩
        · rw [HE.out, List.take_of_length_le (by rw [HL.out]; omega)]
          try rfl
        · rw [HM.out]
          rw [← HL.out, mk_all] at ho
          rw [← HL.out]
          exact ho

set_option maxRecDepth 100000 in
set_option maxHeartbeats 3200000 in
theorem hdSus_r (v : Value) (l : List Su) (k : Int) (w : World) (h : RdC w w.heap.size (mkC k (encSus l)) v) (h0 : 0 < k) (h1 : k + (cntC (encSus l) : Int) ≤ 4503599627370496) (hs : SmSus l) :
    Calls Tryz.prog 27 #[v, .int .i64 k] w (HeldG k (encSus l) w) := by
  have hll := hs.len
  have HC := Lib.hid (show ∀ j x, l[j]? = some x → k + (cntR ((l.map encSu).take j) : Int) + (cntL (encSu x) : Int) ≤ 4503599627370496 ∧ cntR ((l.map encSu).take (j + 1)) = cntR ((l.map encSu).take j) + cntL (encSu x) from fun j x hp => by
    have hj : (l.map encSu)[j]? = some (encSu x) := by rw [List.getElem?_map, hp]; rfl
    have a1 := cntR_at hj
    have a2 : cntC (encSus l) = cntR (l.map encSu) := rfl
    rw [a2] at h1
    exact ⟨by omega, cntR_snoc hj⟩)
  have HE : Hid (cntC (encSus l) = cntR (l.map encSu)) := rfl
  have HAT := Lib.hid (show ∀ j, j < l.length → ∃ x, l[j]? = some x ∧ (l.map encSu)[j]? = some (encSu x) from fun j hj => map_at hj)
  have hlen : (l.map encSu).length = l.length := by simp
  have h : RdC w w.heap.size (.rows 80 6 (mkR k (l.map encSu))) v := h
  generalize l.map encSu = D at *
  obtain ⟨A, c, rfl, _⟩ := h.len
  have HL := Lib.hid hlen
  rw [mkR_len, hlen] at h ⊢
  clear hlen h1
  go_enter Tryz.func27, Tryz.ntmps27
  go_wp2
  go_loopw [1, 5] (fun kk i wr => ∃ j : Nat, j ≤ l.length ∧ i = .int .i64 j ∧ kk = .int .i64 (k + (cntR (D.take j) : Int)) ∧ Below w.heap.size w wr) (fun _ i _ => l.length - (intOf i).toNat)
  case atStart => exact ⟨0, Nat.zero_le _, rfl, by simp [cntR], Below.refl _ _⟩
  case round =>
    obtain ⟨j, hj, rfl, rfl, hbel⟩ := hrel
    by_cases hlt : j < l.length
    · obtain ⟨x, hp, hD⟩ := HAT.out j hlt
      obtain ⟨kb, kc⟩ := HC.out j x hp
      rw [cntSu_l] at kb kc
      have hsx := hs.at_ (List.mem_of_getElem? hp)
      have hk0 : 0 < k + (cntR (D.take j) : Int) := by omega
      have K := Lib.hid kc
      obtain ⟨ad, r, rfl, hb, hsp, hr, hrl⟩ := h.at_ (i := j) (by rw [mkR_len, HL.out]; exact hlt)
      rw [mkR_at D k j _ hD, mkSu_l9] at hr
      obtain rfl : _ = r := by injection hr
      clear hr hD hp kc
      generalize hkk : k + (cntR (D.take j) : Int) = kk at *
      have HKK := Lib.hid hkk
      clear hkk
      obtain ⟨b, off, spot⟩ := ad
      obtain rfl : spot = none := by
        rcases hsp with hsp | hsp
        · cases hsp
        · exact hsp
      obtain ⟨⟨v0, z0, rfl⟩, ⟨v1, z1, rfl⟩, ⟨v2, z2, rfl⟩, ⟨v3, z3, rfl⟩, ⟨v4, z4, rfl⟩, ⟨v5, z5, r5⟩, _⟩ := hrl
      obtain ⟨A5, e5, rfl⟩ := mklEns r5
      rw [add_at] at z0 z1 z2 z3 z4 z5
      rw [← Nat.add_assoc] at z1
      rw [← Nat.add_assoc, ← Nat.add_assoc] at z2
      rw [← Nat.add_assoc, ← Nat.add_assoc, ← Nat.add_assoc] at z3
      rw [← Nat.add_assoc, ← Nat.add_assoc, ← Nat.add_assoc, ← Nat.add_assoc] at z4
      rw [← Nat.add_assoc, ← Nat.add_assoc, ← Nat.add_assoc, ← Nat.add_assoc, ← Nat.add_assoc] at z5
      have R5 := Lib.hid r5
      clear r5
      clear hsp
      have x0 := (hbel.cell (p := ⟨b, off + j * 6, none⟩) hb).trans z0
      have x1 := (hbel.cell (p := ⟨b, off + j * 6 + 1, none⟩) hb).trans z1
      have x2 := (hbel.cell (p := ⟨b, off + j * 6 + 2, none⟩) hb).trans z2
      have x3 := (hbel.cell (p := ⟨b, off + j * 6 + 3, none⟩) hb).trans z3
      have x4 := (hbel.cell (p := ⟨b, off + j * 6 + 4, none⟩) hb).trans z4
      have x5 := (hbel.cell (p := ⟨b, off + j * 6 + 5, none⟩) hb).trans z5
      have hq1 : ((markD (kk + 1)).toList != (markD (kk + 1)).toList) = false := by simp
      go_wp2
      have lb : b < wr.heap.size := Nat.lt_of_lt_of_le hb hbel.size
      have SX := Lib.hid (show ∀ (W W1 : World), (W.cell? ⟨b, off + j * 6 + 1, none⟩ = some (.string (markD (kk + 1))) ∧ KS wr W) → Below W.heap.size W W1 → (W1.cell? ⟨b, off + j * 6 + 1, none⟩ = some (.string (markD (kk + 1))) ∧ KS wr W1) from fun W W1 h hb1 => ⟨(hb1.cell (p := ⟨b, off + j * 6 + 1, none⟩) (Nat.lt_of_lt_of_le lb h.2.size)).trans h.1, h.2.trans (hb1.mono h.2.size)⟩)
      have hS0 : wr.drew.cell? ⟨b, off + j * 6 + 1, none⟩ = some (.string (markD (kk + 1))) ∧ KS wr wr.drew := ⟨x1, KS.start _⟩
      clear x0 x1 x2 x3 x4 x5
      go_region_held3 (fun W => W.cell? ⟨b, off + j * 6 + 1, none⟩ = some (.string (markD (kk + 1))) ∧ KS wr W)
        (first | assumption | exact hS0 | (exact SX.out _ _ (by assumption) b1))
        (first | (go_at_call 47; refine (markText_d (kk + 1) _ (by omega) (by omega)).mono ?_; rintro e u1 ⟨rfl, b1⟩))
      rename_i hS2
      have D1 : Below w.heap.size w u1 := hbel.trans (hS2.2.mono hbel.size)
      clear hS2 hS0 SX lb
      have x0 := (D1.cell (p := ⟨b, off + j * 6, none⟩) hb).trans z0
      have x1 := (D1.cell (p := ⟨b, off + j * 6 + 1, none⟩) hb).trans z1
      have x2 := (D1.cell (p := ⟨b, off + j * 6 + 2, none⟩) hb).trans z2
      have x3 := (D1.cell (p := ⟨b, off + j * 6 + 3, none⟩) hb).trans z3
      have x4 := (D1.cell (p := ⟨b, off + j * 6 + 4, none⟩) hb).trans z4
      have x5 := (D1.cell (p := ⟨b, off + j * 6 + 5, none⟩) hb).trans z5
      have hb4 : ((kk + 1 + 1 + 1 + 1) % 3 == 0) = decide ((kk + 1 + 1 + 1 + 1) % 3 = 0) := by rw [Bool.eq_iff_iff]; simp
      go_wp2_with fail
      refine (hdEns_r _ x.list (kk + 1 + 1 + 1 + 1 + 1) _ (R5.out.past D1) (by omega) (by omega) hsx.list).mono ?_
      rintro e w2 ⟨rfl, rfl⟩
      have nn5 : 0 ≤ kk + 1 + 1 + 1 + 1 + 1 + (cntC (encEns x.list) : Int) := by omega
      go_wp2
      go_roundw
      case rel =>
        refine ⟨j + 1, by omega, by go_num, ?_, D1⟩
        congr 1
        have := HKK.out
        rw [K.out]
        omega
      case measure => simp [intOf]; omega
    · obtain rfl : j = l.length := by omega
      go_wp2
      go_ret
      refine ⟨?_, hbel⟩
      rw [HE.out, List.take_of_length_le (by rw [HL.out]; omega)]
      try rfl
end Go.Proofs.YtamainhocghlgaaGreatDoor.low


/-
  The laws' mark and held on a hub. Written by mkmark.py.
-/
namespace Go.Proofs.YtamainhocghlgaaGreatDoor.low
open Go.RowKit
set_option linter.unusedVariables false
theorem Grow.cell {T : Nat → Prop} {w w' : World} (h : Grow T w w') {p : Addr} (hl : p.block < w.heap.size) (hp : ¬ T p.block) : w'.cell? p = w.cell? p := World.cell?_of_block (w := w) (h.block p.block hl hp)
theorem owHu {w : World} {x : Hu} {v : Value} {bs : List Nat} (h : OwC w (datHu x) v bs) : ∃ (A1 : Option Addr) (c1 : Nat) (A2 : Option Addr) (c2 : Nat) (b1 b2 : List Nat), v = .agg #[.bool x.shut, .slice A1 x.docs.length c1, .slice A2 x.subs.length c2, .int .i64 x.last] ∧ bs = b1 ++ b2 ∧ OwC w (encDos x.docs) (.slice A1 x.docs.length c1) b1 ∧ OwC w (encSus x.subs) (.slice A2 x.subs.length c2) b2 := by
  obtain ⟨vs, rfl, v0, _, b0, t0, rfl, rfl, ⟨rfl, rfl⟩, v1, _, b1, t1, rfl, rfl, q1, v2, _, b2, t2, rfl, rfl, q2, v3, _, b3, t3, rfl, rfl, ⟨rfl, rfl⟩, rfl, rfl⟩ := h
  obtain ⟨A1, c1, rfl⟩ := sliceDos (q1.read _ _ _ (fun b hb => q1.lt _ _ _ b hb))
  obtain ⟨A2, c2, rfl⟩ := sliceSus (q2.read _ _ _ (fun b hb => q2.lt _ _ _ b hb))
  exact ⟨A1, c1, A2, c2, b1, b2, rfl, by simp, q1, q2⟩
set_option maxRecDepth 100000 in
set_option maxHeartbeats 3200000 in
theorem mkHu_r (v : Value) (x : Hu) (bs : List Nat) (k : Int) (w : World) (h : OwC w (datHu x) v bs) (hnd : bs.Nodup) (h0 : 0 < k) (h1 : k + (cntC (datHu x) : Int) ≤ 4503599627370496) (hs : SmHu x) :
    Calls Tryz.prog 9 #[v, .int .i64 k] w (MarkG k (datHu x) v bs w) := by
  obtain ⟨A1, c1, A2, c2, b1, b2, rfl, rfl, q1, q2⟩ := owHu h
  rw [cntHu_a] at h1
  have HCN := Lib.hid (cntHu_a x)
  have HMK := Lib.hid (mkHu_a k x)
  obtain ⟨nd1, nd2, ds⟩ := List.nodup_append.1 hnd
  have b0 := alloc_below w (.cells #[.bool x.shut, .slice A1 x.docs.length c1, .slice A2 x.subs.length c2, .int .i64 x.last] 30)
  have lt1 : ∀ q ∈ b1, q < w.heap.size := fun q hq => q1.lt _ _ _ q hq
  have lt2 : ∀ q ∈ b2, q < w.heap.size := fun q hq => q2.lt _ _ _ q hq
  have q1 := OwC.keep _ _ _ q1 (fun q hq => b0.block q (lt1 q hq))
  have q2 := OwC.keep _ _ _ q2 (fun q hq => b0.block q (lt2 q hq))
  have y1 : (w.alloc (.cells #[.bool x.shut, .slice A1 x.docs.length c1, .slice A2 x.subs.length c2, .int .i64 x.last] 30)).cell? ⟨w.heap.size, 1, none⟩ = some (.slice A1 x.docs.length c1) := bxnew rfl
  have y2 : (w.alloc (.cells #[.bool x.shut, .slice A1 x.docs.length c1, .slice A2 x.subs.length c2, .int .i64 x.last] 30)).cell? ⟨w.heap.size, 2, none⟩ = some (.slice A2 x.subs.length c2) := bxnew rfl
  have z0 : w.heap.size < (w.alloc (.cells #[.bool x.shut, .slice A1 x.docs.length c1, .slice A2 x.subs.length c2, .int .i64 x.last] 30)).heap.size := by rw [World.size_alloc]; omega
  generalize hW0 : w.alloc (.cells #[.bool x.shut, .slice A1 x.docs.length c1, .slice A2 x.subs.length c2, .int .i64 x.last] 30) = W0 at *
  have HG0 := Lib.hid (show Grow (fun q => q ∈ b1 ++ b2) w W0 from Grow.below b0)
  clear h b0
  go_enter Tryz.func9, Tryz.ntmps9
  go_wp2_with fail
  refine (mkDos_r _ x.docs b1 (k) _ q1 nd1 h0 (by omega) hs.docs).mono ?_
  rintro e w2 ⟨rfl, q1, wa, ba, ta⟩
  have G1 : Grow (fun q => q ∈ b1) W0 w2 := (Grow.below ba).trans (Grow.touch ta)
  have q2 := OwC.keep _ _ _ q2 (w' := w2) (fun q hq => G1.block q (Nat.lt_trans (lt2 q hq) z0) (fun h => ds q h q hq rfl))
  have y2 : w2.cell? ⟨w.heap.size, 2, none⟩ = some (.slice A2 x.subs.length c2) := (G1.cell (p := ⟨w.heap.size, 2, none⟩) z0 (fun h => Nat.lt_irrefl _ (lt1 _ h))).trans y2
  have HG1 := Lib.hid (HG0.out.trans (G1.mono (fun q hq => List.mem_append_left _ hq)))
  have sz1 := G1.size
  clear G1 ba ta y1
  go_wp2_with fail
  refine (mkSus_r _ x.subs b2 (k + (cntC (encDos x.docs) : Int)) _ q2 nd2 (by omega) (by omega) hs.subs).mono ?_
  rintro e w3 ⟨rfl, q2, wb, bb, tb⟩
  have G2 : Grow (fun q => q ∈ b2) w2 w3 := (Grow.below bb).trans (Grow.touch tb)
  have q1 := OwC.keep _ _ _ q1 (w' := w3) (fun q hq => G2.block q (Nat.lt_of_lt_of_le (Nat.lt_trans (lt1 q hq) z0) sz1) (fun h => ds q hq q h rfl))
  have HG2 := Lib.hid (HG1.out.trans (G2.mono (fun q hq => List.mem_append_right _ hq)))
  clear G2 bb tb
  go_wp2
  go_ret
  refine ⟨?_, ?_, HG2.out.cut⟩
  · rw [HCN.out]
    exact ret_i (by push_cast; omega)
  · rw [HMK.out]
    have hbs : b1 ++ b2 = [] ++ (b1 ++ (b2 ++ ([] ++ []))) := by simp
    rw [hbs]
    exact ⟨_, rfl, _, _, [], _, rfl, rfl, ⟨rfl, rfl⟩, _, _, b1, _, rfl, rfl, q1, _, _, b2, _, rfl, rfl, q2, _, _, [], _, rfl, rfl, ⟨rfl, rfl⟩, rfl, rfl⟩
set_option maxRecDepth 100000 in
set_option maxHeartbeats 3200000 in
theorem hdHu_r (v : Value) (x : Hu) (k : Int) (w : World) (h : RdC w w.heap.size (mkC k (datHu x)) v) (h0 : 0 < k) (h1 : k + (cntC (datHu x) : Int) ≤ 4503599627370496) (hs : SmHu x) :
    Calls Tryz.prog 10 #[v, .int .i64 k] w (HeldG k (datHu x) w) := by
  rw [cntHu_a] at h1
  rw [mkHu_a] at h
  have HCN := Lib.hid (cntHu_a x)
  obtain ⟨vs, rfl, v0, _, rfl, rfl, v1, _, rfl, r1, v2, _, rfl, r2, v3, _, rfl, rfl, rfl⟩ := h
  obtain ⟨A1, c1, rfl⟩ := mklDos r1
  obtain ⟨A2, c2, rfl⟩ := mklSus r2
  have b0 := alloc_below w (.cells #[.bool x.shut, .slice A1 x.docs.length c1, .slice A2 x.subs.length c2, .int .i64 x.last] 30)
  have z0 : w.heap.size < (w.alloc (.cells #[.bool x.shut, .slice A1 x.docs.length c1, .slice A2 x.subs.length c2, .int .i64 x.last] 30)).heap.size := by rw [World.size_alloc]; omega
  have y2 : (w.alloc (.cells #[.bool x.shut, .slice A1 x.docs.length c1, .slice A2 x.subs.length c2, .int .i64 x.last] 30)).cell? ⟨w.heap.size, 2, none⟩ = some (.slice A2 x.subs.length c2) := bxnew rfl
  have R1 := Lib.hid (r1.past b0)
  have R2 := Lib.hid (r2.past b0)
  clear r1 r2
  go_enter Tryz.func10, Tryz.ntmps10
  go_wp2_with fail
  generalize hW0 : w.alloc (.cells #[.bool x.shut, .slice A1 x.docs.length c1, .slice A2 x.subs.length c2, .int .i64 x.last] 30) = W0 at *
  refine (hdDos_r _ x.docs (k) _ R1.out h0 (by omega) hs.docs).mono ?_
  rintro e w2 ⟨rfl, b2⟩
  have y2 := (b2.cell (p := ⟨w.heap.size, 2, none⟩) z0).trans y2
  have nn : 0 ≤ k + (cntC (encDos x.docs) : Int) := by omega
  have D2 := b0.trans (b2.mono b0.size)
  go_wp2_with fail
  refine (hdSus_r _ x.subs (k + (cntC (encDos x.docs) : Int)) _ (R2.out.past b2) (by omega) (by omega) hs.subs).mono ?_
  rintro e w3 ⟨rfl, b3⟩
  have nn2 : 0 ≤ k + (cntC (encDos x.docs) : Int) + (cntC (encSus x.subs) : Int) := by omega
  go_wp2
  go_ret
  exact ⟨by rw [HCN.out]; exact ret_i (by push_cast; omega), D2.trans (b3.mono D2.size)⟩
theorem markHu (v : Value) (x : Hu) (b : List Nat) (k : Int) (w : World) (h : OwC w (datHu x) v b) (hnd : b.Nodup) (h0 : 0 < k) (h1 : k ≤ 1125899906842624) (hs : SmHu x) : Calls Tryz.prog 9 #[v, .int .i64 k] w (MarkG k (datHu x) v b w) := mkHu_r v x b k w h hnd h0 (by have := cntHu hs; omega) hs
theorem heldHu (v : Value) (x : Hu) (k : Int) (w : World) (h : RdC w w.heap.size (mkC k (datHu x)) v) (h0 : 0 < k) (h1 : k ≤ 1125899906842624) (hs : SmHu x) : Calls Tryz.prog 10 #[v, .int .i64 k] w (HeldG k (datHu x) w) := hdHu_r v x k w h h0 (by have := cntHu hs; omega) hs
end Go.Proofs.YtamainhocghlgaaGreatDoor.low

