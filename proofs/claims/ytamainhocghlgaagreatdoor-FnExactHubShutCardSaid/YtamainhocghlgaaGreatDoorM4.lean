/-
  Texts that the proofs over this seat rest on, one behind the other (4 of 6).
-/
import Derived.Test.YtamainhocghlgaaGreatDoorM3
import Derived.Laws.Cover1
import Derived.Test.YtamainhocghlgaaGreatDoorM2
import Derived.Test.YtamainhocghlgaaGreatDoorM1

/-
  Contract of spec.HubOk. Written by mkhub3.py.
-/
namespace Go.Proofs.YtamainhocghlgaaGreatDoor.low
open Go.RowKit
set_option linter.unusedVariables false

set_option maxRecDepth 100000 in
set_option maxHeartbeats 3200000 in
theorem specHubOk_d (v : Value) (x : Hu) (w : World) (h : RdC w w.heap.size (datHu x) v) (hs : SmHu x) : Calls Tryz.prog 13 #[v] w (Tells (hubB x) w) := by
  have HR := Lib.hid h
  obtain ⟨A1, ca, A2, cb, rfl, r1, r2⟩ := aggHu h
  have R1 := Lib.hid r1
  have R2 := Lib.hid r2
  have hl1 := hs.docs.len
  have hl2 := hs.subs.len
  clear h r1 r2
  have HM := Lib.hid (Ms.start w)
  replace HM := Lib.hid (HM.out.new #[.bool x.shut, .slice A1 x.docs.length ca, .slice A2 x.subs.length cb, .int .i64 x.last] 30)
  go_enter Tryz.func13, Tryz.ntmps13
  have HD := Lib.hid (show hubB x = (decide (x.docs.length ≤ 5) && (decide (x.subs.length ≤ 6) && (inB x.last 0 1000000000 && (docsB none x.docs && subsB x.docs x.last 0 x.subs)))) from rfl)
  by_cases e0 : x.docs.length ≤ 5
  rotate_left
  · have g0 : decide ((5 : Int) < (x.docs.length : Int)) = true := decide_eq_true (by omega)
    have HE := Lib.hid (show hubB x = false by rw [HD.out, decide_eq_false e0]; rfl)
    clear e0
    go_wp2
    go_ret
    exact ⟨ret_b HE.out.symm, HM.out.bl⟩
  have g0 : decide ((5 : Int) < (x.docs.length : Int)) = false := decide_eq_false (by omega)
  have E0 := Lib.hid (decide_eq_true e0)
  have L0 := Lib.hid e0
  clear e0
  by_cases e1 : x.subs.length ≤ 6
  rotate_left
  · have g1 : decide ((6 : Int) < (x.subs.length : Int)) = true := decide_eq_true (by omega)
    have HE := Lib.hid (show hubB x = false by rw [HD.out, E0.out, Bool.true_and, decide_eq_false e1]; rfl)
    clear e1
    go_wp2
    go_ret
    exact ⟨ret_b HE.out.symm, HM.out.bl⟩
  have g1 : decide ((6 : Int) < (x.subs.length : Int)) = false := decide_eq_false (by omega)
  have E1 := Lib.hid (decide_eq_true e1)
  have L1 := Lib.hid e1
  clear e1
  go_wp2_with fail
  clear g0 g1
  obtain ⟨W1, hW, hm⟩ := HM.out.name
  rw [← hW]
  replace HM := Lib.hid hm
  clear hm hW
  refine (in_any _ _ _ _).mono ?_
  rintro e w9 ⟨rfl, rfl⟩
  cases h1 : inB x.last 0 1000000000
  · have HE := Lib.hid (show hubB x = false by rw [HD.out, E0.out, E1.out, h1]; rfl)
    go_wp2
    go_ret
    exact ⟨ret_b HE.out.symm, HM.out.bl⟩
  obtain ⟨kx0, kx1, kx2, kx3⟩ := HM.out.c4 0 rfl
  have HD2 := Lib.hid (show hubB x = (docsB none x.docs && subsB x.docs x.last 0 x.subs) by rw [HD.out, E0.out, E1.out, h1]; rfl)
  have HLA := Lib.hid h1
  clear HD E0 E1 h1
  go_wp2_with fail
  clear kx0 kx1 kx2 kx3
  go_loopw [27] (fun i wr => ∃ j : Nat, j ≤ x.docs.length ∧ i = .int .i64 (j : Int) ∧ docsB none x.docs = docsB (nameAt x.docs j) (x.docs.drop j) ∧ Ms w [.bx w.heap.size (.cells #[.bool x.shut, .slice A1 x.docs.length ca, .slice A2 x.subs.length cb, .int .i64 x.last] 30 (0, 0))] wr) (fun i _ => x.docs.length - (intOf i).toNat)
  case atStart => exact ⟨0, Nat.zero_le _, rfl, by simp [nameAt], HM.out⟩
  case round =>
    obtain ⟨j, hj, rfl, hi, hm⟩ := hrel
    clear HM
    have HM := Lib.hid hm
    have HI := Lib.hid hi
    clear hm hi
    by_cases hlt : j < x.docs.length
    · obtain ⟨b, off, e, C2, c2, C3, c3, C4, c4, rfl, hbb, hp, y0, y1, y2, y3, y4, q2, q3, q4⟩ := atDos R1.out hlt
      have x0 := (HM.out.bl.cell (p := ⟨b, off + j * 5, none⟩) hbb).trans y0
      have x1 := (HM.out.bl.cell (p := ⟨b, off + j * 5 + 1, none⟩) hbb).trans y1
      have x2 := (HM.out.bl.cell (p := ⟨b, off + j * 5 + 2, none⟩) hbb).trans y2
      have x3 := (HM.out.bl.cell (p := ⟨b, off + j * 5 + 3, none⟩) hbb).trans y3
      have x4 := (HM.out.bl.cell (p := ⟨b, off + j * 5 + 4, none⟩) hbb).trans y4
      clear y0 y1 y2 y3 y4
      have hse := hs.docs.at_ (List.mem_of_getElem? hp)
      have HS := Lib.hid (docsB_step (p := nameAt x.docs j) hp)
      have HP := Lib.hid hp
      clear hp
      have Q2h := Lib.hid q2
      clear q2
      have Q3h := Lib.hid q3
      clear q3
      have Q4h := Lib.hid q4
      clear q4
      replace HM := Lib.hid (HM.out.new #[.string e.name, .int .i64 e.from_, .slice C2 e.text.length c2, .slice C3 e.list.length c3, .slice C4 e.seen.length c4] 75)
      go_wp2
      clear x0 x1 x2 x3 x4
      obtain ⟨W2, hW, hm⟩ := HM.out.name
      rw [← hW]
      replace HM := Lib.hid hm
      clear hm hW
      rcases (show docB e = false ∨ docB e = true by cases docB e <;> simp) with h1 | h1
      · have HE := Lib.hid (show hubB x = false by rw [HD2.out, HI.out, HS.out, h1]; rfl)
        replace h1 := Lib.hid h1
        replace HM := Lib.hid (HM.out.drew)
        refine wp_region_held_drew (S := fun W => Ms w [.bx wr.heap.size (.cells #[.string e.name, .int .i64 e.from_, .slice C2 e.text.length c2, .slice C3 e.list.length c3, .slice C4 e.seen.length c4] 75 (0, 0)), .bx w.heap.size (.cells #[.bool x.shut, .slice (some ⟨b, off, none⟩) x.docs.length ca, .slice A2 x.subs.length cb, .int .i64 x.last] 30 (0, 0))] W) (by kernel_rfl) (HM.out.pick (ks := [0, 1]) (by decide) rfl) (fun hS => ?_)
        generalize W2.drew = W3 at HM hS  ⊢
        refine tk (v := ?_) 0 32 rfl (fun w' hS' => ?_) hS ?_
        rotate_left
        · (try dsimp only at hS'); have q0 := hS'.cell (i := 0) (j := 0) rfl rfl; have q1 := hS'.cell (i := 0) (j := 1) rfl rfl; have q2 := hS'.cell (i := 0) (j := 2) rfl rfl; have q3 := hS'.cell (i := 0) (j := 3) rfl rfl; have q4 := hS'.cell (i := 0) (j := 4) rfl rfl; have p0 := hS'.cell (i := 1) (j := 0) rfl rfl; have p1 := hS'.cell (i := 1) (j := 1) rfl rfl; have p2 := hS'.cell (i := 1) (j := 2) rfl rfl; have p3 := hS'.cell (i := 1) (j := 3) rfl rfl; go_simp; all_goals (with_reducible rfl)
        try simp only [Act.put, pa, pb, pc]
        refine r1 1 (some 33) rfl (fun K hK => ?_)
        go_simp
        refine (specDocOk_d _ e _ (rdDo e (HM.out.arg Q2h.out) (HM.out.arg Q3h.out) (HM.out.arg Q4h.out)) hse).mono ?_
        rw [h1.out]
        rintro e' W4 ⟨rfl, b'⟩
        replace HM := Lib.hid (HM.out.past b')
        clear b'
        clear hS
        refine hK.out _ _ (HM.out.pick (ks := [0, 1]) (by decide) rfl) (fun hS => ?_)
        clear hK K
        try simp only [Act.put, pa, pb, pc]
        refine tk (v := ?_) 2 34 rfl (fun w' hS' => ?_) hS ?_
        rotate_left
        · go_simp; all_goals (with_reducible rfl)
        try simp only [Act.put, pa, pb, pc]
        refine tk (v := ?_) 3 35 rfl (fun w' hS' => ?_) hS ?_
        rotate_left
        · go_simp; all_goals (with_reducible rfl)
        try simp only [Act.put, pa, pb, pc]
        refine tu 4 36 rfl hS ?_
        try simp only [Act.put, pa, pb, pc]
        refine tu 5 37 rfl hS ?_
        try simp only [Act.put, pa, pb, pc]
        refine tu 6 38 rfl hS ?_
        try simp only [Act.put, pa, pb, pc]
        refine tu 7 39 rfl hS ?_
        try simp only [Act.put, pa, pb, pc]
        refine tu 8 40 rfl hS ?_
        try simp only [Act.put, pa, pb, pc]
        refine tu 9 41 rfl hS ?_
        try simp only [Act.put, pa, pb, pc]
        refine tu 10 42 rfl hS ?_
        try simp only [Act.put, pa, pb, pc]
        refine tu 11 43 rfl hS ?_
        try simp only [Act.put, pa, pb, pc]
        refine tu 12 44 rfl hS ?_
        try simp only [Act.put, pa, pb, pc]
        refine tu 13 45 rfl hS ?_
        try simp only [Act.put, pa, pb, pc]
        refine tu 14 46 rfl hS ?_
        try simp only [Act.put, pa, pb, pc]
        refine tu 15 47 rfl hS ?_
        try simp only [Act.put, pa, pb, pc]
        refine tu 16 48 rfl hS ?_
        try simp only [Act.put, pa, pb, pc]
        refine tu 17 49 rfl hS ?_
        try simp only [Act.put, pa, pb, pc]
        refine tk (v := ?_) 18 50 rfl (fun w' hS' => ?_) hS ?_
        rotate_left
        · go_simp; all_goals (with_reducible rfl)
        try simp only [Act.put, pa, pb, pc]
        refine wpAnyH_done (by kernel_rfl) ?_ _
        clear hS
        go_wp2
        go_ret
        exact ⟨ret_b HE.out.symm, HM.out.bl⟩
      replace h1 := Lib.hid h1
      by_cases h2 : j = 0
      · have g2 : decide (0 < j) = false := decide_eq_false (by omega)
        have HN := Lib.hid (show nameAt x.docs j = none by rw [h2]; rfl)
        clear h2
        replace HM := Lib.hid (HM.out.drew)
        refine wp_region_held_drew (S := fun W => Ms w [.bx wr.heap.size (.cells #[.string e.name, .int .i64 e.from_, .slice C2 e.text.length c2, .slice C3 e.list.length c3, .slice C4 e.seen.length c4] 75 (0, 0)), .bx w.heap.size (.cells #[.bool x.shut, .slice (some ⟨b, off, none⟩) x.docs.length ca, .slice A2 x.subs.length cb, .int .i64 x.last] 30 (0, 0))] W) (by kernel_rfl) (HM.out.pick (ks := [0, 1]) (by decide) rfl) (fun hS => ?_)
        generalize W2.drew = W5 at HM hS  ⊢
        refine tk (v := ?_) 0 32 rfl (fun w' hS' => ?_) hS ?_
        rotate_left
        · (try dsimp only at hS'); have q0 := hS'.cell (i := 0) (j := 0) rfl rfl; have q1 := hS'.cell (i := 0) (j := 1) rfl rfl; have q2 := hS'.cell (i := 0) (j := 2) rfl rfl; have q3 := hS'.cell (i := 0) (j := 3) rfl rfl; have q4 := hS'.cell (i := 0) (j := 4) rfl rfl; have p0 := hS'.cell (i := 1) (j := 0) rfl rfl; have p1 := hS'.cell (i := 1) (j := 1) rfl rfl; have p2 := hS'.cell (i := 1) (j := 2) rfl rfl; have p3 := hS'.cell (i := 1) (j := 3) rfl rfl; go_simp; all_goals (with_reducible rfl)
        try simp only [Act.put, pa, pb, pc]
        refine r1 1 (some 33) rfl (fun K hK => ?_)
        go_simp
        refine (specDocOk_d _ e _ (rdDo e (HM.out.arg Q2h.out) (HM.out.arg Q3h.out) (HM.out.arg Q4h.out)) hse).mono ?_
        rw [h1.out]
        rintro e' W6 ⟨rfl, b'⟩
        replace HM := Lib.hid (HM.out.past b')
        clear b'
        clear hS
        refine hK.out _ _ (HM.out.pick (ks := [0, 1]) (by decide) rfl) (fun hS => ?_)
        clear hK K
        try simp only [Act.put, pa, pb, pc]
        refine tk (v := ?_) 2 34 rfl (fun w' hS' => ?_) hS ?_
        rotate_left
        · go_simp; all_goals (with_reducible rfl)
        try simp only [Act.put, pa, pb, pc]
        refine tk (v := ?_) 3 35 rfl (fun w' hS' => ?_) hS ?_
        rotate_left
        · go_simp; all_goals (with_reducible rfl)
        try simp only [Act.put, pa, pb, pc]
        refine tk (v := ?_) 4 36 rfl (fun w' hS' => ?_) hS ?_
        rotate_left
        · go_simp; all_goals (with_reducible rfl)
        try simp only [Act.put, pa, pb, pc]
        refine tk (v := ?_) 5 37 rfl (fun w' hS' => ?_) hS ?_
        rotate_left
        · go_simp; all_goals (with_reducible rfl)
        try simp only [Act.put, pa, pb, pc]
        try rw [g2]
        refine tk (v := ?_) 6 38 rfl (fun w' hS' => ?_) hS ?_
        rotate_left
        · go_simp; all_goals (with_reducible rfl)
        try simp only [Act.put, pa, pb, pc]
        refine tu 7 39 rfl hS ?_
        try simp only [Act.put, pa, pb, pc]
        refine tu 8 40 rfl hS ?_
        try simp only [Act.put, pa, pb, pc]
        refine tu 9 41 rfl hS ?_
        try simp only [Act.put, pa, pb, pc]
        refine tu 10 42 rfl hS ?_
        try simp only [Act.put, pa, pb, pc]
        refine tu 11 43 rfl hS ?_
        try simp only [Act.put, pa, pb, pc]
        refine tu 12 44 rfl hS ?_
        try simp only [Act.put, pa, pb, pc]
        refine tu 13 45 rfl hS ?_
        try simp only [Act.put, pa, pb, pc]
        refine tu 14 46 rfl hS ?_
        try simp only [Act.put, pa, pb, pc]
        refine tu 15 47 rfl hS ?_
        try simp only [Act.put, pa, pb, pc]
        refine tu 16 48 rfl hS ?_
        try simp only [Act.put, pa, pb, pc]
        refine tk (v := ?_) 17 49 rfl (fun w' hS' => ?_) hS ?_
        rotate_left
        · go_simp; all_goals (with_reducible rfl)
        try simp only [Act.put, pa, pb, pc]
        refine tk (v := ?_) 18 50 rfl (fun w' hS' => ?_) hS ?_
        rotate_left
        · go_simp; all_goals (with_reducible rfl)
        try simp only [Act.put, pa, pb, pc]
        refine wpAnyH_done (by kernel_rfl) ?_ _
        clear hS
        have HJ := Lib.hid (show docsB none x.docs = docsB (nameAt x.docs (j + 1)) (x.docs.drop (j + 1)) by rw [HI.out, HS.out, h1.out, HN.out, Bool.true_and, Bool.true_and])
        go_wp2
        go_roundw
        case rel => exact ⟨j + 1, by omega, by go_num, HJ.out, HM.out.pick (ks := [1]) (by decide) rfl⟩
        case measure => simp [intOf]; omega
      have g2 : decide (0 < j) = true := decide_eq_true (by omega)
      obtain ⟨q, hq⟩ : ∃ q, j = q + 1 := ⟨j - 1, by omega⟩
      obtain ⟨b2, off2, p, D2, d2, D3, d3, D4, d4, hA2, hb2, hp2, z0, z1, z2, z3, z4, -, -, -⟩ := atDos R1.out (i := q) (by omega)
      injection hA2 with hA2
      injection hA2 with hA3 hA4
      subst hA3 hA4
      have HN := Lib.hid (show nameAt x.docs j = some p.name by rw [hq]; exact nameAt_of hp2)
      have hw : IntKind.i64.wrap (q : Int) = (q : Int) := IntWalk.i64_in _ (by omega)
      have hw0 : IntKind.i64.wrap ((j : Int) - 1) = (q : Int) := (IntWalk.i64_in _ (by omega)).trans (by omega)
      have hqj : q < x.docs.length := by omega
      clear h2 hp2 z1 z2 z3 z4
      rcases (show ltSt p.name e.name = false ∨ ltSt p.name e.name = true by cases ltSt p.name e.name <;> simp) with h3 | h3
      · have g3 : Op.bytesLess p.name.toList e.name.toList = false := h3
        have HE := Lib.hid (show hubB x = false by rw [HD2.out, HI.out, HS.out, h1.out, HN.out]; show (true && (ltSt p.name e.name && _) && _) = false; rw [h3]; rfl)
        clear h3
        replace HM := Lib.hid (HM.out.drew)
        refine wp_region_held_drew (S := fun W => Ms w [.bx wr.heap.size (.cells #[.string e.name, .int .i64 e.from_, .slice C2 e.text.length c2, .slice C3 e.list.length c3, .slice C4 e.seen.length c4] 75 (0, 0)), .bx w.heap.size (.cells #[.bool x.shut, .slice (some ⟨b, off, none⟩) x.docs.length ca, .slice A2 x.subs.length cb, .int .i64 x.last] 30 (0, 0))] W) (by kernel_rfl) (HM.out.pick (ks := [0, 1]) (by decide) rfl) (fun hS => ?_)
        generalize W2.drew = W7 at HM hS  ⊢
        refine tk (v := ?_) 0 32 rfl (fun w' hS' => ?_) hS ?_
        rotate_left
        · (try dsimp only at hS'); have q0 := hS'.cell (i := 0) (j := 0) rfl rfl; have q1 := hS'.cell (i := 0) (j := 1) rfl rfl; have q2 := hS'.cell (i := 0) (j := 2) rfl rfl; have q3 := hS'.cell (i := 0) (j := 3) rfl rfl; have q4 := hS'.cell (i := 0) (j := 4) rfl rfl; have p0 := hS'.cell (i := 1) (j := 0) rfl rfl; have p1 := hS'.cell (i := 1) (j := 1) rfl rfl; have p2 := hS'.cell (i := 1) (j := 2) rfl rfl; have p3 := hS'.cell (i := 1) (j := 3) rfl rfl; have r0 := (hS'.bl.cell (p := ⟨b, off + q * 5, none⟩) hb2).trans z0; go_simp; all_goals (with_reducible rfl)
        try simp only [Act.put, pa, pb, pc]
        refine r1 1 (some 33) rfl (fun K hK => ?_)
        go_simp
        refine (specDocOk_d _ e _ (rdDo e (HM.out.arg Q2h.out) (HM.out.arg Q3h.out) (HM.out.arg Q4h.out)) hse).mono ?_
        rw [h1.out]
        rintro e' W8 ⟨rfl, b'⟩
        replace HM := Lib.hid (HM.out.past b')
        clear b'
        clear hS
        refine hK.out _ _ (HM.out.pick (ks := [0, 1]) (by decide) rfl) (fun hS => ?_)
        clear hK K
        try simp only [Act.put, pa, pb, pc]
        refine tk (v := ?_) 2 34 rfl (fun w' hS' => ?_) hS ?_
        rotate_left
        · go_simp; all_goals (with_reducible rfl)
        try simp only [Act.put, pa, pb, pc]
        refine tk (v := ?_) 3 35 rfl (fun w' hS' => ?_) hS ?_
        rotate_left
        · go_simp; all_goals (with_reducible rfl)
        try simp only [Act.put, pa, pb, pc]
        first | refine tu 4 36 rfl hS ?_ | (refine tk (v := ?_) 4 36 rfl (fun w' hS' => ?_) hS ?_; rotate_left; · (go_simp; all_goals (with_reducible rfl)))
        try simp only [Act.put, pa, pb, pc]
        first | refine tu 5 37 rfl hS ?_ | (refine tk (v := ?_) 5 37 rfl (fun w' hS' => ?_) hS ?_; rotate_left; · (go_simp; all_goals (with_reducible rfl)))
        try simp only [Act.put, pa, pb, pc]
        try rw [g2]
        first | refine tu 6 38 rfl hS ?_ | (refine tk (v := ?_) 6 38 rfl (fun w' hS' => ?_) hS ?_; rotate_left; · (go_simp; all_goals (with_reducible rfl)))
        try simp only [Act.put, pa, pb, pc]
        first | refine tu 7 39 rfl hS ?_ | (refine tk (v := ?_) 7 39 rfl (fun w' hS' => ?_) hS ?_; rotate_left; · (go_simp; all_goals (with_reducible rfl)))
        try simp only [Act.put, pa, pb, pc]
        first | refine tu 8 40 rfl hS ?_ | (refine tk (v := ?_) 8 40 rfl (fun w' hS' => ?_) hS ?_; rotate_left; · ((try dsimp only at hS'); have q0 := hS'.cell (i := 0) (j := 0) rfl rfl; have q1 := hS'.cell (i := 0) (j := 1) rfl rfl; have q2 := hS'.cell (i := 0) (j := 2) rfl rfl; have q3 := hS'.cell (i := 0) (j := 3) rfl rfl; have q4 := hS'.cell (i := 0) (j := 4) rfl rfl; have p0 := hS'.cell (i := 1) (j := 0) rfl rfl; have p1 := hS'.cell (i := 1) (j := 1) rfl rfl; have p2 := hS'.cell (i := 1) (j := 2) rfl rfl; have p3 := hS'.cell (i := 1) (j := 3) rfl rfl; have r0 := (hS'.bl.cell (p := ⟨b, off + q * 5, none⟩) hb2).trans z0; go_simp; all_goals (with_reducible rfl)))
        try simp only [Act.put, pa, pb, pc]
        first | refine tu 9 41 rfl hS ?_ | (refine tk (v := ?_) 9 41 rfl (fun w' hS' => ?_) hS ?_; rotate_left; · (go_simp; all_goals (with_reducible rfl)))
        try simp only [Act.put, pa, pb, pc]
        first | refine tu 10 42 rfl hS ?_ | (refine tk (v := ?_) 10 42 rfl (fun w' hS' => ?_) hS ?_; rotate_left; · (go_simp; all_goals (with_reducible rfl)))
        try simp only [Act.put, pa, pb, pc]
        first | refine tu 11 43 rfl hS ?_ | (refine tk (v := ?_) 11 43 rfl (fun w' hS' => ?_) hS ?_; rotate_left; · (go_simp; all_goals (with_reducible rfl)))
        try simp only [Act.put, pa, pb, pc]
        first | refine tu 12 44 rfl hS ?_ | (refine tk (v := ?_) 12 44 rfl (fun w' hS' => ?_) hS ?_; rotate_left; · (go_simp; all_goals (with_reducible rfl)))
        try simp only [Act.put, pa, pb, pc]
        first | refine tu 13 45 rfl hS ?_ | (refine tk (v := ?_) 13 45 rfl (fun w' hS' => ?_) hS ?_; rotate_left; · ((try dsimp only at hS'); have q0 := hS'.cell (i := 0) (j := 0) rfl rfl; have q1 := hS'.cell (i := 0) (j := 1) rfl rfl; have q2 := hS'.cell (i := 0) (j := 2) rfl rfl; have q3 := hS'.cell (i := 0) (j := 3) rfl rfl; have q4 := hS'.cell (i := 0) (j := 4) rfl rfl; have p0 := hS'.cell (i := 1) (j := 0) rfl rfl; have p1 := hS'.cell (i := 1) (j := 1) rfl rfl; have p2 := hS'.cell (i := 1) (j := 2) rfl rfl; have p3 := hS'.cell (i := 1) (j := 3) rfl rfl; have r0 := (hS'.bl.cell (p := ⟨b, off + q * 5, none⟩) hb2).trans z0; go_simp; all_goals (with_reducible rfl)))
        try simp only [Act.put, pa, pb, pc]
        first | refine tu 14 46 rfl hS ?_ | (refine tk (v := ?_) 14 46 rfl (fun w' hS' => ?_) hS ?_; rotate_left; · (go_simp; all_goals (with_reducible rfl)))
        try simp only [Act.put, pa, pb, pc]
        first | refine tu 15 47 rfl hS ?_ | (refine tk (v := ?_) 15 47 rfl (fun w' hS' => ?_) hS ?_; rotate_left; · ((try dsimp only at hS'); have q0 := hS'.cell (i := 0) (j := 0) rfl rfl; have q1 := hS'.cell (i := 0) (j := 1) rfl rfl; have q2 := hS'.cell (i := 0) (j := 2) rfl rfl; have q3 := hS'.cell (i := 0) (j := 3) rfl rfl; have q4 := hS'.cell (i := 0) (j := 4) rfl rfl; have p0 := hS'.cell (i := 1) (j := 0) rfl rfl; have p1 := hS'.cell (i := 1) (j := 1) rfl rfl; have p2 := hS'.cell (i := 1) (j := 2) rfl rfl; have p3 := hS'.cell (i := 1) (j := 3) rfl rfl; have r0 := (hS'.bl.cell (p := ⟨b, off + q * 5, none⟩) hb2).trans z0; go_simp; all_goals (with_reducible rfl)))
        try simp only [Act.put, pa, pb, pc]
        first | refine tu 16 48 rfl hS ?_ | (refine tk (v := ?_) 16 48 rfl (fun w' hS' => ?_) hS ?_; rotate_left; · (go_simp; all_goals (with_reducible rfl)))
        try simp only [Act.put, pa, pb, pc]
        try rw [g3]
        first | refine tu 17 49 rfl hS ?_ | (refine tk (v := ?_) 17 49 rfl (fun w' hS' => ?_) hS ?_; rotate_left; · (go_simp; all_goals (with_reducible rfl)))
        try simp only [Act.put, pa, pb, pc]
        refine tk (v := ?_) 18 50 rfl (fun w' hS' => ?_) hS ?_
        rotate_left
        · go_simp; all_goals (with_reducible rfl)
        try simp only [Act.put, pa, pb, pc]
        refine wpAnyH_done (by kernel_rfl) ?_ _
        clear hS
        go_wp2
        go_ret
        exact ⟨ret_b HE.out.symm, HM.out.bl⟩
      have g3 : Op.bytesLess p.name.toList e.name.toList = true := h3
      have HJ := Lib.hid (show docsB none x.docs = docsB (nameAt x.docs (j + 1)) (x.docs.drop (j + 1)) by rw [HI.out, HS.out, h1.out, HN.out]; show (true && (ltSt p.name e.name && _)) = _; rw [h3]; rfl)
      clear h3
      replace HM := Lib.hid (HM.out.drew)
      refine wp_region_held_drew (S := fun W => Ms w [.bx wr.heap.size (.cells #[.string e.name, .int .i64 e.from_, .slice C2 e.text.length c2, .slice C3 e.list.length c3, .slice C4 e.seen.length c4] 75 (0, 0)), .bx w.heap.size (.cells #[.bool x.shut, .slice (some ⟨b, off, none⟩) x.docs.length ca, .slice A2 x.subs.length cb, .int .i64 x.last] 30 (0, 0))] W) (by kernel_rfl) (HM.out.pick (ks := [0, 1]) (by decide) rfl) (fun hS => ?_)
      generalize W2.drew = W9 at HM hS  ⊢
      refine tk (v := ?_) 0 32 rfl (fun w' hS' => ?_) hS ?_
      rotate_left
      · (try dsimp only at hS'); have q0 := hS'.cell (i := 0) (j := 0) rfl rfl; have q1 := hS'.cell (i := 0) (j := 1) rfl rfl; have q2 := hS'.cell (i := 0) (j := 2) rfl rfl; have q3 := hS'.cell (i := 0) (j := 3) rfl rfl; have q4 := hS'.cell (i := 0) (j := 4) rfl rfl; have p0 := hS'.cell (i := 1) (j := 0) rfl rfl; have p1 := hS'.cell (i := 1) (j := 1) rfl rfl; have p2 := hS'.cell (i := 1) (j := 2) rfl rfl; have p3 := hS'.cell (i := 1) (j := 3) rfl rfl; have r0 := (hS'.bl.cell (p := ⟨b, off + q * 5, none⟩) hb2).trans z0; go_simp; all_goals (with_reducible rfl)
      try simp only [Act.put, pa, pb, pc]
      refine r1 1 (some 33) rfl (fun K hK => ?_)
      go_simp
      refine (specDocOk_d _ e _ (rdDo e (HM.out.arg Q2h.out) (HM.out.arg Q3h.out) (HM.out.arg Q4h.out)) hse).mono ?_
      rw [h1.out]
      rintro e' W10 ⟨rfl, b'⟩
      replace HM := Lib.hid (HM.out.past b')
      clear b'
      clear hS
      refine hK.out _ _ (HM.out.pick (ks := [0, 1]) (by decide) rfl) (fun hS => ?_)
      clear hK K
      try simp only [Act.put, pa, pb, pc]
      refine tk (v := ?_) 2 34 rfl (fun w' hS' => ?_) hS ?_
      rotate_left
      · go_simp; all_goals (with_reducible rfl)
      try simp only [Act.put, pa, pb, pc]
      refine tk (v := ?_) 3 35 rfl (fun w' hS' => ?_) hS ?_
      rotate_left
      · go_simp; all_goals (with_reducible rfl)
      try simp only [Act.put, pa, pb, pc]
      first | refine tu 4 36 rfl hS ?_ | (refine tk (v := ?_) 4 36 rfl (fun w' hS' => ?_) hS ?_; rotate_left; · (go_simp; all_goals (with_reducible rfl)))
      try simp only [Act.put, pa, pb, pc]
      first | refine tu 5 37 rfl hS ?_ | (refine tk (v := ?_) 5 37 rfl (fun w' hS' => ?_) hS ?_; rotate_left; · (go_simp; all_goals (with_reducible rfl)))
      try simp only [Act.put, pa, pb, pc]
      try rw [g2]
      first | refine tu 6 38 rfl hS ?_ | (refine tk (v := ?_) 6 38 rfl (fun w' hS' => ?_) hS ?_; rotate_left; · (go_simp; all_goals (with_reducible rfl)))
      try simp only [Act.put, pa, pb, pc]
      first | refine tu 7 39 rfl hS ?_ | (refine tk (v := ?_) 7 39 rfl (fun w' hS' => ?_) hS ?_; rotate_left; · (go_simp; all_goals (with_reducible rfl)))
      try simp only [Act.put, pa, pb, pc]
      first | refine tu 8 40 rfl hS ?_ | (refine tk (v := ?_) 8 40 rfl (fun w' hS' => ?_) hS ?_; rotate_left; · ((try dsimp only at hS'); have q0 := hS'.cell (i := 0) (j := 0) rfl rfl; have q1 := hS'.cell (i := 0) (j := 1) rfl rfl; have q2 := hS'.cell (i := 0) (j := 2) rfl rfl; have q3 := hS'.cell (i := 0) (j := 3) rfl rfl; have q4 := hS'.cell (i := 0) (j := 4) rfl rfl; have p0 := hS'.cell (i := 1) (j := 0) rfl rfl; have p1 := hS'.cell (i := 1) (j := 1) rfl rfl; have p2 := hS'.cell (i := 1) (j := 2) rfl rfl; have p3 := hS'.cell (i := 1) (j := 3) rfl rfl; have r0 := (hS'.bl.cell (p := ⟨b, off + q * 5, none⟩) hb2).trans z0; go_simp; all_goals (with_reducible rfl)))
      try simp only [Act.put, pa, pb, pc]
      first | refine tu 9 41 rfl hS ?_ | (refine tk (v := ?_) 9 41 rfl (fun w' hS' => ?_) hS ?_; rotate_left; · (go_simp; all_goals (with_reducible rfl)))
      try simp only [Act.put, pa, pb, pc]
      first | refine tu 10 42 rfl hS ?_ | (refine tk (v := ?_) 10 42 rfl (fun w' hS' => ?_) hS ?_; rotate_left; · (go_simp; all_goals (with_reducible rfl)))
      try simp only [Act.put, pa, pb, pc]
      first | refine tu 11 43 rfl hS ?_ | (refine tk (v := ?_) 11 43 rfl (fun w' hS' => ?_) hS ?_; rotate_left; · (go_simp; all_goals (with_reducible rfl)))
      try simp only [Act.put, pa, pb, pc]
      first | refine tu 12 44 rfl hS ?_ | (refine tk (v := ?_) 12 44 rfl (fun w' hS' => ?_) hS ?_; rotate_left; · (go_simp; all_goals (with_reducible rfl)))
      try simp only [Act.put, pa, pb, pc]
      first | refine tu 13 45 rfl hS ?_ | (refine tk (v := ?_) 13 45 rfl (fun w' hS' => ?_) hS ?_; rotate_left; · ((try dsimp only at hS'); have q0 := hS'.cell (i := 0) (j := 0) rfl rfl; have q1 := hS'.cell (i := 0) (j := 1) rfl rfl; have q2 := hS'.cell (i := 0) (j := 2) rfl rfl; have q3 := hS'.cell (i := 0) (j := 3) rfl rfl; have q4 := hS'.cell (i := 0) (j := 4) rfl rfl; have p0 := hS'.cell (i := 1) (j := 0) rfl rfl; have p1 := hS'.cell (i := 1) (j := 1) rfl rfl; have p2 := hS'.cell (i := 1) (j := 2) rfl rfl; have p3 := hS'.cell (i := 1) (j := 3) rfl rfl; have r0 := (hS'.bl.cell (p := ⟨b, off + q * 5, none⟩) hb2).trans z0; go_simp; all_goals (with_reducible rfl)))
      try simp only [Act.put, pa, pb, pc]
      first | refine tu 14 46 rfl hS ?_ | (refine tk (v := ?_) 14 46 rfl (fun w' hS' => ?_) hS ?_; rotate_left; · (go_simp; all_goals (with_reducible rfl)))
      try simp only [Act.put, pa, pb, pc]
      first | refine tu 15 47 rfl hS ?_ | (refine tk (v := ?_) 15 47 rfl (fun w' hS' => ?_) hS ?_; rotate_left; · ((try dsimp only at hS'); have q0 := hS'.cell (i := 0) (j := 0) rfl rfl; have q1 := hS'.cell (i := 0) (j := 1) rfl rfl; have q2 := hS'.cell (i := 0) (j := 2) rfl rfl; have q3 := hS'.cell (i := 0) (j := 3) rfl rfl; have q4 := hS'.cell (i := 0) (j := 4) rfl rfl; have p0 := hS'.cell (i := 1) (j := 0) rfl rfl; have p1 := hS'.cell (i := 1) (j := 1) rfl rfl; have p2 := hS'.cell (i := 1) (j := 2) rfl rfl; have p3 := hS'.cell (i := 1) (j := 3) rfl rfl; have r0 := (hS'.bl.cell (p := ⟨b, off + q * 5, none⟩) hb2).trans z0; go_simp; all_goals (with_reducible rfl)))
      try simp only [Act.put, pa, pb, pc]
      first | refine tu 16 48 rfl hS ?_ | (refine tk (v := ?_) 16 48 rfl (fun w' hS' => ?_) hS ?_; rotate_left; · (go_simp; all_goals (with_reducible rfl)))
      try simp only [Act.put, pa, pb, pc]
      try rw [g3]
      first | refine tu 17 49 rfl hS ?_ | (refine tk (v := ?_) 17 49 rfl (fun w' hS' => ?_) hS ?_; rotate_left; · (go_simp; all_goals (with_reducible rfl)))
      try simp only [Act.put, pa, pb, pc]
      refine tk (v := ?_) 18 50 rfl (fun w' hS' => ?_) hS ?_
      rotate_left
      · go_simp; all_goals (with_reducible rfl)
      try simp only [Act.put, pa, pb, pc]
      refine wpAnyH_done (by kernel_rfl) ?_ _
      clear hS
      skip
      go_wp2
      go_roundw
      case rel => exact ⟨j + 1, by omega, by go_num, HJ.out, HM.out.pick (ks := [1]) (by decide) rfl⟩
      case measure => simp [intOf]; omega
    · have h9 : x.docs.drop j = [] := List.drop_eq_nil_of_le (by omega)
      have hda : docsB none x.docs = true := by rw [HI.out, h9]; rfl
      have HA := Lib.hid (show ∀ (i : Nat) (d : Do), x.docs[i]? = some d → docB d = true from fun i d h => docsB_all hda h)
      have HD3 := Lib.hid (show hubB x = subsB x.docs x.last 0 x.subs by rw [HD2.out, hda]; rfl)
      clear h9 hda HI HD2
      obtain ⟨kx0, kx1, kx2, kx3⟩ := HM.out.c4 0 rfl
      go_wp2_with fail
      clear hlt hj kx0 kx1 kx2 kx3
      go_loopw [55] (fun i wr => ∃ j : Nat, j ≤ x.subs.length ∧ i = .int .i64 (j : Int) ∧ subsB x.docs x.last 0 x.subs = subsB x.docs x.last (idAt x.subs j) (x.subs.drop j) ∧ Ms w [.bx w.heap.size (.cells #[.bool x.shut, .slice A1 x.docs.length ca, .slice A2 x.subs.length cb, .int .i64 x.last] 30 (0, 0))] wr) (fun i _ => x.subs.length - (intOf i).toNat)
      case atStart => exact ⟨0, Nat.zero_le _, rfl, by simp [idAt], HM.out⟩
      case round =>
        obtain ⟨j, hj, rfl, hi, hm⟩ := hrel
        clear HM
        have HM := Lib.hid hm
        have HI := Lib.hid hi
        clear hm hi
        by_cases hlt : j < x.subs.length
        · obtain ⟨b, off, e, C5, c5, rfl, hbb, hp, y0, y1, y2, y3, y4, y5, q5⟩ := atSus R2.out hlt
          have x0 := (HM.out.bl.cell (p := ⟨b, off + j * 6, none⟩) hbb).trans y0
          have x1 := (HM.out.bl.cell (p := ⟨b, off + j * 6 + 1, none⟩) hbb).trans y1
          have x2 := (HM.out.bl.cell (p := ⟨b, off + j * 6 + 2, none⟩) hbb).trans y2
          have x3 := (HM.out.bl.cell (p := ⟨b, off + j * 6 + 3, none⟩) hbb).trans y3
          have x4 := (HM.out.bl.cell (p := ⟨b, off + j * 6 + 4, none⟩) hbb).trans y4
          have x5 := (HM.out.bl.cell (p := ⟨b, off + j * 6 + 5, none⟩) hbb).trans y5
          clear y0 y1 y2 y3 y4 y5
          have hse := hs.subs.at_ (List.mem_of_getElem? hp)
          have HS := Lib.hid (subsB_step (docs := x.docs) (last := x.last) (p := idAt x.subs j) hp)
          clear hp
          have Q5h := Lib.hid q5
          clear q5
          have hml := HM.out.new #[.int .i64 e.id, .string e.doc, .int .i64 e.cap, .int .i64 e.next, .bool e.out, .slice C5 e.list.length c5] 80
          obtain ⟨kx0, kx1, kx2, kx3⟩ := hml.c4 1 rfl
          clear hml
          replace HM := Lib.hid (HM.out.new #[.int .i64 e.id, .string e.doc, .int .i64 e.cap, .int .i64 e.next, .bool e.out, .slice C5 e.list.length c5] 80)
          go_wp2_with fail
          clear x0 x1 x2 x3 x4 x5 kx0 kx1 kx2 kx3
          obtain ⟨W11, hW, hm⟩ := HM.out.name
          rw [← hW]
          replace HM := Lib.hid hm
          clear hm hW
          refine (specHubDoc_d _ x e.doc _ (HM.out.arg HR.out) hs).mono ?_
          rintro e' W12 ⟨rfl, b'⟩
          replace HM := Lib.hid (HM.out.past b')
          clear b'
          obtain ⟨kk, hkk⟩ : ∃ kk, hubDocT x e.doc = kk := ⟨_, rfl⟩
          rw [hkk]
          have HK := Lib.hid hkk
          clear hkk
          go_wp2
          rcases (show inB e.id 1 x.last = false ∨ inB e.id 1 x.last = true by cases inB e.id 1 x.last <;> simp) with h1 | h1
          · have HE := Lib.hid (show hubB x = false by rw [HD3.out, HI.out, HS.out, h1, Bool.false_and])
            replace h1 := Lib.hid h1
            replace HM := Lib.hid (HM.out.drew)
            refine wp_region_held_drew (S := fun W => Ms w [.bx wr.heap.size (.cells #[.int .i64 e.id, .string e.doc, .int .i64 e.cap, .int .i64 e.next, .bool e.out, .slice C5 e.list.length c5] 80 (0, 0)), .bx w.heap.size (.cells #[.bool x.shut, .slice A1 x.docs.length ca, .slice (some ⟨b, off, none⟩) x.subs.length cb, .int .i64 x.last] 30 (0, 0))] W) (by kernel_rfl) (HM.out.pick (ks := [0, 1]) (by decide) rfl) (fun hS => ?_)
            generalize W12.drew = W13 at HM hS  ⊢
            refine tk (v := ?_) 0 64 rfl (fun w' hS' => ?_) hS ?_
            rotate_left
            · go_simp; all_goals (with_reducible rfl)
            try simp only [Act.put, pa, pb, pc]
            refine tk (v := ?_) 1 65 rfl (fun w' hS' => ?_) hS ?_
            rotate_left
            · (try dsimp only at hS'); have q0 := hS'.cell (i := 0) (j := 0) rfl rfl; have q1 := hS'.cell (i := 0) (j := 1) rfl rfl; have q2 := hS'.cell (i := 0) (j := 2) rfl rfl; have q3 := hS'.cell (i := 0) (j := 3) rfl rfl; have q4 := hS'.cell (i := 0) (j := 4) rfl rfl; have q5 := hS'.cell (i := 0) (j := 5) rfl rfl; have p0 := hS'.cell (i := 1) (j := 0) rfl rfl; have p1 := hS'.cell (i := 1) (j := 1) rfl rfl; have p2 := hS'.cell (i := 1) (j := 2) rfl rfl; have p3 := hS'.cell (i := 1) (j := 3) rfl rfl; go_simp; all_goals (with_reducible rfl)
            try simp only [Act.put, pa, pb, pc]
            refine tk (v := ?_) 2 66 rfl (fun w' hS' => ?_) hS ?_
            rotate_left
            · go_simp; all_goals (with_reducible rfl)
            try simp only [Act.put, pa, pb, pc]
            refine tk (v := ?_) 3 67 rfl (fun w' hS' => ?_) hS ?_
            rotate_left
            · (try dsimp only at hS'); have q0 := hS'.cell (i := 0) (j := 0) rfl rfl; have q1 := hS'.cell (i := 0) (j := 1) rfl rfl; have q2 := hS'.cell (i := 0) (j := 2) rfl rfl; have q3 := hS'.cell (i := 0) (j := 3) rfl rfl; have q4 := hS'.cell (i := 0) (j := 4) rfl rfl; have q5 := hS'.cell (i := 0) (j := 5) rfl rfl; have p0 := hS'.cell (i := 1) (j := 0) rfl rfl; have p1 := hS'.cell (i := 1) (j := 1) rfl rfl; have p2 := hS'.cell (i := 1) (j := 2) rfl rfl; have p3 := hS'.cell (i := 1) (j := 3) rfl rfl; go_simp; all_goals (with_reducible rfl)
            try simp only [Act.put, pa, pb, pc]
            refine r1 4 (some 68) rfl (fun K hK => ?_)
            go_simp
            refine (in_any _ _ _ _).mono ?_
            rw [h1.out]
            rintro e' w9 ⟨rfl, rfl⟩
            refine hK.out _ _ (HM.out.pick (ks := [0, 1]) (by decide) rfl) (fun hS => ?_)
            clear hK K
            try simp only [Act.put, pa, pb, pc]
            refine tk (v := ?_) 5 69 rfl (fun w' hS' => ?_) hS ?_
            rotate_left
            · go_simp; all_goals (with_reducible rfl)
            try simp only [Act.put, pa, pb, pc]
            refine tk (v := ?_) 6 70 rfl (fun w' hS' => ?_) hS ?_
            rotate_left
            · go_simp; all_goals (with_reducible rfl)
            try simp only [Act.put, pa, pb, pc]
            refine tu 7 71 rfl hS ?_
            try simp only [Act.put, pa, pb, pc]
            refine tu 8 72 rfl hS ?_
            try simp only [Act.put, pa, pb, pc]
            refine tu 9 73 rfl hS ?_
            try simp only [Act.put, pa, pb, pc]
            refine tu 10 74 rfl hS ?_
            try simp only [Act.put, pa, pb, pc]
            refine tk (v := ?_) 11 75 rfl (fun w' hS' => ?_) hS ?_
            rotate_left
            · go_simp; all_goals (with_reducible rfl)
            try simp only [Act.put, pa, pb, pc]
            refine tk (v := ?_) 12 76 rfl (fun w' hS' => ?_) hS ?_
            rotate_left
            · go_simp; all_goals (with_reducible rfl)
            try simp only [Act.put, pa, pb, pc]
            refine tu 13 77 rfl hS ?_
            try simp only [Act.put, pa, pb, pc]
            refine tu 14 78 rfl hS ?_
            try simp only [Act.put, pa, pb, pc]
            refine tk (v := ?_) 15 79 rfl (fun w' hS' => ?_) hS ?_
            rotate_left
            · go_simp; all_goals (with_reducible rfl)
            try simp only [Act.put, pa, pb, pc]
            refine tk (v := ?_) 16 80 rfl (fun w' hS' => ?_) hS ?_
            rotate_left
            · go_simp; all_goals (with_reducible rfl)
            try simp only [Act.put, pa, pb, pc]
            refine tu 17 81 rfl hS ?_
            try simp only [Act.put, pa, pb, pc]
            refine tu 18 82 rfl hS ?_
            try simp only [Act.put, pa, pb, pc]
            refine tu 19 83 rfl hS ?_
            try simp only [Act.put, pa, pb, pc]
            refine tu 20 84 rfl hS ?_
            try simp only [Act.put, pa, pb, pc]
            refine tu 21 85 rfl hS ?_
            try simp only [Act.put, pa, pb, pc]
            refine tu 22 86 rfl hS ?_
            try simp only [Act.put, pa, pb, pc]
            refine tu 23 87 rfl hS ?_
            try simp only [Act.put, pa, pb, pc]
            refine tu 24 88 rfl hS ?_
            try simp only [Act.put, pa, pb, pc]
            refine tu 25 89 rfl hS ?_
            try simp only [Act.put, pa, pb, pc]
            refine tu 26 90 rfl hS ?_
            try simp only [Act.put, pa, pb, pc]
            refine tu 27 91 rfl hS ?_
            try simp only [Act.put, pa, pb, pc]
            refine tu 28 92 rfl hS ?_
            try simp only [Act.put, pa, pb, pc]
            refine tu 29 93 rfl hS ?_
            try simp only [Act.put, pa, pb, pc]
            refine tu 30 94 rfl hS ?_
            try simp only [Act.put, pa, pb, pc]
            refine tk (v := ?_) 31 95 rfl (fun w' hS' => ?_) hS ?_
            rotate_left
            · go_simp; all_goals (with_reducible rfl)
            try simp only [Act.put, pa, pb, pc]
            refine wpAnyH_done (by kernel_rfl) ?_ _
            clear hS
            go_wp2
            go_ret
            exact ⟨ret_b HE.out.symm, HM.out.bl⟩
          replace h1 := Lib.hid h1
          rcases (show ringB (ringSu e) = false ∨ ringB (ringSu e) = true by cases ringB (ringSu e) <;> simp) with h2 | h2
          · have HE := Lib.hid (show hubB x = false by rw [HD3.out, HI.out, HS.out, h1.out, h2, Bool.false_and, Bool.and_false])
            replace h2 := Lib.hid h2
            replace HM := Lib.hid (HM.out.drew)
            refine wp_region_held_drew (S := fun W => Ms w [.bx wr.heap.size (.cells #[.int .i64 e.id, .string e.doc, .int .i64 e.cap, .int .i64 e.next, .bool e.out, .slice C5 e.list.length c5] 80 (0, 0)), .bx w.heap.size (.cells #[.bool x.shut, .slice A1 x.docs.length ca, .slice (some ⟨b, off, none⟩) x.subs.length cb, .int .i64 x.last] 30 (0, 0))] W) (by kernel_rfl) (HM.out.pick (ks := [0, 1]) (by decide) rfl) (fun hS => ?_)
            generalize W12.drew = W14 at HM hS  ⊢
            refine tk (v := ?_) 0 64 rfl (fun w' hS' => ?_) hS ?_
            rotate_left
            · go_simp; all_goals (with_reducible rfl)
            try simp only [Act.put, pa, pb, pc]
            refine tk (v := ?_) 1 65 rfl (fun w' hS' => ?_) hS ?_
            rotate_left
            · (try dsimp only at hS'); have q0 := hS'.cell (i := 0) (j := 0) rfl rfl; have q1 := hS'.cell (i := 0) (j := 1) rfl rfl; have q2 := hS'.cell (i := 0) (j := 2) rfl rfl; have q3 := hS'.cell (i := 0) (j := 3) rfl rfl; have q4 := hS'.cell (i := 0) (j := 4) rfl rfl; have q5 := hS'.cell (i := 0) (j := 5) rfl rfl; have p0 := hS'.cell (i := 1) (j := 0) rfl rfl; have p1 := hS'.cell (i := 1) (j := 1) rfl rfl; have p2 := hS'.cell (i := 1) (j := 2) rfl rfl; have p3 := hS'.cell (i := 1) (j := 3) rfl rfl; go_simp; all_goals (with_reducible rfl)
            try simp only [Act.put, pa, pb, pc]
            refine tk (v := ?_) 2 66 rfl (fun w' hS' => ?_) hS ?_
            rotate_left
            · go_simp; all_goals (with_reducible rfl)
            try simp only [Act.put, pa, pb, pc]
            refine tk (v := ?_) 3 67 rfl (fun w' hS' => ?_) hS ?_
            rotate_left
            · (try dsimp only at hS'); have q0 := hS'.cell (i := 0) (j := 0) rfl rfl; have q1 := hS'.cell (i := 0) (j := 1) rfl rfl; have q2 := hS'.cell (i := 0) (j := 2) rfl rfl; have q3 := hS'.cell (i := 0) (j := 3) rfl rfl; have q4 := hS'.cell (i := 0) (j := 4) rfl rfl; have q5 := hS'.cell (i := 0) (j := 5) rfl rfl; have p0 := hS'.cell (i := 1) (j := 0) rfl rfl; have p1 := hS'.cell (i := 1) (j := 1) rfl rfl; have p2 := hS'.cell (i := 1) (j := 2) rfl rfl; have p3 := hS'.cell (i := 1) (j := 3) rfl rfl; go_simp; all_goals (with_reducible rfl)
            try simp only [Act.put, pa, pb, pc]
            refine r1 4 (some 68) rfl (fun K hK => ?_)
            go_simp
            refine (in_any _ _ _ _).mono ?_
            rw [h1.out]
            rintro e' w9 ⟨rfl, rfl⟩
            refine hK.out _ _ (HM.out.pick (ks := [0, 1]) (by decide) rfl) (fun hS => ?_)
            clear hK K
            try simp only [Act.put, pa, pb, pc]
            refine tk (v := ?_) 5 69 rfl (fun w' hS' => ?_) hS ?_
            rotate_left
            · go_simp; all_goals (with_reducible rfl)
            try simp only [Act.put, pa, pb, pc]
            refine tk (v := ?_) 6 70 rfl (fun w' hS' => ?_) hS ?_
            rotate_left
            · go_simp; all_goals (with_reducible rfl)
            try simp only [Act.put, pa, pb, pc]
            refine tk (v := ?_) 7 71 rfl (fun w' hS' => ?_) hS ?_
            rotate_left
            · go_simp; all_goals (with_reducible rfl)
            try simp only [Act.put, pa, pb, pc]
            refine tk (v := ?_) 8 72 rfl (fun w' hS' => ?_) hS ?_
            rotate_left
            · (try dsimp only at hS'); have q0 := hS'.cell (i := 0) (j := 0) rfl rfl; have q1 := hS'.cell (i := 0) (j := 1) rfl rfl; have q2 := hS'.cell (i := 0) (j := 2) rfl rfl; have q3 := hS'.cell (i := 0) (j := 3) rfl rfl; have q4 := hS'.cell (i := 0) (j := 4) rfl rfl; have q5 := hS'.cell (i := 0) (j := 5) rfl rfl; have p0 := hS'.cell (i := 1) (j := 0) rfl rfl; have p1 := hS'.cell (i := 1) (j := 1) rfl rfl; have p2 := hS'.cell (i := 1) (j := 2) rfl rfl; have p3 := hS'.cell (i := 1) (j := 3) rfl rfl; go_simp; all_goals (with_reducible rfl)
            try simp only [Act.put, pa, pb, pc]
            refine r1 9 (some 73) rfl (fun K hK => ?_)
            go_simp
            refine (specRingOk_d _ (ringSu e) _ (rdRi (ringSu e) (HM.out.arg Q5h.out)) (show SmRi (ringSu e) from hse.list)).mono ?_
            rw [h2.out]
            rintro e' W15 ⟨rfl, b'⟩
            replace HM := Lib.hid (HM.out.past b')
            clear b'
            clear hS
            refine hK.out _ _ (HM.out.pick (ks := [0, 1]) (by decide) rfl) (fun hS => ?_)
            clear hK K
            try simp only [Act.put, pa, pb, pc]
            refine tk (v := ?_) 10 74 rfl (fun w' hS' => ?_) hS ?_
            rotate_left
            · go_simp; all_goals (with_reducible rfl)
            try simp only [Act.put, pa, pb, pc]
            refine tk (v := ?_) 11 75 rfl (fun w' hS' => ?_) hS ?_
            rotate_left
            · go_simp; all_goals (with_reducible rfl)
            try simp only [Act.put, pa, pb, pc]
            refine tk (v := ?_) 12 76 rfl (fun w' hS' => ?_) hS ?_
            rotate_left
            · go_simp; all_goals (with_reducible rfl)
            try simp only [Act.put, pa, pb, pc]
            refine tu 13 77 rfl hS ?_
            try simp only [Act.put, pa, pb, pc]
            refine tu 14 78 rfl hS ?_
            try simp only [Act.put, pa, pb, pc]
            refine tk (v := ?_) 15 79 rfl (fun w' hS' => ?_) hS ?_
            rotate_left
            · go_simp; all_goals (with_reducible rfl)
            try simp only [Act.put, pa, pb, pc]
            refine tk (v := ?_) 16 80 rfl (fun w' hS' => ?_) hS ?_
            rotate_left
            · go_simp; all_goals (with_reducible rfl)
            try simp only [Act.put, pa, pb, pc]
            refine tu 17 81 rfl hS ?_
            try simp only [Act.put, pa, pb, pc]
            refine tu 18 82 rfl hS ?_
            try simp only [Act.put, pa, pb, pc]
            refine tu 19 83 rfl hS ?_
            try simp only [Act.put, pa, pb, pc]
            refine tu 20 84 rfl hS ?_
            try simp only [Act.put, pa, pb, pc]
            refine tu 21 85 rfl hS ?_
            try simp only [Act.put, pa, pb, pc]
            refine tu 22 86 rfl hS ?_
            try simp only [Act.put, pa, pb, pc]
            refine tu 23 87 rfl hS ?_
            try simp only [Act.put, pa, pb, pc]
            refine tu 24 88 rfl hS ?_
            try simp only [Act.put, pa, pb, pc]
            refine tu 25 89 rfl hS ?_
            try simp only [Act.put, pa, pb, pc]
            refine tu 26 90 rfl hS ?_
            try simp only [Act.put, pa, pb, pc]
            refine tu 27 91 rfl hS ?_
            try simp only [Act.put, pa, pb, pc]
            refine tu 28 92 rfl hS ?_
            try simp only [Act.put, pa, pb, pc]
            refine tu 29 93 rfl hS ?_
            try simp only [Act.put, pa, pb, pc]
            refine tu 30 94 rfl hS ?_
            try simp only [Act.put, pa, pb, pc]
            refine tk (v := ?_) 31 95 rfl (fun w' hS' => ?_) hS ?_
            rotate_left
            · go_simp; all_goals (with_reducible rfl)
            try simp only [Act.put, pa, pb, pc]
            refine wpAnyH_done (by kernel_rfl) ?_ _
            clear hS
            go_wp2
            go_ret
            exact ⟨ret_b HE.out.symm, HM.out.bl⟩
          have RB := Lib.hid (ringB_of h2)
          replace h2 := Lib.hid h2
          by_cases h3 : kk < 0
          · have hk0 := hubDoc_neg HK.out h3
            have HE := Lib.hid (show hubB x = false by rw [HD3.out, HI.out, HS.out, h1.out, h2.out, fit_none hk0, Bool.false_and, Bool.and_false, Bool.and_false])
            clear hk0
            have g3 : decide (kk < 0) = true := decide_eq_true h3
            clear h3
            replace HM := Lib.hid (HM.out.drew)
            refine wp_region_held_drew (S := fun W => Ms w [.bx wr.heap.size (.cells #[.int .i64 e.id, .string e.doc, .int .i64 e.cap, .int .i64 e.next, .bool e.out, .slice C5 e.list.length c5] 80 (0, 0)), .bx w.heap.size (.cells #[.bool x.shut, .slice A1 x.docs.length ca, .slice (some ⟨b, off, none⟩) x.subs.length cb, .int .i64 x.last] 30 (0, 0))] W) (by kernel_rfl) (HM.out.pick (ks := [0, 1]) (by decide) rfl) (fun hS => ?_)
            generalize W12.drew = W16 at HM hS  ⊢
            refine tk (v := ?_) 0 64 rfl (fun w' hS' => ?_) hS ?_
            rotate_left
            · go_simp; all_goals (with_reducible rfl)
            try simp only [Act.put, pa, pb, pc]
            refine tk (v := ?_) 1 65 rfl (fun w' hS' => ?_) hS ?_
            rotate_left
            · (try dsimp only at hS'); have q0 := hS'.cell (i := 0) (j := 0) rfl rfl; have q1 := hS'.cell (i := 0) (j := 1) rfl rfl; have q2 := hS'.cell (i := 0) (j := 2) rfl rfl; have q3 := hS'.cell (i := 0) (j := 3) rfl rfl; have q4 := hS'.cell (i := 0) (j := 4) rfl rfl; have q5 := hS'.cell (i := 0) (j := 5) rfl rfl; have p0 := hS'.cell (i := 1) (j := 0) rfl rfl; have p1 := hS'.cell (i := 1) (j := 1) rfl rfl; have p2 := hS'.cell (i := 1) (j := 2) rfl rfl; have p3 := hS'.cell (i := 1) (j := 3) rfl rfl; go_simp; all_goals (with_reducible rfl)
            try simp only [Act.put, pa, pb, pc]
            refine tk (v := ?_) 2 66 rfl (fun w' hS' => ?_) hS ?_
            rotate_left
            · go_simp; all_goals (with_reducible rfl)
            try simp only [Act.put, pa, pb, pc]
            refine tk (v := ?_) 3 67 rfl (fun w' hS' => ?_) hS ?_
            rotate_left
            · (try dsimp only at hS'); have q0 := hS'.cell (i := 0) (j := 0) rfl rfl; have q1 := hS'.cell (i := 0) (j := 1) rfl rfl; have q2 := hS'.cell (i := 0) (j := 2) rfl rfl; have q3 := hS'.cell (i := 0) (j := 3) rfl rfl; have q4 := hS'.cell (i := 0) (j := 4) rfl rfl; have q5 := hS'.cell (i := 0) (j := 5) rfl rfl; have p0 := hS'.cell (i := 1) (j := 0) rfl rfl; have p1 := hS'.cell (i := 1) (j := 1) rfl rfl; have p2 := hS'.cell (i := 1) (j := 2) rfl rfl; have p3 := hS'.cell (i := 1) (j := 3) rfl rfl; go_simp; all_goals (with_reducible rfl)
            try simp only [Act.put, pa, pb, pc]
            refine r1 4 (some 68) rfl (fun K hK => ?_)
            go_simp
            refine (in_any _ _ _ _).mono ?_
            rw [h1.out]
            rintro e' w9 ⟨rfl, rfl⟩
            refine hK.out _ _ (HM.out.pick (ks := [0, 1]) (by decide) rfl) (fun hS => ?_)
            clear hK K
            try simp only [Act.put, pa, pb, pc]
            refine tk (v := ?_) 5 69 rfl (fun w' hS' => ?_) hS ?_
            rotate_left
            · go_simp; all_goals (with_reducible rfl)
            try simp only [Act.put, pa, pb, pc]
            refine tk (v := ?_) 6 70 rfl (fun w' hS' => ?_) hS ?_
            rotate_left
            · go_simp; all_goals (with_reducible rfl)
            try simp only [Act.put, pa, pb, pc]
            refine tk (v := ?_) 7 71 rfl (fun w' hS' => ?_) hS ?_
            rotate_left
            · go_simp; all_goals (with_reducible rfl)
            try simp only [Act.put, pa, pb, pc]
            refine tk (v := ?_) 8 72 rfl (fun w' hS' => ?_) hS ?_
            rotate_left
            · (try dsimp only at hS'); have q0 := hS'.cell (i := 0) (j := 0) rfl rfl; have q1 := hS'.cell (i := 0) (j := 1) rfl rfl; have q2 := hS'.cell (i := 0) (j := 2) rfl rfl; have q3 := hS'.cell (i := 0) (j := 3) rfl rfl; have q4 := hS'.cell (i := 0) (j := 4) rfl rfl; have q5 := hS'.cell (i := 0) (j := 5) rfl rfl; have p0 := hS'.cell (i := 1) (j := 0) rfl rfl; have p1 := hS'.cell (i := 1) (j := 1) rfl rfl; have p2 := hS'.cell (i := 1) (j := 2) rfl rfl; have p3 := hS'.cell (i := 1) (j := 3) rfl rfl; go_simp; all_goals (with_reducible rfl)
            try simp only [Act.put, pa, pb, pc]
            refine r1 9 (some 73) rfl (fun K hK => ?_)
            go_simp
            refine (specRingOk_d _ (ringSu e) _ (rdRi (ringSu e) (HM.out.arg Q5h.out)) (show SmRi (ringSu e) from hse.list)).mono ?_
            rw [h2.out]
            rintro e' W17 ⟨rfl, b'⟩
            replace HM := Lib.hid (HM.out.past b')
            clear b'
            clear hS
            refine hK.out _ _ (HM.out.pick (ks := [0, 1]) (by decide) rfl) (fun hS => ?_)
            clear hK K
            try simp only [Act.put, pa, pb, pc]
            refine tk (v := ?_) 10 74 rfl (fun w' hS' => ?_) hS ?_
            rotate_left
            · go_simp; all_goals (with_reducible rfl)
            try simp only [Act.put, pa, pb, pc]
            refine tk (v := ?_) 11 75 rfl (fun w' hS' => ?_) hS ?_
            rotate_left
            · go_simp; all_goals (with_reducible rfl)
            try simp only [Act.put, pa, pb, pc]
            refine tk (v := ?_) 12 76 rfl (fun w' hS' => ?_) hS ?_
            rotate_left
            · go_simp; all_goals (with_reducible rfl)
            try simp only [Act.put, pa, pb, pc]
            refine tk (v := ?_) 13 77 rfl (fun w' hS' => ?_) hS ?_
            rotate_left
            · go_simp; all_goals (with_reducible rfl)
            try simp only [Act.put, pa, pb, pc]
            refine tk (v := ?_) 14 78 rfl (fun w' hS' => ?_) hS ?_
            rotate_left
            · go_simp; all_goals (with_reducible rfl)
            try simp only [Act.put, pa, pb, pc]
            try rw [g3]
            refine tk (v := ?_) 15 79 rfl (fun w' hS' => ?_) hS ?_
            rotate_left
            · go_simp; all_goals (with_reducible rfl)
            try simp only [Act.put, pa, pb, pc]
            refine tk (v := ?_) 16 80 rfl (fun w' hS' => ?_) hS ?_
            rotate_left
            · go_simp; all_goals (with_reducible rfl)
            try simp only [Act.put, pa, pb, pc]
            refine tu 17 81 rfl hS ?_
            try simp only [Act.put, pa, pb, pc]
            refine tu 18 82 rfl hS ?_
            try simp only [Act.put, pa, pb, pc]
            refine tu 19 83 rfl hS ?_
            try simp only [Act.put, pa, pb, pc]
            refine tu 20 84 rfl hS ?_
            try simp only [Act.put, pa, pb, pc]
            refine tu 21 85 rfl hS ?_
            try simp only [Act.put, pa, pb, pc]
            refine tu 22 86 rfl hS ?_
            try simp only [Act.put, pa, pb, pc]
            refine tu 23 87 rfl hS ?_
            try simp only [Act.put, pa, pb, pc]
            refine tu 24 88 rfl hS ?_
            try simp only [Act.put, pa, pb, pc]
            refine tu 25 89 rfl hS ?_
            try simp only [Act.put, pa, pb, pc]
            refine tu 26 90 rfl hS ?_
            try simp only [Act.put, pa, pb, pc]
            refine tu 27 91 rfl hS ?_
            try simp only [Act.put, pa, pb, pc]
            refine tu 28 92 rfl hS ?_
            try simp only [Act.put, pa, pb, pc]
            refine tu 29 93 rfl hS ?_
            try simp only [Act.put, pa, pb, pc]
            refine tu 30 94 rfl hS ?_
            try simp only [Act.put, pa, pb, pc]
            refine tk (v := ?_) 31 95 rfl (fun w' hS' => ?_) hS ?_
            rotate_left
            · go_simp; all_goals (with_reducible rfl)
            try simp only [Act.put, pa, pb, pc]
            refine wpAnyH_done (by kernel_rfl) ?_ _
            clear hS
            go_wp2
            go_ret
            exact ⟨ret_b HE.out.symm, HM.out.bl⟩
          obtain ⟨k, rfl, hk, hkl⟩ := hubDoc_pos HK.out h3
          have g3 : decide ((k : Int) < 0) = false := decide_eq_false h3
          clear h3 HK
          obtain ⟨b3, off3, d, D2, d2, D3, d3, D4, d4, hA3, hb3, hp3, z0, z1, z2, z3, z4, p2, p3, p4⟩ := atDos R1.out (i := k) hkl
          subst hA3
          have HF := Lib.hid (fit_some hk hp3)
          have hre := docsOk_rev (HA.out _ _ hp3)
          have hsd := hs.docs.at_ (List.mem_of_getElem? hp3)
          have P2h := Lib.hid p2
          have P3h := Lib.hid p3
          have P4h := Lib.hid p4
          have HRE := Lib.hid hre
          clear hp3 p2 p3 p4 hk hre
          by_cases h4 : j = 0
          · have g4 : decide (0 < j) = false := decide_eq_false (by omega)
            have HN := Lib.hid (show decide (idAt x.subs j < e.id) = true by rw [h4]; have h5 := h1.out; unfold inB at h5; simp at h5; exact decide_eq_true (by show (0 : Int) < _; omega))
            clear h4
            replace HM := Lib.hid (HM.out.drew)
            refine wp_region_held_drew (S := fun W => Ms w [.bx wr.heap.size (.cells #[.int .i64 e.id, .string e.doc, .int .i64 e.cap, .int .i64 e.next, .bool e.out, .slice C5 e.list.length c5] 80 (0, 0)), .bx w.heap.size (.cells #[.bool x.shut, .slice (some ⟨b3, off3, none⟩) x.docs.length ca, .slice (some ⟨b, off, none⟩) x.subs.length cb, .int .i64 x.last] 30 (0, 0))] W) (by kernel_rfl) (HM.out.pick (ks := [0, 1]) (by decide) rfl) (fun hS => ?_)
            generalize W12.drew = W18 at HM hS  ⊢
            refine tk (v := ?_) 0 64 rfl (fun w' hS' => ?_) hS ?_
            rotate_left
            · go_simp; all_goals (with_reducible rfl)
            try simp only [Act.put, pa, pb, pc]
            refine tk (v := ?_) 1 65 rfl (fun w' hS' => ?_) hS ?_
            rotate_left
            · (try dsimp only at hS'); have q0 := hS'.cell (i := 0) (j := 0) rfl rfl; have q1 := hS'.cell (i := 0) (j := 1) rfl rfl; have q2 := hS'.cell (i := 0) (j := 2) rfl rfl; have q3 := hS'.cell (i := 0) (j := 3) rfl rfl; have q4 := hS'.cell (i := 0) (j := 4) rfl rfl; have q5 := hS'.cell (i := 0) (j := 5) rfl rfl; have p0 := hS'.cell (i := 1) (j := 0) rfl rfl; have p1 := hS'.cell (i := 1) (j := 1) rfl rfl; have p2 := hS'.cell (i := 1) (j := 2) rfl rfl; have p3 := hS'.cell (i := 1) (j := 3) rfl rfl; go_simp; all_goals (with_reducible rfl)
            try simp only [Act.put, pa, pb, pc]
            refine tk (v := ?_) 2 66 rfl (fun w' hS' => ?_) hS ?_
            rotate_left
            · go_simp; all_goals (with_reducible rfl)
            try simp only [Act.put, pa, pb, pc]
            refine tk (v := ?_) 3 67 rfl (fun w' hS' => ?_) hS ?_
            rotate_left
            · (try dsimp only at hS'); have q0 := hS'.cell (i := 0) (j := 0) rfl rfl; have q1 := hS'.cell (i := 0) (j := 1) rfl rfl; have q2 := hS'.cell (i := 0) (j := 2) rfl rfl; have q3 := hS'.cell (i := 0) (j := 3) rfl rfl; have q4 := hS'.cell (i := 0) (j := 4) rfl rfl; have q5 := hS'.cell (i := 0) (j := 5) rfl rfl; have p0 := hS'.cell (i := 1) (j := 0) rfl rfl; have p1 := hS'.cell (i := 1) (j := 1) rfl rfl; have p2 := hS'.cell (i := 1) (j := 2) rfl rfl; have p3 := hS'.cell (i := 1) (j := 3) rfl rfl; go_simp; all_goals (with_reducible rfl)
            try simp only [Act.put, pa, pb, pc]
            refine r1 4 (some 68) rfl (fun K hK => ?_)
            go_simp
            refine (in_any _ _ _ _).mono ?_
            rw [h1.out]
            rintro e' w9 ⟨rfl, rfl⟩
            refine hK.out _ _ (HM.out.pick (ks := [0, 1]) (by decide) rfl) (fun hS => ?_)
            clear hK K
            try simp only [Act.put, pa, pb, pc]
            refine tk (v := ?_) 5 69 rfl (fun w' hS' => ?_) hS ?_
            rotate_left
            · go_simp; all_goals (with_reducible rfl)
            try simp only [Act.put, pa, pb, pc]
            refine tk (v := ?_) 6 70 rfl (fun w' hS' => ?_) hS ?_
            rotate_left
            · go_simp; all_goals (with_reducible rfl)
            try simp only [Act.put, pa, pb, pc]
            refine tk (v := ?_) 7 71 rfl (fun w' hS' => ?_) hS ?_
            rotate_left
            · go_simp; all_goals (with_reducible rfl)
            try simp only [Act.put, pa, pb, pc]
            refine tk (v := ?_) 8 72 rfl (fun w' hS' => ?_) hS ?_
            rotate_left
            · (try dsimp only at hS'); have q0 := hS'.cell (i := 0) (j := 0) rfl rfl; have q1 := hS'.cell (i := 0) (j := 1) rfl rfl; have q2 := hS'.cell (i := 0) (j := 2) rfl rfl; have q3 := hS'.cell (i := 0) (j := 3) rfl rfl; have q4 := hS'.cell (i := 0) (j := 4) rfl rfl; have q5 := hS'.cell (i := 0) (j := 5) rfl rfl; have p0 := hS'.cell (i := 1) (j := 0) rfl rfl; have p1 := hS'.cell (i := 1) (j := 1) rfl rfl; have p2 := hS'.cell (i := 1) (j := 2) rfl rfl; have p3 := hS'.cell (i := 1) (j := 3) rfl rfl; go_simp; all_goals (with_reducible rfl)
            try simp only [Act.put, pa, pb, pc]
            refine r1 9 (some 73) rfl (fun K hK => ?_)
            go_simp
            refine (specRingOk_d _ (ringSu e) _ (rdRi (ringSu e) (HM.out.arg Q5h.out)) (show SmRi (ringSu e) from hse.list)).mono ?_
            rw [h2.out]
            rintro e' W19 ⟨rfl, b'⟩
            replace HM := Lib.hid (HM.out.past b')
            clear b'
            clear hS
            refine hK.out _ _ (HM.out.pick (ks := [0, 1]) (by decide) rfl) (fun hS => ?_)
            clear hK K
            try simp only [Act.put, pa, pb, pc]
            refine tk (v := ?_) 10 74 rfl (fun w' hS' => ?_) hS ?_
            rotate_left
            · go_simp; all_goals (with_reducible rfl)
            try simp only [Act.put, pa, pb, pc]
            refine tk (v := ?_) 11 75 rfl (fun w' hS' => ?_) hS ?_
            rotate_left
            · go_simp; all_goals (with_reducible rfl)
            try simp only [Act.put, pa, pb, pc]
            refine tk (v := ?_) 12 76 rfl (fun w' hS' => ?_) hS ?_
            rotate_left
            · go_simp; all_goals (with_reducible rfl)
            try simp only [Act.put, pa, pb, pc]
            refine tk (v := ?_) 13 77 rfl (fun w' hS' => ?_) hS ?_
            rotate_left
            · go_simp; all_goals (with_reducible rfl)
            try simp only [Act.put, pa, pb, pc]
            refine tk (v := ?_) 14 78 rfl (fun w' hS' => ?_) hS ?_
            rotate_left
            · go_simp; all_goals (with_reducible rfl)
            try simp only [Act.put, pa, pb, pc]
            try rw [g3]
            refine tk (v := ?_) 15 79 rfl (fun w' hS' => ?_) hS ?_
            rotate_left
            · go_simp; all_goals (with_reducible rfl)
            try simp only [Act.put, pa, pb, pc]
            refine tk (v := ?_) 16 80 rfl (fun w' hS' => ?_) hS ?_
            rotate_left
            · go_simp; all_goals (with_reducible rfl)
            try simp only [Act.put, pa, pb, pc]
            refine tk (v := ?_) 17 81 rfl (fun w' hS' => ?_) hS ?_
            rotate_left
            · go_simp; all_goals (with_reducible rfl)
            try simp only [Act.put, pa, pb, pc]
            refine tk (v := ?_) 18 82 rfl (fun w' hS' => ?_) hS ?_
            rotate_left
            · go_simp; all_goals (with_reducible rfl)
            try simp only [Act.put, pa, pb, pc]
            try rw [g4]
            refine tk (v := ?_) 19 83 rfl (fun w' hS' => ?_) hS ?_
            rotate_left
            · go_simp; all_goals (with_reducible rfl)
            try simp only [Act.put, pa, pb, pc]
            refine tu 20 84 rfl hS ?_
            try simp only [Act.put, pa, pb, pc]
            refine tu 21 85 rfl hS ?_
            try simp only [Act.put, pa, pb, pc]
            refine tu 22 86 rfl hS ?_
            try simp only [Act.put, pa, pb, pc]
            refine tu 23 87 rfl hS ?_
            try simp only [Act.put, pa, pb, pc]
            refine tu 24 88 rfl hS ?_
            try simp only [Act.put, pa, pb, pc]
            refine tu 25 89 rfl hS ?_
            try simp only [Act.put, pa, pb, pc]
            refine tu 26 90 rfl hS ?_
            try simp only [Act.put, pa, pb, pc]
            refine tu 27 91 rfl hS ?_
            try simp only [Act.put, pa, pb, pc]
            refine tu 28 92 rfl hS ?_
            try simp only [Act.put, pa, pb, pc]
            refine tu 29 93 rfl hS ?_
            try simp only [Act.put, pa, pb, pc]
            refine tk (v := ?_) 30 94 rfl (fun w' hS' => ?_) hS ?_
            rotate_left
            · go_simp; all_goals (with_reducible rfl)
            try simp only [Act.put, pa, pb, pc]
            refine tk (v := ?_) 31 95 rfl (fun w' hS' => ?_) hS ?_
            rotate_left
            · go_simp; all_goals (with_reducible rfl)
            try simp only [Act.put, pa, pb, pc]
            refine wpAnyH_done (by kernel_rfl) ?_ _
            clear hS
            go_wp2
            rcases (show e.out = true ∨ e.out = false by cases e.out <;> simp) with h6 | h6
            · have HJ := Lib.hid (show subsB x.docs x.last 0 x.subs = subsB x.docs x.last (idAt x.subs (j + 1)) (x.subs.drop (j + 1)) by rw [HI.out, HS.out, h1.out, h2.out, HF.out, HN.out, h6, Bool.true_or, Bool.true_and, Bool.true_and, Bool.true_and, Bool.true_and])
              replace HM := Lib.hid (HM.out.drew)
              refine wp_region_held_drew (S := fun W => Ms w [.bx wr.heap.size (.cells #[.int .i64 e.id, .string e.doc, .int .i64 e.cap, .int .i64 e.next, .bool e.out, .slice C5 e.list.length c5] 80 (0, 0)), .bx w.heap.size (.cells #[.bool x.shut, .slice (some ⟨b3, off3, none⟩) x.docs.length ca, .slice (some ⟨b, off, none⟩) x.subs.length cb, .int .i64 x.last] 30 (0, 0))] W) (by kernel_rfl) (HM.out.pick (ks := [0, 1]) (by decide) rfl) (fun hS => ?_)
              generalize W19.drew = W20 at HM hS  ⊢
              refine tk (v := ?_) 0 96 rfl (fun w' hS' => ?_) hS ?_
              rotate_left
              · go_simp; all_goals (with_reducible rfl)
              try simp only [Act.put, pa, pb, pc]
              refine tk (v := ?_) 1 97 rfl (fun w' hS' => ?_) hS ?_
              rotate_left
              · go_simp; all_goals (with_reducible rfl)
              try simp only [Act.put, pa, pb, pc]
              refine tk (v := ?_) 2 98 rfl (fun w' hS' => ?_) hS ?_
              rotate_left
              · (try dsimp only at hS'); have q0 := hS'.cell (i := 0) (j := 0) rfl rfl; have q1 := hS'.cell (i := 0) (j := 1) rfl rfl; have q2 := hS'.cell (i := 0) (j := 2) rfl rfl; have q3 := hS'.cell (i := 0) (j := 3) rfl rfl; have q4 := hS'.cell (i := 0) (j := 4) rfl rfl; have q5 := hS'.cell (i := 0) (j := 5) rfl rfl; have p0 := hS'.cell (i := 1) (j := 0) rfl rfl; have p1 := hS'.cell (i := 1) (j := 1) rfl rfl; have p2 := hS'.cell (i := 1) (j := 2) rfl rfl; have p3 := hS'.cell (i := 1) (j := 3) rfl rfl; rw [h6] at q4; go_simp; all_goals (with_reducible rfl)
              try simp only [Act.put, pa, pb, pc]
              refine tk (v := ?_) 3 99 rfl (fun w' hS' => ?_) hS ?_
              rotate_left
              · go_simp; all_goals (with_reducible rfl)
              try simp only [Act.put, pa, pb, pc]
              refine tk (v := ?_) 4 100 rfl (fun w' hS' => ?_) hS ?_
              rotate_left
              · go_simp; all_goals (with_reducible rfl)
              try simp only [Act.put, pa, pb, pc]
              refine tu 5 101 rfl hS ?_
              try simp only [Act.put, pa, pb, pc]
              refine tu 6 102 rfl hS ?_
              try simp only [Act.put, pa, pb, pc]
              refine tu 7 103 rfl hS ?_
              try simp only [Act.put, pa, pb, pc]
              refine tu 8 104 rfl hS ?_
              try simp only [Act.put, pa, pb, pc]
              refine tu 9 105 rfl hS ?_
              try simp only [Act.put, pa, pb, pc]
              refine tu 10 106 rfl hS ?_
              try simp only [Act.put, pa, pb, pc]
              refine tu 11 107 rfl hS ?_
              try simp only [Act.put, pa, pb, pc]
              refine tu 12 108 rfl hS ?_
              try simp only [Act.put, pa, pb, pc]
              refine tu 13 109 rfl hS ?_
              try simp only [Act.put, pa, pb, pc]
              refine tu 14 110 rfl hS ?_
              try simp only [Act.put, pa, pb, pc]
              refine tu 15 111 rfl hS ?_
              try simp only [Act.put, pa, pb, pc]
              refine tu 16 112 rfl hS ?_
              try simp only [Act.put, pa, pb, pc]
              refine tu 17 113 rfl hS ?_
              try simp only [Act.put, pa, pb, pc]
              refine tu 18 114 rfl hS ?_
              try simp only [Act.put, pa, pb, pc]
              refine tu 19 115 rfl hS ?_
              try simp only [Act.put, pa, pb, pc]
              refine tu 20 116 rfl hS ?_
              try simp only [Act.put, pa, pb, pc]
              refine tk (v := ?_) 21 117 rfl (fun w' hS' => ?_) hS ?_
              rotate_left
              · go_simp; all_goals (with_reducible rfl)
              try simp only [Act.put, pa, pb, pc]
              refine wpAnyH_done (by kernel_rfl) ?_ _
              clear hS
              skip
              go_wp2
              go_roundw
              case rel => exact ⟨j + 1, by omega, by go_num, HJ.out, HM.out.pick (ks := [1]) (by decide) rfl⟩
              case measure => simp [intOf]; omega
            have hrb := RB.out
            have hn1 : e.next ≤ 1000000000 ∧ 1 ≤ e.next ∧ (e.list.length : Int) ≤ e.cap ∧ e.cap ≤ 6 := ⟨hrb.2.2.2.2.1, hrb.2.2.2.1, hrb.2.2.2.2.2.1, hrb.2.2.1⟩
            obtain ⟨hn1, hn2, hn3, hn4⟩ := hn1
            obtain ⟨hr1, hr2⟩ := HRE.out
            clear hrb
            have hw1 : IntKind.i64.wrap (e.next + (e.list.length : Int)) = e.next + (e.list.length : Int) := IntWalk.i64_in _ (by omega)
            have hw2 : IntKind.i64.wrap (headRevT d + 1) = headRevT d + 1 := IntWalk.i64_in _ (by omega)
            by_cases h7 : e.next + (e.list.length : Int) = headRevT d + 1
            rotate_left
            · have HE := Lib.hid (show hubB x = false by rw [HD3.out, HI.out, HS.out, h1.out, h2.out, HF.out, h6, decide_eq_false h7, Bool.or_false, Bool.false_and, Bool.and_false, Bool.and_false])
              have g7 : (e.next + (e.list.length : Int) != headRevT d + 1) = true := by rw [bne_iff_ne]; exact h7
              clear h7
              replace HM := Lib.hid (HM.out.drew)
              refine wp_region_held_drew (S := fun W => Ms w [.bx wr.heap.size (.cells #[.int .i64 e.id, .string e.doc, .int .i64 e.cap, .int .i64 e.next, .bool e.out, .slice C5 e.list.length c5] 80 (0, 0)), .bx w.heap.size (.cells #[.bool x.shut, .slice (some ⟨b3, off3, none⟩) x.docs.length ca, .slice (some ⟨b, off, none⟩) x.subs.length cb, .int .i64 x.last] 30 (0, 0))] W) (by kernel_rfl) (HM.out.pick (ks := [0, 1]) (by decide) rfl) (fun hS => ?_)
              generalize W19.drew = W21 at HM hS  ⊢
              refine tk (v := ?_) 0 96 rfl (fun w' hS' => ?_) hS ?_
              rotate_left
              · go_simp; all_goals (with_reducible rfl)
              try simp only [Act.put, pa, pb, pc]
              refine tk (v := ?_) 1 97 rfl (fun w' hS' => ?_) hS ?_
              rotate_left
              · go_simp; all_goals (with_reducible rfl)
              try simp only [Act.put, pa, pb, pc]
              refine tk (v := ?_) 2 98 rfl (fun w' hS' => ?_) hS ?_
              rotate_left
              · (try dsimp only at hS'); have q0 := hS'.cell (i := 0) (j := 0) rfl rfl; have q1 := hS'.cell (i := 0) (j := 1) rfl rfl; have q2 := hS'.cell (i := 0) (j := 2) rfl rfl; have q3 := hS'.cell (i := 0) (j := 3) rfl rfl; have q4 := hS'.cell (i := 0) (j := 4) rfl rfl; have q5 := hS'.cell (i := 0) (j := 5) rfl rfl; have p0 := hS'.cell (i := 1) (j := 0) rfl rfl; have p1 := hS'.cell (i := 1) (j := 1) rfl rfl; have p2 := hS'.cell (i := 1) (j := 2) rfl rfl; have p3 := hS'.cell (i := 1) (j := 3) rfl rfl; have u0 := (hS'.bl.cell (p := ⟨b3, off3 + k * 5, none⟩) hb3).trans z0; have u1 := (hS'.bl.cell (p := ⟨b3, off3 + k * 5 + 1, none⟩) hb3).trans z1; have u2 := (hS'.bl.cell (p := ⟨b3, off3 + k * 5 + 2, none⟩) hb3).trans z2; have u3 := (hS'.bl.cell (p := ⟨b3, off3 + k * 5 + 3, none⟩) hb3).trans z3; have u4 := (hS'.bl.cell (p := ⟨b3, off3 + k * 5 + 4, none⟩) hb3).trans z4; rw [h6] at q4; go_simp; all_goals (with_reducible rfl)
              try simp only [Act.put, pa, pb, pc]
              refine tk (v := ?_) 3 99 rfl (fun w' hS' => ?_) hS ?_
              rotate_left
              · go_simp; all_goals (with_reducible rfl)
              try simp only [Act.put, pa, pb, pc]
              refine tk (v := ?_) 4 100 rfl (fun w' hS' => ?_) hS ?_
              rotate_left
              · go_simp; all_goals (with_reducible rfl)
              try simp only [Act.put, pa, pb, pc]
              first | refine tu 5 101 rfl hS ?_ | (refine tk (v := ?_) 5 101 rfl (fun w' hS' => ?_) hS ?_; rotate_left; · (go_simp; all_goals (with_reducible rfl)))
              try simp only [Act.put, pa, pb, pc]
              first | refine tu 6 102 rfl hS ?_ | (refine tk (v := ?_) 6 102 rfl (fun w' hS' => ?_) hS ?_; rotate_left; · (go_simp; all_goals (with_reducible rfl)))
              try simp only [Act.put, pa, pb, pc]
              first | refine tu 7 103 rfl hS ?_ | (refine tk (v := ?_) 7 103 rfl (fun w' hS' => ?_) hS ?_; rotate_left; · ((try dsimp only at hS'); have q0 := hS'.cell (i := 0) (j := 0) rfl rfl; have q1 := hS'.cell (i := 0) (j := 1) rfl rfl; have q2 := hS'.cell (i := 0) (j := 2) rfl rfl; have q3 := hS'.cell (i := 0) (j := 3) rfl rfl; have q4 := hS'.cell (i := 0) (j := 4) rfl rfl; have q5 := hS'.cell (i := 0) (j := 5) rfl rfl; have p0 := hS'.cell (i := 1) (j := 0) rfl rfl; have p1 := hS'.cell (i := 1) (j := 1) rfl rfl; have p2 := hS'.cell (i := 1) (j := 2) rfl rfl; have p3 := hS'.cell (i := 1) (j := 3) rfl rfl; have u0 := (hS'.bl.cell (p := ⟨b3, off3 + k * 5, none⟩) hb3).trans z0; have u1 := (hS'.bl.cell (p := ⟨b3, off3 + k * 5 + 1, none⟩) hb3).trans z1; have u2 := (hS'.bl.cell (p := ⟨b3, off3 + k * 5 + 2, none⟩) hb3).trans z2; have u3 := (hS'.bl.cell (p := ⟨b3, off3 + k * 5 + 3, none⟩) hb3).trans z3; have u4 := (hS'.bl.cell (p := ⟨b3, off3 + k * 5 + 4, none⟩) hb3).trans z4; rw [h6] at q4; go_simp; all_goals (with_reducible rfl)))
              try simp only [Act.put, pa, pb, pc]
              first | refine tu 8 104 rfl hS ?_ | (refine tk (v := ?_) 8 104 rfl (fun w' hS' => ?_) hS ?_; rotate_left; · (go_simp; all_goals (with_reducible rfl)))
              try simp only [Act.put, pa, pb, pc]
              first | refine tu 9 105 rfl hS ?_ | (refine tk (v := ?_) 9 105 rfl (fun w' hS' => ?_) hS ?_; rotate_left; · (go_simp; all_goals (with_reducible rfl)))
              try simp only [Act.put, pa, pb, pc]
              first | refine tu 10 106 rfl hS ?_ | (refine tk (v := ?_) 10 106 rfl (fun w' hS' => ?_) hS ?_; rotate_left; · ((try dsimp only at hS'); have q0 := hS'.cell (i := 0) (j := 0) rfl rfl; have q1 := hS'.cell (i := 0) (j := 1) rfl rfl; have q2 := hS'.cell (i := 0) (j := 2) rfl rfl; have q3 := hS'.cell (i := 0) (j := 3) rfl rfl; have q4 := hS'.cell (i := 0) (j := 4) rfl rfl; have q5 := hS'.cell (i := 0) (j := 5) rfl rfl; have p0 := hS'.cell (i := 1) (j := 0) rfl rfl; have p1 := hS'.cell (i := 1) (j := 1) rfl rfl; have p2 := hS'.cell (i := 1) (j := 2) rfl rfl; have p3 := hS'.cell (i := 1) (j := 3) rfl rfl; have u0 := (hS'.bl.cell (p := ⟨b3, off3 + k * 5, none⟩) hb3).trans z0; have u1 := (hS'.bl.cell (p := ⟨b3, off3 + k * 5 + 1, none⟩) hb3).trans z1; have u2 := (hS'.bl.cell (p := ⟨b3, off3 + k * 5 + 2, none⟩) hb3).trans z2; have u3 := (hS'.bl.cell (p := ⟨b3, off3 + k * 5 + 3, none⟩) hb3).trans z3; have u4 := (hS'.bl.cell (p := ⟨b3, off3 + k * 5 + 4, none⟩) hb3).trans z4; rw [h6] at q4; go_simp; all_goals (with_reducible rfl)))
              try simp only [Act.put, pa, pb, pc]
              first | refine tu 11 107 rfl hS ?_ | (refine tk (v := ?_) 11 107 rfl (fun w' hS' => ?_) hS ?_; rotate_left; · (go_simp; all_goals (with_reducible rfl)))
              try simp only [Act.put, pa, pb, pc]
              first | refine tu 12 108 rfl hS ?_ | (refine tk (v := ?_) 12 108 rfl (fun w' hS' => ?_) hS ?_; rotate_left; · (go_simp; all_goals (with_reducible rfl)))
              try simp only [Act.put, pa, pb, pc]
              first | refine tu 13 109 rfl hS ?_ | (refine tk (v := ?_) 13 109 rfl (fun w' hS' => ?_) hS ?_; rotate_left; · (go_simp; all_goals (with_reducible rfl)))
              try simp only [Act.put, pa, pb, pc]
              first | refine tu 14 110 rfl hS ?_ | (refine tk (v := ?_) 14 110 rfl (fun w' hS' => ?_) hS ?_; rotate_left; · ((try dsimp only at hS'); have q0 := hS'.cell (i := 0) (j := 0) rfl rfl; have q1 := hS'.cell (i := 0) (j := 1) rfl rfl; have q2 := hS'.cell (i := 0) (j := 2) rfl rfl; have q3 := hS'.cell (i := 0) (j := 3) rfl rfl; have q4 := hS'.cell (i := 0) (j := 4) rfl rfl; have q5 := hS'.cell (i := 0) (j := 5) rfl rfl; have p0 := hS'.cell (i := 1) (j := 0) rfl rfl; have p1 := hS'.cell (i := 1) (j := 1) rfl rfl; have p2 := hS'.cell (i := 1) (j := 2) rfl rfl; have p3 := hS'.cell (i := 1) (j := 3) rfl rfl; have u0 := (hS'.bl.cell (p := ⟨b3, off3 + k * 5, none⟩) hb3).trans z0; have u1 := (hS'.bl.cell (p := ⟨b3, off3 + k * 5 + 1, none⟩) hb3).trans z1; have u2 := (hS'.bl.cell (p := ⟨b3, off3 + k * 5 + 2, none⟩) hb3).trans z2; have u3 := (hS'.bl.cell (p := ⟨b3, off3 + k * 5 + 3, none⟩) hb3).trans z3; have u4 := (hS'.bl.cell (p := ⟨b3, off3 + k * 5 + 4, none⟩) hb3).trans z4; rw [h6] at q4; go_simp; all_goals (with_reducible rfl)))
              try simp only [Act.put, pa, pb, pc]
              first | refine tu 15 111 rfl hS ?_ | (refine tk (v := ?_) 15 111 rfl (fun w' hS' => ?_) hS ?_; rotate_left; · (go_simp; all_goals (with_reducible rfl)))
              try simp only [Act.put, pa, pb, pc]
              first | refine tu 16 112 rfl hS ?_ | (refine tk (v := ?_) 16 112 rfl (fun w' hS' => ?_) hS ?_; rotate_left; · (go_simp; all_goals (with_reducible rfl)))
              try simp only [Act.put, pa, pb, pc]
              first | refine tu 17 113 rfl hS ?_ | (refine tk (v := ?_) 17 113 rfl (fun w' hS' => ?_) hS ?_; rotate_left; · ((try dsimp only at hS'); have q0 := hS'.cell (i := 0) (j := 0) rfl rfl; have q1 := hS'.cell (i := 0) (j := 1) rfl rfl; have q2 := hS'.cell (i := 0) (j := 2) rfl rfl; have q3 := hS'.cell (i := 0) (j := 3) rfl rfl; have q4 := hS'.cell (i := 0) (j := 4) rfl rfl; have q5 := hS'.cell (i := 0) (j := 5) rfl rfl; have p0 := hS'.cell (i := 1) (j := 0) rfl rfl; have p1 := hS'.cell (i := 1) (j := 1) rfl rfl; have p2 := hS'.cell (i := 1) (j := 2) rfl rfl; have p3 := hS'.cell (i := 1) (j := 3) rfl rfl; have u0 := (hS'.bl.cell (p := ⟨b3, off3 + k * 5, none⟩) hb3).trans z0; have u1 := (hS'.bl.cell (p := ⟨b3, off3 + k * 5 + 1, none⟩) hb3).trans z1; have u2 := (hS'.bl.cell (p := ⟨b3, off3 + k * 5 + 2, none⟩) hb3).trans z2; have u3 := (hS'.bl.cell (p := ⟨b3, off3 + k * 5 + 3, none⟩) hb3).trans z3; have u4 := (hS'.bl.cell (p := ⟨b3, off3 + k * 5 + 4, none⟩) hb3).trans z4; rw [h6] at q4; go_simp; all_goals (with_reducible rfl)))
              try simp only [Act.put, pa, pb, pc]
              refine r1 18 (some 114) rfl (fun K hK => ?_)
              go_simp
              refine (specHeadRev_d _ d _ (rdDo d (HM.out.arg P2h.out) (HM.out.arg P3h.out) (HM.out.arg P4h.out)) hsd).mono ?_
              rintro e' W22 ⟨rfl, b'⟩
              replace HM := Lib.hid (HM.out.past b')
              clear b'
              clear hS
              refine hK.out _ _ (HM.out.pick (ks := [0, 1]) (by decide) rfl) (fun hS => ?_)
              clear hK K
              try simp only [Act.put, pa, pb, pc]
              first | refine tu 19 115 rfl hS ?_ | (refine tk (v := ?_) 19 115 rfl (fun w' hS' => ?_) hS ?_; rotate_left; · (go_simp; all_goals (with_reducible rfl)))
              try simp only [Act.put, pa, pb, pc]
              first | refine tu 20 116 rfl hS ?_ | (refine tk (v := ?_) 20 116 rfl (fun w' hS' => ?_) hS ?_; rotate_left; · (go_simp; all_goals (with_reducible rfl)))
              try simp only [Act.put, pa, pb, pc]
              try rw [g7]
              refine tk (v := ?_) 21 117 rfl (fun w' hS' => ?_) hS ?_
              rotate_left
              · go_simp; all_goals (with_reducible rfl)
              try simp only [Act.put, pa, pb, pc]
              refine wpAnyH_done (by kernel_rfl) ?_ _
              clear hS
              go_wp2
              go_ret
              exact ⟨ret_b HE.out.symm, HM.out.bl⟩
            have HJ := Lib.hid (show subsB x.docs x.last 0 x.subs = subsB x.docs x.last (idAt x.subs (j + 1)) (x.subs.drop (j + 1)) by rw [HI.out, HS.out, h1.out, h2.out, HF.out, HN.out, h6, decide_eq_true h7, Bool.or_true, Bool.true_and, Bool.true_and, Bool.true_and, Bool.true_and])
            have g7 : (e.next + (e.list.length : Int) != headRevT d + 1) = false := by rw [bne_eq_false_iff_eq]; exact h7
            replace h7 := Lib.hid h7
            replace HM := Lib.hid (HM.out.drew)
            refine wp_region_held_drew (S := fun W => Ms w [.bx wr.heap.size (.cells #[.int .i64 e.id, .string e.doc, .int .i64 e.cap, .int .i64 e.next, .bool e.out, .slice C5 e.list.length c5] 80 (0, 0)), .bx w.heap.size (.cells #[.bool x.shut, .slice (some ⟨b3, off3, none⟩) x.docs.length ca, .slice (some ⟨b, off, none⟩) x.subs.length cb, .int .i64 x.last] 30 (0, 0))] W) (by kernel_rfl) (HM.out.pick (ks := [0, 1]) (by decide) rfl) (fun hS => ?_)
            generalize W19.drew = W23 at HM hS  ⊢
            refine tk (v := ?_) 0 96 rfl (fun w' hS' => ?_) hS ?_
            rotate_left
            · go_simp; all_goals (with_reducible rfl)
            try simp only [Act.put, pa, pb, pc]
            refine tk (v := ?_) 1 97 rfl (fun w' hS' => ?_) hS ?_
            rotate_left
            · go_simp; all_goals (with_reducible rfl)
            try simp only [Act.put, pa, pb, pc]
            refine tk (v := ?_) 2 98 rfl (fun w' hS' => ?_) hS ?_
            rotate_left
            · (try dsimp only at hS'); have q0 := hS'.cell (i := 0) (j := 0) rfl rfl; have q1 := hS'.cell (i := 0) (j := 1) rfl rfl; have q2 := hS'.cell (i := 0) (j := 2) rfl rfl; have q3 := hS'.cell (i := 0) (j := 3) rfl rfl; have q4 := hS'.cell (i := 0) (j := 4) rfl rfl; have q5 := hS'.cell (i := 0) (j := 5) rfl rfl; have p0 := hS'.cell (i := 1) (j := 0) rfl rfl; have p1 := hS'.cell (i := 1) (j := 1) rfl rfl; have p2 := hS'.cell (i := 1) (j := 2) rfl rfl; have p3 := hS'.cell (i := 1) (j := 3) rfl rfl; have u0 := (hS'.bl.cell (p := ⟨b3, off3 + k * 5, none⟩) hb3).trans z0; have u1 := (hS'.bl.cell (p := ⟨b3, off3 + k * 5 + 1, none⟩) hb3).trans z1; have u2 := (hS'.bl.cell (p := ⟨b3, off3 + k * 5 + 2, none⟩) hb3).trans z2; have u3 := (hS'.bl.cell (p := ⟨b3, off3 + k * 5 + 3, none⟩) hb3).trans z3; have u4 := (hS'.bl.cell (p := ⟨b3, off3 + k * 5 + 4, none⟩) hb3).trans z4; rw [h6] at q4; go_simp; all_goals (with_reducible rfl)
            try simp only [Act.put, pa, pb, pc]
            refine tk (v := ?_) 3 99 rfl (fun w' hS' => ?_) hS ?_
            rotate_left
            · go_simp; all_goals (with_reducible rfl)
            try simp only [Act.put, pa, pb, pc]
            refine tk (v := ?_) 4 100 rfl (fun w' hS' => ?_) hS ?_
            rotate_left
            · go_simp; all_goals (with_reducible rfl)
            try simp only [Act.put, pa, pb, pc]
            first | refine tu 5 101 rfl hS ?_ | (refine tk (v := ?_) 5 101 rfl (fun w' hS' => ?_) hS ?_; rotate_left; · (go_simp; all_goals (with_reducible rfl)))
            try simp only [Act.put, pa, pb, pc]
            first | refine tu 6 102 rfl hS ?_ | (refine tk (v := ?_) 6 102 rfl (fun w' hS' => ?_) hS ?_; rotate_left; · (go_simp; all_goals (with_reducible rfl)))
            try simp only [Act.put, pa, pb, pc]
            first | refine tu 7 103 rfl hS ?_ | (refine tk (v := ?_) 7 103 rfl (fun w' hS' => ?_) hS ?_; rotate_left; · ((try dsimp only at hS'); have q0 := hS'.cell (i := 0) (j := 0) rfl rfl; have q1 := hS'.cell (i := 0) (j := 1) rfl rfl; have q2 := hS'.cell (i := 0) (j := 2) rfl rfl; have q3 := hS'.cell (i := 0) (j := 3) rfl rfl; have q4 := hS'.cell (i := 0) (j := 4) rfl rfl; have q5 := hS'.cell (i := 0) (j := 5) rfl rfl; have p0 := hS'.cell (i := 1) (j := 0) rfl rfl; have p1 := hS'.cell (i := 1) (j := 1) rfl rfl; have p2 := hS'.cell (i := 1) (j := 2) rfl rfl; have p3 := hS'.cell (i := 1) (j := 3) rfl rfl; have u0 := (hS'.bl.cell (p := ⟨b3, off3 + k * 5, none⟩) hb3).trans z0; have u1 := (hS'.bl.cell (p := ⟨b3, off3 + k * 5 + 1, none⟩) hb3).trans z1; have u2 := (hS'.bl.cell (p := ⟨b3, off3 + k * 5 + 2, none⟩) hb3).trans z2; have u3 := (hS'.bl.cell (p := ⟨b3, off3 + k * 5 + 3, none⟩) hb3).trans z3; have u4 := (hS'.bl.cell (p := ⟨b3, off3 + k * 5 + 4, none⟩) hb3).trans z4; rw [h6] at q4; go_simp; all_goals (with_reducible rfl)))
            try simp only [Act.put, pa, pb, pc]
            first | refine tu 8 104 rfl hS ?_ | (refine tk (v := ?_) 8 104 rfl (fun w' hS' => ?_) hS ?_; rotate_left; · (go_simp; all_goals (with_reducible rfl)))
            try simp only [Act.put, pa, pb, pc]
            first | refine tu 9 105 rfl hS ?_ | (refine tk (v := ?_) 9 105 rfl (fun w' hS' => ?_) hS ?_; rotate_left; · (go_simp; all_goals (with_reducible rfl)))
            try simp only [Act.put, pa, pb, pc]
            first | refine tu 10 106 rfl hS ?_ | (refine tk (v := ?_) 10 106 rfl (fun w' hS' => ?_) hS ?_; rotate_left; · ((try dsimp only at hS'); have q0 := hS'.cell (i := 0) (j := 0) rfl rfl; have q1 := hS'.cell (i := 0) (j := 1) rfl rfl; have q2 := hS'.cell (i := 0) (j := 2) rfl rfl; have q3 := hS'.cell (i := 0) (j := 3) rfl rfl; have q4 := hS'.cell (i := 0) (j := 4) rfl rfl; have q5 := hS'.cell (i := 0) (j := 5) rfl rfl; have p0 := hS'.cell (i := 1) (j := 0) rfl rfl; have p1 := hS'.cell (i := 1) (j := 1) rfl rfl; have p2 := hS'.cell (i := 1) (j := 2) rfl rfl; have p3 := hS'.cell (i := 1) (j := 3) rfl rfl; have u0 := (hS'.bl.cell (p := ⟨b3, off3 + k * 5, none⟩) hb3).trans z0; have u1 := (hS'.bl.cell (p := ⟨b3, off3 + k * 5 + 1, none⟩) hb3).trans z1; have u2 := (hS'.bl.cell (p := ⟨b3, off3 + k * 5 + 2, none⟩) hb3).trans z2; have u3 := (hS'.bl.cell (p := ⟨b3, off3 + k * 5 + 3, none⟩) hb3).trans z3; have u4 := (hS'.bl.cell (p := ⟨b3, off3 + k * 5 + 4, none⟩) hb3).trans z4; rw [h6] at q4; go_simp; all_goals (with_reducible rfl)))
            try simp only [Act.put, pa, pb, pc]
            first | refine tu 11 107 rfl hS ?_ | (refine tk (v := ?_) 11 107 rfl (fun w' hS' => ?_) hS ?_; rotate_left; · (go_simp; all_goals (with_reducible rfl)))
            try simp only [Act.put, pa, pb, pc]
            first | refine tu 12 108 rfl hS ?_ | (refine tk (v := ?_) 12 108 rfl (fun w' hS' => ?_) hS ?_; rotate_left; · (go_simp; all_goals (with_reducible rfl)))
            try simp only [Act.put, pa, pb, pc]
            first | refine tu 13 109 rfl hS ?_ | (refine tk (v := ?_) 13 109 rfl (fun w' hS' => ?_) hS ?_; rotate_left; · (go_simp; all_goals (with_reducible rfl)))
            try simp only [Act.put, pa, pb, pc]
            first | refine tu 14 110 rfl hS ?_ | (refine tk (v := ?_) 14 110 rfl (fun w' hS' => ?_) hS ?_; rotate_left; · ((try dsimp only at hS'); have q0 := hS'.cell (i := 0) (j := 0) rfl rfl; have q1 := hS'.cell (i := 0) (j := 1) rfl rfl; have q2 := hS'.cell (i := 0) (j := 2) rfl rfl; have q3 := hS'.cell (i := 0) (j := 3) rfl rfl; have q4 := hS'.cell (i := 0) (j := 4) rfl rfl; have q5 := hS'.cell (i := 0) (j := 5) rfl rfl; have p0 := hS'.cell (i := 1) (j := 0) rfl rfl; have p1 := hS'.cell (i := 1) (j := 1) rfl rfl; have p2 := hS'.cell (i := 1) (j := 2) rfl rfl; have p3 := hS'.cell (i := 1) (j := 3) rfl rfl; have u0 := (hS'.bl.cell (p := ⟨b3, off3 + k * 5, none⟩) hb3).trans z0; have u1 := (hS'.bl.cell (p := ⟨b3, off3 + k * 5 + 1, none⟩) hb3).trans z1; have u2 := (hS'.bl.cell (p := ⟨b3, off3 + k * 5 + 2, none⟩) hb3).trans z2; have u3 := (hS'.bl.cell (p := ⟨b3, off3 + k * 5 + 3, none⟩) hb3).trans z3; have u4 := (hS'.bl.cell (p := ⟨b3, off3 + k * 5 + 4, none⟩) hb3).trans z4; rw [h6] at q4; go_simp; all_goals (with_reducible rfl)))
            try simp only [Act.put, pa, pb, pc]
            first | refine tu 15 111 rfl hS ?_ | (refine tk (v := ?_) 15 111 rfl (fun w' hS' => ?_) hS ?_; rotate_left; · (go_simp; all_goals (with_reducible rfl)))
            try simp only [Act.put, pa, pb, pc]
            first | refine tu 16 112 rfl hS ?_ | (refine tk (v := ?_) 16 112 rfl (fun w' hS' => ?_) hS ?_; rotate_left; · (go_simp; all_goals (with_reducible rfl)))
            try simp only [Act.put, pa, pb, pc]
            first | refine tu 17 113 rfl hS ?_ | (refine tk (v := ?_) 17 113 rfl (fun w' hS' => ?_) hS ?_; rotate_left; · ((try dsimp only at hS'); have q0 := hS'.cell (i := 0) (j := 0) rfl rfl; have q1 := hS'.cell (i := 0) (j := 1) rfl rfl; have q2 := hS'.cell (i := 0) (j := 2) rfl rfl; have q3 := hS'.cell (i := 0) (j := 3) rfl rfl; have q4 := hS'.cell (i := 0) (j := 4) rfl rfl; have q5 := hS'.cell (i := 0) (j := 5) rfl rfl; have p0 := hS'.cell (i := 1) (j := 0) rfl rfl; have p1 := hS'.cell (i := 1) (j := 1) rfl rfl; have p2 := hS'.cell (i := 1) (j := 2) rfl rfl; have p3 := hS'.cell (i := 1) (j := 3) rfl rfl; have u0 := (hS'.bl.cell (p := ⟨b3, off3 + k * 5, none⟩) hb3).trans z0; have u1 := (hS'.bl.cell (p := ⟨b3, off3 + k * 5 + 1, none⟩) hb3).trans z1; have u2 := (hS'.bl.cell (p := ⟨b3, off3 + k * 5 + 2, none⟩) hb3).trans z2; have u3 := (hS'.bl.cell (p := ⟨b3, off3 + k * 5 + 3, none⟩) hb3).trans z3; have u4 := (hS'.bl.cell (p := ⟨b3, off3 + k * 5 + 4, none⟩) hb3).trans z4; rw [h6] at q4; go_simp; all_goals (with_reducible rfl)))
            try simp only [Act.put, pa, pb, pc]
            refine r1 18 (some 114) rfl (fun K hK => ?_)
            go_simp
            refine (specHeadRev_d _ d _ (rdDo d (HM.out.arg P2h.out) (HM.out.arg P3h.out) (HM.out.arg P4h.out)) hsd).mono ?_
            rintro e' W24 ⟨rfl, b'⟩
            replace HM := Lib.hid (HM.out.past b')
            clear b'
            clear hS
            refine hK.out _ _ (HM.out.pick (ks := [0, 1]) (by decide) rfl) (fun hS => ?_)
            clear hK K
            try simp only [Act.put, pa, pb, pc]
            first | refine tu 19 115 rfl hS ?_ | (refine tk (v := ?_) 19 115 rfl (fun w' hS' => ?_) hS ?_; rotate_left; · (go_simp; all_goals (with_reducible rfl)))
            try simp only [Act.put, pa, pb, pc]
            first | refine tu 20 116 rfl hS ?_ | (refine tk (v := ?_) 20 116 rfl (fun w' hS' => ?_) hS ?_; rotate_left; · (go_simp; all_goals (with_reducible rfl)))
            try simp only [Act.put, pa, pb, pc]
            try rw [g7]
            refine tk (v := ?_) 21 117 rfl (fun w' hS' => ?_) hS ?_
            rotate_left
            · go_simp; all_goals (with_reducible rfl)
            try simp only [Act.put, pa, pb, pc]
            refine wpAnyH_done (by kernel_rfl) ?_ _
            clear hS
            skip
            go_wp2
            go_roundw
            case rel => exact ⟨j + 1, by omega, by go_num, HJ.out, HM.out.pick (ks := [1]) (by decide) rfl⟩
            case measure => simp [intOf]; omega
          have g4 : decide (0 < j) = true := decide_eq_true (by omega)
          obtain ⟨q, hq⟩ : ∃ q, j = q + 1 := ⟨j - 1, by omega⟩
          obtain ⟨b2, off2, p, D5, d5, hA2, hb2, hp2, y0, -, -, -, -, -, -⟩ := atSus R2.out (i := q) (by omega)
          injection hA2 with hA2
          injection hA2 with hA3 hA4
          subst hA3 hA4
          have HN0 := Lib.hid (show idAt x.subs j = p.id by rw [hq]; exact idAt_of hp2)
          have hw : IntKind.i64.wrap (q : Int) = (q : Int) := IntWalk.i64_in _ (by omega)
          have hw0 : IntKind.i64.wrap ((j : Int) - 1) = (q : Int) := (IntWalk.i64_in _ (by omega)).trans (by omega)
          have hqj : q < x.subs.length := by omega
          clear h4 hp2
          by_cases h5 : p.id < e.id
          rotate_left
          · have HE := Lib.hid (show hubB x = false by rw [HD3.out, HI.out, HS.out, HN0.out, decide_eq_false h5, Bool.false_and, Bool.and_false, Bool.and_false, Bool.and_false])
            have g5 : decide (e.id ≤ p.id) = true := decide_eq_true (by omega)
            clear h5
            replace HM := Lib.hid (HM.out.drew)
            refine wp_region_held_drew (S := fun W => Ms w [.bx wr.heap.size (.cells #[.int .i64 e.id, .string e.doc, .int .i64 e.cap, .int .i64 e.next, .bool e.out, .slice C5 e.list.length c5] 80 (0, 0)), .bx w.heap.size (.cells #[.bool x.shut, .slice (some ⟨b3, off3, none⟩) x.docs.length ca, .slice (some ⟨b, off, none⟩) x.subs.length cb, .int .i64 x.last] 30 (0, 0))] W) (by kernel_rfl) (HM.out.pick (ks := [0, 1]) (by decide) rfl) (fun hS => ?_)
            generalize W12.drew = W25 at HM hS  ⊢
            refine tk (v := ?_) 0 64 rfl (fun w' hS' => ?_) hS ?_
            rotate_left
            · go_simp; all_goals (with_reducible rfl)
            try simp only [Act.put, pa, pb, pc]
            refine tk (v := ?_) 1 65 rfl (fun w' hS' => ?_) hS ?_
            rotate_left
            · (try dsimp only at hS'); have q0 := hS'.cell (i := 0) (j := 0) rfl rfl; have q1 := hS'.cell (i := 0) (j := 1) rfl rfl; have q2 := hS'.cell (i := 0) (j := 2) rfl rfl; have q3 := hS'.cell (i := 0) (j := 3) rfl rfl; have q4 := hS'.cell (i := 0) (j := 4) rfl rfl; have q5 := hS'.cell (i := 0) (j := 5) rfl rfl; have p0 := hS'.cell (i := 1) (j := 0) rfl rfl; have p1 := hS'.cell (i := 1) (j := 1) rfl rfl; have p2 := hS'.cell (i := 1) (j := 2) rfl rfl; have p3 := hS'.cell (i := 1) (j := 3) rfl rfl; have r0 := (hS'.bl.cell (p := ⟨b, off + q * 6, none⟩) hb2).trans y0; go_simp; all_goals (with_reducible rfl)
            try simp only [Act.put, pa, pb, pc]
            refine tk (v := ?_) 2 66 rfl (fun w' hS' => ?_) hS ?_
            rotate_left
            · go_simp; all_goals (with_reducible rfl)
            try simp only [Act.put, pa, pb, pc]
            refine tk (v := ?_) 3 67 rfl (fun w' hS' => ?_) hS ?_
            rotate_left
            · (try dsimp only at hS'); have q0 := hS'.cell (i := 0) (j := 0) rfl rfl; have q1 := hS'.cell (i := 0) (j := 1) rfl rfl; have q2 := hS'.cell (i := 0) (j := 2) rfl rfl; have q3 := hS'.cell (i := 0) (j := 3) rfl rfl; have q4 := hS'.cell (i := 0) (j := 4) rfl rfl; have q5 := hS'.cell (i := 0) (j := 5) rfl rfl; have p0 := hS'.cell (i := 1) (j := 0) rfl rfl; have p1 := hS'.cell (i := 1) (j := 1) rfl rfl; have p2 := hS'.cell (i := 1) (j := 2) rfl rfl; have p3 := hS'.cell (i := 1) (j := 3) rfl rfl; have r0 := (hS'.bl.cell (p := ⟨b, off + q * 6, none⟩) hb2).trans y0; go_simp; all_goals (with_reducible rfl)
            try simp only [Act.put, pa, pb, pc]
            refine r1 4 (some 68) rfl (fun K hK => ?_)
            go_simp
            refine (in_any _ _ _ _).mono ?_
            rw [h1.out]
            rintro e' w9 ⟨rfl, rfl⟩
            refine hK.out _ _ (HM.out.pick (ks := [0, 1]) (by decide) rfl) (fun hS => ?_)
            clear hK K
            try simp only [Act.put, pa, pb, pc]
            refine tk (v := ?_) 5 69 rfl (fun w' hS' => ?_) hS ?_
            rotate_left
            · go_simp; all_goals (with_reducible rfl)
            try simp only [Act.put, pa, pb, pc]
            refine tk (v := ?_) 6 70 rfl (fun w' hS' => ?_) hS ?_
            rotate_left
            · go_simp; all_goals (with_reducible rfl)
            try simp only [Act.put, pa, pb, pc]
            first | refine tu 7 71 rfl hS ?_ | (refine tk (v := ?_) 7 71 rfl (fun w' hS' => ?_) hS ?_; rotate_left; · (go_simp; all_goals (with_reducible rfl)))
            try simp only [Act.put, pa, pb, pc]
            first | refine tu 8 72 rfl hS ?_ | (refine tk (v := ?_) 8 72 rfl (fun w' hS' => ?_) hS ?_; rotate_left; · ((try dsimp only at hS'); have q0 := hS'.cell (i := 0) (j := 0) rfl rfl; have q1 := hS'.cell (i := 0) (j := 1) rfl rfl; have q2 := hS'.cell (i := 0) (j := 2) rfl rfl; have q3 := hS'.cell (i := 0) (j := 3) rfl rfl; have q4 := hS'.cell (i := 0) (j := 4) rfl rfl; have q5 := hS'.cell (i := 0) (j := 5) rfl rfl; have p0 := hS'.cell (i := 1) (j := 0) rfl rfl; have p1 := hS'.cell (i := 1) (j := 1) rfl rfl; have p2 := hS'.cell (i := 1) (j := 2) rfl rfl; have p3 := hS'.cell (i := 1) (j := 3) rfl rfl; have r0 := (hS'.bl.cell (p := ⟨b, off + q * 6, none⟩) hb2).trans y0; go_simp; all_goals (with_reducible rfl)))
            try simp only [Act.put, pa, pb, pc]
            refine r1 9 (some 73) rfl (fun K hK => ?_)
            go_simp
            refine (specRingOk_d _ (ringSu e) _ (rdRi (ringSu e) (HM.out.arg Q5h.out)) (show SmRi (ringSu e) from hse.list)).mono ?_
            rw [h2.out]
            rintro e' W26 ⟨rfl, b'⟩
            replace HM := Lib.hid (HM.out.past b')
            clear b'
            clear hS
            refine hK.out _ _ (HM.out.pick (ks := [0, 1]) (by decide) rfl) (fun hS => ?_)
            clear hK K
            try simp only [Act.put, pa, pb, pc]
            first | refine tu 10 74 rfl hS ?_ | (refine tk (v := ?_) 10 74 rfl (fun w' hS' => ?_) hS ?_; rotate_left; · (go_simp; all_goals (with_reducible rfl)))
            try simp only [Act.put, pa, pb, pc]
            refine tk (v := ?_) 11 75 rfl (fun w' hS' => ?_) hS ?_
            rotate_left
            · go_simp; all_goals (with_reducible rfl)
            try simp only [Act.put, pa, pb, pc]
            refine tk (v := ?_) 12 76 rfl (fun w' hS' => ?_) hS ?_
            rotate_left
            · go_simp; all_goals (with_reducible rfl)
            try simp only [Act.put, pa, pb, pc]
            first | refine tu 13 77 rfl hS ?_ | (refine tk (v := ?_) 13 77 rfl (fun w' hS' => ?_) hS ?_; rotate_left; · (go_simp; all_goals (with_reducible rfl)))
            try simp only [Act.put, pa, pb, pc]
            first | refine tu 14 78 rfl hS ?_ | (refine tk (v := ?_) 14 78 rfl (fun w' hS' => ?_) hS ?_; rotate_left; · (go_simp; all_goals (with_reducible rfl)))
            try simp only [Act.put, pa, pb, pc]
            try rw [g3]
            refine tk (v := ?_) 15 79 rfl (fun w' hS' => ?_) hS ?_
            rotate_left
            · go_simp; all_goals (with_reducible rfl)
            try simp only [Act.put, pa, pb, pc]
            refine tk (v := ?_) 16 80 rfl (fun w' hS' => ?_) hS ?_
            rotate_left
            · go_simp; all_goals (with_reducible rfl)
            try simp only [Act.put, pa, pb, pc]
            first | refine tu 17 81 rfl hS ?_ | (refine tk (v := ?_) 17 81 rfl (fun w' hS' => ?_) hS ?_; rotate_left; · (go_simp; all_goals (with_reducible rfl)))
            try simp only [Act.put, pa, pb, pc]
            first | refine tu 18 82 rfl hS ?_ | (refine tk (v := ?_) 18 82 rfl (fun w' hS' => ?_) hS ?_; rotate_left; · (go_simp; all_goals (with_reducible rfl)))
            try simp only [Act.put, pa, pb, pc]
            try rw [g4]
            first | refine tu 19 83 rfl hS ?_ | (refine tk (v := ?_) 19 83 rfl (fun w' hS' => ?_) hS ?_; rotate_left; · (go_simp; all_goals (with_reducible rfl)))
            try simp only [Act.put, pa, pb, pc]
            first | refine tu 20 84 rfl hS ?_ | (refine tk (v := ?_) 20 84 rfl (fun w' hS' => ?_) hS ?_; rotate_left; · (go_simp; all_goals (with_reducible rfl)))
            try simp only [Act.put, pa, pb, pc]
            first | refine tu 21 85 rfl hS ?_ | (refine tk (v := ?_) 21 85 rfl (fun w' hS' => ?_) hS ?_; rotate_left; · ((try dsimp only at hS'); have q0 := hS'.cell (i := 0) (j := 0) rfl rfl; have q1 := hS'.cell (i := 0) (j := 1) rfl rfl; have q2 := hS'.cell (i := 0) (j := 2) rfl rfl; have q3 := hS'.cell (i := 0) (j := 3) rfl rfl; have q4 := hS'.cell (i := 0) (j := 4) rfl rfl; have q5 := hS'.cell (i := 0) (j := 5) rfl rfl; have p0 := hS'.cell (i := 1) (j := 0) rfl rfl; have p1 := hS'.cell (i := 1) (j := 1) rfl rfl; have p2 := hS'.cell (i := 1) (j := 2) rfl rfl; have p3 := hS'.cell (i := 1) (j := 3) rfl rfl; have r0 := (hS'.bl.cell (p := ⟨b, off + q * 6, none⟩) hb2).trans y0; go_simp; all_goals (with_reducible rfl)))
            try simp only [Act.put, pa, pb, pc]
            first | refine tu 22 86 rfl hS ?_ | (refine tk (v := ?_) 22 86 rfl (fun w' hS' => ?_) hS ?_; rotate_left; · (go_simp; all_goals (with_reducible rfl)))
            try simp only [Act.put, pa, pb, pc]
            first | refine tu 23 87 rfl hS ?_ | (refine tk (v := ?_) 23 87 rfl (fun w' hS' => ?_) hS ?_; rotate_left; · (go_simp; all_goals (with_reducible rfl)))
            try simp only [Act.put, pa, pb, pc]
            first | refine tu 24 88 rfl hS ?_ | (refine tk (v := ?_) 24 88 rfl (fun w' hS' => ?_) hS ?_; rotate_left; · (go_simp; all_goals (with_reducible rfl)))
            try simp only [Act.put, pa, pb, pc]
            first | refine tu 25 89 rfl hS ?_ | (refine tk (v := ?_) 25 89 rfl (fun w' hS' => ?_) hS ?_; rotate_left; · (go_simp; all_goals (with_reducible rfl)))
            try simp only [Act.put, pa, pb, pc]
            first | refine tu 26 90 rfl hS ?_ | (refine tk (v := ?_) 26 90 rfl (fun w' hS' => ?_) hS ?_; rotate_left; · ((try dsimp only at hS'); have q0 := hS'.cell (i := 0) (j := 0) rfl rfl; have q1 := hS'.cell (i := 0) (j := 1) rfl rfl; have q2 := hS'.cell (i := 0) (j := 2) rfl rfl; have q3 := hS'.cell (i := 0) (j := 3) rfl rfl; have q4 := hS'.cell (i := 0) (j := 4) rfl rfl; have q5 := hS'.cell (i := 0) (j := 5) rfl rfl; have p0 := hS'.cell (i := 1) (j := 0) rfl rfl; have p1 := hS'.cell (i := 1) (j := 1) rfl rfl; have p2 := hS'.cell (i := 1) (j := 2) rfl rfl; have p3 := hS'.cell (i := 1) (j := 3) rfl rfl; have r0 := (hS'.bl.cell (p := ⟨b, off + q * 6, none⟩) hb2).trans y0; go_simp; all_goals (with_reducible rfl)))
            try simp only [Act.put, pa, pb, pc]
            first | refine tu 27 91 rfl hS ?_ | (refine tk (v := ?_) 27 91 rfl (fun w' hS' => ?_) hS ?_; rotate_left; · (go_simp; all_goals (with_reducible rfl)))
            try simp only [Act.put, pa, pb, pc]
            first | refine tu 28 92 rfl hS ?_ | (refine tk (v := ?_) 28 92 rfl (fun w' hS' => ?_) hS ?_; rotate_left; · ((try dsimp only at hS'); have q0 := hS'.cell (i := 0) (j := 0) rfl rfl; have q1 := hS'.cell (i := 0) (j := 1) rfl rfl; have q2 := hS'.cell (i := 0) (j := 2) rfl rfl; have q3 := hS'.cell (i := 0) (j := 3) rfl rfl; have q4 := hS'.cell (i := 0) (j := 4) rfl rfl; have q5 := hS'.cell (i := 0) (j := 5) rfl rfl; have p0 := hS'.cell (i := 1) (j := 0) rfl rfl; have p1 := hS'.cell (i := 1) (j := 1) rfl rfl; have p2 := hS'.cell (i := 1) (j := 2) rfl rfl; have p3 := hS'.cell (i := 1) (j := 3) rfl rfl; have r0 := (hS'.bl.cell (p := ⟨b, off + q * 6, none⟩) hb2).trans y0; go_simp; all_goals (with_reducible rfl)))
            try simp only [Act.put, pa, pb, pc]
            first | refine tu 29 93 rfl hS ?_ | (refine tk (v := ?_) 29 93 rfl (fun w' hS' => ?_) hS ?_; rotate_left; · (go_simp; all_goals (with_reducible rfl)))
            try simp only [Act.put, pa, pb, pc]
            try rw [g5]
            first | refine tu 30 94 rfl hS ?_ | (refine tk (v := ?_) 30 94 rfl (fun w' hS' => ?_) hS ?_; rotate_left; · (go_simp; all_goals (with_reducible rfl)))
            try simp only [Act.put, pa, pb, pc]
            refine tk (v := ?_) 31 95 rfl (fun w' hS' => ?_) hS ?_
            rotate_left
            · go_simp; all_goals (with_reducible rfl)
            try simp only [Act.put, pa, pb, pc]
            refine wpAnyH_done (by kernel_rfl) ?_ _
            clear hS
            go_wp2
            go_ret
            exact ⟨ret_b HE.out.symm, HM.out.bl⟩
          have g5 : decide (e.id ≤ p.id) = false := decide_eq_false (by omega)
          have HN := Lib.hid (show decide (idAt x.subs j < e.id) = true by rw [HN0.out]; exact decide_eq_true h5)
          clear h5
          replace HM := Lib.hid (HM.out.drew)
          refine wp_region_held_drew (S := fun W => Ms w [.bx wr.heap.size (.cells #[.int .i64 e.id, .string e.doc, .int .i64 e.cap, .int .i64 e.next, .bool e.out, .slice C5 e.list.length c5] 80 (0, 0)), .bx w.heap.size (.cells #[.bool x.shut, .slice (some ⟨b3, off3, none⟩) x.docs.length ca, .slice (some ⟨b, off, none⟩) x.subs.length cb, .int .i64 x.last] 30 (0, 0))] W) (by kernel_rfl) (HM.out.pick (ks := [0, 1]) (by decide) rfl) (fun hS => ?_)
          generalize W12.drew = W27 at HM hS  ⊢
          refine tk (v := ?_) 0 64 rfl (fun w' hS' => ?_) hS ?_
          rotate_left
          · go_simp; all_goals (with_reducible rfl)
          try simp only [Act.put, pa, pb, pc]
          refine tk (v := ?_) 1 65 rfl (fun w' hS' => ?_) hS ?_
          rotate_left
          · (try dsimp only at hS'); have q0 := hS'.cell (i := 0) (j := 0) rfl rfl; have q1 := hS'.cell (i := 0) (j := 1) rfl rfl; have q2 := hS'.cell (i := 0) (j := 2) rfl rfl; have q3 := hS'.cell (i := 0) (j := 3) rfl rfl; have q4 := hS'.cell (i := 0) (j := 4) rfl rfl; have q5 := hS'.cell (i := 0) (j := 5) rfl rfl; have p0 := hS'.cell (i := 1) (j := 0) rfl rfl; have p1 := hS'.cell (i := 1) (j := 1) rfl rfl; have p2 := hS'.cell (i := 1) (j := 2) rfl rfl; have p3 := hS'.cell (i := 1) (j := 3) rfl rfl; have r0 := (hS'.bl.cell (p := ⟨b, off + q * 6, none⟩) hb2).trans y0; go_simp; all_goals (with_reducible rfl)
          try simp only [Act.put, pa, pb, pc]
          refine tk (v := ?_) 2 66 rfl (fun w' hS' => ?_) hS ?_
          rotate_left
          · go_simp; all_goals (with_reducible rfl)
          try simp only [Act.put, pa, pb, pc]
          refine tk (v := ?_) 3 67 rfl (fun w' hS' => ?_) hS ?_
          rotate_left
          · (try dsimp only at hS'); have q0 := hS'.cell (i := 0) (j := 0) rfl rfl; have q1 := hS'.cell (i := 0) (j := 1) rfl rfl; have q2 := hS'.cell (i := 0) (j := 2) rfl rfl; have q3 := hS'.cell (i := 0) (j := 3) rfl rfl; have q4 := hS'.cell (i := 0) (j := 4) rfl rfl; have q5 := hS'.cell (i := 0) (j := 5) rfl rfl; have p0 := hS'.cell (i := 1) (j := 0) rfl rfl; have p1 := hS'.cell (i := 1) (j := 1) rfl rfl; have p2 := hS'.cell (i := 1) (j := 2) rfl rfl; have p3 := hS'.cell (i := 1) (j := 3) rfl rfl; have r0 := (hS'.bl.cell (p := ⟨b, off + q * 6, none⟩) hb2).trans y0; go_simp; all_goals (with_reducible rfl)
          try simp only [Act.put, pa, pb, pc]
          refine r1 4 (some 68) rfl (fun K hK => ?_)
          go_simp
          refine (in_any _ _ _ _).mono ?_
          rw [h1.out]
          rintro e' w9 ⟨rfl, rfl⟩
          refine hK.out _ _ (HM.out.pick (ks := [0, 1]) (by decide) rfl) (fun hS => ?_)
          clear hK K
          try simp only [Act.put, pa, pb, pc]
          refine tk (v := ?_) 5 69 rfl (fun w' hS' => ?_) hS ?_
          rotate_left
          · go_simp; all_goals (with_reducible rfl)
          try simp only [Act.put, pa, pb, pc]
          refine tk (v := ?_) 6 70 rfl (fun w' hS' => ?_) hS ?_
          rotate_left
          · go_simp; all_goals (with_reducible rfl)
          try simp only [Act.put, pa, pb, pc]
          first | refine tu 7 71 rfl hS ?_ | (refine tk (v := ?_) 7 71 rfl (fun w' hS' => ?_) hS ?_; rotate_left; · (go_simp; all_goals (with_reducible rfl)))
          try simp only [Act.put, pa, pb, pc]
          first | refine tu 8 72 rfl hS ?_ | (refine tk (v := ?_) 8 72 rfl (fun w' hS' => ?_) hS ?_; rotate_left; · ((try dsimp only at hS'); have q0 := hS'.cell (i := 0) (j := 0) rfl rfl; have q1 := hS'.cell (i := 0) (j := 1) rfl rfl; have q2 := hS'.cell (i := 0) (j := 2) rfl rfl; have q3 := hS'.cell (i := 0) (j := 3) rfl rfl; have q4 := hS'.cell (i := 0) (j := 4) rfl rfl; have q5 := hS'.cell (i := 0) (j := 5) rfl rfl; have p0 := hS'.cell (i := 1) (j := 0) rfl rfl; have p1 := hS'.cell (i := 1) (j := 1) rfl rfl; have p2 := hS'.cell (i := 1) (j := 2) rfl rfl; have p3 := hS'.cell (i := 1) (j := 3) rfl rfl; have r0 := (hS'.bl.cell (p := ⟨b, off + q * 6, none⟩) hb2).trans y0; go_simp; all_goals (with_reducible rfl)))
          try simp only [Act.put, pa, pb, pc]
          refine r1 9 (some 73) rfl (fun K hK => ?_)
          go_simp
          refine (specRingOk_d _ (ringSu e) _ (rdRi (ringSu e) (HM.out.arg Q5h.out)) (show SmRi (ringSu e) from hse.list)).mono ?_
          rw [h2.out]
          rintro e' W28 ⟨rfl, b'⟩
          replace HM := Lib.hid (HM.out.past b')
          clear b'
          clear hS
          refine hK.out _ _ (HM.out.pick (ks := [0, 1]) (by decide) rfl) (fun hS => ?_)
          clear hK K
          try simp only [Act.put, pa, pb, pc]
          first | refine tu 10 74 rfl hS ?_ | (refine tk (v := ?_) 10 74 rfl (fun w' hS' => ?_) hS ?_; rotate_left; · (go_simp; all_goals (with_reducible rfl)))
          try simp only [Act.put, pa, pb, pc]
          refine tk (v := ?_) 11 75 rfl (fun w' hS' => ?_) hS ?_
          rotate_left
          · go_simp; all_goals (with_reducible rfl)
          try simp only [Act.put, pa, pb, pc]
          refine tk (v := ?_) 12 76 rfl (fun w' hS' => ?_) hS ?_
          rotate_left
          · go_simp; all_goals (with_reducible rfl)
          try simp only [Act.put, pa, pb, pc]
          first | refine tu 13 77 rfl hS ?_ | (refine tk (v := ?_) 13 77 rfl (fun w' hS' => ?_) hS ?_; rotate_left; · (go_simp; all_goals (with_reducible rfl)))
          try simp only [Act.put, pa, pb, pc]
          first | refine tu 14 78 rfl hS ?_ | (refine tk (v := ?_) 14 78 rfl (fun w' hS' => ?_) hS ?_; rotate_left; · (go_simp; all_goals (with_reducible rfl)))
          try simp only [Act.put, pa, pb, pc]
          try rw [g3]
          refine tk (v := ?_) 15 79 rfl (fun w' hS' => ?_) hS ?_
          rotate_left
          · go_simp; all_goals (with_reducible rfl)
          try simp only [Act.put, pa, pb, pc]
          refine tk (v := ?_) 16 80 rfl (fun w' hS' => ?_) hS ?_
          rotate_left
          · go_simp; all_goals (with_reducible rfl)
          try simp only [Act.put, pa, pb, pc]
          first | refine tu 17 81 rfl hS ?_ | (refine tk (v := ?_) 17 81 rfl (fun w' hS' => ?_) hS ?_; rotate_left; · (go_simp; all_goals (with_reducible rfl)))
          try simp only [Act.put, pa, pb, pc]
          first | refine tu 18 82 rfl hS ?_ | (refine tk (v := ?_) 18 82 rfl (fun w' hS' => ?_) hS ?_; rotate_left; · (go_simp; all_goals (with_reducible rfl)))
          try simp only [Act.put, pa, pb, pc]
          try rw [g4]
          first | refine tu 19 83 rfl hS ?_ | (refine tk (v := ?_) 19 83 rfl (fun w' hS' => ?_) hS ?_; rotate_left; · (go_simp; all_goals (with_reducible rfl)))
          try simp only [Act.put, pa, pb, pc]
          first | refine tu 20 84 rfl hS ?_ | (refine tk (v := ?_) 20 84 rfl (fun w' hS' => ?_) hS ?_; rotate_left; · (go_simp; all_goals (with_reducible rfl)))
          try simp only [Act.put, pa, pb, pc]
          first | refine tu 21 85 rfl hS ?_ | (refine tk (v := ?_) 21 85 rfl (fun w' hS' => ?_) hS ?_; rotate_left; · ((try dsimp only at hS'); have q0 := hS'.cell (i := 0) (j := 0) rfl rfl; have q1 := hS'.cell (i := 0) (j := 1) rfl rfl; have q2 := hS'.cell (i := 0) (j := 2) rfl rfl; have q3 := hS'.cell (i := 0) (j := 3) rfl rfl; have q4 := hS'.cell (i := 0) (j := 4) rfl rfl; have q5 := hS'.cell (i := 0) (j := 5) rfl rfl; have p0 := hS'.cell (i := 1) (j := 0) rfl rfl; have p1 := hS'.cell (i := 1) (j := 1) rfl rfl; have p2 := hS'.cell (i := 1) (j := 2) rfl rfl; have p3 := hS'.cell (i := 1) (j := 3) rfl rfl; have r0 := (hS'.bl.cell (p := ⟨b, off + q * 6, none⟩) hb2).trans y0; go_simp; all_goals (with_reducible rfl)))
          try simp only [Act.put, pa, pb, pc]
          first | refine tu 22 86 rfl hS ?_ | (refine tk (v := ?_) 22 86 rfl (fun w' hS' => ?_) hS ?_; rotate_left; · (go_simp; all_goals (with_reducible rfl)))
          try simp only [Act.put, pa, pb, pc]
          first | refine tu 23 87 rfl hS ?_ | (refine tk (v := ?_) 23 87 rfl (fun w' hS' => ?_) hS ?_; rotate_left; · (go_simp; all_goals (with_reducible rfl)))
          try simp only [Act.put, pa, pb, pc]
          first | refine tu 24 88 rfl hS ?_ | (refine tk (v := ?_) 24 88 rfl (fun w' hS' => ?_) hS ?_; rotate_left; · (go_simp; all_goals (with_reducible rfl)))
          try simp only [Act.put, pa, pb, pc]
          first | refine tu 25 89 rfl hS ?_ | (refine tk (v := ?_) 25 89 rfl (fun w' hS' => ?_) hS ?_; rotate_left; · (go_simp; all_goals (with_reducible rfl)))
          try simp only [Act.put, pa, pb, pc]
          first | refine tu 26 90 rfl hS ?_ | (refine tk (v := ?_) 26 90 rfl (fun w' hS' => ?_) hS ?_; rotate_left; · ((try dsimp only at hS'); have q0 := hS'.cell (i := 0) (j := 0) rfl rfl; have q1 := hS'.cell (i := 0) (j := 1) rfl rfl; have q2 := hS'.cell (i := 0) (j := 2) rfl rfl; have q3 := hS'.cell (i := 0) (j := 3) rfl rfl; have q4 := hS'.cell (i := 0) (j := 4) rfl rfl; have q5 := hS'.cell (i := 0) (j := 5) rfl rfl; have p0 := hS'.cell (i := 1) (j := 0) rfl rfl; have p1 := hS'.cell (i := 1) (j := 1) rfl rfl; have p2 := hS'.cell (i := 1) (j := 2) rfl rfl; have p3 := hS'.cell (i := 1) (j := 3) rfl rfl; have r0 := (hS'.bl.cell (p := ⟨b, off + q * 6, none⟩) hb2).trans y0; go_simp; all_goals (with_reducible rfl)))
          try simp only [Act.put, pa, pb, pc]
          first | refine tu 27 91 rfl hS ?_ | (refine tk (v := ?_) 27 91 rfl (fun w' hS' => ?_) hS ?_; rotate_left; · (go_simp; all_goals (with_reducible rfl)))
          try simp only [Act.put, pa, pb, pc]
          first | refine tu 28 92 rfl hS ?_ | (refine tk (v := ?_) 28 92 rfl (fun w' hS' => ?_) hS ?_; rotate_left; · ((try dsimp only at hS'); have q0 := hS'.cell (i := 0) (j := 0) rfl rfl; have q1 := hS'.cell (i := 0) (j := 1) rfl rfl; have q2 := hS'.cell (i := 0) (j := 2) rfl rfl; have q3 := hS'.cell (i := 0) (j := 3) rfl rfl; have q4 := hS'.cell (i := 0) (j := 4) rfl rfl; have q5 := hS'.cell (i := 0) (j := 5) rfl rfl; have p0 := hS'.cell (i := 1) (j := 0) rfl rfl; have p1 := hS'.cell (i := 1) (j := 1) rfl rfl; have p2 := hS'.cell (i := 1) (j := 2) rfl rfl; have p3 := hS'.cell (i := 1) (j := 3) rfl rfl; have r0 := (hS'.bl.cell (p := ⟨b, off + q * 6, none⟩) hb2).trans y0; go_simp; all_goals (with_reducible rfl)))
          try simp only [Act.put, pa, pb, pc]
          first | refine tu 29 93 rfl hS ?_ | (refine tk (v := ?_) 29 93 rfl (fun w' hS' => ?_) hS ?_; rotate_left; · (go_simp; all_goals (with_reducible rfl)))
          try simp only [Act.put, pa, pb, pc]
          try rw [g5]
          first | refine tu 30 94 rfl hS ?_ | (refine tk (v := ?_) 30 94 rfl (fun w' hS' => ?_) hS ?_; rotate_left; · (go_simp; all_goals (with_reducible rfl)))
          try simp only [Act.put, pa, pb, pc]
          refine tk (v := ?_) 31 95 rfl (fun w' hS' => ?_) hS ?_
          rotate_left
          · go_simp; all_goals (with_reducible rfl)
          try simp only [Act.put, pa, pb, pc]
          refine wpAnyH_done (by kernel_rfl) ?_ _
          clear hS
          go_wp2
          rcases (show e.out = true ∨ e.out = false by cases e.out <;> simp) with h6 | h6
          · have HJ := Lib.hid (show subsB x.docs x.last 0 x.subs = subsB x.docs x.last (idAt x.subs (j + 1)) (x.subs.drop (j + 1)) by rw [HI.out, HS.out, h1.out, h2.out, HF.out, HN.out, h6, Bool.true_or, Bool.true_and, Bool.true_and, Bool.true_and, Bool.true_and])
            replace HM := Lib.hid (HM.out.drew)
            refine wp_region_held_drew (S := fun W => Ms w [.bx wr.heap.size (.cells #[.int .i64 e.id, .string e.doc, .int .i64 e.cap, .int .i64 e.next, .bool e.out, .slice C5 e.list.length c5] 80 (0, 0)), .bx w.heap.size (.cells #[.bool x.shut, .slice (some ⟨b3, off3, none⟩) x.docs.length ca, .slice (some ⟨b, off, none⟩) x.subs.length cb, .int .i64 x.last] 30 (0, 0))] W) (by kernel_rfl) (HM.out.pick (ks := [0, 1]) (by decide) rfl) (fun hS => ?_)
            generalize W28.drew = W29 at HM hS  ⊢
            refine tk (v := ?_) 0 96 rfl (fun w' hS' => ?_) hS ?_
            rotate_left
            · go_simp; all_goals (with_reducible rfl)
            try simp only [Act.put, pa, pb, pc]
            refine tk (v := ?_) 1 97 rfl (fun w' hS' => ?_) hS ?_
            rotate_left
            · go_simp; all_goals (with_reducible rfl)
            try simp only [Act.put, pa, pb, pc]
            refine tk (v := ?_) 2 98 rfl (fun w' hS' => ?_) hS ?_
            rotate_left
            · (try dsimp only at hS'); have q0 := hS'.cell (i := 0) (j := 0) rfl rfl; have q1 := hS'.cell (i := 0) (j := 1) rfl rfl; have q2 := hS'.cell (i := 0) (j := 2) rfl rfl; have q3 := hS'.cell (i := 0) (j := 3) rfl rfl; have q4 := hS'.cell (i := 0) (j := 4) rfl rfl; have q5 := hS'.cell (i := 0) (j := 5) rfl rfl; have p0 := hS'.cell (i := 1) (j := 0) rfl rfl; have p1 := hS'.cell (i := 1) (j := 1) rfl rfl; have p2 := hS'.cell (i := 1) (j := 2) rfl rfl; have p3 := hS'.cell (i := 1) (j := 3) rfl rfl; rw [h6] at q4; go_simp; all_goals (with_reducible rfl)
            try simp only [Act.put, pa, pb, pc]
            refine tk (v := ?_) 3 99 rfl (fun w' hS' => ?_) hS ?_
            rotate_left
            · go_simp; all_goals (with_reducible rfl)
            try simp only [Act.put, pa, pb, pc]
            refine tk (v := ?_) 4 100 rfl (fun w' hS' => ?_) hS ?_
            rotate_left
            · go_simp; all_goals (with_reducible rfl)
            try simp only [Act.put, pa, pb, pc]
            refine tu 5 101 rfl hS ?_
            try simp only [Act.put, pa, pb, pc]
            refine tu 6 102 rfl hS ?_
            try simp only [Act.put, pa, pb, pc]
            refine tu 7 103 rfl hS ?_
            try simp only [Act.put, pa, pb, pc]
            refine tu 8 104 rfl hS ?_
            try simp only [Act.put, pa, pb, pc]
            refine tu 9 105 rfl hS ?_
            try simp only [Act.put, pa, pb, pc]
            refine tu 10 106 rfl hS ?_
            try simp only [Act.put, pa, pb, pc]
            refine tu 11 107 rfl hS ?_
            try simp only [Act.put, pa, pb, pc]
            refine tu 12 108 rfl hS ?_
            try simp only [Act.put, pa, pb, pc]
            refine tu 13 109 rfl hS ?_
            try simp only [Act.put, pa, pb, pc]
            refine tu 14 110 rfl hS ?_
            try simp only [Act.put, pa, pb, pc]
            refine tu 15 111 rfl hS ?_
            try simp only [Act.put, pa, pb, pc]
            refine tu 16 112 rfl hS ?_
            try simp only [Act.put, pa, pb, pc]
            refine tu 17 113 rfl hS ?_
            try simp only [Act.put, pa, pb, pc]
            refine tu 18 114 rfl hS ?_
            try simp only [Act.put, pa, pb, pc]
            refine tu 19 115 rfl hS ?_
            try simp only [Act.put, pa, pb, pc]
            refine tu 20 116 rfl hS ?_
            try simp only [Act.put, pa, pb, pc]
            refine tk (v := ?_) 21 117 rfl (fun w' hS' => ?_) hS ?_
            rotate_left
            · go_simp; all_goals (with_reducible rfl)
            try simp only [Act.put, pa, pb, pc]
            refine wpAnyH_done (by kernel_rfl) ?_ _
            clear hS
            skip
            go_wp2
            go_roundw
            case rel => exact ⟨j + 1, by omega, by go_num, HJ.out, HM.out.pick (ks := [1]) (by decide) rfl⟩
            case measure => simp [intOf]; omega
          have hrb := RB.out
          have hn1 : e.next ≤ 1000000000 ∧ 1 ≤ e.next ∧ (e.list.length : Int) ≤ e.cap ∧ e.cap ≤ 6 := ⟨hrb.2.2.2.2.1, hrb.2.2.2.1, hrb.2.2.2.2.2.1, hrb.2.2.1⟩
          obtain ⟨hn1, hn2, hn3, hn4⟩ := hn1
          obtain ⟨hr1, hr2⟩ := HRE.out
          clear hrb
          have hw1 : IntKind.i64.wrap (e.next + (e.list.length : Int)) = e.next + (e.list.length : Int) := IntWalk.i64_in _ (by omega)
          have hw2 : IntKind.i64.wrap (headRevT d + 1) = headRevT d + 1 := IntWalk.i64_in _ (by omega)
          by_cases h7 : e.next + (e.list.length : Int) = headRevT d + 1
          rotate_left
          · have HE := Lib.hid (show hubB x = false by rw [HD3.out, HI.out, HS.out, h1.out, h2.out, HF.out, h6, decide_eq_false h7, Bool.or_false, Bool.false_and, Bool.and_false, Bool.and_false])
            have g7 : (e.next + (e.list.length : Int) != headRevT d + 1) = true := by rw [bne_iff_ne]; exact h7
            clear h7
            replace HM := Lib.hid (HM.out.drew)
            refine wp_region_held_drew (S := fun W => Ms w [.bx wr.heap.size (.cells #[.int .i64 e.id, .string e.doc, .int .i64 e.cap, .int .i64 e.next, .bool e.out, .slice C5 e.list.length c5] 80 (0, 0)), .bx w.heap.size (.cells #[.bool x.shut, .slice (some ⟨b3, off3, none⟩) x.docs.length ca, .slice (some ⟨b, off, none⟩) x.subs.length cb, .int .i64 x.last] 30 (0, 0))] W) (by kernel_rfl) (HM.out.pick (ks := [0, 1]) (by decide) rfl) (fun hS => ?_)
            generalize W28.drew = W30 at HM hS  ⊢
            refine tk (v := ?_) 0 96 rfl (fun w' hS' => ?_) hS ?_
            rotate_left
            · go_simp; all_goals (with_reducible rfl)
            try simp only [Act.put, pa, pb, pc]
            refine tk (v := ?_) 1 97 rfl (fun w' hS' => ?_) hS ?_
            rotate_left
            · go_simp; all_goals (with_reducible rfl)
            try simp only [Act.put, pa, pb, pc]
            refine tk (v := ?_) 2 98 rfl (fun w' hS' => ?_) hS ?_
            rotate_left
            · (try dsimp only at hS'); have q0 := hS'.cell (i := 0) (j := 0) rfl rfl; have q1 := hS'.cell (i := 0) (j := 1) rfl rfl; have q2 := hS'.cell (i := 0) (j := 2) rfl rfl; have q3 := hS'.cell (i := 0) (j := 3) rfl rfl; have q4 := hS'.cell (i := 0) (j := 4) rfl rfl; have q5 := hS'.cell (i := 0) (j := 5) rfl rfl; have p0 := hS'.cell (i := 1) (j := 0) rfl rfl; have p1 := hS'.cell (i := 1) (j := 1) rfl rfl; have p2 := hS'.cell (i := 1) (j := 2) rfl rfl; have p3 := hS'.cell (i := 1) (j := 3) rfl rfl; have u0 := (hS'.bl.cell (p := ⟨b3, off3 + k * 5, none⟩) hb3).trans z0; have u1 := (hS'.bl.cell (p := ⟨b3, off3 + k * 5 + 1, none⟩) hb3).trans z1; have u2 := (hS'.bl.cell (p := ⟨b3, off3 + k * 5 + 2, none⟩) hb3).trans z2; have u3 := (hS'.bl.cell (p := ⟨b3, off3 + k * 5 + 3, none⟩) hb3).trans z3; have u4 := (hS'.bl.cell (p := ⟨b3, off3 + k * 5 + 4, none⟩) hb3).trans z4; rw [h6] at q4; go_simp; all_goals (with_reducible rfl)
            try simp only [Act.put, pa, pb, pc]
            refine tk (v := ?_) 3 99 rfl (fun w' hS' => ?_) hS ?_
            rotate_left
            · go_simp; all_goals (with_reducible rfl)
            try simp only [Act.put, pa, pb, pc]
            refine tk (v := ?_) 4 100 rfl (fun w' hS' => ?_) hS ?_
            rotate_left
            · go_simp; all_goals (with_reducible rfl)
            try simp only [Act.put, pa, pb, pc]
            first | refine tu 5 101 rfl hS ?_ | (refine tk (v := ?_) 5 101 rfl (fun w' hS' => ?_) hS ?_; rotate_left; · (go_simp; all_goals (with_reducible rfl)))
            try simp only [Act.put, pa, pb, pc]
            first | refine tu 6 102 rfl hS ?_ | (refine tk (v := ?_) 6 102 rfl (fun w' hS' => ?_) hS ?_; rotate_left; · (go_simp; all_goals (with_reducible rfl)))
            try simp only [Act.put, pa, pb, pc]
            first | refine tu 7 103 rfl hS ?_ | (refine tk (v := ?_) 7 103 rfl (fun w' hS' => ?_) hS ?_; rotate_left; · ((try dsimp only at hS'); have q0 := hS'.cell (i := 0) (j := 0) rfl rfl; have q1 := hS'.cell (i := 0) (j := 1) rfl rfl; have q2 := hS'.cell (i := 0) (j := 2) rfl rfl; have q3 := hS'.cell (i := 0) (j := 3) rfl rfl; have q4 := hS'.cell (i := 0) (j := 4) rfl rfl; have q5 := hS'.cell (i := 0) (j := 5) rfl rfl; have p0 := hS'.cell (i := 1) (j := 0) rfl rfl; have p1 := hS'.cell (i := 1) (j := 1) rfl rfl; have p2 := hS'.cell (i := 1) (j := 2) rfl rfl; have p3 := hS'.cell (i := 1) (j := 3) rfl rfl; have u0 := (hS'.bl.cell (p := ⟨b3, off3 + k * 5, none⟩) hb3).trans z0; have u1 := (hS'.bl.cell (p := ⟨b3, off3 + k * 5 + 1, none⟩) hb3).trans z1; have u2 := (hS'.bl.cell (p := ⟨b3, off3 + k * 5 + 2, none⟩) hb3).trans z2; have u3 := (hS'.bl.cell (p := ⟨b3, off3 + k * 5 + 3, none⟩) hb3).trans z3; have u4 := (hS'.bl.cell (p := ⟨b3, off3 + k * 5 + 4, none⟩) hb3).trans z4; rw [h6] at q4; go_simp; all_goals (with_reducible rfl)))
            try simp only [Act.put, pa, pb, pc]
            first | refine tu 8 104 rfl hS ?_ | (refine tk (v := ?_) 8 104 rfl (fun w' hS' => ?_) hS ?_; rotate_left; · (go_simp; all_goals (with_reducible rfl)))
            try simp only [Act.put, pa, pb, pc]
            first | refine tu 9 105 rfl hS ?_ | (refine tk (v := ?_) 9 105 rfl (fun w' hS' => ?_) hS ?_; rotate_left; · (go_simp; all_goals (with_reducible rfl)))
            try simp only [Act.put, pa, pb, pc]
            first | refine tu 10 106 rfl hS ?_ | (refine tk (v := ?_) 10 106 rfl (fun w' hS' => ?_) hS ?_; rotate_left; · ((try dsimp only at hS'); have q0 := hS'.cell (i := 0) (j := 0) rfl rfl; have q1 := hS'.cell (i := 0) (j := 1) rfl rfl; have q2 := hS'.cell (i := 0) (j := 2) rfl rfl; have q3 := hS'.cell (i := 0) (j := 3) rfl rfl; have q4 := hS'.cell (i := 0) (j := 4) rfl rfl; have q5 := hS'.cell (i := 0) (j := 5) rfl rfl; have p0 := hS'.cell (i := 1) (j := 0) rfl rfl; have p1 := hS'.cell (i := 1) (j := 1) rfl rfl; have p2 := hS'.cell (i := 1) (j := 2) rfl rfl; have p3 := hS'.cell (i := 1) (j := 3) rfl rfl; have u0 := (hS'.bl.cell (p := ⟨b3, off3 + k * 5, none⟩) hb3).trans z0; have u1 := (hS'.bl.cell (p := ⟨b3, off3 + k * 5 + 1, none⟩) hb3).trans z1; have u2 := (hS'.bl.cell (p := ⟨b3, off3 + k * 5 + 2, none⟩) hb3).trans z2; have u3 := (hS'.bl.cell (p := ⟨b3, off3 + k * 5 + 3, none⟩) hb3).trans z3; have u4 := (hS'.bl.cell (p := ⟨b3, off3 + k * 5 + 4, none⟩) hb3).trans z4; rw [h6] at q4; go_simp; all_goals (with_reducible rfl)))
            try simp only [Act.put, pa, pb, pc]
            first | refine tu 11 107 rfl hS ?_ | (refine tk (v := ?_) 11 107 rfl (fun w' hS' => ?_) hS ?_; rotate_left; · (go_simp; all_goals (with_reducible rfl)))
            try simp only [Act.put, pa, pb, pc]
            first | refine tu 12 108 rfl hS ?_ | (refine tk (v := ?_) 12 108 rfl (fun w' hS' => ?_) hS ?_; rotate_left; · (go_simp; all_goals (with_reducible rfl)))
            try simp only [Act.put, pa, pb, pc]
            first | refine tu 13 109 rfl hS ?_ | (refine tk (v := ?_) 13 109 rfl (fun w' hS' => ?_) hS ?_; rotate_left; · (go_simp; all_goals (with_reducible rfl)))
            try simp only [Act.put, pa, pb, pc]
            first | refine tu 14 110 rfl hS ?_ | (refine tk (v := ?_) 14 110 rfl (fun w' hS' => ?_) hS ?_; rotate_left; · ((try dsimp only at hS'); have q0 := hS'.cell (i := 0) (j := 0) rfl rfl; have q1 := hS'.cell (i := 0) (j := 1) rfl rfl; have q2 := hS'.cell (i := 0) (j := 2) rfl rfl; have q3 := hS'.cell (i := 0) (j := 3) rfl rfl; have q4 := hS'.cell (i := 0) (j := 4) rfl rfl; have q5 := hS'.cell (i := 0) (j := 5) rfl rfl; have p0 := hS'.cell (i := 1) (j := 0) rfl rfl; have p1 := hS'.cell (i := 1) (j := 1) rfl rfl; have p2 := hS'.cell (i := 1) (j := 2) rfl rfl; have p3 := hS'.cell (i := 1) (j := 3) rfl rfl; have u0 := (hS'.bl.cell (p := ⟨b3, off3 + k * 5, none⟩) hb3).trans z0; have u1 := (hS'.bl.cell (p := ⟨b3, off3 + k * 5 + 1, none⟩) hb3).trans z1; have u2 := (hS'.bl.cell (p := ⟨b3, off3 + k * 5 + 2, none⟩) hb3).trans z2; have u3 := (hS'.bl.cell (p := ⟨b3, off3 + k * 5 + 3, none⟩) hb3).trans z3; have u4 := (hS'.bl.cell (p := ⟨b3, off3 + k * 5 + 4, none⟩) hb3).trans z4; rw [h6] at q4; go_simp; all_goals (with_reducible rfl)))
            try simp only [Act.put, pa, pb, pc]
            first | refine tu 15 111 rfl hS ?_ | (refine tk (v := ?_) 15 111 rfl (fun w' hS' => ?_) hS ?_; rotate_left; · (go_simp; all_goals (with_reducible rfl)))
            try simp only [Act.put, pa, pb, pc]
            first | refine tu 16 112 rfl hS ?_ | (refine tk (v := ?_) 16 112 rfl (fun w' hS' => ?_) hS ?_; rotate_left; · (go_simp; all_goals (with_reducible rfl)))
            try simp only [Act.put, pa, pb, pc]
            first | refine tu 17 113 rfl hS ?_ | (refine tk (v := ?_) 17 113 rfl (fun w' hS' => ?_) hS ?_; rotate_left; · ((try dsimp only at hS'); have q0 := hS'.cell (i := 0) (j := 0) rfl rfl; have q1 := hS'.cell (i := 0) (j := 1) rfl rfl; have q2 := hS'.cell (i := 0) (j := 2) rfl rfl; have q3 := hS'.cell (i := 0) (j := 3) rfl rfl; have q4 := hS'.cell (i := 0) (j := 4) rfl rfl; have q5 := hS'.cell (i := 0) (j := 5) rfl rfl; have p0 := hS'.cell (i := 1) (j := 0) rfl rfl; have p1 := hS'.cell (i := 1) (j := 1) rfl rfl; have p2 := hS'.cell (i := 1) (j := 2) rfl rfl; have p3 := hS'.cell (i := 1) (j := 3) rfl rfl; have u0 := (hS'.bl.cell (p := ⟨b3, off3 + k * 5, none⟩) hb3).trans z0; have u1 := (hS'.bl.cell (p := ⟨b3, off3 + k * 5 + 1, none⟩) hb3).trans z1; have u2 := (hS'.bl.cell (p := ⟨b3, off3 + k * 5 + 2, none⟩) hb3).trans z2; have u3 := (hS'.bl.cell (p := ⟨b3, off3 + k * 5 + 3, none⟩) hb3).trans z3; have u4 := (hS'.bl.cell (p := ⟨b3, off3 + k * 5 + 4, none⟩) hb3).trans z4; rw [h6] at q4; go_simp; all_goals (with_reducible rfl)))
            try simp only [Act.put, pa, pb, pc]
            refine r1 18 (some 114) rfl (fun K hK => ?_)
            go_simp
            refine (specHeadRev_d _ d _ (rdDo d (HM.out.arg P2h.out) (HM.out.arg P3h.out) (HM.out.arg P4h.out)) hsd).mono ?_
            rintro e' W31 ⟨rfl, b'⟩
            replace HM := Lib.hid (HM.out.past b')
            clear b'
            clear hS
            refine hK.out _ _ (HM.out.pick (ks := [0, 1]) (by decide) rfl) (fun hS => ?_)
            clear hK K
            try simp only [Act.put, pa, pb, pc]
            first | refine tu 19 115 rfl hS ?_ | (refine tk (v := ?_) 19 115 rfl (fun w' hS' => ?_) hS ?_; rotate_left; · (go_simp; all_goals (with_reducible rfl)))
            try simp only [Act.put, pa, pb, pc]
            first | refine tu 20 116 rfl hS ?_ | (refine tk (v := ?_) 20 116 rfl (fun w' hS' => ?_) hS ?_; rotate_left; · (go_simp; all_goals (with_reducible rfl)))
            try simp only [Act.put, pa, pb, pc]
            try rw [g7]
            refine tk (v := ?_) 21 117 rfl (fun w' hS' => ?_) hS ?_
            rotate_left
            · go_simp; all_goals (with_reducible rfl)
            try simp only [Act.put, pa, pb, pc]
            refine wpAnyH_done (by kernel_rfl) ?_ _
            clear hS
            go_wp2
            go_ret
            exact ⟨ret_b HE.out.symm, HM.out.bl⟩
          have HJ := Lib.hid (show subsB x.docs x.last 0 x.subs = subsB x.docs x.last (idAt x.subs (j + 1)) (x.subs.drop (j + 1)) by rw [HI.out, HS.out, h1.out, h2.out, HF.out, HN.out, h6, decide_eq_true h7, Bool.or_true, Bool.true_and, Bool.true_and, Bool.true_and, Bool.true_and])
          have g7 : (e.next + (e.list.length : Int) != headRevT d + 1) = false := by rw [bne_eq_false_iff_eq]; exact h7
          replace h7 := Lib.hid h7
          replace HM := Lib.hid (HM.out.drew)
          refine wp_region_held_drew (S := fun W => Ms w [.bx wr.heap.size (.cells #[.int .i64 e.id, .string e.doc, .int .i64 e.cap, .int .i64 e.next, .bool e.out, .slice C5 e.list.length c5] 80 (0, 0)), .bx w.heap.size (.cells #[.bool x.shut, .slice (some ⟨b3, off3, none⟩) x.docs.length ca, .slice (some ⟨b, off, none⟩) x.subs.length cb, .int .i64 x.last] 30 (0, 0))] W) (by kernel_rfl) (HM.out.pick (ks := [0, 1]) (by decide) rfl) (fun hS => ?_)
          generalize W28.drew = W32 at HM hS  ⊢
          refine tk (v := ?_) 0 96 rfl (fun w' hS' => ?_) hS ?_
          rotate_left
          · go_simp; all_goals (with_reducible rfl)
          try simp only [Act.put, pa, pb, pc]
          refine tk (v := ?_) 1 97 rfl (fun w' hS' => ?_) hS ?_
          rotate_left
          · go_simp; all_goals (with_reducible rfl)
          try simp only [Act.put, pa, pb, pc]
          refine tk (v := ?_) 2 98 rfl (fun w' hS' => ?_) hS ?_
          rotate_left
          · (try dsimp only at hS'); have q0 := hS'.cell (i := 0) (j := 0) rfl rfl; have q1 := hS'.cell (i := 0) (j := 1) rfl rfl; have q2 := hS'.cell (i := 0) (j := 2) rfl rfl; have q3 := hS'.cell (i := 0) (j := 3) rfl rfl; have q4 := hS'.cell (i := 0) (j := 4) rfl rfl; have q5 := hS'.cell (i := 0) (j := 5) rfl rfl; have p0 := hS'.cell (i := 1) (j := 0) rfl rfl; have p1 := hS'.cell (i := 1) (j := 1) rfl rfl; have p2 := hS'.cell (i := 1) (j := 2) rfl rfl; have p3 := hS'.cell (i := 1) (j := 3) rfl rfl; have u0 := (hS'.bl.cell (p := ⟨b3, off3 + k * 5, none⟩) hb3).trans z0; have u1 := (hS'.bl.cell (p := ⟨b3, off3 + k * 5 + 1, none⟩) hb3).trans z1; have u2 := (hS'.bl.cell (p := ⟨b3, off3 + k * 5 + 2, none⟩) hb3).trans z2; have u3 := (hS'.bl.cell (p := ⟨b3, off3 + k * 5 + 3, none⟩) hb3).trans z3; have u4 := (hS'.bl.cell (p := ⟨b3, off3 + k * 5 + 4, none⟩) hb3).trans z4; rw [h6] at q4; go_simp; all_goals (with_reducible rfl)
          try simp only [Act.put, pa, pb, pc]
          refine tk (v := ?_) 3 99 rfl (fun w' hS' => ?_) hS ?_
          rotate_left
          · go_simp; all_goals (with_reducible rfl)
          try simp only [Act.put, pa, pb, pc]
          refine tk (v := ?_) 4 100 rfl (fun w' hS' => ?_) hS ?_
          rotate_left
          · go_simp; all_goals (with_reducible rfl)
          try simp only [Act.put, pa, pb, pc]
          first | refine tu 5 101 rfl hS ?_ | (refine tk (v := ?_) 5 101 rfl (fun w' hS' => ?_) hS ?_; rotate_left; · (go_simp; all_goals (with_reducible rfl)))
          try simp only [Act.put, pa, pb, pc]
          first | refine tu 6 102 rfl hS ?_ | (refine tk (v := ?_) 6 102 rfl (fun w' hS' => ?_) hS ?_; rotate_left; · (go_simp; all_goals (with_reducible rfl)))
          try simp only [Act.put, pa, pb, pc]
          first | refine tu 7 103 rfl hS ?_ | (refine tk (v := ?_) 7 103 rfl (fun w' hS' => ?_) hS ?_; rotate_left; · ((try dsimp only at hS'); have q0 := hS'.cell (i := 0) (j := 0) rfl rfl; have q1 := hS'.cell (i := 0) (j := 1) rfl rfl; have q2 := hS'.cell (i := 0) (j := 2) rfl rfl; have q3 := hS'.cell (i := 0) (j := 3) rfl rfl; have q4 := hS'.cell (i := 0) (j := 4) rfl rfl; have q5 := hS'.cell (i := 0) (j := 5) rfl rfl; have p0 := hS'.cell (i := 1) (j := 0) rfl rfl; have p1 := hS'.cell (i := 1) (j := 1) rfl rfl; have p2 := hS'.cell (i := 1) (j := 2) rfl rfl; have p3 := hS'.cell (i := 1) (j := 3) rfl rfl; have u0 := (hS'.bl.cell (p := ⟨b3, off3 + k * 5, none⟩) hb3).trans z0; have u1 := (hS'.bl.cell (p := ⟨b3, off3 + k * 5 + 1, none⟩) hb3).trans z1; have u2 := (hS'.bl.cell (p := ⟨b3, off3 + k * 5 + 2, none⟩) hb3).trans z2; have u3 := (hS'.bl.cell (p := ⟨b3, off3 + k * 5 + 3, none⟩) hb3).trans z3; have u4 := (hS'.bl.cell (p := ⟨b3, off3 + k * 5 + 4, none⟩) hb3).trans z4; rw [h6] at q4; go_simp; all_goals (with_reducible rfl)))
          try simp only [Act.put, pa, pb, pc]
          first | refine tu 8 104 rfl hS ?_ | (refine tk (v := ?_) 8 104 rfl (fun w' hS' => ?_) hS ?_; rotate_left; · (go_simp; all_goals (with_reducible rfl)))
          try simp only [Act.put, pa, pb, pc]
          first | refine tu 9 105 rfl hS ?_ | (refine tk (v := ?_) 9 105 rfl (fun w' hS' => ?_) hS ?_; rotate_left; · (go_simp; all_goals (with_reducible rfl)))
          try simp only [Act.put, pa, pb, pc]
          first | refine tu 10 106 rfl hS ?_ | (refine tk (v := ?_) 10 106 rfl (fun w' hS' => ?_) hS ?_; rotate_left; · ((try dsimp only at hS'); have q0 := hS'.cell (i := 0) (j := 0) rfl rfl; have q1 := hS'.cell (i := 0) (j := 1) rfl rfl; have q2 := hS'.cell (i := 0) (j := 2) rfl rfl; have q3 := hS'.cell (i := 0) (j := 3) rfl rfl; have q4 := hS'.cell (i := 0) (j := 4) rfl rfl; have q5 := hS'.cell (i := 0) (j := 5) rfl rfl; have p0 := hS'.cell (i := 1) (j := 0) rfl rfl; have p1 := hS'.cell (i := 1) (j := 1) rfl rfl; have p2 := hS'.cell (i := 1) (j := 2) rfl rfl; have p3 := hS'.cell (i := 1) (j := 3) rfl rfl; have u0 := (hS'.bl.cell (p := ⟨b3, off3 + k * 5, none⟩) hb3).trans z0; have u1 := (hS'.bl.cell (p := ⟨b3, off3 + k * 5 + 1, none⟩) hb3).trans z1; have u2 := (hS'.bl.cell (p := ⟨b3, off3 + k * 5 + 2, none⟩) hb3).trans z2; have u3 := (hS'.bl.cell (p := ⟨b3, off3 + k * 5 + 3, none⟩) hb3).trans z3; have u4 := (hS'.bl.cell (p := ⟨b3, off3 + k * 5 + 4, none⟩) hb3).trans z4; rw [h6] at q4; go_simp; all_goals (with_reducible rfl)))
          try simp only [Act.put, pa, pb, pc]
          first | refine tu 11 107 rfl hS ?_ | (refine tk (v := ?_) 11 107 rfl (fun w' hS' => ?_) hS ?_; rotate_left; · (go_simp; all_goals (with_reducible rfl)))
          try simp only [Act.put, pa, pb, pc]
          first | refine tu 12 108 rfl hS ?_ | (refine tk (v := ?_) 12 108 rfl (fun w' hS' => ?_) hS ?_; rotate_left; · (go_simp; all_goals (with_reducible rfl)))
          try simp only [Act.put, pa, pb, pc]
          first | refine tu 13 109 rfl hS ?_ | (refine tk (v := ?_) 13 109 rfl (fun w' hS' => ?_) hS ?_; rotate_left; · (go_simp; all_goals (with_reducible rfl)))
          try simp only [Act.put, pa, pb, pc]
          first | refine tu 14 110 rfl hS ?_ | (refine tk (v := ?_) 14 110 rfl (fun w' hS' => ?_) hS ?_; rotate_left; · ((try dsimp only at hS'); have q0 := hS'.cell (i := 0) (j := 0) rfl rfl; have q1 := hS'.cell (i := 0) (j := 1) rfl rfl; have q2 := hS'.cell (i := 0) (j := 2) rfl rfl; have q3 := hS'.cell (i := 0) (j := 3) rfl rfl; have q4 := hS'.cell (i := 0) (j := 4) rfl rfl; have q5 := hS'.cell (i := 0) (j := 5) rfl rfl; have p0 := hS'.cell (i := 1) (j := 0) rfl rfl; have p1 := hS'.cell (i := 1) (j := 1) rfl rfl; have p2 := hS'.cell (i := 1) (j := 2) rfl rfl; have p3 := hS'.cell (i := 1) (j := 3) rfl rfl; have u0 := (hS'.bl.cell (p := ⟨b3, off3 + k * 5, none⟩) hb3).trans z0; have u1 := (hS'.bl.cell (p := ⟨b3, off3 + k * 5 + 1, none⟩) hb3).trans z1; have u2 := (hS'.bl.cell (p := ⟨b3, off3 + k * 5 + 2, none⟩) hb3).trans z2; have u3 := (hS'.bl.cell (p := ⟨b3, off3 + k * 5 + 3, none⟩) hb3).trans z3; have u4 := (hS'.bl.cell (p := ⟨b3, off3 + k * 5 + 4, none⟩) hb3).trans z4; rw [h6] at q4; go_simp; all_goals (with_reducible rfl)))
          try simp only [Act.put, pa, pb, pc]
          first | refine tu 15 111 rfl hS ?_ | (refine tk (v := ?_) 15 111 rfl (fun w' hS' => ?_) hS ?_; rotate_left; · (go_simp; all_goals (with_reducible rfl)))
          try simp only [Act.put, pa, pb, pc]
          first | refine tu 16 112 rfl hS ?_ | (refine tk (v := ?_) 16 112 rfl (fun w' hS' => ?_) hS ?_; rotate_left; · (go_simp; all_goals (with_reducible rfl)))
          try simp only [Act.put, pa, pb, pc]
          first | refine tu 17 113 rfl hS ?_ | (refine tk (v := ?_) 17 113 rfl (fun w' hS' => ?_) hS ?_; rotate_left; · ((try dsimp only at hS'); have q0 := hS'.cell (i := 0) (j := 0) rfl rfl; have q1 := hS'.cell (i := 0) (j := 1) rfl rfl; have q2 := hS'.cell (i := 0) (j := 2) rfl rfl; have q3 := hS'.cell (i := 0) (j := 3) rfl rfl; have q4 := hS'.cell (i := 0) (j := 4) rfl rfl; have q5 := hS'.cell (i := 0) (j := 5) rfl rfl; have p0 := hS'.cell (i := 1) (j := 0) rfl rfl; have p1 := hS'.cell (i := 1) (j := 1) rfl rfl; have p2 := hS'.cell (i := 1) (j := 2) rfl rfl; have p3 := hS'.cell (i := 1) (j := 3) rfl rfl; have u0 := (hS'.bl.cell (p := ⟨b3, off3 + k * 5, none⟩) hb3).trans z0; have u1 := (hS'.bl.cell (p := ⟨b3, off3 + k * 5 + 1, none⟩) hb3).trans z1; have u2 := (hS'.bl.cell (p := ⟨b3, off3 + k * 5 + 2, none⟩) hb3).trans z2; have u3 := (hS'.bl.cell (p := ⟨b3, off3 + k * 5 + 3, none⟩) hb3).trans z3; have u4 := (hS'.bl.cell (p := ⟨b3, off3 + k * 5 + 4, none⟩) hb3).trans z4; rw [h6] at q4; go_simp; all_goals (with_reducible rfl)))
          try simp only [Act.put, pa, pb, pc]
          refine r1 18 (some 114) rfl (fun K hK => ?_)
          go_simp
          refine (specHeadRev_d _ d _ (rdDo d (HM.out.arg P2h.out) (HM.out.arg P3h.out) (HM.out.arg P4h.out)) hsd).mono ?_
          rintro e' W33 ⟨rfl, b'⟩
          replace HM := Lib.hid (HM.out.past b')
          clear b'
          clear hS
          refine hK.out _ _ (HM.out.pick (ks := [0, 1]) (by decide) rfl) (fun hS => ?_)
          clear hK K
          try simp only [Act.put, pa, pb, pc]
          first | refine tu 19 115 rfl hS ?_ | (refine tk (v := ?_) 19 115 rfl (fun w' hS' => ?_) hS ?_; rotate_left; · (go_simp; all_goals (with_reducible rfl)))
          try simp only [Act.put, pa, pb, pc]
          first | refine tu 20 116 rfl hS ?_ | (refine tk (v := ?_) 20 116 rfl (fun w' hS' => ?_) hS ?_; rotate_left; · (go_simp; all_goals (with_reducible rfl)))
          try simp only [Act.put, pa, pb, pc]
          try rw [g7]
          refine tk (v := ?_) 21 117 rfl (fun w' hS' => ?_) hS ?_
          rotate_left
          · go_simp; all_goals (with_reducible rfl)
          try simp only [Act.put, pa, pb, pc]
          refine wpAnyH_done (by kernel_rfl) ?_ _
          clear hS
          skip
          go_wp2
          go_roundw
          case rel => exact ⟨j + 1, by omega, by go_num, HJ.out, HM.out.pick (ks := [1]) (by decide) rfl⟩
          case measure => simp [intOf]; omega
        · have h9 : x.subs.drop j = [] := List.drop_eq_nil_of_le (by omega)
          have HE := Lib.hid (show hubB x = true by rw [HD3.out, HI.out, h9]; rfl)
          clear h9
          go_wp2
          go_ret
          exact ⟨ret_b HE.out.symm, HM.out.bl⟩
end Go.Proofs.YtamainhocghlgaaGreatDoor.low


/-
  Contracts of spec.l10Copy, RingSame, RingPush and RingPoll. Written by mkring2.py.
-/
namespace Go.Proofs.YtamainhocghlgaaGreatDoor.low
open Go.RowKit
set_option linter.unusedVariables false

set_option maxRecDepth 100000 in
set_option maxHeartbeats 3200000 in
theorem specCopyR_d (v : Value) (x : Ri) (w : World) (h : RdC w w.heap.size (datRi x) v) (hs : SmRi x) : Calls Tryz.prog 63 #[v] w (OwnPost (datRi x) w) := by
  have HR := Lib.hid h
  obtain ⟨A3, c3, rfl, r3⟩ := aggRi h
  have R3 := Lib.hid r3
  have hl := hs.list.len
  clear h r3
  have HM := Lib.hid (Ms.start w)
  replace HM := Lib.hid (HM.out.new #[.int .i64 x.cap, .int .i64 x.next, .bool x.out, .slice A3 x.list.length c3] 78)
  have hm := HM.out.new #[.int .i64 0, .int .i64 0, .bool false, .slice none 0 0] 78
  simp only [World.size_alloc] at hm
  replace HM := Lib.hid hm
  clear hm
  go_enter Tryz.func63, Tryz.ntmps63
  go_wp2
  obtain ⟨W1, hW, hm⟩ := HM.out.name
  rw [← hW]
  replace HM := Lib.hid hm
  clear hm hW
  replace HM := Lib.hid (HM.out.drew)
  refine wp_region_held_drew (S := fun W => Ms w [.bx w.heap.size (.cells #[.int .i64 x.cap, .int .i64 x.next, .bool x.out, .slice A3 x.list.length c3] 78 (0, 0))] W) (by kernel_rfl) (HM.out.pick (ks := [1]) (by decide) rfl) (fun hS => ?_)
  generalize W1.drew = W2 at HM hS  ⊢
  refine tk (v := ?_) 0 3 rfl (fun w' hS' => ?_) hS ?_
  rotate_left
  · go_simp; all_goals (with_reducible rfl)
  try simp only [Act.put, pa, pb, pc]
  refine tk (v := ?_) 1 4 rfl (fun w' hS' => ?_) hS ?_
  rotate_left
  · (try dsimp only at hS'); obtain ⟨q0, q1, q2, q3⟩ := hS'.c4 0 rfl; go_simp; all_goals (with_reducible rfl)
  try simp only [Act.put, pa, pb, pc]
  refine tk (v := ?_) 2 5 rfl (fun w' hS' => ?_) hS ?_
  rotate_left
  · go_simp; all_goals (with_reducible rfl)
  try simp only [Act.put, pa, pb, pc]
  refine tk (v := ?_) 3 6 rfl (fun w' hS' => ?_) hS ?_
  rotate_left
  · (try dsimp only at hS'); obtain ⟨q0, q1, q2, q3⟩ := hS'.c4 0 rfl; go_simp; all_goals (with_reducible rfl)
  try simp only [Act.put, pa, pb, pc]
  refine tk (v := ?_) 4 7 rfl (fun w' hS' => ?_) hS ?_
  rotate_left
  · go_simp; all_goals (with_reducible rfl)
  try simp only [Act.put, pa, pb, pc]
  refine tk (v := ?_) 5 8 rfl (fun w' hS' => ?_) hS ?_
  rotate_left
  · (try dsimp only at hS'); obtain ⟨q0, q1, q2, q3⟩ := hS'.c4 0 rfl; go_simp; all_goals (with_reducible rfl)
  try simp only [Act.put, pa, pb, pc]
  refine tk (v := ?_) 6 9 rfl (fun w' hS' => ?_) hS ?_
  rotate_left
  · go_simp; all_goals (with_reducible rfl)
  try simp only [Act.put, pa, pb, pc]
  refine tk (v := ?_) 7 10 rfl (fun w' hS' => ?_) hS ?_
  rotate_left
  · (try dsimp only at hS'); obtain ⟨q0, q1, q2, q3⟩ := hS'.c4 0 rfl; go_simp; all_goals (with_reducible rfl)
  try simp only [Act.put, pa, pb, pc]
  refine r1 8 (some 11) rfl (fun K hK => ?_)
  go_simp
  refine (specEntriesC_d _ x.list _ (HM.out.arg R3.out) hs.list).mono ?_
  rintro e' W3 ⟨v', rfl, o', b'⟩
  obtain ⟨Al, cl, rfl⟩ := sliceEns o'.read
  obtain ⟨bl, hm⟩ := HM.out.got o' b'
  clear o' b'
  replace HM := Lib.hid hm
  clear hm
  clear hS
  refine hK.out _ _ (HM.out.pick (ks := [2]) (by decide) rfl) (fun hS => ?_)
  clear hK K
  try simp only [Act.put, pa, pb, pc]
  refine tk (v := ?_) 9 12 rfl (fun w' hS' => ?_) hS ?_
  rotate_left
  · go_simp; all_goals (with_reducible rfl)
  try simp only [Act.put, pa, pb, pc]
  refine r1 10 none rfl (fun K hK => ?_)
  obtain ⟨kr0, kr1, kr2, kr3⟩ := HM.out.c4 1 rfl
  obtain ⟨fr0, fr1, fr2, fr3⟩ := HM.out.f4 1 rfl
  go_simp
  clear hS kr0 kr1 kr2 kr3 fr0 fr1 fr2 fr3
  have hm := HM.out.pk [1, 0, 2] (by decide) (by simp)
  simp only [low.pk, List.getElem?_cons_zero, List.getElem?_cons_succ] at hm
  replace HM := Lib.hid hm
  clear hm
  have hm := HM.out.putRow (ys := [.int .i64 x.cap, .int .i64 x.next, .bool x.out, .slice Al x.list.length cl]) rfl
  simp only [low.putRow, Nat.zero_add, Nat.reduceAdd] at hm
  replace HM := Lib.hid hm
  clear hm
  obtain ⟨W4, hW, hm⟩ := HM.out.name
  rw [← hW]
  replace HM := Lib.hid hm
  clear hm hW
  refine hK.out _ _ (HM.out.pick (ks := [2]) (by decide) rfl) (fun hS => ?_)
  clear hK K
  try simp only [Act.put]
  refine wpAnyH_done (by kernel_rfl) ?_ _
  clear hS
  go_wp2
  obtain ⟨kr0, kr1, kr2, kr3⟩ := HM.out.c4 0 rfl
  have hm := HM.out.pk [1, 0, 2] (by decide) (by simp)
  simp only [low.pk, List.getElem?_cons_zero, List.getElem?_cons_succ] at hm
  replace HM := Lib.hid hm
  clear hm
  exact bodyPost_ret (v := .agg #[.int .i64 x.cap, .int .i64 x.next, .bool x.out, .slice Al x.list.length cl]) (by simp [results, Tryz.results63, go_sem, kr0, kr1, kr2, kr3]) rfl (show Ms w (.dt (datRi x) (.agg #[.int .i64 x.cap, .int .i64 x.next, .bool x.out, .slice Al x.list.length cl]) _ :: _) _ from ((HM.out.pk0.pkO.pkF rfl).pkF rfl).pkF rfl).post
end Go.Proofs.YtamainhocghlgaaGreatDoor.low


/-
  Contracts of spec.l11Sub, l11Copy and HubShut. Written by mkhub5.py.
-/
namespace Go.Proofs.YtamainhocghlgaaGreatDoor.low
open Go.RowKit
set_option linter.unusedVariables false

theorem eltDo : Elt 27 75 (.agg #[.string ⟨#[]⟩, .int .i64 0, .slice none 0 0, .slice none 0 0, .slice none 0 0]) 5 96 := elt_of (by kernel_rfl) (by kernel_rfl) rfl (by omega) (by omega)
theorem eltSu : Elt 28 80 (.agg #[.int .i64 0, .string ⟨#[]⟩, .int .i64 0, .int .i64 0, .bool false, .slice none 0 0]) 6 72 := elt_of (by kernel_rfl) (by kernel_rfl) rfl (by omega) (by omega)
theorem Ms.pkSu {w0 W : World} {L : List It} {x : Su} {v : Value} {b : List Nat} (h : Ms w0 (.dt (datRi (ringSu x)) (.agg #[.int .i64 x.cap, .int .i64 x.next, .bool x.out, v]) b :: L) W) : ∃ b', Ms w0 (.dt (datSu x) (.agg #[.int .i64 x.id, .string x.doc, .int .i64 x.cap, .int .i64 x.next, .bool x.out, v]) b' :: L) W := by
  obtain ⟨c, h1⟩ := Ms.unRi9 (x := ringSu x) h
  exact ⟨_, ((((h1.pk0.pkO.pkF rfl).pkF rfl).pkF rfl).pkF rfl).pkF rfl⟩
theorem Ms.pkHu {w0 W : World} {L : List It} {sh : Bool} {la : Int} {ds : List Do} {ss : List Su} {u v : Value} {b c : List Nat} (h : Ms w0 (.dt (encSus ss) v c :: .dt (encDos ds) u b :: L) W) : ∃ b', Ms w0 (.dt (datHu ⟨sh, ds, ss, la⟩) (.agg #[.bool sh, u, v, .int .i64 la]) b' :: L) W := ⟨_, (((h.pk0.pkF rfl).pkO).pkO).pkF rfl⟩
set_option maxRecDepth 100000 in
set_option maxHeartbeats 3200000 in
theorem specSubC_d (v : Value) (x : Su) (w : World) (h : RdC w w.heap.size (datSu x) v) (hs : SmSu x) : Calls Tryz.prog 36 #[v] w (OwnPost (datSu x) w) := by
  obtain ⟨C5, c5, rfl, q5⟩ := aggSu h
  have Q5 := Lib.hid q5
  clear h q5
  have HM := Lib.hid (Ms.start w)
  replace HM := Lib.hid (HM.out.new #[.int .i64 x.id, .string x.doc, .int .i64 x.cap, .int .i64 x.next, .bool x.out, .slice C5 x.list.length c5] 80)
  have hm := HM.out.new #[.int .i64 0, .string ⟨#[]⟩, .int .i64 0, .int .i64 0, .bool false, .slice none 0 0] 80
  simp only [World.size_alloc] at hm
  replace HM := Lib.hid hm
  clear hm
  go_enter Tryz.func36, Tryz.ntmps36
  go_wp2
  obtain ⟨W1, hW, hm⟩ := HM.out.name
  rw [← hW]
  replace HM := Lib.hid hm
  clear hm hW
  replace HM := Lib.hid (HM.out.drew)
  refine wp_region_held_drew (S := fun W => Ms w [.bx w.heap.size (.cells #[.int .i64 x.id, .string x.doc, .int .i64 x.cap, .int .i64 x.next, .bool x.out, .slice C5 x.list.length c5] 80 (0, 0))] W) (by kernel_rfl) (HM.out.pick (ks := [1]) (by decide) rfl) (fun hS => ?_)
  generalize W1.drew = W2 at HM hS  ⊢
  refine tk (v := ?_) 0 3 rfl (fun w' hS' => ?_) hS ?_
  rotate_left
  · go_simp; all_goals (with_reducible rfl)
  try simp only [Act.put, pa, pb, pc]
  refine tk (v := ?_) 1 4 rfl (fun w' hS' => ?_) hS ?_
  rotate_left
  · (try dsimp only at hS'); have q0 := hS'.cell (i := 0) (j := 0) rfl rfl; have q1 := hS'.cell (i := 0) (j := 1) rfl rfl; have q2 := hS'.cell (i := 0) (j := 2) rfl rfl; have q3 := hS'.cell (i := 0) (j := 3) rfl rfl; have q4 := hS'.cell (i := 0) (j := 4) rfl rfl; have q5 := hS'.cell (i := 0) (j := 5) rfl rfl; go_simp; all_goals (with_reducible rfl)
  try simp only [Act.put, pa, pb, pc]
  refine tk (v := ?_) 2 5 rfl (fun w' hS' => ?_) hS ?_
  rotate_left
  · go_simp; all_goals (with_reducible rfl)
  try simp only [Act.put, pa, pb, pc]
  refine tk (v := ?_) 3 6 rfl (fun w' hS' => ?_) hS ?_
  rotate_left
  · (try dsimp only at hS'); have q0 := hS'.cell (i := 0) (j := 0) rfl rfl; have q1 := hS'.cell (i := 0) (j := 1) rfl rfl; have q2 := hS'.cell (i := 0) (j := 2) rfl rfl; have q3 := hS'.cell (i := 0) (j := 3) rfl rfl; have q4 := hS'.cell (i := 0) (j := 4) rfl rfl; have q5 := hS'.cell (i := 0) (j := 5) rfl rfl; go_simp; all_goals (with_reducible rfl)
  try simp only [Act.put, pa, pb, pc]
  refine tk (v := ?_) 4 7 rfl (fun w' hS' => ?_) hS ?_
  rotate_left
  · go_simp; all_goals (with_reducible rfl)
  try simp only [Act.put, pa, pb, pc]
  refine tk (v := ?_) 5 8 rfl (fun w' hS' => ?_) hS ?_
  rotate_left
  · (try dsimp only at hS'); have q0 := hS'.cell (i := 0) (j := 0) rfl rfl; have q1 := hS'.cell (i := 0) (j := 1) rfl rfl; have q2 := hS'.cell (i := 0) (j := 2) rfl rfl; have q3 := hS'.cell (i := 0) (j := 3) rfl rfl; have q4 := hS'.cell (i := 0) (j := 4) rfl rfl; have q5 := hS'.cell (i := 0) (j := 5) rfl rfl; go_simp; all_goals (with_reducible rfl)
  try simp only [Act.put, pa, pb, pc]
  refine r1 6 (some 9) rfl (fun K hK => ?_)
  go_simp
  refine (specCopyR_d _ (ringSu x) _ (rdRi (ringSu x) (HM.out.arg Q5.out)) (show SmRi (ringSu x) from hs.list)).mono ?_
  rintro e' W3 ⟨v', rfl, o', b'⟩
  obtain ⟨Al, cl, rfl⟩ := aggRSu o'.read
  obtain ⟨bl, hm⟩ := HM.out.got o' b'
  clear o' b'
  replace HM := Lib.hid hm
  clear hm
  clear hS
  refine hK.out _ _ (HM.out.pick (ks := [2]) (by decide) rfl) (fun hS => ?_)
  clear hK K
  try simp only [Act.put, pa, pb, pc]
  refine tk (v := ?_) 7 10 rfl (fun w' hS' => ?_) hS ?_
  rotate_left
  · go_simp; all_goals (with_reducible rfl)
  try simp only [Act.put, pa, pb, pc]
  refine r1 8 none rfl (fun K hK => ?_)
  have kr0 := HM.out.cell (i := 1) (j := 0) rfl rfl
  have kr1 := HM.out.cell (i := 1) (j := 1) rfl rfl
  have kr2 := HM.out.cell (i := 1) (j := 2) rfl rfl
  have kr3 := HM.out.cell (i := 1) (j := 3) rfl rfl
  have kr4 := HM.out.cell (i := 1) (j := 4) rfl rfl
  have kr5 := HM.out.cell (i := 1) (j := 5) rfl rfl
  have fr0 := HM.out.free (i := 1) (j := 0) rfl
  have fr1 := HM.out.free (i := 1) (j := 1) rfl
  have fr2 := HM.out.free (i := 1) (j := 2) rfl
  have fr3 := HM.out.free (i := 1) (j := 3) rfl
  have fr4 := HM.out.free (i := 1) (j := 4) rfl
  have fr5 := HM.out.free (i := 1) (j := 5) rfl
  go_simp
  clear hS kr0 kr1 kr2 kr3 kr4 kr5 fr0 fr1 fr2 fr3 fr4 fr5
  have hm := HM.out.pk [1, 0, 2] (by decide) (by simp)
  simp only [low.pk, List.getElem?_cons_zero, List.getElem?_cons_succ] at hm
  replace HM := Lib.hid hm
  clear hm
  have hm := HM.out.putRow (ys := [.int .i64 x.id, .string x.doc, .int .i64 x.cap, .int .i64 x.next, .bool x.out, .slice Al x.list.length cl]) rfl
  simp only [low.putRow, Nat.zero_add, Nat.reduceAdd] at hm
  replace HM := Lib.hid hm
  clear hm
  obtain ⟨W4, hW, hm⟩ := HM.out.name
  rw [← hW]
  replace HM := Lib.hid hm
  clear hm hW
  refine hK.out _ _ (HM.out.pick (ks := [2]) (by decide) rfl) (fun hS => ?_)
  clear hK K
  try simp only [Act.put]
  refine wpAnyH_done (by kernel_rfl) ?_ _
  clear hS
  go_wp2
  have kr0 := HM.out.cell (i := 0) (j := 0) rfl rfl
  have kr1 := HM.out.cell (i := 0) (j := 1) rfl rfl
  have kr2 := HM.out.cell (i := 0) (j := 2) rfl rfl
  have kr3 := HM.out.cell (i := 0) (j := 3) rfl rfl
  have kr4 := HM.out.cell (i := 0) (j := 4) rfl rfl
  have kr5 := HM.out.cell (i := 0) (j := 5) rfl rfl
  have hm := HM.out.pk [1, 0, 2] (by decide) (by simp)
  simp only [low.pk, List.getElem?_cons_zero, List.getElem?_cons_succ] at hm
  replace HM := Lib.hid hm
  clear hm
  obtain ⟨b9, hm⟩ := Ms.pkSu HM.out
  exact bodyPost_ret (v := .agg #[.int .i64 x.id, .string x.doc, .int .i64 x.cap, .int .i64 x.next, .bool x.out, .slice Al x.list.length cl]) (by simp [results, Tryz.results36, go_sem, kr0, kr1, kr2, kr3, kr4, kr5]) rfl hm.post
set_option maxRecDepth 100000 in
set_option maxHeartbeats 3200000 in
theorem specHubCopy_d (v : Value) (x : Hu) (w : World) (h : RdC w w.heap.size (datHu x) v) (hs : SmHu x) : Calls Tryz.prog 14 #[v] w (OwnPost (datHu x) w) := by
  have HR := Lib.hid h
  obtain ⟨A1, ca, A2, cb, rfl, r1, r2⟩ := aggHu h
  have R1 := Lib.hid r1
  have R2 := Lib.hid r2
  have hl1 := hs.docs.len
  have hl2 := hs.subs.len
  clear h r1 r2
  have HM := Lib.hid (Ms.start w)
  replace HM := Lib.hid (HM.out.new #[.bool x.shut, .slice A1 x.docs.length ca, .slice A2 x.subs.length cb, .int .i64 x.last] 30)
  have hm := HM.out.new #[.bool false, .slice none 0 0, .slice none 0 0, .int .i64 0] 30
  simp only [World.size_alloc] at hm
  replace HM := Lib.hid hm
  clear hm
  have hm := HM.out.new #[.bool x.shut, .slice none 0 0, .slice none 0 0, .int .i64 x.last] 30
  simp only [World.size_alloc] at hm
  replace HM := Lib.hid hm
  clear hm
  go_enter Tryz.func14, Tryz.ntmps14
  go_wp2_with fail
  obtain ⟨W1, hW, hm⟩ := HM.out.name
  rw [← hW]
  replace HM := Lib.hid hm
  clear hm hW
  replace HM := Lib.hid ((HM.out.nil 80 6).nil 75 5)
  go_loopw [16] (fun i wr => ∃ (j : Nat) (G1 : Option Addr) (g1 : Nat) (bd : List Nat), j ≤ x.docs.length ∧ i = .int .i64 (j : Int) ∧ Ms w [.dt (.rows 75 5 ((x.docs.take j).map encDo)) (.slice G1 j g1) bd, .dt (.rows 80 6 []) (.slice none 0 0) [], .bx (w.heap.size + 1 + 1) (.cells #[.bool x.shut, .slice G1 j g1, .slice none 0 0, .int .i64 x.last] 30 (0, 0)), .bx (w.heap.size + 1) (.cells #[.bool false, .slice none 0 0, .slice none 0 0, .int .i64 0] 30 (0, 0)), .bx w.heap.size (.cells #[.bool x.shut, .slice A1 x.docs.length ca, .slice A2 x.subs.length cb, .int .i64 x.last] 30 (0, 0))] wr) (fun i _ => x.docs.length - (intOf i).toNat)
  case atStart => exact ⟨0, _, _, _, Nat.zero_le _, rfl, by first | exact HM.out | simpa using HM.out⟩
  case round =>
    obtain ⟨j, G1, g1, bd, hj, rfl, hm⟩ := hrel
    clear HM
    have HM := Lib.hid hm
    clear hm
    by_cases hlt : j < x.docs.length
    · obtain ⟨b, off, e, C2, c2, C3, c3, C4, c4, rfl, hbb, hp, y0, y1, y2, y3, y4, q2, q3, q4⟩ := atDos R1.out hlt
      have x0 := (HM.out.bl.cell (p := ⟨b, off + j * 5, none⟩) hbb).trans y0
      have x1 := (HM.out.bl.cell (p := ⟨b, off + j * 5 + 1, none⟩) hbb).trans y1
      have x2 := (HM.out.bl.cell (p := ⟨b, off + j * 5 + 2, none⟩) hbb).trans y2
      have x3 := (HM.out.bl.cell (p := ⟨b, off + j * 5 + 3, none⟩) hbb).trans y3
      have x4 := (HM.out.bl.cell (p := ⟨b, off + j * 5 + 4, none⟩) hbb).trans y4
      clear y0 y1 y2 y3 y4
      have hse := hs.docs.at_ (List.mem_of_getElem? hp)
      have HT := Lib.hid (show (x.docs.take (j + 1)).map encDo = (x.docs.take j).map encDo ++ [encDo e] by rw [List.take_add_one, hp]; simp)
      clear hp
      have Q2h := Lib.hid q2
      clear q2
      have Q3h := Lib.hid q3
      clear q3
      have Q4h := Lib.hid q4
      clear q4
      replace HM := Lib.hid (HM.out.new #[.string e.name, .int .i64 e.from_, .slice C2 e.text.length c2, .slice C3 e.list.length c3, .slice C4 e.seen.length c4] 75)
      go_wp2
      clear x0 x1 x2 x3 x4
      obtain ⟨W2, hW, hm⟩ := HM.out.name
      rw [← hW]
      replace HM := Lib.hid hm
      clear hm hW
      replace HM := Lib.hid (HM.out.drew)
      refine wp_region_held_drew (S := fun W => Ms w [.bx wr.heap.size (.cells #[.string e.name, .int .i64 e.from_, .slice C2 e.text.length c2, .slice C3 e.list.length c3, .slice C4 e.seen.length c4] 75 (0, 0))] W) (by kernel_rfl) (HM.out.pick (ks := [0]) (by decide) rfl) (fun hS => ?_)
      generalize W2.drew = W3 at HM hS  ⊢
      refine tk (v := ?_) 0 20 rfl (fun w' hS' => ?_) hS ?_
      rotate_left
      · go_simp; all_goals (with_reducible rfl)
      try simp only [Act.put, pa, pb, pc]
      refine tk (v := ?_) 2 22 rfl (fun w' hS' => ?_) hS ?_
      rotate_left
      · (try dsimp only at hS'); have q0 := hS'.cell (i := 0) (j := 0) rfl rfl; have q1 := hS'.cell (i := 0) (j := 1) rfl rfl; have q2 := hS'.cell (i := 0) (j := 2) rfl rfl; have q3 := hS'.cell (i := 0) (j := 3) rfl rfl; have q4 := hS'.cell (i := 0) (j := 4) rfl rfl; go_simp; all_goals (with_reducible rfl)
      try simp only [Act.put, pa, pb, pc]
      refine wpAnyH_ready (rs := [1, 3]) (by kernel_rfl) (by simp) ?_
      refine AllReadyH.cons (o := ⟨some 21, _, _, _, _, _⟩) rfl (fun K hK => ?_) ?_
      · obtain ⟨ko0, ko1, ko2, ko3⟩ := HM.out.c4 3 rfl
        go_simp
        clear hS ko0 ko1 ko2 ko3
        refine hK.out _ _ (HM.out.pick (ks := [0]) (by decide) rfl) (fun hS => ?_)
        clear hK K
        try simp only [Act.put, pa, pb, pc]
        refine r1 3 (some 23) rfl (fun K hK => ?_)
        go_simp
        refine (specCopyD_d _ e _ (rdDo e (HM.out.arg Q2h.out) (HM.out.arg Q3h.out) (HM.out.arg Q4h.out)) hse).mono ?_
        rintro e' W4 ⟨v', rfl, o', b'⟩
        obtain ⟨N2, n2, N3, n3, N4, n4, rfl, -, -, -⟩ := aggDo o'.read
        obtain ⟨bn, hm⟩ := HM.out.got o' b'
        clear o' b'
        replace HM := Lib.hid hm
        clear hm
        clear hS
        refine hK.out _ _ (HM.out.pick (ks := [1]) (by decide) rfl) (fun hS => ?_)
        clear hK K
        try simp only [Act.put, pa, pb, pc]
        refine r1 4 (some 24) rfl (fun K hK => ?_)
        go_simp
        replace HM := Lib.hid (HM.out.new #[.string e.name, .int .i64 e.from_, .slice N2 e.text.length n2, .slice N3 e.list.length n3, .slice N4 e.seen.length n4] 75)
        obtain ⟨W5, hW, hm⟩ := HM.out.name
        rw [← hW]
        replace HM := Lib.hid hm
        clear hm hW
        clear hS
        refine hK.out _ _ (HM.out.pick (ks := [2]) (by decide) rfl) (fun hS => ?_)
        clear hK K
        try simp only [Act.put, pa, pb, pc]
        refine r1 5 (some 25) rfl (fun K hK => ?_)
        have hm := HM.out.pk [3, 1, 0, 2, 4, 5, 6, 7] (by decide) (by simp)
        simp only [low.pk, List.getElem?_cons_zero, List.getElem?_cons_succ] at hm
        replace HM := Lib.hid hm
        clear hm
        refine step_ms1 (by rfl) (.tmp 21) (.tmp 24) 27 (by rfl) eltDo (show Ms w (.dt (.rows 75 5 ((x.docs.take j).map encDo)) _ _ :: .dt (.agg (encDo e)) (.agg ([.string e.name, .int .i64 e.from_, .slice N2 e.text.length n2, .slice N3 e.list.length n3, .slice N4 e.seen.length n4] : List Value).toArray) _ :: _) _ from HM.out) (by rfl) (by simp; omega) (W4.heap.size) _ (by rfl) (HM.out.at_ (i := 2) rfl) (by rfl) (by simp [Value.oneCell']) ?_
        intro A7 c7 W6 b7 hm
        have e1 : ((x.docs.take j).map encDo).length = j := by simp; omega
        rw [e1, ← HT.out] at hm
        try rw [e1]
        clear e1
        replace HM := Lib.hid hm
        clear hm
        clear hS
        refine hK.out _ _ (HM.out.pick (ks := [2]) (by decide) rfl) (fun hS => ?_)
        clear hK K
        try simp only [Act.put, pa, pb, pc]
        refine tk (v := ?_) 6 26 rfl (fun w' hS' => ?_) hS ?_
        rotate_left
        · go_simp; all_goals (with_reducible rfl)
        try simp only [Act.put, pa, pb, pc]
        refine r1 7 none rfl (fun K hK => ?_)
        obtain ⟨ko0, ko1, ko2, ko3⟩ := HM.out.c4 4 rfl
        obtain ⟨fo0, fo1, fo2, fo3⟩ := HM.out.f4 4 rfl
        go_simp
        clear hS ko0 ko1 ko2 ko3 fo0 fo1 fo2 fo3
        have hm := HM.out.pk [4, 0, 1, 2, 3, 5, 6] (by decide) (by simp)
        simp only [low.pk, List.getElem?_cons_zero, List.getElem?_cons_succ] at hm
        replace HM := Lib.hid hm
        clear hm
        have hm := HM.out.set (j := 1) (.slice A7 (j + 1) c7)
        simp only [pa, pb, pc] at hm
        replace HM := Lib.hid hm
        clear hm
        obtain ⟨W7, hW, hm⟩ := HM.out.name
        rw [← hW]
        replace HM := Lib.hid hm
        clear hm hW
        refine hK.out _ _ (HM.out.pick (ks := [3]) (by decide) rfl) (fun hS => ?_)
        clear hK K
        try simp only [Act.put]
        refine wpAnyH_done (by kernel_rfl) ?_ _
        clear hS
        go_wp2
        go_roundw
        case rel => exact ⟨j + 1, A7, c7, b7, by omega, by go_num, HM.out.pick (ks := [1, 4, 0, 5, 6]) (by decide) rfl⟩
        case measure => simp [intOf]; omega
      refine AllReadyH.cons (o := ⟨some 23, _, _, _, _, _⟩) rfl (fun K hK => ?_) AllReadyH.nil
      go_simp
      refine (specCopyD_d _ e _ (rdDo e (HM.out.arg Q2h.out) (HM.out.arg Q3h.out) (HM.out.arg Q4h.out)) hse).mono ?_
      rintro e' W8 ⟨v', rfl, o', b'⟩
      obtain ⟨N2, n2, N3, n3, N4, n4, rfl, -, -, -⟩ := aggDo o'.read
      obtain ⟨bn, hm⟩ := HM.out.got o' b'
      clear o' b'
      replace HM := Lib.hid hm
      clear hm
      clear hS
      refine hK.out _ _ (HM.out.pick (ks := [1]) (by decide) rfl) (fun hS => ?_)
      clear hK K
      try simp only [Act.put, pa, pb, pc]
      refine wpAnyH_ready (rs := [1, 4]) (by kernel_rfl) (by simp) ?_
      refine AllReadyH.cons (o := ⟨some 21, _, _, _, _, _⟩) rfl (fun K hK => ?_) ?_
      · obtain ⟨ko0, ko1, ko2, ko3⟩ := HM.out.c4 4 rfl
        go_simp
        clear hS ko0 ko1 ko2 ko3
        refine hK.out _ _ (HM.out.pick (ks := [1]) (by decide) rfl) (fun hS => ?_)
        clear hK K
        try simp only [Act.put, pa, pb, pc]
        refine r1 4 (some 24) rfl (fun K hK => ?_)
        go_simp
        replace HM := Lib.hid (HM.out.new #[.string e.name, .int .i64 e.from_, .slice N2 e.text.length n2, .slice N3 e.list.length n3, .slice N4 e.seen.length n4] 75)
        obtain ⟨W9, hW, hm⟩ := HM.out.name
        rw [← hW]
        replace HM := Lib.hid hm
        clear hm hW
        clear hS
        refine hK.out _ _ (HM.out.pick (ks := [2]) (by decide) rfl) (fun hS => ?_)
        clear hK K
        try simp only [Act.put, pa, pb, pc]
        refine r1 5 (some 25) rfl (fun K hK => ?_)
        have hm := HM.out.pk [3, 1, 0, 2, 4, 5, 6, 7] (by decide) (by simp)
        simp only [low.pk, List.getElem?_cons_zero, List.getElem?_cons_succ] at hm
        replace HM := Lib.hid hm
        clear hm
        refine step_ms1 (by rfl) (.tmp 21) (.tmp 24) 27 (by rfl) eltDo (show Ms w (.dt (.rows 75 5 ((x.docs.take j).map encDo)) _ _ :: .dt (.agg (encDo e)) (.agg ([.string e.name, .int .i64 e.from_, .slice N2 e.text.length n2, .slice N3 e.list.length n3, .slice N4 e.seen.length n4] : List Value).toArray) _ :: _) _ from HM.out) (by rfl) (by simp; omega) (W8.heap.size) _ (by rfl) (HM.out.at_ (i := 2) rfl) (by rfl) (by simp [Value.oneCell']) ?_
        intro A7 c7 W10 b7 hm
        have e1 : ((x.docs.take j).map encDo).length = j := by simp; omega
        rw [e1, ← HT.out] at hm
        try rw [e1]
        clear e1
        replace HM := Lib.hid hm
        clear hm
        clear hS
        refine hK.out _ _ (HM.out.pick (ks := [2]) (by decide) rfl) (fun hS => ?_)
        clear hK K
        try simp only [Act.put, pa, pb, pc]
        refine tk (v := ?_) 6 26 rfl (fun w' hS' => ?_) hS ?_
        rotate_left
        · go_simp; all_goals (with_reducible rfl)
        try simp only [Act.put, pa, pb, pc]
        refine r1 7 none rfl (fun K hK => ?_)
        obtain ⟨ko0, ko1, ko2, ko3⟩ := HM.out.c4 4 rfl
        obtain ⟨fo0, fo1, fo2, fo3⟩ := HM.out.f4 4 rfl
        go_simp
        clear hS ko0 ko1 ko2 ko3 fo0 fo1 fo2 fo3
        have hm := HM.out.pk [4, 0, 1, 2, 3, 5, 6] (by decide) (by simp)
        simp only [low.pk, List.getElem?_cons_zero, List.getElem?_cons_succ] at hm
        replace HM := Lib.hid hm
        clear hm
        have hm := HM.out.set (j := 1) (.slice A7 (j + 1) c7)
        simp only [pa, pb, pc] at hm
        replace HM := Lib.hid hm
        clear hm
        obtain ⟨W11, hW, hm⟩ := HM.out.name
        rw [← hW]
        replace HM := Lib.hid hm
        clear hm hW
        refine hK.out _ _ (HM.out.pick (ks := [3]) (by decide) rfl) (fun hS => ?_)
        clear hK K
        try simp only [Act.put]
        refine wpAnyH_done (by kernel_rfl) ?_ _
        clear hS
        go_wp2
        go_roundw
        case rel => exact ⟨j + 1, A7, c7, b7, by omega, by go_num, HM.out.pick (ks := [1, 4, 0, 5, 6]) (by decide) rfl⟩
        case measure => simp [intOf]; omega
      refine AllReadyH.cons (o := ⟨some 24, _, _, _, _, _⟩) rfl (fun K hK => ?_) AllReadyH.nil
      go_simp
      replace HM := Lib.hid (HM.out.new #[.string e.name, .int .i64 e.from_, .slice N2 e.text.length n2, .slice N3 e.list.length n3, .slice N4 e.seen.length n4] 75)
      obtain ⟨W12, hW, hm⟩ := HM.out.name
      rw [← hW]
      replace HM := Lib.hid hm
      clear hm hW
      clear hS
      refine hK.out _ _ (HM.out.pick (ks := [2]) (by decide) rfl) (fun hS => ?_)
      clear hK K
      try simp only [Act.put, pa, pb, pc]
      refine r1 1 (some 21) rfl (fun K hK => ?_)
      obtain ⟨ko0, ko1, ko2, ko3⟩ := HM.out.c4 5 rfl
      go_simp
      clear hS ko0 ko1 ko2 ko3
      refine hK.out _ _ (HM.out.pick (ks := [2]) (by decide) rfl) (fun hS => ?_)
      clear hK K
      try simp only [Act.put, pa, pb, pc]
      refine r1 5 (some 25) rfl (fun K hK => ?_)
      have hm := HM.out.pk [3, 1, 0, 2, 4, 5, 6, 7] (by decide) (by simp)
      simp only [low.pk, List.getElem?_cons_zero, List.getElem?_cons_succ] at hm
      replace HM := Lib.hid hm
      clear hm
      refine step_ms1 (by rfl) (.tmp 21) (.tmp 24) 27 (by rfl) eltDo (show Ms w (.dt (.rows 75 5 ((x.docs.take j).map encDo)) _ _ :: .dt (.agg (encDo e)) (.agg ([.string e.name, .int .i64 e.from_, .slice N2 e.text.length n2, .slice N3 e.list.length n3, .slice N4 e.seen.length n4] : List Value).toArray) _ :: _) _ from HM.out) (by rfl) (by simp; omega) (W8.heap.size) _ (by rfl) (HM.out.at_ (i := 2) rfl) (by rfl) (by simp [Value.oneCell']) ?_
      intro A7 c7 W13 b7 hm
      have e1 : ((x.docs.take j).map encDo).length = j := by simp; omega
      rw [e1, ← HT.out] at hm
      try rw [e1]
      clear e1
      replace HM := Lib.hid hm
      clear hm
      clear hS
      refine hK.out _ _ (HM.out.pick (ks := [2]) (by decide) rfl) (fun hS => ?_)
      clear hK K
      try simp only [Act.put, pa, pb, pc]
      refine tk (v := ?_) 6 26 rfl (fun w' hS' => ?_) hS ?_
      rotate_left
      · go_simp; all_goals (with_reducible rfl)
      try simp only [Act.put, pa, pb, pc]
      refine r1 7 none rfl (fun K hK => ?_)
      obtain ⟨ko0, ko1, ko2, ko3⟩ := HM.out.c4 4 rfl
      obtain ⟨fo0, fo1, fo2, fo3⟩ := HM.out.f4 4 rfl
      go_simp
      clear hS ko0 ko1 ko2 ko3 fo0 fo1 fo2 fo3
      have hm := HM.out.pk [4, 0, 1, 2, 3, 5, 6] (by decide) (by simp)
      simp only [low.pk, List.getElem?_cons_zero, List.getElem?_cons_succ] at hm
      replace HM := Lib.hid hm
      clear hm
      have hm := HM.out.set (j := 1) (.slice A7 (j + 1) c7)
      simp only [pa, pb, pc] at hm
      replace HM := Lib.hid hm
      clear hm
      obtain ⟨W14, hW, hm⟩ := HM.out.name
      rw [← hW]
      replace HM := Lib.hid hm
      clear hm hW
      refine hK.out _ _ (HM.out.pick (ks := [3]) (by decide) rfl) (fun hS => ?_)
      clear hK K
      try simp only [Act.put]
      refine wpAnyH_done (by kernel_rfl) ?_ _
      clear hS
      go_wp2
      go_roundw
      case rel => exact ⟨j + 1, A7, c7, b7, by omega, by go_num, HM.out.pick (ks := [1, 4, 0, 5, 6]) (by decide) rfl⟩
      case measure => simp [intOf]; omega
    · obtain rfl : j = x.docs.length := by omega
      have hm := HM.out
      rw [List.take_length] at hm
      replace HM := Lib.hid hm
      clear hm hlt hj
      have kx0 := HM.out.cell (i := 4) (j := 0) rfl rfl
      have kx1 := HM.out.cell (i := 4) (j := 1) rfl rfl
      have kx2 := HM.out.cell (i := 4) (j := 2) rfl rfl
      have kx3 := HM.out.cell (i := 4) (j := 3) rfl rfl
      go_wp2_with fail
      clear kx0 kx1 kx2 kx3
      go_loopw [31] (fun i wr => ∃ (j : Nat) (G2 : Option Addr) (g2 : Nat) (bs : List Nat), j ≤ x.subs.length ∧ i = .int .i64 (j : Int) ∧ Ms w [.dt (encDos x.docs) (.slice G1 x.docs.length g1) bd, .dt (.rows 80 6 ((x.subs.take j).map encSu)) (.slice G2 j g2) bs, .bx (w.heap.size + 1 + 1) (.cells #[.bool x.shut, .slice G1 x.docs.length g1, .slice G2 j g2, .int .i64 x.last] 30 (0, 0)), .bx (w.heap.size + 1) (.cells #[.bool false, .slice none 0 0, .slice none 0 0, .int .i64 0] 30 (0, 0)), .bx w.heap.size (.cells #[.bool x.shut, .slice A1 x.docs.length ca, .slice A2 x.subs.length cb, .int .i64 x.last] 30 (0, 0))] wr) (fun i _ => x.subs.length - (intOf i).toNat)
      case atStart => exact ⟨0, _, _, _, Nat.zero_le _, rfl, by first | exact HM.out | simpa using HM.out⟩
      case round =>
        obtain ⟨j, G2, g2, bs, hj, rfl, hm⟩ := hrel
        clear HM
        have HM := Lib.hid hm
        clear hm
        by_cases hlt : j < x.subs.length
        · obtain ⟨b, off, e, C5, c5, rfl, hbb, hp, y0, y1, y2, y3, y4, y5, q5⟩ := atSus R2.out hlt
          have x0 := (HM.out.bl.cell (p := ⟨b, off + j * 6, none⟩) hbb).trans y0
          have x1 := (HM.out.bl.cell (p := ⟨b, off + j * 6 + 1, none⟩) hbb).trans y1
          have x2 := (HM.out.bl.cell (p := ⟨b, off + j * 6 + 2, none⟩) hbb).trans y2
          have x3 := (HM.out.bl.cell (p := ⟨b, off + j * 6 + 3, none⟩) hbb).trans y3
          have x4 := (HM.out.bl.cell (p := ⟨b, off + j * 6 + 4, none⟩) hbb).trans y4
          have x5 := (HM.out.bl.cell (p := ⟨b, off + j * 6 + 5, none⟩) hbb).trans y5
          clear y0 y1 y2 y3 y4 y5
          have hse := hs.subs.at_ (List.mem_of_getElem? hp)
          have HT := Lib.hid (show (x.subs.take (j + 1)).map encSu = (x.subs.take j).map encSu ++ [encSu e] by rw [List.take_add_one, hp]; simp)
          clear hp
          have Q5h := Lib.hid q5
          clear q5
          replace HM := Lib.hid (HM.out.new #[.int .i64 e.id, .string e.doc, .int .i64 e.cap, .int .i64 e.next, .bool e.out, .slice C5 e.list.length c5] 80)
          go_wp2
          clear x0 x1 x2 x3 x4 x5
          obtain ⟨W15, hW, hm⟩ := HM.out.name
          rw [← hW]
          replace HM := Lib.hid hm
          clear hm hW
          replace HM := Lib.hid (HM.out.drew)
          refine wp_region_held_drew (S := fun W => Ms w [.bx wr.heap.size (.cells #[.int .i64 e.id, .string e.doc, .int .i64 e.cap, .int .i64 e.next, .bool e.out, .slice C5 e.list.length c5] 80 (0, 0))] W) (by kernel_rfl) (HM.out.pick (ks := [0]) (by decide) rfl) (fun hS => ?_)
          generalize W15.drew = W16 at HM hS  ⊢
          refine tk (v := ?_) 0 35 rfl (fun w' hS' => ?_) hS ?_
          rotate_left
          · go_simp; all_goals (with_reducible rfl)
          try simp only [Act.put, pa, pb, pc]
          refine tk (v := ?_) 2 37 rfl (fun w' hS' => ?_) hS ?_
          rotate_left
          · (try dsimp only at hS'); have q0 := hS'.cell (i := 0) (j := 0) rfl rfl; have q1 := hS'.cell (i := 0) (j := 1) rfl rfl; have q2 := hS'.cell (i := 0) (j := 2) rfl rfl; have q3 := hS'.cell (i := 0) (j := 3) rfl rfl; have q4 := hS'.cell (i := 0) (j := 4) rfl rfl; have q5 := hS'.cell (i := 0) (j := 5) rfl rfl; go_simp; all_goals (with_reducible rfl)
          try simp only [Act.put, pa, pb, pc]
          refine wpAnyH_ready (rs := [1, 3]) (by kernel_rfl) (by simp) ?_
          refine AllReadyH.cons (o := ⟨some 36, _, _, _, _, _⟩) rfl (fun K hK => ?_) ?_
          · obtain ⟨ko0, ko1, ko2, ko3⟩ := HM.out.c4 3 rfl
            go_simp
            clear hS ko0 ko1 ko2 ko3
            refine hK.out _ _ (HM.out.pick (ks := [0]) (by decide) rfl) (fun hS => ?_)
            clear hK K
            try simp only [Act.put, pa, pb, pc]
            refine r1 3 (some 38) rfl (fun K hK => ?_)
            go_simp
            refine (specSubC_d _ e _ (rdSu e (HM.out.arg Q5h.out)) hse).mono ?_
            rintro e' W17 ⟨v', rfl, o', b'⟩
            obtain ⟨N5, n5, rfl, -⟩ := aggSu o'.read
            obtain ⟨bn, hm⟩ := HM.out.got o' b'
            clear o' b'
            replace HM := Lib.hid hm
            clear hm
            clear hS
            refine hK.out _ _ (HM.out.pick (ks := [1]) (by decide) rfl) (fun hS => ?_)
            clear hK K
            try simp only [Act.put, pa, pb, pc]
            refine r1 4 (some 39) rfl (fun K hK => ?_)
            go_simp
            replace HM := Lib.hid (HM.out.new #[.int .i64 e.id, .string e.doc, .int .i64 e.cap, .int .i64 e.next, .bool e.out, .slice N5 e.list.length n5] 80)
            obtain ⟨W18, hW, hm⟩ := HM.out.name
            rw [← hW]
            replace HM := Lib.hid hm
            clear hm hW
            clear hS
            refine hK.out _ _ (HM.out.pick (ks := [2]) (by decide) rfl) (fun hS => ?_)
            clear hK K
            try simp only [Act.put, pa, pb, pc]
            refine r1 5 (some 40) rfl (fun K hK => ?_)
            have hm := HM.out.pk [4, 1, 0, 2, 3, 5, 6, 7] (by decide) (by simp)
            simp only [low.pk, List.getElem?_cons_zero, List.getElem?_cons_succ] at hm
            replace HM := Lib.hid hm
            clear hm
            refine step_ms1 (by rfl) (.tmp 36) (.tmp 39) 28 (by rfl) eltSu (show Ms w (.dt (.rows 80 6 ((x.subs.take j).map encSu)) _ _ :: .dt (.agg (encSu e)) (.agg ([.int .i64 e.id, .string e.doc, .int .i64 e.cap, .int .i64 e.next, .bool e.out, .slice N5 e.list.length n5] : List Value).toArray) _ :: _) _ from HM.out) (by rfl) (by simp; omega) (W17.heap.size) _ (by rfl) (HM.out.at_ (i := 2) rfl) (by rfl) (by simp [Value.oneCell']) ?_
            intro A7 c7 W19 b7 hm
            have e1 : ((x.subs.take j).map encSu).length = j := by simp; omega
            rw [e1, ← HT.out] at hm
            try rw [e1]
            clear e1
            replace HM := Lib.hid hm
            clear hm
            clear hS
            refine hK.out _ _ (HM.out.pick (ks := [2]) (by decide) rfl) (fun hS => ?_)
            clear hK K
            try simp only [Act.put, pa, pb, pc]
            refine tk (v := ?_) 6 41 rfl (fun w' hS' => ?_) hS ?_
            rotate_left
            · go_simp; all_goals (with_reducible rfl)
            try simp only [Act.put, pa, pb, pc]
            refine r1 7 none rfl (fun K hK => ?_)
            obtain ⟨ko0, ko1, ko2, ko3⟩ := HM.out.c4 4 rfl
            obtain ⟨fo0, fo1, fo2, fo3⟩ := HM.out.f4 4 rfl
            go_simp
            clear hS ko0 ko1 ko2 ko3 fo0 fo1 fo2 fo3
            have hm := HM.out.pk [4, 0, 1, 2, 3, 5, 6] (by decide) (by simp)
            simp only [low.pk, List.getElem?_cons_zero, List.getElem?_cons_succ] at hm
            replace HM := Lib.hid hm
            clear hm
            have hm := HM.out.set (j := 2) (.slice A7 (j + 1) c7)
            simp only [pa, pb, pc] at hm
            replace HM := Lib.hid hm
            clear hm
            obtain ⟨W20, hW, hm⟩ := HM.out.name
            rw [← hW]
            replace HM := Lib.hid hm
            clear hm hW
            refine hK.out _ _ (HM.out.pick (ks := [3]) (by decide) rfl) (fun hS => ?_)
            clear hK K
            try simp only [Act.put]
            refine wpAnyH_done (by kernel_rfl) ?_ _
            clear hS
            go_wp2
            go_roundw
            case rel => exact ⟨j + 1, A7, c7, b7, by omega, by go_num, HM.out.pick (ks := [4, 1, 0, 5, 6]) (by decide) rfl⟩
            case measure => simp [intOf]; omega
          refine AllReadyH.cons (o := ⟨some 38, _, _, _, _, _⟩) rfl (fun K hK => ?_) AllReadyH.nil
          go_simp
          refine (specSubC_d _ e _ (rdSu e (HM.out.arg Q5h.out)) hse).mono ?_
          rintro e' W21 ⟨v', rfl, o', b'⟩
          obtain ⟨N5, n5, rfl, -⟩ := aggSu o'.read
          obtain ⟨bn, hm⟩ := HM.out.got o' b'
          clear o' b'
          replace HM := Lib.hid hm
          clear hm
          clear hS
          refine hK.out _ _ (HM.out.pick (ks := [1]) (by decide) rfl) (fun hS => ?_)
          clear hK K
          try simp only [Act.put, pa, pb, pc]
          refine wpAnyH_ready (rs := [1, 4]) (by kernel_rfl) (by simp) ?_
          refine AllReadyH.cons (o := ⟨some 36, _, _, _, _, _⟩) rfl (fun K hK => ?_) ?_
          · obtain ⟨ko0, ko1, ko2, ko3⟩ := HM.out.c4 4 rfl
            go_simp
            clear hS ko0 ko1 ko2 ko3
            refine hK.out _ _ (HM.out.pick (ks := [1]) (by decide) rfl) (fun hS => ?_)
            clear hK K
            try simp only [Act.put, pa, pb, pc]
            refine r1 4 (some 39) rfl (fun K hK => ?_)
            go_simp
            replace HM := Lib.hid (HM.out.new #[.int .i64 e.id, .string e.doc, .int .i64 e.cap, .int .i64 e.next, .bool e.out, .slice N5 e.list.length n5] 80)
            obtain ⟨W22, hW, hm⟩ := HM.out.name
            rw [← hW]
            replace HM := Lib.hid hm
            clear hm hW
            clear hS
            refine hK.out _ _ (HM.out.pick (ks := [2]) (by decide) rfl) (fun hS => ?_)
            clear hK K
            try simp only [Act.put, pa, pb, pc]
            refine r1 5 (some 40) rfl (fun K hK => ?_)
            have hm := HM.out.pk [4, 1, 0, 2, 3, 5, 6, 7] (by decide) (by simp)
            simp only [low.pk, List.getElem?_cons_zero, List.getElem?_cons_succ] at hm
            replace HM := Lib.hid hm
            clear hm
            refine step_ms1 (by rfl) (.tmp 36) (.tmp 39) 28 (by rfl) eltSu (show Ms w (.dt (.rows 80 6 ((x.subs.take j).map encSu)) _ _ :: .dt (.agg (encSu e)) (.agg ([.int .i64 e.id, .string e.doc, .int .i64 e.cap, .int .i64 e.next, .bool e.out, .slice N5 e.list.length n5] : List Value).toArray) _ :: _) _ from HM.out) (by rfl) (by simp; omega) (W21.heap.size) _ (by rfl) (HM.out.at_ (i := 2) rfl) (by rfl) (by simp [Value.oneCell']) ?_
            intro A7 c7 W23 b7 hm
            have e1 : ((x.subs.take j).map encSu).length = j := by simp; omega
            rw [e1, ← HT.out] at hm
            try rw [e1]
            clear e1
            replace HM := Lib.hid hm
            clear hm
            clear hS
            refine hK.out _ _ (HM.out.pick (ks := [2]) (by decide) rfl) (fun hS => ?_)
            clear hK K
            try simp only [Act.put, pa, pb, pc]
            refine tk (v := ?_) 6 41 rfl (fun w' hS' => ?_) hS ?_
            rotate_left
            · go_simp; all_goals (with_reducible rfl)
            try simp only [Act.put, pa, pb, pc]
            refine r1 7 none rfl (fun K hK => ?_)
            obtain ⟨ko0, ko1, ko2, ko3⟩ := HM.out.c4 4 rfl
            obtain ⟨fo0, fo1, fo2, fo3⟩ := HM.out.f4 4 rfl
            go_simp
            clear hS ko0 ko1 ko2 ko3 fo0 fo1 fo2 fo3
            have hm := HM.out.pk [4, 0, 1, 2, 3, 5, 6] (by decide) (by simp)
            simp only [low.pk, List.getElem?_cons_zero, List.getElem?_cons_succ] at hm
            replace HM := Lib.hid hm
            clear hm
            have hm := HM.out.set (j := 2) (.slice A7 (j + 1) c7)
            simp only [pa, pb, pc] at hm
            replace HM := Lib.hid hm
            clear hm
            obtain ⟨W24, hW, hm⟩ := HM.out.name
            rw [← hW]
            replace HM := Lib.hid hm
            clear hm hW
            refine hK.out _ _ (HM.out.pick (ks := [3]) (by decide) rfl) (fun hS => ?_)
            clear hK K
            try simp only [Act.put]
            refine wpAnyH_done (by kernel_rfl) ?_ _
            clear hS
            go_wp2
            go_roundw
            case rel => exact ⟨j + 1, A7, c7, b7, by omega, by go_num, HM.out.pick (ks := [4, 1, 0, 5, 6]) (by decide) rfl⟩
            case measure => simp [intOf]; omega
          refine AllReadyH.cons (o := ⟨some 39, _, _, _, _, _⟩) rfl (fun K hK => ?_) AllReadyH.nil
          go_simp
          replace HM := Lib.hid (HM.out.new #[.int .i64 e.id, .string e.doc, .int .i64 e.cap, .int .i64 e.next, .bool e.out, .slice N5 e.list.length n5] 80)
          obtain ⟨W25, hW, hm⟩ := HM.out.name
          rw [← hW]
          replace HM := Lib.hid hm
          clear hm hW
          clear hS
          refine hK.out _ _ (HM.out.pick (ks := [2]) (by decide) rfl) (fun hS => ?_)
          clear hK K
          try simp only [Act.put, pa, pb, pc]
          refine r1 1 (some 36) rfl (fun K hK => ?_)
          obtain ⟨ko0, ko1, ko2, ko3⟩ := HM.out.c4 5 rfl
          go_simp
          clear hS ko0 ko1 ko2 ko3
          refine hK.out _ _ (HM.out.pick (ks := [2]) (by decide) rfl) (fun hS => ?_)
          clear hK K
          try simp only [Act.put, pa, pb, pc]
          refine r1 5 (some 40) rfl (fun K hK => ?_)
          have hm := HM.out.pk [4, 1, 0, 2, 3, 5, 6, 7] (by decide) (by simp)
          simp only [low.pk, List.getElem?_cons_zero, List.getElem?_cons_succ] at hm
          replace HM := Lib.hid hm
          clear hm
          refine step_ms1 (by rfl) (.tmp 36) (.tmp 39) 28 (by rfl) eltSu (show Ms w (.dt (.rows 80 6 ((x.subs.take j).map encSu)) _ _ :: .dt (.agg (encSu e)) (.agg ([.int .i64 e.id, .string e.doc, .int .i64 e.cap, .int .i64 e.next, .bool e.out, .slice N5 e.list.length n5] : List Value).toArray) _ :: _) _ from HM.out) (by rfl) (by simp; omega) (W21.heap.size) _ (by rfl) (HM.out.at_ (i := 2) rfl) (by rfl) (by simp [Value.oneCell']) ?_
          intro A7 c7 W26 b7 hm
          have e1 : ((x.subs.take j).map encSu).length = j := by simp; omega
          rw [e1, ← HT.out] at hm
          try rw [e1]
          clear e1
          replace HM := Lib.hid hm
          clear hm
          clear hS
          refine hK.out _ _ (HM.out.pick (ks := [2]) (by decide) rfl) (fun hS => ?_)
          clear hK K
          try simp only [Act.put, pa, pb, pc]
          refine tk (v := ?_) 6 41 rfl (fun w' hS' => ?_) hS ?_
          rotate_left
          · go_simp; all_goals (with_reducible rfl)
          try simp only [Act.put, pa, pb, pc]
          refine r1 7 none rfl (fun K hK => ?_)
          obtain ⟨ko0, ko1, ko2, ko3⟩ := HM.out.c4 4 rfl
          obtain ⟨fo0, fo1, fo2, fo3⟩ := HM.out.f4 4 rfl
          go_simp
          clear hS ko0 ko1 ko2 ko3 fo0 fo1 fo2 fo3
          have hm := HM.out.pk [4, 0, 1, 2, 3, 5, 6] (by decide) (by simp)
          simp only [low.pk, List.getElem?_cons_zero, List.getElem?_cons_succ] at hm
          replace HM := Lib.hid hm
          clear hm
          have hm := HM.out.set (j := 2) (.slice A7 (j + 1) c7)
          simp only [pa, pb, pc] at hm
          replace HM := Lib.hid hm
          clear hm
          obtain ⟨W27, hW, hm⟩ := HM.out.name
          rw [← hW]
          replace HM := Lib.hid hm
          clear hm hW
          refine hK.out _ _ (HM.out.pick (ks := [3]) (by decide) rfl) (fun hS => ?_)
          clear hK K
          try simp only [Act.put]
          refine wpAnyH_done (by kernel_rfl) ?_ _
          clear hS
          go_wp2
          go_roundw
          case rel => exact ⟨j + 1, A7, c7, b7, by omega, by go_num, HM.out.pick (ks := [4, 1, 0, 5, 6]) (by decide) rfl⟩
          case measure => simp [intOf]; omega
        · obtain rfl : j = x.subs.length := by omega
          have hm := HM.out
          rw [List.take_length] at hm
          replace HM := Lib.hid hm
          clear hm hlt hj
          have ko0 := HM.out.cell (i := 2) (j := 0) rfl rfl
          have ko1 := HM.out.cell (i := 2) (j := 1) rfl rfl
          have ko2 := HM.out.cell (i := 2) (j := 2) rfl rfl
          have ko3 := HM.out.cell (i := 2) (j := 3) rfl rfl
          have kr0 := HM.out.cell (i := 3) (j := 0) rfl rfl
          have kr1 := HM.out.cell (i := 3) (j := 1) rfl rfl
          have kr2 := HM.out.cell (i := 3) (j := 2) rfl rfl
          have kr3 := HM.out.cell (i := 3) (j := 3) rfl rfl
          have fr0 := HM.out.free (i := 3) (j := 0) rfl
          have fr1 := HM.out.free (i := 3) (j := 1) rfl
          have fr2 := HM.out.free (i := 3) (j := 2) rfl
          have fr3 := HM.out.free (i := 3) (j := 3) rfl
          go_wp2
          clear ko0 ko1 ko2 ko3 kr0 kr1 kr2 kr3 fr0 fr1 fr2 fr3
          have hm := HM.out.pk [3, 0, 1, 2, 4] (by decide) (by simp)
          simp only [low.pk, List.getElem?_cons_zero, List.getElem?_cons_succ] at hm
          replace HM := Lib.hid hm
          clear hm
          have hm := HM.out.putRow (ys := [.bool x.shut, .slice G1 x.docs.length g1, .slice G2 x.subs.length g2, .int .i64 x.last]) rfl
          simp only [low.putRow, Nat.zero_add, Nat.reduceAdd] at hm
          replace HM := Lib.hid hm
          clear hm
          obtain ⟨W28, hW, hm⟩ := HM.out.name
          rw [← hW]
          replace HM := Lib.hid hm
          clear hm hW
          have kr0 := HM.out.cell (i := 0) (j := 0) rfl rfl
          have kr1 := HM.out.cell (i := 0) (j := 1) rfl rfl
          have kr2 := HM.out.cell (i := 0) (j := 2) rfl rfl
          have kr3 := HM.out.cell (i := 0) (j := 3) rfl rfl
          have hm := HM.out.pk [2, 1, 0, 3, 4] (by decide) (by simp)
          simp only [low.pk, List.getElem?_cons_zero, List.getElem?_cons_succ] at hm
          replace HM := Lib.hid hm
          clear hm
          obtain ⟨b9, hm⟩ := Ms.pkHu (sh := x.shut) (la := x.last) HM.out
          exact bodyPost_ret (v := .agg #[.bool x.shut, .slice G1 x.docs.length g1, .slice G2 x.subs.length g2, .int .i64 x.last]) (by simp [results, Tryz.results14, go_sem, kr0, kr1, kr2, kr3]) rfl (show OwnPost (datHu x) w _ _ from hm.post)
/-- shutting: the answer's code, and the hub -/
def shutC (x : Hu) : Int := if hubB x = true then (if x.shut = true then 12 else 0) else 1
def shutT (x : Hu) : Hu := if shutC x = 0 then ⟨true, x.docs, x.subs, x.last⟩ else noHu
theorem shut_small {x : Hu} (hs : SmHu x) : SmHu (shutT x) := by
  unfold shutT
  split
  · exact hs
  · show (0 : Nat) ≤ 1048576
    omega
theorem hubShut_small {x : Hu} (hs : SmHu x) : SmHu (shutT x) := shut_small hs
theorem Ms.noHu {w0 W : World} {L : List It} (h : Ms w0 L W) : ∃ b, Ms w0 (.dt (datHu noHu) (.agg #[.bool false, .slice none 0 0, .slice none 0 0, .int .i64 0]) b :: L) W := Ms.pkHu (sh := false) (la := 0) ((h.nil 75 5).nil 80 6)
theorem Ms.unHu {w0 W : World} {L : List It} {x : Hu} {u v : Value} {b : List Nat} (h : Ms w0 (.dt (datHu x) (.agg #[.bool x.shut, u, v, .int .i64 x.last]) b :: L) W) : ∃ c d, Ms w0 (.dt (encSus x.subs) v d :: .dt (encDos x.docs) u c :: L) W := by
  obtain ⟨d1, d2, h1⟩ := (show Ms w0 (.dt (.agg (encHu x)) (.agg ([.bool x.shut, u, v, .int .i64 x.last] : List Value).toArray) b :: L) W from h).un
  obtain ⟨d3, d4, h2⟩ := h1.tail.un
  obtain ⟨d5, d6, h3⟩ := (h2.perm (.swap _ _ _)).un
  exact ⟨d3, d5, (h3.perm (.swap _ _ _)).tail⟩
theorem Ms.reshut {w0 W : World} {L : List It} {x : Hu} {s : Bool} {u v : Value} {b : List Nat} (h : Ms w0 (.dt (datHu x) (.agg #[.bool x.shut, u, v, .int .i64 x.last]) b :: L) W) : ∃ b', Ms w0 (.dt (datHu ⟨s, x.docs, x.subs, x.last⟩) (.agg #[.bool s, u, v, .int .i64 x.last]) b' :: L) W := by
  obtain ⟨c, d, h1⟩ := h.unHu
  exact Ms.pkHu h1
set_option maxRecDepth 100000 in
set_option maxHeartbeats 3200000 in
theorem specHubShut_d (v : Value) (x : Hu) (w : World) (h : RdC w w.heap.size (datHu x) v) (hs : SmHu x) : Calls Tryz.prog 5 #[v] w (ResN (datHu (shutT x)) (shutC x) w) := by
  have HR := Lib.hid h
  obtain ⟨A1, ca, A2, cb, rfl, r1, r2⟩ := aggHu h
  have R1 := Lib.hid r1
  have R2 := Lib.hid r2
  have hl1 := hs.docs.len
  have hl2 := hs.subs.len
  clear h r1 r2
  have HM := Lib.hid (Ms.start w)
  replace HM := Lib.hid (HM.out.new #[.bool x.shut, .slice A1 x.docs.length ca, .slice A2 x.subs.length cb, .int .i64 x.last] 30)
  have hm := HM.out.new #[.bool false, .slice none 0 0, .slice none 0 0, .int .i64 0] 30
  simp only [World.size_alloc] at hm
  replace HM := Lib.hid hm
  clear hm
  go_enter Tryz.func5, Tryz.ntmps5
  go_wp2_with fail
  obtain ⟨W1, hW, hm⟩ := HM.out.name
  rw [← hW]
  replace HM := Lib.hid hm
  clear hm hW
  refine (specHubOk_d _ x _ (HM.out.arg HR.out) hs).mono ?_
  rintro e' W2 ⟨rfl, b'⟩
  replace HM := Lib.hid (HM.out.past b')
  clear b'
  rcases (show hubB x = false ∨ hubB x = true by cases hubB x <;> simp) with h1 | h1
  · rw [h1]
    have H1 := Lib.hid h1
    clear h1
    have kr0 := HM.out.cell (i := 0) (j := 0) rfl rfl
    have kr1 := HM.out.cell (i := 0) (j := 1) rfl rfl
    have kr2 := HM.out.cell (i := 0) (j := 2) rfl rfl
    have kr3 := HM.out.cell (i := 0) (j := 3) rfl rfl
    have fr0 := HM.out.free (i := 0) (j := 0) rfl
    have fr1 := HM.out.free (i := 0) (j := 1) rfl
    have fr2 := HM.out.free (i := 0) (j := 2) rfl
    have fr3 := HM.out.free (i := 0) (j := 3) rfl
    go_wp2
    clear kr0 kr1 kr2 kr3 fr0 fr1 fr2 fr3
    have hm := HM.out.putRow (ys := [.bool false, .slice none 0 0, .slice none 0 0, .int .i64 0]) rfl
    simp only [low.putRow, Nat.zero_add, Nat.reduceAdd] at hm
    replace HM := Lib.hid hm
    clear hm
    obtain ⟨W3, hW, hm⟩ := HM.out.name
    rw [← hW]
    replace HM := Lib.hid hm
    clear hm hW
    have kr0 := HM.out.cell (i := 0) (j := 0) rfl rfl
    have kr1 := HM.out.cell (i := 0) (j := 1) rfl rfl
    have kr2 := HM.out.cell (i := 0) (j := 2) rfl rfl
    have kr3 := HM.out.cell (i := 0) (j := 3) rfl rfl
    obtain ⟨b9, hm⟩ := Ms.noHu HM.out
    have HN := Lib.hid (show shutC x = 1 ∧ shutT x = noHu from ⟨by unfold shutC; rw [H1.out]; simp, by unfold shutT shutC; rw [H1.out]; simp⟩)
    rw [HN.out.1, HN.out.2]
    exact bodyPost_ret (v := .tuple #[.agg #[.bool false, .slice none 0 0, .slice none 0 0, .int .i64 0], .int .i64 1]) (by simp [results, Tryz.results5, go_sem, kr0, kr1, kr2, kr3]) rfl (hm.resN 1)
  rw [h1]
  have H1 := Lib.hid h1
  clear h1
  have kx0 := HM.out.cell (i := 1) (j := 0) rfl rfl
  have kx1 := HM.out.cell (i := 1) (j := 1) rfl rfl
  have kx2 := HM.out.cell (i := 1) (j := 2) rfl rfl
  have kx3 := HM.out.cell (i := 1) (j := 3) rfl rfl
  rcases (show x.shut = false ∨ x.shut = true by cases x.shut <;> simp) with h2 | h2
  rotate_left
  · rw [h2] at kx0
    have H2 := Lib.hid h2
    clear h2
    have kr0 := HM.out.cell (i := 0) (j := 0) rfl rfl
    have kr1 := HM.out.cell (i := 0) (j := 1) rfl rfl
    have kr2 := HM.out.cell (i := 0) (j := 2) rfl rfl
    have kr3 := HM.out.cell (i := 0) (j := 3) rfl rfl
    have fr0 := HM.out.free (i := 0) (j := 0) rfl
    have fr1 := HM.out.free (i := 0) (j := 1) rfl
    have fr2 := HM.out.free (i := 0) (j := 2) rfl
    have fr3 := HM.out.free (i := 0) (j := 3) rfl
    go_wp2
    clear kr0 kr1 kr2 kr3 fr0 fr1 fr2 fr3
    have hm := HM.out.putRow (ys := [.bool false, .slice none 0 0, .slice none 0 0, .int .i64 0]) rfl
    simp only [low.putRow, Nat.zero_add, Nat.reduceAdd] at hm
    replace HM := Lib.hid hm
    clear hm
    obtain ⟨W4, hW, hm⟩ := HM.out.name
    rw [← hW]
    replace HM := Lib.hid hm
    clear hm hW
    have kr0 := HM.out.cell (i := 0) (j := 0) rfl rfl
    have kr1 := HM.out.cell (i := 0) (j := 1) rfl rfl
    have kr2 := HM.out.cell (i := 0) (j := 2) rfl rfl
    have kr3 := HM.out.cell (i := 0) (j := 3) rfl rfl
    obtain ⟨b9, hm⟩ := Ms.noHu HM.out
    have HN := Lib.hid (show shutC x = 12 ∧ shutT x = noHu from ⟨by unfold shutC; rw [H1.out, H2.out]; simp, by unfold shutT shutC; rw [H1.out, H2.out]; simp⟩)
    rw [HN.out.1, HN.out.2]
    exact bodyPost_ret (v := .tuple #[.agg #[.bool false, .slice none 0 0, .slice none 0 0, .int .i64 0], .int .i64 12]) (by simp [results, Tryz.results5, go_sem, kr0, kr1, kr2, kr3]) rfl (hm.resN 12)
  rw [h2] at kx0
  have HRo := Lib.hid (show RdC w w.heap.size (datHu x) (.agg #[.bool false, .slice A1 x.docs.length ca, .slice A2 x.subs.length cb, .int .i64 x.last]) from by have h9 := HR.out; rw [h2] at h9; exact h9)
  have H2 := Lib.hid h2
  clear h2
  go_wp2_with fail
  clear kx0 kx1 kx2 kx3
  refine (specHubCopy_d _ x _ (HM.out.arg HRo.out) hs).mono ?_
  rintro e' W5 ⟨v', rfl, o', b'⟩
  obtain ⟨B1, da, B2, db, rfl, -, -⟩ := aggHu o'.read
  obtain ⟨bl, hm⟩ := HM.out.got o' b'
  clear o' b'
  replace HM := Lib.hid hm
  clear hm
  replace HM := Lib.hid (HM.out.new #[.bool true, .slice B1 x.docs.length da, .slice B2 x.subs.length db, .int .i64 x.last] 30)
  have kr0 := HM.out.cell (i := 2) (j := 0) rfl rfl
  have kr1 := HM.out.cell (i := 2) (j := 1) rfl rfl
  have kr2 := HM.out.cell (i := 2) (j := 2) rfl rfl
  have kr3 := HM.out.cell (i := 2) (j := 3) rfl rfl
  have fr0 := HM.out.free (i := 2) (j := 0) rfl
  have fr1 := HM.out.free (i := 2) (j := 1) rfl
  have fr2 := HM.out.free (i := 2) (j := 2) rfl
  have fr3 := HM.out.free (i := 2) (j := 3) rfl
  go_wp2
  clear kr0 kr1 kr2 kr3 fr0 fr1 fr2 fr3
  have hm := HM.out.pk [2, 0, 1, 3] (by decide) (by simp)
  simp only [low.pk, List.getElem?_cons_zero, List.getElem?_cons_succ] at hm
  replace HM := Lib.hid hm
  clear hm
  have hm := HM.out.putRow (ys := [.bool true, .slice B1 x.docs.length da, .slice B2 x.subs.length db, .int .i64 x.last]) rfl
  simp only [low.putRow, Nat.zero_add, Nat.reduceAdd] at hm
  replace HM := Lib.hid hm
  clear hm
  obtain ⟨W6, hW, hm⟩ := HM.out.name
  rw [← hW]
  replace HM := Lib.hid hm
  clear hm hW
  have kr0 := HM.out.cell (i := 0) (j := 0) rfl rfl
  have kr1 := HM.out.cell (i := 0) (j := 1) rfl rfl
  have kr2 := HM.out.cell (i := 0) (j := 2) rfl rfl
  have kr3 := HM.out.cell (i := 0) (j := 3) rfl rfl
  have hm := HM.out.pk [2, 0, 1, 3] (by decide) (by simp)
  simp only [low.pk, List.getElem?_cons_zero, List.getElem?_cons_succ] at hm
  replace HM := Lib.hid hm
  clear hm
  obtain ⟨b9, hm⟩ := HM.out.reshut
  have HN := Lib.hid (show shutC x = 0 ∧ shutT x = ⟨true, x.docs, x.subs, x.last⟩ from ⟨by unfold shutC; rw [H1.out, H2.out]; simp, by unfold shutT shutC; rw [H1.out, H2.out]; simp⟩)
  rw [HN.out.1, HN.out.2]
  exact bodyPost_ret (v := .tuple #[.agg #[.bool true, .slice B1 x.docs.length da, .slice B2 x.subs.length db, .int .i64 x.last], .int .i64 0]) (by simp [results, Tryz.results5, go_sem, kr0, kr1, kr2, kr3]) rfl (hm.resN 0)
end Go.Proofs.YtamainhocghlgaaGreatDoor.low


/-
  A slice cloned, its rows then made the caller's own one by one: the first rows are owned, the cells behind them are known.
-/
namespace Go.Proofs.YtamainhocghlgaaGreatDoor.low
open Go.RowKit
set_option linter.unusedVariables false

/-- the cells from k on are those of the list -/
def Raw (W : World) (g k : Nat) (raw : List Value) : Prop := ∃ cur T, W.heap[g]? = some (.cells cur T (0, 0)) ∧ ∀ t u, k ≤ t → raw[t]? = some u → cur[t]? = some u
theorem Raw.cell {W : World} {g k t : Nat} {raw : List Value} {u : Value} (h : Raw W g k raw) (hk : k ≤ t) (hu : raw[t]? = some u) : W.cell? ⟨g, t, none⟩ = some u := by
  obtain ⟨cur, T, hh, hc⟩ := h
  exact bxcell hh (hc t u hk hu)
theorem Raw.free {W : World} {g k t : Nat} {raw : List Value} (h : Raw W g k raw) : W.frozen? ⟨g, t, none⟩ = false := by
  obtain ⟨cur, T, hh, hc⟩ := h
  exact bxfree hh
theorem Raw.keep {W W' : World} {g k : Nat} {raw : List Value} (h : Raw W g k raw) (hk : W'.heap[g]? = W.heap[g]?) : Raw W' g k raw := by
  obtain ⟨cur, T, hh, hc⟩ := h
  exact ⟨cur, T, hk.trans hh, hc⟩
theorem Raw.lt {W : World} {g k : Nat} {raw : List Value} (h : Raw W g k raw) : g < W.heap.size := by
  obtain ⟨cur, T, hh, hc⟩ := h
  exact lt_of_some hh
theorem Raw.past {W W' : World} {g k : Nat} {raw : List Value} (h : Raw W g k raw) (hb : Below W.heap.size W W') : Raw W' g k raw := h.keep (hb.block g h.lt)
theorem Raw.other {W : World} {g k q o : Nat} {raw : List Value} (h : Raw W g k raw) (hne : ¬ g = q) (u : Value) : Raw (W.setCell ⟨q, o, none⟩ u) g k raw := h.keep (Below.heap_setCell _ _ _ _ hne)
theorem Raw.set {W : World} {g k k' : Nat} {raw : List Value} (h : Raw W g k raw) (o : Nat) (u : Value) (h1 : k ≤ k') (h2 : o < k') : Raw (W.setCell ⟨g, o, none⟩ u) g k' raw := by
  obtain ⟨cur, T, hh, hc⟩ := h
  refine ⟨_, T, bxset (j := o) hh u, fun t v ht hv => ?_⟩
  rw [Array.getElem?_setIfInBounds_ne (by omega)]
  exact hc t v (by omega) hv
section
variable {w0 W : World} {L : List It}
/-- the next row is the caller's own: its third cell has been written -/
theorem Ms.fill3 {g n cap : Nat} {e : TypeId} {ds : List (List Dat)} {d : Dat} {v : Value} {b c : List Nat} {x y : Int} {raw : List Value} (h : Ms w0 (.dt (.rows e 3 ds) (.slice (some ⟨g, 0, none⟩) n cap) b :: .dt d v c :: L) W) (hn : n = ds.length) (hcap : n < cap)
    (hr : Raw W g (n * 3) raw) (hx : raw[n * 3]? = some (.int .i64 x)) (hy : raw[n * 3 + 1]? = some (.int .i64 y)) :
    ∃ b', Ms w0 (.dt (.rows e 3 (ds ++ [[.int x, .int y, d]])) (.slice (some ⟨g, 0, none⟩) (n + 1) cap) b' :: L) (W.setCell ⟨g, n * 3 + 2, none⟩ v) := by
  subst hn
  have hd : OwC W d v c := h.at_ (i := 1) rfl
  have hrow : OwR W 3 [[.int x, .int y, d]] [.int .i64 x, .int .i64 y, v] c := OwR.one ⟨_, _, [], c, rfl, rfl, ⟨rfl, rfl⟩, _, _, [], c, rfl, rfl, ⟨rfl, rfl⟩, v, [], c, [], rfl, by simp, hd, rfl, rfl⟩ rfl
  obtain ⟨xs, hown, grow⟩ := Ms.grow (Y := [.dt d v c]) h hrow (h.ndAt (i := 1) (x := .dt d v c) rfl) (fun q hq => by simpa [It.bs] using hq)
  obtain ⟨hxs, hcase⟩ := hown
  rcases hcase with ⟨h0, _⟩ | ⟨g', cap', cur, hv, _, hh, hnc, hcm, hcs, htk⟩
  · cases h0
  injection hv with hv1 _ hv3
  injection hv1 with hv1
  injection hv1 with hv1 _ _
  subst hv1 hv3
  obtain ⟨cur', T', hh', hc'⟩ := hr
  rw [hh] at hh'
  injection hh' with hh'
  injection hh' with e1 e2 _
  subst e1 e2
  have q0 := hc' _ _ (Nat.le_refl _) hx
  have q1 := hc' _ _ (by omega) hy
  have hb := Below.heap_setCell W ⟨g, ds.length * 3 + 2, none⟩ v
  refine grow g (ds.length + 1) cap _ ?_ ⟨rfl, rfl, rfl, by simp [World.setCell], fun k hk hne => Below.heap_setCell _ _ _ _ (fun e => hne (by rw [e]; rfl))⟩ (.inl rfl) (by simp only [World.setCell, Array.size_modify]; exact lt_of_some hh)
  refine ⟨by simp [hxs]; omega, .inr ⟨g, cap, cur.setIfInBounds (ds.length * 3 + 2) v, by simp, Nat.zero_le _, bxset hh v, by simp; omega, hcm, by simpa using hcs, ?_⟩⟩
  have hsz : ds.length * 3 + 3 ≤ cur.toList.length := by
    have e : cur.toList.length = cap * 3 := by rw [Array.length_toList]; exact hcs
    rw [e]
    have : (ds.length + 1) * 3 ≤ cap * 3 := Nat.mul_le_mul_right 3 hcap
    omega
  rw [Array.toList_setIfInBounds, List.length_append, List.length_singleton, Nat.add_mul, Nat.one_mul]
  have l0 : cur.toList[ds.length * 3]? = some (.int .i64 x) := by rw [Array.getElem?_toList]; exact q0
  have l1 : cur.toList[ds.length * 3 + 1]? = some (.int .i64 y) := by rw [Array.getElem?_toList]; exact q1
  apply List.ext_getElem?
  intro t
  rw [List.getElem?_take]
  by_cases ht : t < ds.length * 3
  · rw [if_pos (by omega), List.getElem?_set_ne (by omega), List.getElem?_append_left (by rw [hxs]; exact ht), ← htk, List.getElem?_take, if_pos ht]
  · rw [List.getElem?_append_right (by rw [hxs]; omega), hxs]
    by_cases h3 : t < ds.length * 3 + 3
    · rw [if_pos h3]
      obtain ⟨k, rfl⟩ : ∃ k, t = ds.length * 3 + k := ⟨t - ds.length * 3, by omega⟩
      rw [Nat.add_sub_cancel_left]
      have hk : k = 0 ∨ k = 1 ∨ k = 2 := by omega
      rcases hk with rfl | rfl | rfl
      · rw [List.getElem?_set_ne (by omega), Nat.add_zero, l0]
        rfl
      · rw [List.getElem?_set_ne (by omega), l1]
        rfl
      · rw [List.getElem?_set_self (by omega)]
        rfl
    · rw [if_neg h3, List.getElem?_eq_none (by simp; omega)]
end
/-- the cells of rows, as values -/
theorem RdL.vals {w : World} {B : Nat} {ad : Addr} : ∀ {r : List Dat} {o : Nat}, RdL w B ad o r → ∃ ys : List Value, ys.length = r.length ∧ RdV w B r ys ∧ ∀ j u, ys[j]? = some u → w.cell? (ad.add (o + j)) = some u
  | [], o, _ => ⟨[], rfl, rfl, fun j u h => by simp at h⟩
  | d :: r, o, h => by
    obtain ⟨⟨v, hv, hd⟩, h2⟩ := h
    obtain ⟨ys, h3, h4, h5⟩ := RdL.vals h2
    refine ⟨v :: ys, by simp [h3], ⟨v, ys, rfl, hd, h4⟩, fun j u hu => ?_⟩
    cases j with
    | zero => simp at hu; subst hu; exact hv
    | succ j =>
      have := h5 j u (by simpa using hu)
      rwa [show o + (j + 1) = o + 1 + j by omega]
theorem RdR.vals {w : World} {B sz : Nat} {ad : Addr} : ∀ {rs : List (List Dat)} {o : Nat}, (∀ r ∈ rs, r.length = sz) → RdR w B sz ad o rs → ∃ ys : List Value, ys.length = rs.length * sz ∧ (∀ i r, rs[i]? = some r → ∃ y, RdV w B r y ∧ y.length = sz ∧ ∀ k u, y[k]? = some u → ys[i * sz + k]? = some u) ∧ ∀ j u, ys[j]? = some u → w.cell? (ad.add (o + j)) = some u
  | [], o, _, _ => ⟨[], by simp, fun i r h => by simp at h, fun j u h => by simp at h⟩
  | r :: rs, o, hl, h => by
    obtain ⟨y, y1, y2, y3⟩ := RdL.vals h.1
    obtain ⟨ys, h3, h4, h5⟩ := RdR.vals (rs := rs) (fun q hq => hl q (by simp [hq])) h.2
    have hy : y.length = sz := by rw [y1]; exact hl r (by simp)
    refine ⟨y ++ ys, by rw [List.length_append, hy, h3, List.length_cons, Nat.add_mul]; omega, fun i q hq => ?_, fun j u hu => ?_⟩
    · cases i with
      | zero =>
        simp at hq
        subst hq
        refine ⟨y, y2, hy, fun k u hu => ?_⟩
        rw [Nat.zero_mul, Nat.zero_add, List.getElem?_append_left (idx_lt hu)]
        exact hu
      | succ i =>
        obtain ⟨z, z1, z2, z3⟩ := h4 i q (by simpa using hq)
        refine ⟨z, z1, z2, fun k u hu => ?_⟩
        rw [List.getElem?_append_right (by rw [hy, Nat.add_mul]; omega), hy, show (i + 1) * sz + k - sz = i * sz + k by rw [Nat.add_mul]; omega]
        exact z3 k u hu
    · by_cases hj : j < sz
      · rw [List.getElem?_append_left (by omega)] at hu
        exact y3 j u hu
      · rw [List.getElem?_append_right (by omega), hy] at hu
        have := h5 (j - sz) u hu
        rwa [show o + sz + (j - sz) = o + j by omega] at this
/-- a value without parts fills one cell -/
def Dat.one : Dat → Bool
  | .agg _ => false
  | _ => true
theorem RdC.oneCell {w : World} {B : Nat} {d : Dat} {v : Value} (h : RdC w B d v) (hd : d.one = true) : v.oneCell' = true := by
  cases d with
  | int n => have h : v = .int .i64 n := h; rw [h]; rfl
  | bool b => have h : v = .bool b := h; rw [h]; rfl
  | str s => have h : v = .string s := h; rw [h]; rfl
  | rows e sz ds => obtain ⟨A, c, rfl, _⟩ := h; rfl
  | agg ds => cases hd
theorem RdV.ones {w : World} {B : Nat} : ∀ {r : List Dat} {ys : List Value}, (∀ d ∈ r, d.one = true) → RdV w B r ys → ∀ u ∈ ys, u.oneCell' = true
  | [], ys, _, h, u, hu => by
    have h : ys = [] := h
    subst h
    simp at hu
  | d :: r, ys, hd, h, u, hu => by
    obtain ⟨x, xs, rfl, h1, h2⟩ := h
    rcases List.mem_cons.1 hu with rfl | hu
    · exact h1.oneCell (hd d (by simp))
    · exact RdV.ones (fun q hq => hd q (by simp [hq])) h2 u hu
theorem RdR.ones {w : World} {B sz : Nat} {ad : Addr} : ∀ {rs : List (List Dat)} {o : Nat}, (∀ r ∈ rs, r.length = sz ∧ ∀ d ∈ r, d.one = true) → RdR w B sz ad o rs → ∃ ys : List Value, ys.length = rs.length * sz ∧ (∀ i r, rs[i]? = some r → ∃ y, RdV w B r y ∧ y.length = sz ∧ ∀ k u, y[k]? = some u → ys[i * sz + k]? = some u) ∧ (∀ u ∈ ys, u.oneCell' = true) ∧ ∀ j u, ys[j]? = some u → w.cell? (ad.add (o + j)) = some u
  | [], o, _, _ => ⟨[], by simp, fun i r h => by simp at h, by simp, fun j u h => by simp at h⟩
  | r :: rs, o, hl, h => by
    obtain ⟨y, y1, y2, y3⟩ := RdL.vals h.1
    obtain ⟨ys, h3, h4, h5, h6⟩ := RdR.ones (rs := rs) (fun q hq => hl q (by simp [hq])) h.2
    have hy : y.length = sz := by rw [y1]; exact (hl r (by simp)).1
    refine ⟨y ++ ys, by rw [List.length_append, hy, h3, List.length_cons, Nat.add_mul]; omega, fun i q hq => ?_, fun u hu => ?_, fun j u hu => ?_⟩
    · cases i with
      | zero =>
        simp at hq
        subst hq
        refine ⟨y, y2, hy, fun k u hu => ?_⟩
        rw [Nat.zero_mul, Nat.zero_add, List.getElem?_append_left (idx_lt hu)]
        exact hu
      | succ i =>
        obtain ⟨z, z1, z2, z3⟩ := h4 i q (by simpa using hq)
        refine ⟨z, z1, z2, fun k u hu => ?_⟩
        rw [List.getElem?_append_right (by rw [hy, Nat.add_mul]; omega), hy, show (i + 1) * sz + k - sz = i * sz + k by rw [Nat.add_mul]; omega]
        exact z3 k u hu
    · rcases List.mem_append.1 hu with hu | hu
      · exact RdV.ones (hl r (by simp)).2 y2 u hu
      · exact h5 u hu
    · by_cases hj : j < sz
      · rw [List.getElem?_append_left (by omega)] at hu
        exact y3 j u hu
      · rw [List.getElem?_append_right (by omega), hy] at hu
        have := h6 (j - sz) u hu
        rwa [show o + sz + (j - sz) = o + j by omega] at this
/-- the cells of rows as a list of values, each row read -/
def Cells (w : World) (rs : List (List Dat)) (ys : List Value) : Prop := ∀ i r, rs[i]? = some r → ∃ y, RdV w w.heap.size r y ∧ y.length = 3 ∧ ∀ k u, y[k]? = some u → ys[i * 3 + k]? = some u
section
variable {w0 W : World} {L : List It}
/-- to a slice without elements all of another's cells are added, whatever they lead to -/
theorem wpList_raw {ops : Array Oper} {rest : List Oper} {o : Oper} {a : Act} {Q : Exit → Act → World → Prop} (hgd : o.guard = none) (s x : Operand) (t : TypeId)
    (ho : o.op = .call { callee := .builtin .append, args := #[s, x], argTypes := #[t, t] }) {e : TypeId} {z : Value} {bytes : Nat} (he : Elt t e z 3 bytes) {rs : List (List Dat)} {g0 c1 : Nat} {b : List Nat}
    (h : Ms w0 (.dt (.rows e 3 []) (.slice (some ⟨g0, 0, none⟩) 0 c1) b :: L) W) (hs : a.eval s = .slice (some ⟨g0, 0, none⟩) 0 c1) (A : Option Addr) (m c0 : Nat) (hx : a.eval x = .slice A m c0) (hrd : RdC w0 w0.heap.size (.rows e 3 rs) (.slice A m c0)) (hone : ∀ r ∈ rs, r.length = 3 ∧ ∀ d ∈ r, d.one = true) (hlen : rs.length ≤ 2000000)
    (K : ∀ g cap W' b' ys, m ≤ cap → Ms w0 (.dt (.rows e 3 []) (.slice (some ⟨g, 0, none⟩) 0 cap) b' :: L) W' → Raw W' g 0 ys → Cells w0 rs ys → wpList Tryz.prog ops Q rest (a.put o.dst (.slice (some ⟨g, 0, none⟩) m cap)) W') : wpList Tryz.prog ops Q (o :: rest) a W := by
  obtain ⟨i, ht, hi, hz, hsize, hby, hzs, hsz, hbm⟩ := he
  obtain ⟨A', c', hv, hc, hrd⟩ := hrd
  injection hv with e1 e2 e3
  subst e1 e2 e3
  by_cases h0 : 0 < rs.length
  · obtain ⟨ad, rfl, hbk, hsp, hrr⟩ := hrd h0
    obtain ⟨ys, k1, k2, k3, k4⟩ := RdR.ones hone hrr
    obtain ⟨xs, hown, grow⟩ := Ms.grow (Y := []) (rs := []) (news := []) (c := []) h ⟨rfl, rfl⟩ (by simp) (by simp)
    have hx0 : xs = [] := List.eq_nil_of_length_eq_zero (by rw [hown.1]; simp)
    subst hx0
    refine wpList_append_lies _ hgd s x t ho 0 e i z 3 bytes ht hi hz hsize hby hzs hsz _ 0 [] hs hown ad rs.length c0 ys hx k1 (fun j u hu => by have := k4 j u hu; rw [Nat.zero_add] at this; exact (h.bl.cell (p := ad.add j) (by rw [block_of_add]; exact hbk)).trans this) k3 h0 (by unfold maxLen; omega) ?_ (Nat.zero_le _) _ rfl ?_
    · exact bytes_fit (by omega) hbm
    · intro g cap W' hown' hg hat hlt
      rw [Nat.zero_add, List.nil_append] at hown'
      rcases hown'.2 with ⟨e0, _⟩ | ⟨g', cap', cur, e0, q1, q2, q3, q4, q5, q6⟩
      · cases e0
      injection e0 with e1 _ e3
      injection e1 with e1
      injection e1 with e1
      subst e1 e3
      obtain ⟨b', hm⟩ := grow g 0 cap W' ⟨by simp, .inr ⟨g, cap, cur, rfl, Nat.zero_le _, q2, Nat.zero_le _, q4, q5, by simp⟩⟩ hg hat hlt
      have hraw : Raw W' g 0 ys := by
        refine ⟨cur, e, q2, fun t u _ hu => ?_⟩
        rw [← q6, List.getElem?_take] at hu
        split at hu
        · rwa [Array.getElem?_toList] at hu
        · cases hu
      rw [Nat.zero_add]
      exact K g cap W' b' ys q3 (by simpa using hm) hraw k2
  · obtain rfl : rs = [] := List.eq_nil_of_length_eq_zero (by omega)
    obtain ⟨xs, cs, hown, _⟩ : OwC W (.rows e 3 []) (.slice (some ⟨g0, 0, none⟩) 0 c1) b := h.at_ (i := 0) rfl
    refine wpList_append_zero hgd s x t ho 0 e i 3 ht hi _ 0 xs hs hown A c0 hx ?_
    rcases hown.2 with ⟨e0, _⟩ | ⟨g', cap', cur, e0, q1, q2, q3⟩
    · cases e0
    injection e0 with e1 _ e3
    injection e1 with e1
    injection e1 with e1
    subst e1 e3
    exact K g0 c1 W b [] (Nat.zero_le _) h ⟨cur, e, q2, fun t u _ hu => by simp at hu⟩ (fun i r hr => by simp at hr)
end
/-- a slice whose cells are those of the rows, in a block of its own; nil if the rows came as nil -/
def RawPost (e : TypeId) (rs : List (List Dat)) (w : World) (E : Ending) (w' : World) : Prop := (rs = [] ∧ E = .returned (.slice none 0 0) ∧ w = w') ∨
  ∃ g cap ys, E = .returned (.slice (some ⟨g, 0, none⟩) rs.length cap) ∧ rs.length ≤ cap ∧ Own w.heap.size w'.heap.size w' (.rows e 3 []) (.slice (some ⟨g, 0, none⟩) 0 cap) ∧ Raw w' g 0 ys ∧ Cells w rs ys ∧ Below w.heap.size w w'
end Go.Proofs.YtamainhocghlgaaGreatDoor.low


/-
  A slice cloned, its cells as they are (rows of any number of cells), and a row more written into it, its memory taken over: for documents and subscribers.
-/
namespace Go.Proofs.YtamainhocghlgaaGreatDoor.low
open Go.RowKit
set_option linter.unusedVariables false

theorem putRow_arr {g : Nat} {T : TypeId} : ∀ {ys : List Value} {cs : Array Value} {o : Nat} {W : World}, W.heap[g]? = some (.cells cs T (0, 0)) → ∃ cs' : Array Value, (putRow W g o ys).heap[g]? = some (.cells cs' T (0, 0)) ∧ cs'.size = cs.size ∧ cs'.toList = setRow cs.toList o ys
  | [], cs, o, W, h => ⟨cs, h, rfl, rfl⟩
  | y :: ys, cs, o, W, h => by
    obtain ⟨cs', h1, h2, h3⟩ := putRow_arr (ys := ys) (o := o + 1) (bxset (j := o) h y)
    refine ⟨cs', h1, by simpa using h2, ?_⟩
    rw [h3, Array.toList_setIfInBounds]
    rfl
section
variable {w0 W : World} {L : List It}
/-- the next row is the caller's own -/
theorem Ms.fillN {g n cap sz : Nat} {e : TypeId} {ds : List (List Dat)} {r : List Dat} {ys : List Value} {b c : List Nat} (h : Ms w0 (.dt (.rows e sz ds) (.slice (some ⟨g, 0, none⟩) n cap) b :: .dt (.agg r) (.agg ys.toArray) c :: L) W) (hn : n = ds.length) (hcap : n < cap) (hl : ys.length = sz) :
    ∃ b', Ms w0 (.dt (.rows e sz (ds ++ [r])) (.slice (some ⟨g, 0, none⟩) (n + 1) cap) b' :: L) (low.putRow W g (n * sz) ys) := by
  subst hn
  obtain ⟨ys', hy', hor⟩ : OwC W (.agg r) (.agg ys.toArray) c := h.at_ (i := 1) rfl
  obtain rfl : ys = ys' := agg_inj hy'
  obtain ⟨xs, hown, grow⟩ := Ms.grow (Y := [.dt (.agg r) (.agg ys.toArray) c]) h (OwR.one hor hl) (h.ndAt (i := 1) (x := .dt (.agg r) (.agg ys.toArray) c) rfl) (fun q hq => by simpa [It.bs] using hq)
  obtain ⟨hxs, hcase⟩ := hown
  rcases hcase with ⟨h0, _⟩ | ⟨g', cap', cur, hv, _, hh, hnc, hcm, hcs, htk⟩
  · cases h0
  injection hv with hv1 _ hv3
  injection hv1 with hv1
  injection hv1 with hv1 _ _
  subst hv1 hv3
  obtain ⟨cs', h1, h2, h3⟩ := putRow_arr (ys := ys) (o := ds.length * sz) hh
  have hz := putRow_below (lo := 0) (g := g) (Nat.zero_le _) ys W (ds.length * sz) (Below.refl 0 W)
  refine grow g (ds.length + 1) cap _ ?_ ⟨hz.os, hz.tape, hz.output, by simp [putRow_size], fun k hk hne => ?_⟩ (.inl rfl) (by rw [putRow_size]; exact lt_of_some hh)
  rotate_left
  · have hne' : k ≠ g := fun e => hne (by rw [e]; rfl)
    exact putRow_block g ys W _ k hne'
  have hsz : ds.length * sz + sz ≤ cur.toList.length := by
    have e : cur.toList.length = cap * sz := by rw [Array.length_toList]; exact hcs
    rw [e]
    have h8 : (ds.length + 1) * sz ≤ cap * sz := Nat.mul_le_mul_right sz hcap
    rw [Nat.add_mul, Nat.one_mul] at h8
    exact h8
  refine ⟨by rw [List.length_append, hxs, hl, List.length_append, List.length_singleton, Nat.add_mul, Nat.one_mul], .inr ⟨g, cap, cs', by simp, Nat.zero_le _, h1, by simp; omega, hcm, by rw [h2]; exact hcs, ?_⟩⟩
  rw [h3, setRow_eq _ _ _ (by rw [hl]; exact hsz), List.length_append, List.length_singleton, Nat.add_mul, Nat.one_mul, ← htk]
  have e1 : (cur.toList.take (ds.length * sz) ++ ys).length = ds.length * sz + sz := by rw [List.length_append, List.length_take, hl]; omega
  rw [← e1, List.take_left]
end
/-- the cells of rows as a list of values, each row read -/
def CellsN (sz : Nat) (w : World) (rs : List (List Dat)) (ys : List Value) : Prop := ∀ i r, rs[i]? = some r → ∃ y, RdV w w.heap.size r y ∧ y.length = sz ∧ ∀ k u, y[k]? = some u → ys[i * sz + k]? = some u
section
variable {w0 W : World} {L : List It}
/-- to a slice without elements all of another's cells are added, whatever they lead to -/
theorem wpList_rawN {ops : Array Oper} {rest : List Oper} {o : Oper} {a : Act} {Q : Exit → Act → World → Prop} (hgd : o.guard = none) (s x : Operand) (t : TypeId)
    (ho : o.op = .call { callee := .builtin .append, args := #[s, x], argTypes := #[t, t] }) {e : TypeId} {z : Value} {sz bytes : Nat} (he : Elt t e z sz bytes) {rs : List (List Dat)} {g0 c1 : Nat} {b : List Nat}
    (h : Ms w0 (.dt (.rows e sz []) (.slice (some ⟨g0, 0, none⟩) 0 c1) b :: L) W) (hs : a.eval s = .slice (some ⟨g0, 0, none⟩) 0 c1) (A : Option Addr) (m c0 : Nat) (hx : a.eval x = .slice A m c0) (hrd : RdC w0 w0.heap.size (.rows e sz rs) (.slice A m c0)) (hone : ∀ r ∈ rs, r.length = sz ∧ ∀ d ∈ r, d.one = true) (hlen : rs.length ≤ 2000000)
    (K : ∀ g cap W' b' ys, m ≤ cap → Ms w0 (.dt (.rows e sz []) (.slice (some ⟨g, 0, none⟩) 0 cap) b' :: L) W' → Raw W' g 0 ys → CellsN sz w0 rs ys → wpList Tryz.prog ops Q rest (a.put o.dst (.slice (some ⟨g, 0, none⟩) m cap)) W') : wpList Tryz.prog ops Q (o :: rest) a W := by
  obtain ⟨i, ht, hi, hz, hsize, hby, hzs, hsz, hbm⟩ := he
  obtain ⟨A', c', hv, hc, hrd⟩ := hrd
  injection hv with e1 e2 e3
  subst e1 e2 e3
  by_cases h0 : 0 < rs.length
  · obtain ⟨ad, rfl, hbk, hsp, hrr⟩ := hrd h0
    obtain ⟨ys, k1, k2, k3, k4⟩ := RdR.ones hone hrr
    obtain ⟨xs, hown, grow⟩ := Ms.grow (Y := []) (rs := []) (news := []) (c := []) h ⟨rfl, rfl⟩ (by simp) (by simp)
    have hx0 : xs = [] := List.eq_nil_of_length_eq_zero (by rw [hown.1]; simp)
    subst hx0
    refine wpList_append_lies _ hgd s x t ho 0 e i z sz bytes ht hi hz hsize hby hzs hsz _ 0 [] hs hown ad rs.length c0 ys hx k1 (fun j u hu => by have := k4 j u hu; rw [Nat.zero_add] at this; exact (h.bl.cell (p := ad.add j) (by rw [block_of_add]; exact hbk)).trans this) k3 h0 (by unfold maxLen; omega) ?_ (Nat.zero_le _) _ rfl ?_
    · exact bytes_fit (by omega) hbm
    · intro g cap W' hown' hg hat hlt
      rw [Nat.zero_add, List.nil_append] at hown'
      rcases hown'.2 with ⟨e0, _⟩ | ⟨g', cap', cur, e0, q1, q2, q3, q4, q5, q6⟩
      · cases e0
      injection e0 with e1 _ e3
      injection e1 with e1
      injection e1 with e1
      subst e1 e3
      obtain ⟨b', hm⟩ := grow g 0 cap W' ⟨by simp, .inr ⟨g, cap, cur, rfl, Nat.zero_le _, q2, Nat.zero_le _, q4, q5, by simp⟩⟩ hg hat hlt
      have hraw : Raw W' g 0 ys := by
        refine ⟨cur, e, q2, fun t u _ hu => ?_⟩
        rw [← q6, List.getElem?_take] at hu
        split at hu
        · rwa [Array.getElem?_toList] at hu
        · cases hu
      rw [Nat.zero_add]
      exact K g cap W' b' ys q3 (by simpa using hm) hraw k2
  · obtain rfl : rs = [] := List.eq_nil_of_length_eq_zero (by omega)
    obtain ⟨xs, cs, hown, _⟩ : OwC W (.rows e sz []) (.slice (some ⟨g0, 0, none⟩) 0 c1) b := h.at_ (i := 0) rfl
    refine wpList_append_zero hgd s x t ho 0 e i sz ht hi _ 0 xs hs hown A c0 hx ?_
    rcases hown.2 with ⟨e0, _⟩ | ⟨g', cap', cur, e0, q1, q2, q3⟩
    · cases e0
    injection e0 with e1 _ e3
    injection e1 with e1
    injection e1 with e1
    subst e1 e3
    exact K g0 c1 W b [] (Nat.zero_le _) h ⟨cur, e, q2, fun t u _ hu => by simp at hu⟩ (fun i r hr => by simp at hr)
end
end Go.Proofs.YtamainhocghlgaaGreatDoor.low


/-
  Contracts of the program's builder: endRun, drop, put, done, keep.
-/
namespace Go.Proofs.YtamainhocghlgaaGreatDoor.low
open Go.RowKit
set_option linter.unusedVariables false

set_option maxRecDepth 100000 in
set_option maxHeartbeats 3200000 in
theorem implFlush_f (S : Nat → Prop) (lo g : Nat) (ps : List Pt) (put : List Int) (d : Int) (w : World) (hb : BAtS S lo g 215 w ps put d) (hS : ∀ b, w.heap.size ≤ b → S b) (hl : ps.length ≤ 4294967296) (hp : put.length ≤ 4294967296) :
    Calls Tryz.prog 182 #[.pointer (some ⟨g, 0, none⟩)] w (FlushedS S lo g 215 w (ps ++ putL put ++ dropL d)) := by
  obtain ⟨i0, hi0, hz0, hz1, hz2⟩ := info_parts part_info
  obtain ⟨v, u, us, hx, ha, hos⟩ := hb
  have HS := Lib.hid hS
  have HOS := Lib.hid hos
  clear hS hos
  have ha0 := ha.init hx.len
  obtain ⟨A, c, rfl⟩ := own_form (ha.last hx.len)
  have c0 := hx.cell0
  have c1 := hx.cell1
  have c2 := hx.cell2
  have f0 := hx.free 0
  have f1 := hx.free 1
  have f2 := hx.free 2
  have HX := Lib.hid hx
  have HA := Lib.hid ha
  have HA0 := Lib.hid ha0
  clear hx ha ha0
  by_cases hput : put.length = 0
  · have e1 : putL put = [] := by simp [putL, hput]
    rw [e1, List.append_nil]
    by_cases hd : 0 < d
    · have e2 : dropL d = [⟨3, d, []⟩] := by simp [dropL, hd]
      rw [e2]
      go_enter Tryz.func182, Tryz.ntmps182
      go_wp2_with fail
      have lg := HX.out.lt
      have hlo : lo ≤ w.heap.size := Nat.le_trans HX.out.low (Nat.le_of_lt lg)
      have hne := own_far HX.out.row HX.out.box (by decide)
      go_region_law ((refine step_append_lies _ (by rfl) (.tmp 31) (.tmp 37) 104 (by rfl) lo 145 i0 _ 3 40 Tryz.underlying104 hi0 hz0 hz1 hz2 rfl (by omega) v ps.length (cellsOf ps us) (by rfl) ((HX.out.row.alloc _).drew) ⟨w.heap.size, 0, none⟩ 1 1 [.int .i64 3, .int .i64 d, .slice none 0 0] (by rfl) (by rfl) (World.news_of_block (cs := #[.int .i64 3, .int .i64 d, .slice none 0 0]) (t := 145) (fr := (0, 0)) (heap_alloc_new w _)) (by simp [Value.oneCell']) (by omega) (by unfold maxLen; omega) (by omega) (by simp; omega) (w.heap.size + 1) (by simp) ?_; intro gg cap w1 hown1 hgrow hat hlt; have hf := free_grown (o := 0) HX.out.box (below_made w _) hgrow hne; have hf1 := free_grown (o := 1) HX.out.box (below_made w _) hgrow hne; have hf2 := free_grown (o := 2) HX.out.box (below_made w _) hgrow hne; have hc : w1.cell? ⟨g, 0, none⟩ = some v := cell_grown 0 HX.out.box (below_made w _) hgrow hne; have hc1 : w1.cell? ⟨g, 1, none⟩ = some (.slice A put.length c) := cell_grown 1 HX.out.box (below_made w _) hgrow hne; have hc2 : w1.cell? ⟨g, 2, none⟩ = some (.int .i64 d) := cell_grown 2 HX.out.box (below_made w _) hgrow hne))
      all_goals
        obtain ⟨hx2, ha2, b2⟩ := Box.push (p := ⟨3, d, []⟩) HX.out (by decide) (by decide) (Apart.bare 3 d HA0.out) (below_made w _) hown1 hgrow
        have HO2 := Lib.hid (HOS.out.init.push (n := ps.length + 1) (cap := cap) nil_own hat (HS.out _ (by omega)))
        have HR2 := Lib.hid (push_fr HOS.out.init (below_made w _) hgrow (.slice (some ⟨gg, 0, none⟩) (ps.length + 1) cap))
        have HX2 := Lib.hid hx2
        have HA2 := Lib.hid ha2
        have HB2 := Lib.hid b2
        clear hx2 ha2 b2
        go_wp2
        go_end0
        obtain ⟨r1, r2, r3⟩ := HX2.out.clearS (by decide) (by decide) HA2.out HO2.out
        exact ⟨rfl, r1, HB2.out.trans r2, HR2.out.trans r3⟩

    · have e2 : dropL d = [] := by simp [dropL]; omega
      rw [e2, List.append_nil]
      go_enter Tryz.func182, Tryz.ntmps182
      go_wp2_with fail
      go_end0
      obtain ⟨r1, r2, r3⟩ := HX.out.clearS (by decide) (by decide) HA0.out HOS.out.init
      exact ⟨rfl, r1, r2, r3⟩
  · have hput' : (0 : Int) < (put.length : Int) := by omega
    have e1 : putL put = [⟨2, 0, put⟩] := by simp [putL, hput]
    rw [e1]
    by_cases hd : 0 < d
    · have e2 : dropL d = [⟨3, d, []⟩] := by simp [dropL, hd]
      rw [e2]
      generalize hQ : ps ++ [⟨2, 0, put⟩] ++ [⟨3, d, []⟩] = Q
      have HQ := Lib.hid hQ
      clear hQ
      go_enter Tryz.func182, Tryz.ntmps182
      go_wp2_with fail
      have lg := HX.out.lt
      have hlo : lo ≤ w.heap.size := Nat.le_trans HX.out.low (Nat.le_of_lt lg)
      have hne := own_far HX.out.row HX.out.box (by decide)
      go_region_law ((refine step_append_lies _ (by rfl) (.tmp 12) (.tmp 18) 104 (by rfl) lo 145 i0 _ 3 40 Tryz.underlying104 hi0 hz0 hz1 hz2 rfl (by omega) v ps.length (cellsOf ps us) (by rfl) ((HX.out.row.alloc _).drew) ⟨w.heap.size, 0, none⟩ 1 1 [.int .i64 2, .int .i64 0, .slice A put.length c] (by rfl) (by rfl) (World.news_of_block (cs := #[.int .i64 2, .int .i64 0, .slice A put.length c]) (t := 145) (fr := (0, 0)) (heap_alloc_new w _)) (by simp [Value.oneCell']) (by omega) (by unfold maxLen; omega) (by omega) (by simp; omega) (w.heap.size + 1) (by simp) ?_; intro gg cap w1 hown1 hgrow hat hlt; have hf := free_grown (o := 0) HX.out.box (below_made w _) hgrow hne; have hf1 := free_grown (o := 1) HX.out.box (below_made w _) hgrow hne; have hf2 := free_grown (o := 2) HX.out.box (below_made w _) hgrow hne; have hc : w1.cell? ⟨g, 0, none⟩ = some v := cell_grown 0 HX.out.box (below_made w _) hgrow hne; have hc1 : w1.cell? ⟨g, 1, none⟩ = some (.slice A put.length c) := cell_grown 1 HX.out.box (below_made w _) hgrow hne; have hc2 : w1.cell? ⟨g, 2, none⟩ = some (.int .i64 d) := cell_grown 2 HX.out.box (below_made w _) hgrow hne))
      all_goals

        obtain ⟨hx1, ha1, b1⟩ := Box.push (p := ⟨2, 0, put⟩) HX.out (by decide) (by decide) HA.out (below_made w _) hown1 hgrow
        have HO1 := Lib.hid (HOS.out.init.push (n := ps.length + 1) (cap := cap) HOS.out.last hat (HS.out _ (by omega)))
        have HR1 := Lib.hid (push_fr HOS.out.init (below_made w _) hgrow (.slice (some ⟨gg, 0, none⟩) (ps.length + 1) cap))
        clear hown1 hgrow hat hlt hlo hne lg c0 c1 c2 f0 f1 f2
        have HX1 := Lib.hid hx1
        have HA1 := Lib.hid ha1
        have HB1 := Lib.hid b1
        clear hx1 ha1 b1
        go_wp2_with fail
        clear hf hf1 hf2 hc hc1 hc2
        generalize (Value.slice (some ⟨gg, 0, none⟩) (ps.length + 1) cap) = v1 at *
        generalize w1.setCell ⟨g, 0, none⟩ v1 = W1 at *
        have c0 := HX1.out.cell0
        have c1 := HX1.out.cell1
        have c2 := HX1.out.cell2
        have f0 := HX1.out.free 0
        have f1 := HX1.out.free 1
        have f2 := HX1.out.free 2
        generalize hps : ps ++ [⟨2, 0, put⟩] = ps1 at *
        have hl1 : ps1.length ≤ 4294967297 := by rw [← hps]; simp; omega
        clear hps
        generalize us ++ [Value.slice A put.length c] = us1 at *
        have lg := HX1.out.lt
        have hlo : lo ≤ W1.heap.size := Nat.le_trans HX1.out.low (Nat.le_of_lt lg)
        have hne := own_far HX1.out.row HX1.out.box (by decide)
        go_region_law ((refine step_append_lies _ (by rfl) (.tmp 31) (.tmp 37) 104 (by rfl) lo 145 i0 _ 3 40 Tryz.underlying104 hi0 hz0 hz1 hz2 rfl (by omega) v1 ps1.length (cellsOf ps1 us1) (by rfl) ((HX1.out.row.alloc _).drew) ⟨W1.heap.size, 0, none⟩ 1 1 [.int .i64 3, .int .i64 d, .slice none 0 0] (by rfl) (by rfl) (World.news_of_block (cs := #[.int .i64 3, .int .i64 d, .slice none 0 0]) (t := 145) (fr := (0, 0)) (heap_alloc_new W1 _)) (by simp [Value.oneCell']) (by omega) (by unfold maxLen; omega) (by omega) (by simp; omega) (W1.heap.size + 1) (by simp) ?_; intro gg cap w1 hown1 hgrow hat hlt; have hf := free_grown (o := 0) HX1.out.box (below_made W1 _) hgrow hne; have hf1 := free_grown (o := 1) HX1.out.box (below_made W1 _) hgrow hne; have hf2 := free_grown (o := 2) HX1.out.box (below_made W1 _) hgrow hne; have hc : w1.cell? ⟨g, 0, none⟩ = some v1 := cell_grown 0 HX1.out.box (below_made W1 _) hgrow hne; have hc1 : w1.cell? ⟨g, 1, none⟩ = some (.slice A put.length c) := cell_grown 1 HX1.out.box (below_made W1 _) hgrow hne; have hc2 : w1.cell? ⟨g, 2, none⟩ = some (.int .i64 d) := cell_grown 2 HX1.out.box (below_made W1 _) hgrow hne))
        all_goals
          obtain ⟨hx2, ha2, b2⟩ := Box.push (p := ⟨3, d, []⟩) HX1.out (by decide) (by decide) (Apart.bare 3 d HA1.out) (below_made W1 _) hown1 hgrow
          have HO2 := Lib.hid (HO1.out.push (n := ps1.length + 1) (cap := cap) nil_own hat (HS.out _ (by have := HR1.out.size; omega)))
          have HR2 := Lib.hid (push_fr HO1.out (below_made W1 _) hgrow (.slice (some ⟨gg, 0, none⟩) (ps1.length + 1) cap))
          have HX2 := Lib.hid hx2
          have HA2 := Lib.hid ha2
          have HB2 := Lib.hid b2
          clear hx2 ha2 b2
          go_wp2
          go_end0
          obtain ⟨r1, r2, r3⟩ := HX2.out.clearS (by decide) (by decide) HA2.out HO2.out
          exact ⟨rfl, by rw [← HQ.out]; exact r1, HB1.out.trans (HB2.out.trans r2), HR1.out.trans (HR2.out.trans r3)⟩

    · have e2 : dropL d = [] := by simp [dropL]; omega
      rw [e2, List.append_nil]
      go_enter Tryz.func182, Tryz.ntmps182
      go_wp2_with fail
      have lg := HX.out.lt
      have hlo : lo ≤ w.heap.size := Nat.le_trans HX.out.low (Nat.le_of_lt lg)
      have hne := own_far HX.out.row HX.out.box (by decide)
      go_region_law ((refine step_append_lies _ (by rfl) (.tmp 12) (.tmp 18) 104 (by rfl) lo 145 i0 _ 3 40 Tryz.underlying104 hi0 hz0 hz1 hz2 rfl (by omega) v ps.length (cellsOf ps us) (by rfl) ((HX.out.row.alloc _).drew) ⟨w.heap.size, 0, none⟩ 1 1 [.int .i64 2, .int .i64 0, .slice A put.length c] (by rfl) (by rfl) (World.news_of_block (cs := #[.int .i64 2, .int .i64 0, .slice A put.length c]) (t := 145) (fr := (0, 0)) (heap_alloc_new w _)) (by simp [Value.oneCell']) (by omega) (by unfold maxLen; omega) (by omega) (by simp; omega) (w.heap.size + 1) (by simp) ?_; intro gg cap w1 hown1 hgrow hat hlt; have hf := free_grown (o := 0) HX.out.box (below_made w _) hgrow hne; have hf1 := free_grown (o := 1) HX.out.box (below_made w _) hgrow hne; have hf2 := free_grown (o := 2) HX.out.box (below_made w _) hgrow hne; have hc : w1.cell? ⟨g, 0, none⟩ = some v := cell_grown 0 HX.out.box (below_made w _) hgrow hne; have hc1 : w1.cell? ⟨g, 1, none⟩ = some (.slice A put.length c) := cell_grown 1 HX.out.box (below_made w _) hgrow hne; have hc2 : w1.cell? ⟨g, 2, none⟩ = some (.int .i64 d) := cell_grown 2 HX.out.box (below_made w _) hgrow hne))
      all_goals

        obtain ⟨hx1, ha1, b1⟩ := Box.push (p := ⟨2, 0, put⟩) HX.out (by decide) (by decide) HA.out (below_made w _) hown1 hgrow
        have HO2 := Lib.hid (HOS.out.init.push (n := ps.length + 1) (cap := cap) HOS.out.last hat (HS.out _ (by omega)))
        have HR2 := Lib.hid (push_fr HOS.out.init (below_made w _) hgrow (.slice (some ⟨gg, 0, none⟩) (ps.length + 1) cap))
        have HX2 := Lib.hid hx1
        have HA2 := Lib.hid ha1
        have HB2 := Lib.hid b1
        clear hx1 ha1 b1
        go_wp2
        go_end0
        obtain ⟨r1, r2, r3⟩ := HX2.out.clearS (by decide) (by decide) HA2.out HO2.out
        exact ⟨rfl, r1, HB2.out.trans r2, HR2.out.trans r3⟩

set_option maxHeartbeats 1600000 in
theorem implDrop_f (S : Nat → Prop) (lo g : Nat) (ps : List Pt) (put : List Int) (d n : Int) (w : World) (hb : BAtS S lo g 215 w ps put d) (hS : ∀ b, w.heap.size ≤ b → S b) (h0 : 0 ≤ d) (h1 : d ≤ 4611686018427387904) (h2 : 0 ≤ n) (h3 : n ≤ 1048576) :
    Calls Tryz.prog 181 #[.pointer (some ⟨g, 0, none⟩), .int .i64 n] w (BuiltS S lo g 215 w ps put (d + n)) := by
  obtain ⟨v, u, us, hx, ha, hos⟩ := hb
  have HS := Lib.hid hS
  have HOS := Lib.hid hos
  clear hS hos
  have c2 := hx.cell2
  have f2 := hx.free 2
  have HX := Lib.hid hx
  have HA := Lib.hid ha
  clear hx ha
  go_enter Tryz.func181, Tryz.ntmps181
  go_wp2
  go_end0
  obtain ⟨r1, r2, r3⟩ := HX.out.dropS (d' := d + n) (by decide) (by decide) HA.out HOS.out
  exact ⟨rfl, r1, r2, r3⟩

set_option maxHeartbeats 1600000 in
theorem implPut_f (S : Nat → Prop) (lo g : Nat) (ps : List Pt) (put : List Int) (d : Int) (A : Option Addr) (c : Nat) (zs : List Int) (w : World) (hb : BAtS S lo g 215 w ps put d) (hS : ∀ b, w.heap.size ≤ b → S b) (hr : Row (Value.int .i64) w w.heap.size A zs) (hp : put.length ≤ 4294967296) (hz : zs.length ≤ 4294967296) :
    Calls Tryz.prog 180 #[.pointer (some ⟨g, 0, none⟩), .slice A zs.length c] w (BuiltS S lo g 215 w ps (put ++ zs) d) := by
  obtain ⟨i0, hi0, hz0, hz1, hz2⟩ := info_parts ints_info
  obtain ⟨v, u, us, hx, ha, hos⟩ := hb
  have HS := Lib.hid hS
  have HOS := Lib.hid hos
  clear hS hos
  obtain ⟨Au, cu, rfl⟩ := own_form (ha.last hx.len)
  simp only at hx ha
  have c1 := hx.cell1
  have f1 := hx.free 1
  have ho := Lib.hid (ha.last hx.len)
  have hlo : lo ≤ w.heap.size := Nat.le_trans hx.low (Nat.le_of_lt hx.lt)
  have HX := Lib.hid hx
  have HA := Lib.hid ha
  clear hx ha
  by_cases hn : 0 < zs.length
  · obtain ⟨ad, rfl, hbk, hcs⟩ := hr hn
    have hcs' : ∀ j x, (zs.map (Value.int .i64))[j]? = some x → w.cell? (ad.add j) = some x := fun j x hx => by
      rw [List.getElem?_map] at hx
      obtain ⟨z, hz, rfl⟩ := Option.map_eq_some_iff.1 hx
      exact hcs j z hz
    have HC := Lib.hid hcs'
    clear hcs hcs' hr
    have hug := own_far ho.out HX.out.box (by decide)
    go_enter Tryz.func180, Tryz.ntmps180
    go_wp2_with (at_builtin; refine wpList_append_lies _ rfl (.tmp 8) (.tmp 9) 61 rfl lo 3 i0 (.int .i64 0) 1 8 Tryz.underlying61 hi0 hz0 hz1 hz2 rfl (by decide) (.slice Au put.length cu) put.length (put.map (Value.int .i64)) rfl ho.out ad zs.length c (zs.map (Value.int .i64)) rfl (by simp) HC.out (by simp [Value.oneCell']) (by omega) (by unfold maxLen; omega) (by omega) hlo w.heap.size rfl ?_; intro gg cap w1 hown1 hgrow hat hlt; have hf := free_grown (o := 1) HX.out.box (Below.refl _ _) hgrow hug; have hc : w1.cell? ⟨g, 1, none⟩ = some (.slice Au put.length cu) := cell_grown 1 HX.out.box (Below.refl _ _) hgrow hug)
    go_end0
    obtain ⟨r1, r2, r3⟩ := Box.moreS (put' := put ++ zs) HX.out (by decide) (by decide) HA.out (by simpa using hown1) hgrow (hat.elim (fun e => .inl (by rw [e]; rfl)) (fun e => .inr (by rw [← e]; rfl))) HOS.out (HS.out _ (Nat.le_refl _))
    exact ⟨rfl, r1, r2, r3⟩
  · have e0 : zs = [] := List.eq_nil_of_length_eq_zero (by omega)
    subst e0
    rw [List.append_nil]
    go_enter Tryz.func180, Tryz.ntmps180
    go_wp2_with (at_builtin; refine wpList_append_zero rfl (.tmp 8) (.tmp 9) 61 rfl lo 3 i0 1 Tryz.underlying61 hi0 (.slice Au put.length cu) put.length (put.map (Value.int .i64)) rfl ho.out A c rfl ?_)
    go_end0
    obtain ⟨r1, r2, r3⟩ := Box.moreS (put' := put) HX.out (by decide) (by decide) HA.out ho.out ⟨rfl, rfl, rfl, Nat.le_refl _, fun _ _ _ => rfl⟩ (.inl rfl) HOS.out (HS.out _ (Nat.le_refl _))
    exact ⟨rfl, r1, r2, r3⟩

theorem implDrop_any (lo g : Nat) (ps : List Pt) (put : List Int) (d n : Int) (w : World) (hb : BAt lo g 215 w ps put d) (h0 : 0 ≤ d) (h1 : d ≤ 4611686018427387904) (h2 : 0 ≤ n) (h3 : n ≤ 1048576) :
    Calls Tryz.prog 181 #[.pointer (some ⟨g, 0, none⟩), .int .i64 n] w (Built lo g 215 w ps put (d + n)) :=
  (implDrop_f (fun _ => True) lo g ps put d n w hb.all (fun _ _ => trivial) h0 h1 h2 h3).mono fun e w' h => h.any

theorem implPut_any (lo g : Nat) (ps : List Pt) (put : List Int) (d : Int) (A : Option Addr) (c : Nat) (zs : List Int) (w : World) (hb : BAt lo g 215 w ps put d) (hr : Row (Value.int .i64) w w.heap.size A zs) (hp : put.length ≤ 4294967296) (hz : zs.length ≤ 4294967296) :
    Calls Tryz.prog 180 #[.pointer (some ⟨g, 0, none⟩), .slice A zs.length c] w (Built lo g 215 w ps (put ++ zs) d) :=
  (implPut_f (fun _ => True) lo g ps put d A c zs w hb.all (fun _ _ => trivial) hr hp hz).mono fun e w' h => h.any

set_option maxHeartbeats 1600000 in
theorem implDone_f (S : Nat → Prop) (lo g : Nat) (ps : List Pt) (put : List Int) (d : Int) (w : World) (hb : BAtS S lo g 215 w ps put d) (hS : ∀ b, w.heap.size ≤ b → S b) (hl : ps.length ≤ 4294967296) (hp : put.length ≤ 4294967296) :
    Calls Tryz.prog 165 #[.pointer (some ⟨g, 0, none⟩)] w (GoneS S lo (ps ++ putL put ++ dropL d) w) := by
  go_enter Tryz.func165, Tryz.ntmps165
  go_wp2_with fail
  refine (implFlush_f S lo g ps put d w hb hS hl hp).mono ?_
  rintro e w1 ⟨rfl, ⟨v, us, hx, ha, hos⟩, b1, fr1⟩
  have HS := Lib.hid hS
  have HOS := Lib.hid hos
  have HR := Lib.hid fr1
  clear hS hos fr1
  obtain ⟨Av, cv, rfl⟩ := own_form hx.row
  have c0 := hx.cell0
  have HX := Lib.hid hx
  have HA := Lib.hid ha
  clear hx ha
  generalize ps ++ putL put ++ dropL d = q at *
  go_wp2
  go_ret
  exact ⟨_, us, rfl, HX.out.parts HA.out, b1, HR.out, HX.out.row, HX.out.len, HOS.out.2.1, HOS.out.2.2⟩

set_option maxRecDepth 100000 in
set_option maxHeartbeats 3200000 in
theorem implKeep_f (S : Nat → Prop) (lo g : Nat) (ps : List Pt) (put : List Int) (d n : Int) (w : World) (hb : BAtS S lo g 215 w ps put d) (hS : ∀ b, w.heap.size ≤ b → S b) (hl : ps.length ≤ 4294967296) (hp : put.length ≤ 4294967296) (hn : ¬ n = 0) (hn0 : 0 ≤ n) (hn1 : n ≤ 1048576)
    (hq : ∀ p ∈ ps ++ putL put ++ dropL d, 0 ≤ p.n ∧ p.n ≤ 4611686018427387904) (hql : (ps ++ putL put ++ dropL d).length ≤ 4294967298) :
    Calls Tryz.prog 179 #[.pointer (some ⟨g, 0, none⟩), .int .i64 n] w (FlushedS S lo g 215 w (keepTo (ps ++ putL put ++ dropL d) n)) := by
  obtain ⟨i0, hi0, hz0, hz1, hz2⟩ := info_parts part_info
  go_enter Tryz.func179, Tryz.ntmps179
  go_wp2_with fail
  refine (implFlush_f S lo g ps put d w hb hS hl hp).mono ?_
  rintro e w1 ⟨rfl, ⟨v, us, hx, ha, hos⟩, b1, fr1⟩
  have HS := Lib.hid hS
  have HOS := Lib.hid hos
  have HR := Lib.hid fr1
  clear hS hos fr1
  generalize ps ++ putL put ++ dropL d = q at *
  have c0 := hx.cell0
  have f0 := hx.free 0
  have hne := own_far hx.row hx.box (by decide)
  have hlo : lo ≤ w1.heap.size := Nat.le_trans hx.low (Nat.le_of_lt hx.lt)
  rcases q.eq_nil_or_concat with rfl | ⟨r, p, rfl⟩
  · obtain ⟨Av, cv, rfl⟩ := own_form hx.row
    have HX := Lib.hid hx
    have HA := Lib.hid ha
    clear hx ha
    go_wp2_with (at_builtin; refine wpList_append_lies _ rfl (.tmp 44) (.tmp 47) 104 rfl lo 145 i0 _ 3 40 Tryz.underlying104 hi0 hz0 hz1 hz2 rfl (by omega) (.slice Av 0 cv) 0 (cellsOf [] us) rfl (HX.out.row.alloc _) ⟨w1.heap.size, 0, none⟩ 1 1 [.int .i64 1, .int .i64 n, .slice none 0 0] rfl rfl (World.news_of_block (cs := #[.int .i64 1, .int .i64 n, .slice none 0 0]) (t := 145) (fr := (0, 0)) (heap_alloc_new w1 _)) (by simp [Value.oneCell']) (by omega) (by unfold maxLen; omega) (by omega) (by simp; omega) (w1.heap.size + 1) (by simp) ?_; intro gg cap w2 hown1 hgrow hat hlt; have hf := free_grown (o := 0) HX.out.box (below_new w1 _) hgrow hne; have hc : w2.cell? ⟨g, 0, none⟩ = some (.slice Av 0 cv) := cell_grown 0 HX.out.box (below_new w1 _) hgrow hne)
    go_end0
    obtain ⟨hx2, ha2, b2⟩ := Box.push (p := ⟨1, n, []⟩) HX.out (by decide) (by decide) (Apart.bare 1 n HA.out) (below_new w1 _) hown1 hgrow
    refine ⟨rfl, ?_, b1.trans b2, HR.out.trans (push_fr HOS.out (below_new w1 _) hgrow _)⟩
    rw [keepTo_nil]
    exact ⟨_, _, hx2, ha2, HOS.out.push nil_own hat (HS.out _ (by have := HR.out.size; omega))⟩
  · rw [List.concat_eq_append] at *
    have hrl : (r ++ [p]).length = r.length + 1 := by simp
    rw [hrl] at hql
    have hp0 := hq p (by simp)
    clear hq
    rcases hx.row.2 with ⟨_, h0⟩ | ⟨gv, cap0, cur, rfl, hgv, hhv, hcap, hcap2, _, _⟩
    · simp at h0
    rw [hrl] at c0 hne hcap hx
    have hrow : w1.ownsRow lo 145 3 (.slice (some ⟨gv, 0, none⟩) (r.length + 1) cap0) (r.length + 1) (cellsOf (r ++ [p]) us) := by have := hx.row; rwa [hrl] at this
    have k0 : w1.cell? ⟨gv, r.length * 3, none⟩ = some (.int .i64 p.kind) := by
      have := hrow.cellAt (r.length * 3) (by omega)
      obtain ⟨u, hu⟩ := idx_some (l := us) (i := r.length) (by rw [hx.len]; simp)
      rw [this, (cellsOf_at (r ++ [p]) us r.length p u (by simp) hu).1]
    have k1 : w1.cell? ⟨gv, r.length * 3 + 1, none⟩ = some (.int .i64 p.n) := by
      have := hrow.cellAt (r.length * 3 + 1) (by omega)
      obtain ⟨u, hu⟩ := idx_some (l := us) (i := r.length) (by rw [hx.len]; simp)
      rw [this, (cellsOf_at (r ++ [p]) us r.length p u (by simp) hu).2.1]
    have fv := hrow.frozenAt (r.length * 3 + 1)
    have HRW := Lib.hid hrow
    clear hrow
    have HX := Lib.hid hx
    have HA := Lib.hid ha
    clear hx ha hhv
    by_cases hk : p.kind = 1
    · go_wp2
      go_end0
      obtain ⟨hx2, ha2, b2⟩ := Box.setN (b := p.n + n) HX.out (by decide) (by decide) HA.out
      refine ⟨rfl, ?_, b1.trans b2, HR.out.trans (setN_fr HOS.out _)⟩
      rw [keepTo_t n hk]
      exact ⟨_, _, hx2, ha2, HOS.out⟩
    · go_wp2_with (at_builtin; refine wpList_append_lies _ rfl (.tmp 44) (.tmp 47) 104 rfl lo 145 i0 _ 3 40 Tryz.underlying104 hi0 hz0 hz1 hz2 rfl (by omega) (.slice (some ⟨gv, 0, none⟩) (r.length + 1) cap0) (r.length + 1) (cellsOf (r ++ [p]) us) rfl (HRW.out.alloc _) ⟨w1.heap.size, 0, none⟩ 1 1 [.int .i64 1, .int .i64 n, .slice none 0 0] rfl rfl (World.news_of_block (cs := #[.int .i64 1, .int .i64 n, .slice none 0 0]) (t := 145) (fr := (0, 0)) (heap_alloc_new w1 _)) (by simp [Value.oneCell']) (by omega) (by unfold maxLen; omega) (by omega) (by simp; omega) (w1.heap.size + 1) (by simp) ?_; intro gg cap w2 hown1 hgrow hat hlt; have hf := free_grown (o := 0) HX.out.box (below_new w1 _) hgrow hne; have hc : w2.cell? ⟨g, 0, none⟩ = some (.slice (some ⟨gv, 0, none⟩) (r.length + 1) cap0) := cell_grown 0 HX.out.box (below_new w1 _) hgrow hne)
      go_end0
      obtain ⟨hx2, ha2, b2⟩ := Box.push (p := ⟨1, n, []⟩) HX.out (by decide) (by decide) (Apart.bare 1 n HA.out) (below_new w1 _) (by rw [hrl]; exact hown1) hgrow
      rw [hrl] at hx2 ha2 b2
      refine ⟨rfl, ?_, b1.trans b2, HR.out.trans (push_fr HOS.out (below_new w1 _) hgrow _)⟩
      rw [keepTo_f n hk]
      exact ⟨_, _, hx2, ha2, HOS.out.push nil_own hat (HS.out _ (by have := HR.out.size; omega))⟩

theorem implDone_any (lo g : Nat) (ps : List Pt) (put : List Int) (d : Int) (w : World) (hb : BAt lo g 215 w ps put d) (hl : ps.length ≤ 4294967296) (hp : put.length ≤ 4294967296) :
    Calls Tryz.prog 165 #[.pointer (some ⟨g, 0, none⟩)] w (Gone lo (ps ++ putL put ++ dropL d) w) :=
  (implDone_f (fun _ => True) lo g ps put d w hb.all (fun _ _ => trivial) hl hp).mono fun e w' h => h.any

theorem implKeep_any (lo g : Nat) (ps : List Pt) (put : List Int) (d n : Int) (w : World) (hb : BAt lo g 215 w ps put d) (hl : ps.length ≤ 4294967296) (hp : put.length ≤ 4294967296) (hn : ¬ n = 0) (hn0 : 0 ≤ n) (hn1 : n ≤ 1048576)
    (hq : ∀ p ∈ ps ++ putL put ++ dropL d, 0 ≤ p.n ∧ p.n ≤ 4611686018427387904) (hql : (ps ++ putL put ++ dropL d).length ≤ 4294967298) :
    Calls Tryz.prog 179 #[.pointer (some ⟨g, 0, none⟩), .int .i64 n] w (Flushed lo g 215 w (keepTo (ps ++ putL put ++ dropL d) n)) :=
  (implKeep_f (fun _ => True) lo g ps put d n w hb.all (fun _ _ => trivial) hl hp hn hn0 hn1 hq hql).mono fun e w' h => h.any

set_option maxHeartbeats 1600000 in
theorem implKeep_zero (g : Nat) (w : World) : Calls Tryz.prog 179 #[.pointer (some ⟨g, 0, none⟩), .int .i64 0] w fun e w' => e = .returned (.tuple #[]) ∧ w = w' := by
  go_enter Tryz.func179, Tryz.ntmps179
  go_wp2
  first | go_end0 | (refine bodyPost_ret (results_none rfl _ _ _) rfl ?_)
  exact ⟨rfl, rfl⟩
end Go.Proofs.YtamainhocghlgaaGreatDoor.low

