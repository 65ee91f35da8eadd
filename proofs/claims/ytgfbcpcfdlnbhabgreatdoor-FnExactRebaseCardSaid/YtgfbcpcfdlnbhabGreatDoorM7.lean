/-
  Texts that the proofs over this seat rest on, one behind the other (7 of 7).
-/
import Derived.Test.YtgfbcpcfdlnbhabGreatDoorM4
import Derived.Test.YtgfbcpcfdlnbhabGreatDoorM5
import Derived.Test.YtgfbcpcfdlnbhabGreatDoorM6

/-
  Contracts of impl.checkStored, Fetch, Missed, rebase and Rebase. Written by mkimp9.py.
-/
namespace Go.Proofs.YtgfbcpcfdlnbhabGreatDoor.low
open Go.RowKit
set_option linter.unusedVariables false

/-- the error that says a code -/
def errV (k : Int) : Value := if k = 0 then .nilIface else .iface 113 (.int .i64 k)
theorem codeOf_any (k : Int) (w : World) (hg : ET w) : Calls Tryz.prog 46 #[errV k] w (Nums1 k w) := by
  by_cases h : k = 0
  · subst h
    exact codeOf_nil w
  · have e : errV k = .iface 113 (.int .i64 k) := by unfold errV; rw [if_neg h]
    rw [e]
    exact codeOf_hit k w hg
def ErrPost (k : Int) (w : World) (e : Ending) (w' : World) : Prop := e = .returned (errV k) ∧ Below w.heap.size w w'
def ResE (d : Dat) (k : Int) (w : World) (e : Ending) (w' : World) : Prop := ∃ v, e = .returned (.tuple #[v, errV k]) ∧ Own w.heap.size w'.heap.size w' d v ∧ Below w.heap.size w w'
set_option maxRecDepth 100000 in
set_option maxHeartbeats 3200000 in
theorem checkStored_d (v : Value) (x : Do) (r : Int) (w : World) (h : RdC w w.heap.size (datDo x) v) (hs : SmDo x) : Calls Tryz.prog 59 #[v, .int .i64 r] w (ErrPost (checkCode x r) w) := by
  have HR := Lib.hid h
  obtain ⟨A2, c2, A3, c3, A4, c4, rfl, r2, r3, -⟩ := aggDo h
  have R3 := Lib.hid r3
  have hl := hs.list.len
  have hcl : x.list.length ≤ c3 := RdC.cap_le r3
  clear h r2 r3
  have HM := Lib.hid (Ms.start w)
  replace HM := Lib.hid (HM.out.new #[.string x.name, .int .i64 x.from_, .slice A2 x.text.length c2, .slice A3 x.list.length c3, .slice A4 x.seen.length c4] 36)
  go_enter Tryz.func59, Tryz.ntmps59
  go_wp2_with fail
  obtain ⟨W1, hW, hm⟩ := HM.out.name
  rw [← hW]
  replace HM := Lib.hid hm
  clear hm hW
  refine (implDocOk_d _ x _ (HM.out.arg HR.out) hs).mono ?_
  rintro e' W2 ⟨rfl, b'⟩
  replace HM := Lib.hid (HM.out.past b')
  clear b'
  cases hd : docB x
  · have HN := Lib.hid (show checkCode x r = 1 by unfold checkCode; simp [hd])
    go_wp2
    go_ret
    exact ⟨by rw [HN.out]; rfl, HM.out.bl⟩
  obtain ⟨kx0, kx1, kx2, kx3, kx4⟩ := HM.out.c5 0 rfl
  go_wp2_with fail
  clear kx0 kx1 kx2 kx3 kx4
  refine (implHeadRev_d _ x _ (HM.out.arg HR.out) hs).mono ?_
  rintro e' W3 ⟨rfl, b'⟩
  replace HM := Lib.hid (HM.out.past b')
  clear b'
  by_cases h2 : headRevT x < r
  · have HN := Lib.hid (show checkCode x r = 2 by unfold checkCode; simp [hd, h2])
    have g2 : decide (headRevT x < r) = true := decide_eq_true h2
    go_wp2
    go_ret
    exact ⟨by rw [HN.out]; rfl, HM.out.bl⟩
  have g2 : decide (headRevT x < r) = false := decide_eq_false h2
  by_cases h3 : r < x.from_
  · have HN := Lib.hid (show checkCode x r = 3 by unfold checkCode; simp [hd, h2, h3])
    have g3 : decide (r < x.from_) = true := decide_eq_true h3
    obtain ⟨kx0, kx1, kx2, kx3, kx4⟩ := HM.out.c5 0 rfl
    go_wp2
    go_ret
    exact ⟨by rw [HN.out]; rfl, HM.out.bl⟩
  · have HN := Lib.hid (show checkCode x r = 0 by unfold checkCode; simp [hd, h2, h3])
    have g3 : decide (r < x.from_) = false := decide_eq_false h3
    obtain ⟨kx0, kx1, kx2, kx3, kx4⟩ := HM.out.c5 0 rfl
    go_wp2
    go_ret
    exact ⟨by rw [HN.out]; rfl, HM.out.bl⟩
set_option maxRecDepth 100000 in
set_option maxHeartbeats 3200000 in
theorem implFetch_d (v : Value) (x : Do) (r : Int) (w : World) (h : RdC w w.heap.size (datDo x) v) (hs : SmDo x) (hg : ET w) : Calls Tryz.prog 22 #[v, .int .i64 r] w (ResN (encEns (fetchT x r)) (checkCode x r) w) := by
  have HR := Lib.hid h
  obtain ⟨A2, c2, A3, c3, A4, c4, rfl, r2, r3, -⟩ := aggDo h
  have R3 := Lib.hid r3
  have hl := hs.list.len
  have hcl : x.list.length ≤ c3 := RdC.cap_le r3
  clear h r2 r3
  have HM := Lib.hid (Ms.start w)
  replace HM := Lib.hid (HM.out.new #[.string x.name, .int .i64 x.from_, .slice A2 x.text.length c2, .slice A3 x.list.length c3, .slice A4 x.seen.length c4] 36)
  have HG := Lib.hid hg
  clear hg
  go_enter Tryz.func22, Tryz.ntmps22
  go_wp2_with fail
  obtain ⟨W1, hW, hm⟩ := HM.out.name
  rw [← hW]
  replace HM := Lib.hid hm
  clear hm hW
  refine (checkStored_d _ x r _ (HM.out.arg HR.out) hs).mono ?_
  rintro e' W2 ⟨rfl, b'⟩
  replace HM := Lib.hid (HM.out.past b')
  clear b'
  by_cases hk : checkCode x r = 0
  rotate_left
  · have HN := Lib.hid (check_no hk rfl)
    have HE := Lib.hid (show errV (checkCode x r) = .iface 113 (.int .i64 (checkCode x r)) by unfold errV; rw [if_neg hk])
    clear hk
    rw [HE.out]
    go_wp2_with fail
    refine (codeOf_hit _ _ (HG.out.past rfl HM.out.bl)).mono ?_
    rintro e' W3 ⟨rfl, b'⟩
    replace HM := Lib.hid (HM.out.past b')
    clear b'
    go_wp2
    go_ret2
    rw [HN.out.2]
    exact (HM.out.nil 92 3).resN _
  rw [show errV (checkCode x r) = .nilIface by unfold errV; rw [if_pos hk]]
  obtain ⟨hd, h1, h2⟩ := check_ok hk
  obtain ⟨f0, f1, f2, f3⟩ := docB_of hd
  rw [f3] at h2
  obtain ⟨m, hm⟩ : ∃ m : Nat, r = x.from_ + (m : Int) := ⟨(r - x.from_).toNat, by omega⟩
  subst hm
  have hm1 : m ≤ x.list.length := by omega
  have HN := Lib.hid (And.intro hk (check_fetch hk))
  have g3 : x.from_ + (m : Int) - x.from_ = (m : Int) := by omega
  have F3 := Lib.hid f3
  clear f3 hk
  by_cases hlast : m = x.list.length
  · have h00 : x.list.length - m = 0 := by omega
    have H0 := Lib.hid h00
    have HLA := Lib.hid hlast
    clear h00 hlast
    by_cases hcap : m = c3
    · subst hcap
      obtain ⟨kx0, kx1, kx2, kx3, kx4⟩ := HM.out.c5 0 rfl
      go_wp2_with fail
      clear kx0 kx1 kx2 kx3 kx4
      try rw [H0.out]
      refine (implCopyEntries_d _ (x.list.drop m) _ (HM.out.arg (rdEns_drop0 H0.out)) (smEns_drop hs.list m)).mono ?_
      rintro e' W4 ⟨v', rfl, o', b'⟩
      obtain ⟨Al, nl, cl, rfl⟩ := sliceV o'.read
      obtain ⟨bl, hm⟩ := HM.out.got o' b'
      clear o' b'
      replace HM := Lib.hid hm
      clear hm
      go_wp2
      go_ret2
      rw [HN.out.1, HN.out.2]
      exact HM.out.resN 0
    · have hcap2 : ¬ c3 = m := fun e => hcap e.symm
      obtain ⟨kx0, kx1, kx2, kx3, kx4⟩ := HM.out.c5 0 rfl
      go_wp2_with fail
      clear kx0 kx1 kx2 kx3 kx4
      refine (implCopyEntries_d _ (x.list.drop m) _ (HM.out.arg (rdEns_dropF H0.out)) (smEns_drop hs.list m)).mono ?_
      rintro e' W5 ⟨v', rfl, o', b'⟩
      obtain ⟨Al, nl, cl, rfl⟩ := sliceV o'.read
      obtain ⟨bl, hm⟩ := HM.out.got o' b'
      clear o' b'
      replace HM := Lib.hid hm
      clear hm
      go_wp2
      go_ret2
      rw [HN.out.1, HN.out.2]
      exact HM.out.resN 0
  have hlt : m < x.list.length := by omega
  have hcap : ¬ m = c3 := by omega
  have hcap2 : ¬ c3 = m := fun e => hcap e.symm
  obtain ⟨b0, off0, e0, A50, c50, rfl, -, -, -⟩ := atEns R3.out (i := 0) (by omega)
  obtain ⟨kx0, kx1, kx2, kx3, kx4⟩ := HM.out.c5 0 rfl
  go_wp2_with fail
  clear kx0 kx1 kx2 kx3 kx4
  refine (implCopyEntries_d _ (x.list.drop m) _ (HM.out.arg (by have h := RdC.drop_ m R3.out; rw [← List.map_drop] at h; exact h)) (smEns_drop hs.list m)).mono ?_
  rintro e' W6 ⟨v', rfl, o', b'⟩
  obtain ⟨Al, nl, cl, rfl⟩ := sliceV o'.read
  obtain ⟨bl, hm⟩ := HM.out.got o' b'
  clear o' b'
  replace HM := Lib.hid hm
  clear hm
  go_wp2
  go_ret2
  rw [HN.out.1, HN.out.2]
  exact HM.out.resN 0
set_option maxRecDepth 100000 in
set_option maxHeartbeats 3200000 in
theorem implMissed_d (v : Value) (x : Do) (r : Int) (w : World) (h : RdC w w.heap.size (datDo x) v) (hs : SmDo x) (hg : ET w) : Calls Tryz.prog 27 #[v, .int .i64 r] w (Nums1 (missedT x r) w) := by
  have HR := Lib.hid h
  obtain ⟨A2, c2, A3, c3, A4, c4, rfl, r2, r3, -⟩ := aggDo h
  have R3 := Lib.hid r3
  have hl := hs.list.len
  have hcl : x.list.length ≤ c3 := RdC.cap_le r3
  clear h r2 r3
  have HM := Lib.hid (Ms.start w)
  replace HM := Lib.hid (HM.out.new #[.string x.name, .int .i64 x.from_, .slice A2 x.text.length c2, .slice A3 x.list.length c3, .slice A4 x.seen.length c4] 36)
  have HG := Lib.hid hg
  clear hg
  go_enter Tryz.func27, Tryz.ntmps27
  go_wp2_with fail
  obtain ⟨W1, hW, hm⟩ := HM.out.name
  rw [← hW]
  replace HM := Lib.hid hm
  clear hm hW
  refine (implFetch_d _ x r _ (HM.out.arg HR.out) hs (HG.out.past rfl HM.out.bl)).mono ?_
  rintro e' W2 ⟨v', rfl, o', b'⟩
  obtain ⟨Al, cl, rfl⟩ := sliceEns o'.read
  clear o'
  replace HM := Lib.hid (HM.out.past b')
  clear b'
  by_cases hk : checkCode x r = 0
  · have HN := Lib.hid (show missedT x r = ((fetchT x r).length : Int) by unfold missedT; rw [if_pos hk])
    have g : (checkCode x r != 0) = false := by simp [hk]
    clear hk
    go_wp2
    go_ret
    exact ⟨by rw [HN.out]; rfl, HM.out.bl⟩
  · have HN := Lib.hid (show missedT x r = -1 by unfold missedT; rw [if_neg hk])
    have g : (checkCode x r != 0) = true := by simpa using hk
    clear hk
    go_wp2
    go_ret
    exact ⟨by rw [HN.out]; rfl, HM.out.bl⟩
theorem implOpOk_r (v : Value) (ps : List Pt) (w : World) (h : RdC w w.heap.size (encPs ps) v) (hs : SmP ps) : Calls Tryz.prog 74 #[v] w (Tells (okOp ps) w) := by
  obtain ⟨A, c, rfl, hr, _⟩ := parts_rd h
  exact implOpOk_any A c ps w hr (by have := hs.1; omega) hs.all4
theorem implOpFrom_r (v : Value) (ps : List Pt) (w : World) (h : RdC w w.heap.size (encPs ps) v) (hs : SmP ps) : Calls Tryz.prog 76 #[v] w (Nums1 (sumK ps + sumD ps) w) := by
  obtain ⟨A, c, rfl, hr, _⟩ := parts_rd h
  exact implOpFrom_any A c ps w hr (by have := hs.1; omega) hs.all4
theorem reb_op {x : Do} {base : Int} {o : List Pt} (h : okOp o = false) : rebCode x base o = 1 := by
  unfold rebCode
  rw [h]
  split <;> simp
theorem reb_check {x : Do} {base : Int} {o : List Pt} (h : okOp o = true) (hk : ¬ checkCode x base = 0) : rebCode x base o = checkCode x base := by
  unfold checkCode at hk ⊢
  unfold rebCode
  rw [h]
  split
  · rfl
  · rename_i h1
    rw [if_neg h1] at hk
    rw [if_neg (by simp)]
    split
    · rfl
    · rename_i h2
      rw [if_neg h2] at hk
      split
      · rfl
      · rename_i h3
        rw [if_neg h3] at hk
        exact absurd rfl hk
theorem reb_rest {x : Do} {base : Int} {o : List Pt} (h : okOp o = true) (hk : checkCode x base = 0) : textAtB x base = true ∧ rebCode x base o = if ¬ sumK o + sumD o = ((textAtT x base).length : Int) then 1 else if pastB (opsSinceT x base) o = false then 5 else 0 := by
  obtain ⟨h1, h2, h3⟩ := check_ok hk
  have hb : textAtB x base = true := by unfold textAtB; rw [h1, inB_t ⟨h2, h3⟩]; rfl
  refine ⟨hb, ?_⟩
  unfold rebCode
  rw [h1, h, if_neg (by simp), if_neg (by simp), if_neg (by omega), if_neg (by omega)]
  split
  · rfl
  · rename_i h4
    split
    · rfl
    · rename_i h5
      rw [past_fits h1 hb h (by simpa using h4) (by simpa using h5), if_neg (by simp)]
set_option maxRecDepth 100000 in
set_option maxHeartbeats 3200000 in
theorem implRebaseE_d (v v2 : Value) (x : Do) (base : Int) (o : List Pt) (w : World) (h : RdC w w.heap.size (datDo x) v) (h2 : RdC w w.heap.size (encPs o) v2) (hs : SmDo x) (hs2 : SmP o) : Calls Tryz.prog 45 #[v, .int .i64 base, v2] w (ResE (encPs (rebOp x base o)) (rebCode x base o) w) := by
  have HR := Lib.hid h
  have HO := Lib.hid h2
  obtain ⟨A2, c2, A3, c3, A4, c4, rfl, -, -, -⟩ := aggDo h
  obtain ⟨Ao, co, rfl⟩ := sliceP h2
  clear h h2
  have hl := hs.list.len
  have HM := Lib.hid (Ms.start w)
  replace HM := Lib.hid (HM.out.new #[.string x.name, .int .i64 x.from_, .slice A2 x.text.length c2, .slice A3 x.list.length c3, .slice A4 x.seen.length c4] 36)
  go_enter Tryz.func45, Tryz.ntmps45
  go_wp2_with fail
  obtain ⟨W1, hW, hm⟩ := HM.out.name
  rw [← hW]
  replace HM := Lib.hid hm
  clear hm hW
  refine (implOpOk_r _ o _ (HM.out.arg HO.out) hs2).mono ?_
  rintro e' W2 ⟨rfl, b'⟩
  replace HM := Lib.hid (HM.out.past b')
  clear b'
  cases ho : okOp o
  · have HN := Lib.hid (reb_no (x := x) (base := base) (o := o) (k := 1) (by decide) (reb_op ho))
    go_wp2
    go_ret2
    rw [HN.out.1, HN.out.2]
    exact ⟨_, by first | rfl | (rw [show errV 1 = .iface 113 (.int .i64 1) from rfl]; rfl), (HM.out.nil 74 3).own (i := 0) rfl, HM.out.bl⟩
  obtain ⟨kx0, kx1, kx2, kx3, kx4⟩ := HM.out.c5 0 rfl
  go_wp2_with fail
  clear kx0 kx1 kx2 kx3 kx4
  refine (checkStored_d _ x base _ (HM.out.arg HR.out) hs).mono ?_
  rintro e' W3 ⟨rfl, b'⟩
  replace HM := Lib.hid (HM.out.past b')
  clear b'
  by_cases hk : checkCode x base = 0
  rotate_left
  · have HN := Lib.hid (reb_no (x := x) (base := base) (o := o) hk (reb_check ho hk))
    have HE := Lib.hid (show errV (checkCode x base) = .iface 113 (.int .i64 (checkCode x base)) by unfold errV; rw [if_neg hk])
    clear hk
    rw [HE.out]
    go_wp2
    go_ret2
    rw [HN.out.1, HN.out.2]
    exact ⟨_, by rw [HE.out]; rfl, (HM.out.nil 74 3).own (i := 0) rfl, HM.out.bl⟩
  obtain ⟨hb, hr⟩ := reb_rest ho hk
  have HB := Lib.hid hb
  have HRB := Lib.hid hr
  rw [show errV (checkCode x base) = .nilIface by unfold errV; rw [if_pos hk]]
  have HK := Lib.hid hk
  clear hb hr hk
  obtain ⟨kx0, kx1, kx2, kx3, kx4⟩ := HM.out.c5 0 rfl
  go_wp2_with fail
  clear kx0 kx1 kx2 kx3 kx4
  refine (implTextAt_d _ x _ _ (HM.out.arg HR.out) hs).mono ?_
  rintro e' W4 ⟨v', rfl, o', b'⟩
  obtain ⟨At, ct, rfl⟩ := sliceI o'.read
  obtain ⟨bt, hm⟩ := HM.out.got o' b'
  clear o' b'
  replace HM := Lib.hid hm
  clear hm
  go_wp2_with fail
  refine (implOpFrom_r _ o _ (HM.out.arg HO.out) hs2).mono ?_
  rintro e' W5 ⟨rfl, b'⟩
  replace HM := Lib.hid (HM.out.past b')
  clear b'
  by_cases h5 : sumK o + sumD o = ((textAtT x base).length : Int)
  rotate_left
  · have HN := Lib.hid (reb_no (x := x) (base := base) (o := o) (k := 1) (by decide) (by rw [HRB.out, if_pos h5]))
    have g5 : ((sumK o + sumD o) != ((textAtT x base).length : Int)) = true := by simpa using h5
    go_wp2
    go_ret2
    rw [HN.out.1, HN.out.2]
    exact ⟨_, by first | rfl | (rw [show errV 1 = .iface 113 (.int .i64 1) from rfl]; rfl), (HM.out.nil 74 3).own (i := 0) rfl, HM.out.bl⟩
  have g5 : ((sumK o + sumD o) != ((textAtT x base).length : Int)) = false := by simpa using h5
  obtain ⟨kx0, kx1, kx2, kx3, kx4⟩ := HM.out.c5 1 rfl
  go_wp2_with fail
  clear kx0 kx1 kx2 kx3 kx4
  refine (implOpsSince_d _ x _ _ (HM.out.arg HR.out) hs).mono ?_
  rintro e' W6 ⟨v', rfl, o', b'⟩
  obtain ⟨Al, nl, cl, rfl⟩ := sliceV o'.read
  obtain ⟨bl, hm⟩ := HM.out.got o' b'
  clear o' b' g5
  replace HM := Lib.hid hm
  clear hm
  go_wp2_with fail
  refine (implPast_d _ _ (opsSinceT x base) o _ (HM.out.read (i := 0) rfl) (HM.out.arg HO.out) (opsSince_pp (check_ok HK.out).1) hs2).mono ?_
  rintro e' W7 ⟨v', rfl, o', b'⟩
  obtain ⟨Aq, nq, cq, rfl⟩ := sliceV o'.read
  obtain ⟨bq, hm⟩ := HM.out.got o' b'
  clear o' b'
  replace HM := Lib.hid hm
  clear hm
  cases hp : pastB (opsSinceT x base) o
  · have HN := Lib.hid (reb_no (x := x) (base := base) (o := o) (k := 5) (by decide) (by rw [HRB.out, if_neg (by simpa using h5), if_pos hp]))
    go_wp2
    go_ret2
    rw [HN.out.1, HN.out.2]
    exact ⟨_, by first | rfl | (rw [show errV 5 = .iface 113 (.int .i64 5) from rfl]; rfl), (HM.out.nil 74 3).own (i := 0) rfl, HM.out.bl⟩
  have HN := Lib.hid (reb_yes (show rebCode x base o = 0 by rw [HRB.out, if_neg (by simpa using h5), if_neg (by simp [hp])]))
  go_wp2
  go_ret2
  rw [HN.out.1, HN.out.2]
  exact ⟨_, rfl, HM.out.own (i := 0) rfl, HM.out.bl⟩
set_option maxRecDepth 100000 in
set_option maxHeartbeats 3200000 in
theorem implRebase_d (v v2 : Value) (x : Do) (base : Int) (o : List Pt) (w : World) (h : RdC w w.heap.size (datDo x) v) (h2 : RdC w w.heap.size (encPs o) v2) (hs : SmDo x) (hs2 : SmP o) (hg : ET w) : Calls Tryz.prog 12 #[v, .int .i64 base, v2] w (ResN (encPs (rebOp x base o)) (rebCode x base o) w) := by
  have HR := Lib.hid h
  have HO := Lib.hid h2
  have HG := Lib.hid hg
  obtain ⟨A2, c2, A3, c3, A4, c4, rfl, -, -, -⟩ := aggDo h
  obtain ⟨Ao, co, rfl⟩ := sliceP h2
  clear h h2 hg
  have hl := hs.list.len
  have HM := Lib.hid (Ms.start w)
  replace HM := Lib.hid (HM.out.new #[.string x.name, .int .i64 x.from_, .slice A2 x.text.length c2, .slice A3 x.list.length c3, .slice A4 x.seen.length c4] 36)
  go_enter Tryz.func12, Tryz.ntmps12
  go_wp2_with fail
  obtain ⟨W1, hW, hm⟩ := HM.out.name
  rw [← hW]
  replace HM := Lib.hid hm
  clear hm hW
  refine (implRebaseE_d _ _ x base o _ (HM.out.arg HR.out) (HM.out.arg HO.out) hs hs2).mono ?_
  rintro e' W2 ⟨v', rfl, o', b'⟩
  obtain ⟨Aq, nq, cq, rfl⟩ := sliceV o'.read
  obtain ⟨bq, hm⟩ := HM.out.got o' b'
  clear o' b'
  replace HM := Lib.hid hm
  clear hm
  generalize hE : errV (rebCode x base o) = E
  have HE := Lib.hid hE
  clear hE
  go_wp2_with fail
  rw [← HE.out]
  refine (codeOf_any _ _ (HG.out.past rfl HM.out.bl)).mono ?_
  rintro e' W3 ⟨rfl, b'⟩
  replace HM := Lib.hid (HM.out.past b')
  clear b'
  go_wp2
  go_ret2
  exact HM.out.resN _
end Go.Proofs.YtgfbcpcfdlnbhabGreatDoor.low

