/-
  Texts that the proofs over this seat rest on, one behind the other (7 of 8).
-/
import Derived.Test.YtglklgnggkenhaaGreatDoorMS6
import Derived.Test.YtglklgnggkenhaaGreatDoorMS4
import Derived.Test.YtglklgnggkenhaaGreatDoorMS5
import Derived.Test.YtglklgnggkenhaaGreatDoorMS3
set_option maxHeartbeats 12800000
set_option maxRecDepth 1000000
namespace Go.Proofs.YtglklgnggkenhaaGreatDoor.low
open Go.RowKit
set_option linter.unusedVariables false
theorem partsB_all {ps : List Pt} (h : okOp ps = true) : ∀ x ∈ ps, okPt x = true := by
 have h1 := okOp_partsB h
 unfold partsB okPs at h1
 rw [Bool.and_eq_true] at h1
 exact List.all_eq_true.1 h1.1
theorem implTransform_t (A B : Option Addr) (ca cb : Nat) (a b : List Pt) (w : World) (h : RdC w w.heap.size (encPs a) (.slice A a.length ca)) (h' : RdC w w.heap.size (encPs b) (.slice B b.length cb)) (hs : SmP a) (hs' : SmP b) (hoa : okOp a = true) (hob : okOp b = true) (hbal : sumK a + sumD a = sumK b + sumD b) :
  Calls Tryz.prog 138 #[.slice A a.length ca, .slice B b.length cb] w (Res2B (encPs (xformA a b)) (encPs (xformB a b)) (xformOk a b) w) := by
 obtain ⟨A_, ca_, eA, hra, _⟩ := parts_rd h
 obtain ⟨rfl, rfl⟩ : A = A_ ∧ ca = ca_ := by injection eA with e1 _ e3; exact ⟨e1, e3⟩
 obtain ⟨B_, cb_, eB, hrb, _⟩ := parts_rd h'
 obtain ⟨rfl, rfl⟩ : B = B_ ∧ cb = cb_ := by injection eB with e1 _ e3; exact ⟨e1, e3⟩
 clear eA eB
 have hlA := hs.1
 have hlB := hs'.1
 have hne : ((sumK a + sumD a) != (sumK b + sumD b)) = false := by simp [hbal]
 have HI := Lib.hid (xinv0 hoa hob hbal)
 have HOA := Lib.hid hoa
 have HOB := Lib.hid hob
 have HBAL := Lib.hid hbal
 clear hbal
 go_enter Tryz.func138, Tryz.ntmps138
 go_wp2_with fail
 refine (implOpOk_any A ca a _ hra (by omega) hs.all4).mono ?_
 rintro e w1 ⟨rfl, b1⟩
 rw [hoa]
 go_wp2_with fail
 refine (implOpOk_any B cb b _ (hrb.past b1) (by omega) hs'.all4).mono ?_
 rintro e w2 ⟨rfl, b2⟩
 rw [hob]
 have d2 := b1.trans (b2.mono b1.size)
 go_wp2_with fail
 refine (implOpFrom_any A ca a _ (hra.past d2) (by omega) hs.all4).mono ?_
 rintro e w3 ⟨rfl, b3⟩
 have d3 := d2.trans (b3.mono d2.size)
 go_wp2_with fail
 refine (implOpFrom_any B cb b _ (hrb.past d3) (by omega) hs'.all4).mono ?_
 rintro e w4 ⟨rfl, b4⟩
 have d4 := d3.trans (b4.mono d3.size)
 clear hoa hob b1 b2 d2 b3 d3 b4
 go_wp2_with fail
 refine (xb.implCrossed A B ca cb a b w4 (h.past d4) (h'.past d4) (partsB_all HOA.out) (partsB_all HOB.out) hlA hlB HI.out).mono ?_
 rintro e w10 ⟨v9, v10, k9, k10, rfl, o9, o10, ds, b10, hs1, hs2⟩
 have D := d4.trans (b10.mono d4.size)
 have HB2 := Lib.hid (show xformOk a b = (okOp (xfA a b) && okOp (xfB a b)) by unfold xformOk; rw [HOA.out, HOB.out, HBAL.out]; simp)
 clear HBAL HI
 have l1 := hs1.1
 have l2 := hs2.1
 generalize hUA : xfA a b = UA at *
 generalize hUB : xfB a b = UB at *
 have HUA := Lib.hid hUA
 have HUB := Lib.hid hUB
 clear hUA hUB
 obtain ⟨A9, c9, rfl, r9, _⟩ := parts_rd o9.read
 obtain ⟨A10, c10, rfl, r10, _⟩ := parts_rd o10.read
 have lw := d4.size
 have H9' := Lib.hid (show OwB w.heap.size w10.heap.size w10 (encPs UA) (.slice A9 UA.length c9) k9 from ⟨o9.ow, o9.nd, fun x hx => ⟨Nat.le_trans lw (o9.rng x hx).1, (o9.rng x hx).2⟩, o9.top, Nat.le_trans lw o9.le⟩)
 have H10 := Lib.hid (show OwB w.heap.size w10.heap.size w10 (encPs UB) (.slice A10 UB.length c10) k10 from ⟨o10.ow, o10.nd, fun x hx => ⟨Nat.le_trans lw (o10.rng x hx).1, (o10.rng x hx).2⟩, o10.top, Nat.le_trans lw o10.le⟩)
 have HDS := Lib.hid ds
 have hz10 := Nat.le_refl w10.heap.size
 clear o9 o10 ds b10 d4 lw hne
 go_wp2_with fail
 refine (implOpOk_any A9 c9 UA _ r9 (by omega) hs1.all4).mono ?_
 rintro e w11 ⟨rfl, b11⟩
 replace D := D.trans (b11.mono D.size)
 cases ho1 : okOp UA
 ·have HN := Lib.hid (xform_f (a := a) (b := b) (by rw [HB2.out, ho1]; rfl))
  clear HB2
  go_wp2
  go_ret3
  rw [HN.out.1, HN.out.2.1, HN.out.2.2]
  exact nil2 D
 ·go_wp2_with fail
  refine (implOpOk_any A10 c10 UB _ (r10.past b11) (by omega) hs2.all4).mono ?_
  rintro e w12 ⟨rfl, b12⟩
  replace D := D.trans (b12.mono D.size)
  have HP9 := Lib.hid ((H9'.out.past b11).past b12)
  have HP10 := Lib.hid ((H10.out.past b11).past b12)
  have hzz := Nat.le_trans b11.size b12.size
  clear H9' H10 r9 r10 b11 b12
  cases ho2 : okOp UB
  ·have HN := Lib.hid (xform_f (a := a) (b := b) (by rw [HB2.out, ho1, ho2]; rfl))
   clear HB2
   go_wp2
   go_ret3
   rw [HN.out.1, HN.out.2.1, HN.out.2.2]
   exact nil2 D
  ·have HN := Lib.hid (show xformOk a b = true ∧ xformA a b = UA ∧ xformB a b = UB by
    have e : xformOk a b = true := by rw [HB2.out, ho1, ho2]; rfl
    exact ⟨e, by unfold xformA; rw [if_pos e, HUA.out], by unfold xformB; rw [if_pos e, HUB.out]⟩)
   clear HB2
   go_wp2
   go_ret3
   rw [HN.out.1, HN.out.2.1, HN.out.2.2]
   exact ⟨_, _, k9, k10, rfl, HP9.out.upto (Nat.le_trans hz10 hzz) (Nat.le_refl _), HP10.out.upto hzz (Nat.le_refl _), HDS.out, D⟩
theorem implTransform_d (v v' : Value) (a b : List Pt) (w : World) (h : RdC w w.heap.size (encPs a) v) (h' : RdC w w.heap.size (encPs b) v') (hs : SmP a) (hs' : SmP b) : Calls Tryz.prog 138 #[v, v'] w (Res2B (encPs (xformA a b)) (encPs (xformB a b)) (xformOk a b) w) := by
 obtain ⟨A, ca, rfl, hra, _⟩ := parts_rd h
 obtain ⟨B, cb, rfl, hrb, _⟩ := parts_rd h'
 have hlA := hs.1
 have hlB := hs'.1
 cases hoa : okOp a
 ·have HN := Lib.hid (xform_f (a := a) (b := b) (by unfold xformOk; rw [hoa]; rfl))
  go_enter Tryz.func138, Tryz.ntmps138
  go_wp2_with fail
  refine (implOpOk_any A ca a _ hra (by omega) hs.all4).mono ?_
  rintro e w1 ⟨rfl, b1⟩
  rw [hoa]
  go_wp2
  go_ret3
  rw [HN.out.1, HN.out.2.1, HN.out.2.2]
  exact nil2 b1
 cases hob : okOp b
 ·have HN := Lib.hid (xform_f (a := a) (b := b) (by unfold xformOk; rw [hoa, hob]; rfl))
  go_enter Tryz.func138, Tryz.ntmps138
  go_wp2_with fail
  refine (implOpOk_any A ca a _ hra (by omega) hs.all4).mono ?_
  rintro e w1 ⟨rfl, b1⟩
  rw [hoa]
  go_wp2_with fail
  refine (implOpOk_any B cb b _ (hrb.past b1) (by omega) hs'.all4).mono ?_
  rintro e w2 ⟨rfl, b2⟩
  rw [hob]
  have d2 := b1.trans (b2.mono b1.size)
  go_wp2
  go_ret3
  rw [HN.out.1, HN.out.2.1, HN.out.2.2]
  exact nil2 d2
 by_cases hbal : sumK a + sumD a = sumK b + sumD b
 ·exact implTransform_t A B ca cb a b w h h' hs hs' hoa hob hbal
 ·have hne : ((sumK a + sumD a) != (sumK b + sumD b)) = true := by simp [hbal]
  have HN := Lib.hid (xform_f (a := a) (b := b) (by unfold xformOk; rw [hoa, hob]; simp [hbal]))
  clear hbal
  go_enter Tryz.func138, Tryz.ntmps138
  go_wp2_with fail
  refine (implOpOk_any A ca a _ hra (by omega) hs.all4).mono ?_
  rintro e w1 ⟨rfl, b1⟩
  rw [hoa]
  go_wp2_with fail
  refine (implOpOk_any B cb b _ (hrb.past b1) (by omega) hs'.all4).mono ?_
  rintro e w2 ⟨rfl, b2⟩
  rw [hob]
  have d2 := b1.trans (b2.mono b1.size)
  go_wp2_with fail
  refine (implOpFrom_any A ca a _ (hra.past d2) (by omega) hs.all4).mono ?_
  rintro e w3 ⟨rfl, b3⟩
  have d3 := d2.trans (b3.mono d2.size)
  go_wp2_with fail
  refine (implOpFrom_any B cb b _ (hrb.past d3) (by omega) hs'.all4).mono ?_
  rintro e w4 ⟨rfl, b4⟩
  have d4 := d3.trans (b4.mono d3.size)
  go_wp2
  go_ret3
  rw [HN.out.1, HN.out.2.1, HN.out.2.2]
  exact nil2 d4
theorem implPassed_d (v v' : Value) (l : List (List Pt)) (b : List Pt) (w : World) (h : RdC w w.heap.size (encPss l) v) (h' : RdC w w.heap.size (encPs b) v') (hs : SmPP l) (hs' : SmP b) : Calls Tryz.prog 114 #[v, v'] w (Res2B (encPss (pastAllT l b)) (encPs (pastT l b)) (pastB l b) w) := by
 obtain ⟨A, c, rfl⟩ := pss_len h
 obtain ⟨B, cb, rfl, hrb, _⟩ := parts_rd h'
 obtain ⟨i0, hi0, hz0, hz1, hz2⟩ := info_parts pss_info
 have hl := hs.1
 have hlb := hs'.1
 cases hob : okOp b
 ·have HN := Lib.hid (past_f (l := l) (b := b) (by unfold pastS; rw [hob]; rfl))
  go_enter Tryz.func114, Tryz.ntmps114
  go_wp2_with fail
  refine (implOpOk_any B cb b _ hrb (by omega) hs'.all4).mono ?_
  rintro e w1 ⟨rfl, b1⟩
  rw [hob]
  go_wp2
  go_ret3
  rw [HN.out.1, HN.out.2.1, HN.out.2.2]
  exact nilPP b1
 ·have HOB := Lib.hid hob
  go_enter Tryz.func114, Tryz.ntmps114
  go_wp2_with fail
  refine (implOpOk_any B cb b _ hrb (by omega) hs'.all4).mono ?_
  rintro e w1 ⟨rfl, b1⟩
  rw [hob]
  clear hob
  go_wp2_with fail
  refine (implOpNorm_d _ b w1 (h'.past b1) hs').mono ?_
  rintro e w3 ⟨v3, rfl, o3, b3⟩
  obtain ⟨k3, o3⟩ := o3.blocks
  obtain ⟨k0, i0'⟩ := (nilOwn (lo := w.heap.size) (encPss []) w3 rfl (Nat.le_trans b1.size b3.size)).blocks
  have e0 : k0 = [] := by obtain ⟨_, _, ho, hr, he⟩ := i0'.ow; obtain ⟨_, hc⟩ := hr; rw [he, hc]; rfl
  subst e0
  have HR0 := Lib.hid (show PastR w.heap.size w3 (.slice none 0 0) v3 [] (normL b) from ⟨_, _, i0', ⟨o3.ow, o3.nd, fun x hx => ⟨Nat.le_trans b1.size (o3.rng x hx).1, (o3.rng x hx).2⟩, o3.top, Nat.le_trans b1.size o3.le⟩, by simp⟩)
  have D := b1.trans (b3.mono b1.size)
  clear o3 b3 b1 i0'
  obtain ⟨A3, c3, rfl⟩ : ∃ A3 c3, v3 = .slice A3 (normL b).length c3 := by obtain ⟨_, _, _, h1, _⟩ := HR0.out; exact sliceP h1.read
  go_wp2
  go_loopw [7, 8, 21] (fun o q i wr => ∃ (k : Nat) (xs : List (List Pt)) (cur : List Pt), k ≤ l.length ∧ i = .int .i64 k ∧ foldPast (l.take k) b = some (xs, cur) ∧ PastR w.heap.size wr o q xs cur ∧ Below w.heap.size w wr) (fun _ _ i _ => l.length - (intOf i).toNat)
  case atStart => exact ⟨0, [], normL b, Nat.zero_le _, rfl, rfl, HR0.out, D⟩
  case round =>
   obtain ⟨k, xs, cur, hk, rfl, hf, hpr, hbel⟩ := hrel
   clear HR0 D
   have HF := Lib.hid hf
   obtain ⟨hsc, hxl, hxs⟩ := foldPast_small HOB.out hk hf
   have HXL := Lib.hid hxl
   clear hf hxs hxl
   obtain ⟨b1, b2, o1, o2, dis⟩ := hpr
   obtain ⟨A1, c1, rfl⟩ := pss_len o1.read
   obtain ⟨A2, c2, rfl⟩ := sliceP o2.read
   have HO1 := Lib.hid o1
   have HO2 := Lib.hid o2
   have HDS := Lib.hid dis
   clear o1 o2 dis
   by_cases hlt : k < l.length
   ·obtain ⟨ad, ps, A4, c4, rfl, hb, hp, hc, hprd⟩ := pss_at (h.below hbel) hlt
    have K1 := Lib.hid (foldPast_snoc (b := b) hp)
    rw [HF.out] at K1
    have hsp := hs.all ps (List.mem_of_getElem? hp)
    clear hp
    have HPR := Lib.hid (RdC.more hbel.size _ _ hprd)
    clear hprd
    have hxl2 : xs.length ≤ 1048576 := by rw [HXL.out]; omega
    go_wp2_with fail
    refine (implTransform_d _ _ ps cur _ HPR.out HO2.out.read hsp hsc).mono ?_
    rintro e w4 ⟨x4, y4, kx, ky, rfl, ox, oy, ds4, b4⟩
    obtain ⟨A5, c5, rfl⟩ := sliceP ox.read
    obtain ⟨A6, c6, rfl⟩ := sliceP oy.read
    have hz4 := b4.size
    have HX := Lib.hid ox
    have HY := Lib.hid oy
    have HDS4 := Lib.hid ds4
    have D4 := hbel.trans (b4.mono hbel.size)
    clear ox oy ds4
    cases hfit : xformOk ps cur
    ·have HN := Lib.hid (past_f (l := l) (b := b) (by
      have : foldPast l b = none := foldPast_none (k := k + 1) (by rw [K1.out]; simp [stepPast, hfit])
      unfold pastS; rw [this]; simp))
     go_wp2
     go_ret3
     rw [HN.out.1, HN.out.2.1, HN.out.2.2]
     exact nilPP D4
    ·have K2 := Lib.hid (show foldPast (l.take (k + 1)) b = some (xs ++ [xformA ps cur], xformB ps cur) by rw [K1.out]; simp [stepPast, hfit])
     have bA := alloc_below w4 (.cells #[.slice A5 (xformA ps cur).length c5] 37)
     have HO1' := Lib.hid ((HO1.out.past b4).past bA)
     have HX' := Lib.hid (HX.out.past bA)
     have HY' := Lib.hid (HY.out.past bA)
     have hnews : ∀ (j : Nat) (u : Value), [Value.slice A5 (xformA ps cur).length c5][j]? = some u → (w4.alloc (.cells #[.slice A5 (xformA ps cur).length c5] 37)).cell? ((⟨w4.heap.size, 0, none⟩ : Addr).add j) = some u := fun j u hu => by
      cases j with
      | zero =>
       simp at hu
       subst hu
       exact cell_of_row _ _ 0 _ _ _ (heap_alloc_new w4 _)
      | succ j => simp at hu
     have HNW := Lib.hid hnews
     have hlx : (xs.map fun ps => [encPs ps]).length ≤ 2000000 := by rw [List.length_map]; omega
     have DA := D4.trans (bA.mono D4.size)
     have hlo := hbel.size
     clear hnews bA
     go_wp2_with (at_builtin; refine wpList_append_row rfl (.tmp 34) (.tmp 36) 90 rfl 37 i0 (.slice none 0 0) 1 24 Tryz.underlying90 hi0 hz0 hz1 hz2 rfl (by decide) (by decide) w.heap.size _ (.slice A1 xs.length c1) (xs.map fun ps => [encPs ps]) b1 HO1'.out rfl hlx ⟨w4.heap.size, 0, none⟩ _ [.slice A5 (xformA ps cur).length c5] rfl rfl HNW.out (by simp [Value.oneCell']) [encPs (xformA ps cur)] kx HX'.out.ow.row1 HX.out.nd (fun q hq hq' => by have q1 := (HO1.out.rng q hq).2; have q2 := (HX.out.rng q hq').1; omega) (fun q hq => by have q2 := (HX.out.rng q hq).1; omega) ?_; intro A7 c7 w7 b7 o7 in7 g7 bl7)
     have o7' : OwB w.heap.size w7.heap.size w7 (encPss (xs ++ [xformA ps cur])) (.slice A7 (xs.length + 1) c7) b7 := by
      have e : encPss (xs ++ [xformA ps cur]) = .rows 37 1 ((xs.map fun ps => [encPs ps]) ++ [[encPs (xformA ps cur)]]) := by unfold encPss; rw [List.map_append]; rfl
      rw [e]
      simpa using o7
     have HPR7 := Lib.hid (show PastR w.heap.size w7 (.slice A7 (xs.length + 1) c7) (.slice A6 (xformB ps cur).length c6) (xs ++ [xformA ps cur]) (xformB ps cur) from by
      have oy7 := HY'.out.grew2 g7 (fun q hq hq' => by have q1 := (HO1.out.rng q hq').2; have q2 := (HY.out.rng q hq).1; omega)
      refine ⟨b7, ky, o7', ⟨oy7.ow, oy7.nd, fun q hq => ⟨by have q2 := (HY.out.rng q hq).1; omega, ?_⟩, Nat.le_refl _, (DA.trans bl7).size⟩, fun q hq hq' => ?_⟩
      ·exact OwC.lt _ _ _ oy7.ow q hq
      ·rcases in7 q hq with h1 | h1 | h1
       ·have q1 := (HO1.out.rng q h1).2; have q2 := (HY.out.rng q hq').1; omega
       ·exact HDS4.out q h1 hq'
       ·have q1 := (HY.out.rng q hq').2
        have q3 : w4.heap.size ≤ q := by simp at h1; omega
        omega)
     have D7 := DA.trans bl7
     clear o7 o7' in7 g7 bl7 HO1' HX' HY' HNW
     go_wp2
     go_roundw
     case rel => exact ⟨k + 1, _, _, by omega, by go_num, K2.out, by simpa using HPR7.out, D7⟩
     case measure => simp [intOf]; omega
   ·have hke : l.take k = l := List.take_of_length_le (by omega)
    have HN := Lib.hid (past_t (l := l) (b := b) (xs := xs) (q := cur) (by unfold pastS; rw [if_pos HOB.out, ← HF.out, hke]))
    go_wp2
    go_ret3
    rw [HN.out.1, HN.out.2.1, HN.out.2.2]
    exact ⟨_, _, b1, b2, rfl, HO1.out, HO2.out, HDS.out, hbel⟩
theorem implPast_d (v v' : Value) (l : List (List Pt)) (b : List Pt) (w : World) (h : RdC w w.heap.size (encPss l) v) (h' : RdC w w.heap.size (encPs b) v') (hs : SmPP l) (hs' : SmP b) : Calls Tryz.prog 93 #[v, v'] w (ResB (encPs (pastT l b)) (pastB l b) w) := by
 obtain ⟨A, c, rfl⟩ := pss_len h
 obtain ⟨B, cb, rfl⟩ := sliceP h'
 go_enter Tryz.func93, Tryz.ntmps93
 go_wp2_with fail
 refine (implPassed_d _ _ l b _ h h' hs hs').mono ?_
 rintro e w1 ⟨x, y, kx, ky, rfl, ox, oy, ds, b1⟩
 obtain ⟨A1, c1, rfl⟩ := pss_len ox.read
 obtain ⟨A2, c2, rfl⟩ := sliceP oy.read
 have HY := Lib.hid oy
 clear ox oy ds
 generalize pastB l b = q at *
 go_wp2
 go_ret2
 exact ⟨_, rfl, ⟨ky, HY.out.ow, HY.out.nd, HY.out.rng, HY.out.top, HY.out.le⟩, b1⟩
def errV (k : Int) : Value := if k = 0 then .nilIface else .iface 101 (.int .i64 k)
theorem codeOf_any (k : Int) (w : World) (hg : ET w) : Calls Tryz.prog 32 #[errV k] w (Nums1 k w) := by
 by_cases h : k = 0
 ·subst h
  exact codeOf_nil w
 ·have e : errV k = .iface 101 (.int .i64 k) := by unfold errV; rw [if_neg h]
  rw [e]
  exact codeOf_hit k w hg
def ErrPost (k : Int) (w : World) (e : Ending) (w' : World) : Prop := e = .returned (errV k) ∧ Below w.heap.size w w'
def ResE (d : Dat) (k : Int) (w : World) (e : Ending) (w' : World) : Prop := ∃ v, e = .returned (.tuple #[v, errV k]) ∧ Own w.heap.size w'.heap.size w' d v ∧ Below w.heap.size w w'
theorem checkStored_d (v : Value) (x : Do) (r : Int) (w : World) (h : RdC w w.heap.size (datDo x) v) (hs : SmDo x) : Calls Tryz.prog 91 #[v, .int .i64 r] w (ErrPost (checkCode x r) w) := by
 have HR := Lib.hid h
 obtain ⟨A2, c2, A3, c3, A4, c4, rfl, r2, r3, -⟩ := aggDo h
 have R3 := Lib.hid r3
 have hl := hs.list.len
 have hcl : x.list.length ≤ c3 := RdC.cap_le r3
 clear h r2 r3
 have HM := Lib.hid (Ms.start w)
 replace HM := Lib.hid (HM.out.new #[.string x.name, .int .i64 x.from_, .slice A2 x.text.length c2, .slice A3 x.list.length c3, .slice A4 x.seen.length c4] 33)
 go_enter Tryz.func91, Tryz.ntmps91
 go_wp2_with fail
 obtain ⟨W1, hW, hm⟩ := HM.out.name
 rw [← hW]
 replace HM := Lib.hid hm
 clear hm hW
 refine (implDocOk_d _ x _ (HM.out.arg HR.out) hs).mono ?_
 rintro e' W2 ⟨rfl, b'⟩
 replace HM := Lib.hid (HM.out.past b')
 clear b'
 cases hd : docB x
 ·have HN := Lib.hid (show checkCode x r = 1 by unfold checkCode; simp [hd])
  go_wp2
  go_ret
  exact ⟨by rw [HN.out]; rfl, HM.out.bl⟩
 obtain ⟨kx0, kx1, kx2, kx3, kx4⟩ := HM.out.c5 0 rfl
 go_wp2_with fail
 clear kx0 kx1 kx2 kx3 kx4
 refine (implHeadRev_d _ x _ (HM.out.arg HR.out) hs).mono ?_
 rintro e' W3 ⟨rfl, b'⟩
 replace HM := Lib.hid (HM.out.past b')
 clear b'
 by_cases h2 : headRevT x < r
 ·have HN := Lib.hid (show checkCode x r = 2 by unfold checkCode; simp [hd, h2])
  have g2 : decide (headRevT x < r) = true := decide_eq_true h2
  go_wp2
  go_ret
  exact ⟨by rw [HN.out]; rfl, HM.out.bl⟩
 have g2 : decide (headRevT x < r) = false := decide_eq_false h2
 by_cases h3 : r < x.from_
 ·have HN := Lib.hid (show checkCode x r = 3 by unfold checkCode; simp [hd, h2, h3])
  have g3 : decide (r < x.from_) = true := decide_eq_true h3
  obtain ⟨kx0, kx1, kx2, kx3, kx4⟩ := HM.out.c5 0 rfl
  go_wp2
  go_ret
  exact ⟨by rw [HN.out]; rfl, HM.out.bl⟩
 ·have HN := Lib.hid (show checkCode x r = 0 by unfold checkCode; simp [hd, h2, h3])
  have g3 : decide (r < x.from_) = false := decide_eq_false h3
  obtain ⟨kx0, kx1, kx2, kx3, kx4⟩ := HM.out.c5 0 rfl
  go_wp2
  go_ret
  exact ⟨by rw [HN.out]; rfl, HM.out.bl⟩
theorem implOpOk_r (v : Value) (ps : List Pt) (w : World) (h : RdC w w.heap.size (encPs ps) v) (hs : SmP ps) : Calls Tryz.prog 61 #[v] w (Tells (okOp ps) w) := by
 obtain ⟨A, c, rfl, hr, _⟩ := parts_rd h
 exact implOpOk_any A c ps w hr (by have := hs.1; omega) hs.all4
theorem implOpFrom_r (v : Value) (ps : List Pt) (w : World) (h : RdC w w.heap.size (encPs ps) v) (hs : SmP ps) : Calls Tryz.prog 84 #[v] w (Nums1 (sumK ps + sumD ps) w) := by
 obtain ⟨A, c, rfl, hr, _⟩ := parts_rd h
 exact implOpFrom_any A c ps w hr (by have := hs.1; omega) hs.all4
theorem reb_op {x : Do} {base : Int} {o : List Pt} (h : okOp o = false) : rebCode x base o = 1 := by
 unfold rebCode
 rw [h]
 split <;> simp
theorem reb_check {x : Do} {base : Int} {o : List Pt} (h : okOp o = true) (hk : ¬ checkCode x base = 0) : rebCode x base o = checkCode x base := by
 unfold checkCode at hk ⊢
 unfold rebCode
 rw [h]
 split
 ·rfl
 ·rename_i h1
  rw [if_neg h1] at hk
  rw [if_neg (by simp)]
  split
  ·rfl
  ·rename_i h2
   rw [if_neg h2] at hk
   split
   ·rfl
   ·rename_i h3
    rw [if_neg h3] at hk
    exact absurd rfl hk
theorem reb_rest {x : Do} {base : Int} {o : List Pt} (h : okOp o = true) (hk : checkCode x base = 0) : textAtB x base = true ∧ rebCode x base o = if ¬ sumK o + sumD o = ((textAtT x base).length : Int) then 1 else if pastB (opsSinceT x base) o = false then 5 else 0 := by
 obtain ⟨h1, h2, h3⟩ := check_ok hk
 have hb : textAtB x base = true := by unfold textAtB; rw [h1, inB_t ⟨h2, h3⟩]; rfl
 refine ⟨hb, ?_⟩
 unfold rebCode
 rw [h1, h, if_neg (by simp), if_neg (by simp), if_neg (by omega), if_neg (by omega)]
 split
 ·rfl
 ·rename_i h4
  split
  ·rfl
  ·rename_i h5
   rw [past_fits h1 hb h (by simpa using h4) (by simpa using h5), if_neg (by simp)]
theorem implRebaseE_d (v v2 : Value) (x : Do) (base : Int) (o : List Pt) (w : World) (h : RdC w w.heap.size (datDo x) v) (h2 : RdC w w.heap.size (encPs o) v2) (hs : SmDo x) (hs2 : SmP o) : Calls Tryz.prog 64 #[v, .int .i64 base, v2] w (ResE (encPs (rebOp x base o)) (rebCode x base o) w) := by
 have HR := Lib.hid h
 have HO := Lib.hid h2
 obtain ⟨A2, c2, A3, c3, A4, c4, rfl, -, -, -⟩ := aggDo h
 obtain ⟨Ao, co, rfl⟩ := sliceP h2
 clear h h2
 have hl := hs.list.len
 have HM := Lib.hid (Ms.start w)
 replace HM := Lib.hid (HM.out.new #[.string x.name, .int .i64 x.from_, .slice A2 x.text.length c2, .slice A3 x.list.length c3, .slice A4 x.seen.length c4] 33)
 go_enter Tryz.func64, Tryz.ntmps64
 go_wp2_with fail
 obtain ⟨W1, hW, hm⟩ := HM.out.name
 rw [← hW]
 replace HM := Lib.hid hm
 clear hm hW
 refine (implOpOk_r _ o _ (HM.out.arg HO.out) hs2).mono ?_
 rintro e' W2 ⟨rfl, b'⟩
 replace HM := Lib.hid (HM.out.past b')
 clear b'
 cases ho : okOp o
 ·have HN := Lib.hid (reb_no (x := x) (base := base) (o := o) (k := 1) (by decide) (reb_op ho))
  go_wp2
  go_ret2
  rw [HN.out.1, HN.out.2]
  exact ⟨_, by first | rfl | (rw [show errV 1 = .iface 101 (.int .i64 1) from rfl]; rfl), (HM.out.nil 68 3).own (i := 0) rfl, HM.out.bl⟩
 obtain ⟨kx0, kx1, kx2, kx3, kx4⟩ := HM.out.c5 0 rfl
 go_wp2_with fail
 clear kx0 kx1 kx2 kx3 kx4
 refine (checkStored_d _ x base _ (HM.out.arg HR.out) hs).mono ?_
 rintro e' W3 ⟨rfl, b'⟩
 replace HM := Lib.hid (HM.out.past b')
 clear b'
 by_cases hk : checkCode x base = 0
 rotate_left
 ·have HN := Lib.hid (reb_no (x := x) (base := base) (o := o) hk (reb_check ho hk))
  have HE := Lib.hid (show errV (checkCode x base) = .iface 101 (.int .i64 (checkCode x base)) by unfold errV; rw [if_neg hk])
  clear hk
  rw [HE.out]
  go_wp2
  go_ret2
  rw [HN.out.1, HN.out.2]
  exact ⟨_, by rw [HE.out]; rfl, (HM.out.nil 68 3).own (i := 0) rfl, HM.out.bl⟩
 obtain ⟨hb, hr⟩ := reb_rest ho hk
 have HB := Lib.hid hb
 have HRB := Lib.hid hr
 rw [show errV (checkCode x base) = .nilIface by unfold errV; rw [if_pos hk]]
 have HK := Lib.hid hk
 clear hb hr hk
 obtain ⟨kx0, kx1, kx2, kx3, kx4⟩ := HM.out.c5 0 rfl
 go_wp2_with fail
 clear kx0 kx1 kx2 kx3 kx4
 refine (implTextAt_d _ x _ _ (HM.out.arg HR.out) hs).mono ?_
 rintro e' W4 ⟨v', rfl, o', b'⟩
 obtain ⟨At, ct, rfl⟩ := sliceI o'.read
 obtain ⟨bt, hm⟩ := HM.out.got o' b'
 clear o' b'
 replace HM := Lib.hid hm
 clear hm
 go_wp2_with fail
 refine (implOpFrom_r _ o _ (HM.out.arg HO.out) hs2).mono ?_
 rintro e' W5 ⟨rfl, b'⟩
 replace HM := Lib.hid (HM.out.past b')
 clear b'
 by_cases h5 : sumK o + sumD o = ((textAtT x base).length : Int)
 rotate_left
 ·have HN := Lib.hid (reb_no (x := x) (base := base) (o := o) (k := 1) (by decide) (by rw [HRB.out, if_pos h5]))
  have g5 : ((sumK o + sumD o) != ((textAtT x base).length : Int)) = true := by simpa using h5
  go_wp2
  go_ret2
  rw [HN.out.1, HN.out.2]
  exact ⟨_, by first | rfl | (rw [show errV 1 = .iface 101 (.int .i64 1) from rfl]; rfl), (HM.out.nil 68 3).own (i := 0) rfl, HM.out.bl⟩
 have g5 : ((sumK o + sumD o) != ((textAtT x base).length : Int)) = false := by simpa using h5
 obtain ⟨kx0, kx1, kx2, kx3, kx4⟩ := HM.out.c5 1 rfl
 go_wp2_with fail
 clear kx0 kx1 kx2 kx3 kx4
 refine (implOpsSince_d _ x _ _ (HM.out.arg HR.out) hs).mono ?_
 rintro e' W6 ⟨v', rfl, o', b'⟩
 obtain ⟨Al, nl, cl, rfl⟩ := sliceV o'.read
 obtain ⟨bl, hm⟩ := HM.out.got o' b'
 clear o' b' g5
 replace HM := Lib.hid hm
 clear hm
 go_wp2_with fail
 refine (implPast_d _ _ (opsSinceT x base) o _ (HM.out.read (i := 0) rfl) (HM.out.arg HO.out) (opsSince_pp (check_ok HK.out).1) hs2).mono ?_
 rintro e' W7 ⟨v', rfl, o', b'⟩
 obtain ⟨Aq, nq, cq, rfl⟩ := sliceV o'.read
 obtain ⟨bq, hm⟩ := HM.out.got o' b'
 clear o' b'
 replace HM := Lib.hid hm
 clear hm
 cases hp : pastB (opsSinceT x base) o
 ·have HN := Lib.hid (reb_no (x := x) (base := base) (o := o) (k := 5) (by decide) (by rw [HRB.out, if_neg (by simpa using h5), if_pos hp]))
  go_wp2
  go_ret2
  rw [HN.out.1, HN.out.2]
  exact ⟨_, by first | rfl | (rw [show errV 5 = .iface 101 (.int .i64 5) from rfl]; rfl), (HM.out.nil 68 3).own (i := 0) rfl, HM.out.bl⟩
 have HN := Lib.hid (reb_yes (show rebCode x base o = 0 by rw [HRB.out, if_neg (by simpa using h5), if_neg (by simp [hp])]))
 go_wp2
 go_ret2
 rw [HN.out.1, HN.out.2]
 exact ⟨_, rfl, HM.out.own (i := 0) rfl, HM.out.bl⟩
theorem implSeenOf_d (v : Value) (x : Do) (r : Int) (w : World) (h : RdC w w.heap.size (datDo x) v) (hs : SmDo x) : Calls Tryz.prog 62 #[v, .int .i64 r] w (ResB (datSe (seenOfT x r)) (seenOfB x r) w) := by
 have HR := Lib.hid h
 obtain ⟨A2, c2, A3, c3, A4, c4, rfl, -, -, r4⟩ := aggDo h
 have R4 := Lib.hid r4
 clear h r4
 have HM := Lib.hid (Ms.start w)
 replace HM := Lib.hid (HM.out.new #[.string x.name, .int .i64 x.from_, .slice A2 x.text.length c2, .slice A3 x.list.length c3, .slice A4 x.seen.length c4] 33)
 have hm := HM.out.new #[.int .i64 0, .int .i64 0, .int .i64 0] 54
 simp only [World.size_alloc] at hm
 replace HM := Lib.hid hm
 clear hm
 go_enter Tryz.func62, Tryz.ntmps62
 go_wp2_with fail
 obtain ⟨W1, hW, hm⟩ := HM.out.name
 rw [← hW]
 replace HM := Lib.hid hm
 clear hm hW
 refine (implRequestsOf_d _ x.seen _ (HM.out.arg R4.out) hs.seen).mono ?_
 rintro e' W2 ⟨g, es, c0, rfl, ho, hb, hg, b'⟩
 have HO := Lib.hid ho
 have HB := Lib.hid hb
 clear ho hb hg
 replace HM := Lib.hid (HM.out.past b')
 clear b'
 have zr : w.heap.size + 1 < W2.heap.size := (HM.out.glt (i := 0) rfl).2
 have zr2 : ¬ w.heap.size + 1 = W2.heap.size := by omega
 cases hg2 : seenGo r (dedSe x.seen) with
 | none =>
  have HG := Lib.hid hg2
  clear hg2
  obtain ⟨kr0, kr1, kr2⟩ := HM.out.c3 0 rfl
  obtain ⟨fr0, fr1, fr2⟩ := HM.out.f3 0 rfl
  have HN := Lib.hid (show seenOfB x r = false ∧ seenOfT x r = ⟨0, 0, 0⟩ by have h9 := HG.out; rw [seenGo_ded] at h9; unfold seenOfB seenOfT; rw [h9]; exact ⟨rfl, rfl⟩)
  go_wp2_with (at_lookup; refine wpList_lookup_none rfl (.tmp 11) (.tmp 12) 123 rfl 3 54 rqT rqK rqZ g rfl r rfl HB.out HO.out HG.out ?_)
  clear kr0 kr1 kr2 fr0 fr1 fr2
  have hm := HM.out.putRow (ys := [.int .i64 0, .int .i64 0, .int .i64 0]) rfl
  simp only [low.putRow, Nat.zero_add, Nat.reduceAdd] at hm
  replace HM := Lib.hid hm
  clear hm
  replace HM := Lib.hid (HM.out.past (alloc_below _ (.cells #[.int .i64 0, .int .i64 0, .int .i64 0] 54)))
  obtain ⟨W3, hW, hm⟩ := HM.out.name
  rw [← hW]
  replace HM := Lib.hid hm
  clear hm hW
  obtain ⟨kr0, kr1, kr2⟩ := HM.out.c3 0 rfl
  rw [HN.out.1, HN.out.2]
  exact bodyPost_ret (v := .tuple #[.agg #[.int .i64 0, .int .i64 0, .int .i64 0], .bool false]) (by simp [results, Tryz.results62, go_sem, kr0, kr1, kr2]) rfl ⟨_, rfl, own_se ⟨0, 0, 0⟩ HM.out.size, HM.out.bl⟩
 | some u =>
  have HG := Lib.hid hg2
  clear hg2
  obtain ⟨kr0, kr1, kr2⟩ := HM.out.c3 0 rfl
  obtain ⟨fr0, fr1, fr2⟩ := HM.out.f3 0 rfl
  have HN := Lib.hid (show seenOfB x r = true ∧ seenOfT x r = u by have h9 := HG.out; rw [seenGo_ded] at h9; unfold seenOfB seenOfT; rw [h9]; exact ⟨rfl, rfl⟩)
  go_wp2_with (at_lookup; refine wpList_lookup_hit rfl (.tmp 11) (.tmp 12) 123 rfl 3 54 rqT rqK rqZ g rfl r rfl HB.out HO.out HG.out ?_)
  clear kr0 kr1 kr2 fr0 fr1 fr2
  have hm := HM.out.putRow (ys := [.int .i64 u.client, .int .i64 u.seq, .int .i64 u.rev]) rfl
  simp only [low.putRow, Nat.zero_add, Nat.reduceAdd] at hm
  replace HM := Lib.hid hm
  clear hm
  replace HM := Lib.hid (HM.out.past (alloc_below _ (.cells #[.int .i64 u.client, .int .i64 u.seq, .int .i64 u.rev] 54)))
  obtain ⟨W4, hW, hm⟩ := HM.out.name
  rw [← hW]
  replace HM := Lib.hid hm
  clear hm hW
  obtain ⟨kr0, kr1, kr2⟩ := HM.out.c3 0 rfl
  rw [HN.out.1, HN.out.2]
  exact bodyPost_ret (v := .tuple #[.agg #[.int .i64 u.client, .int .i64 u.seq, .int .i64 u.rev], .bool true]) (by simp [results, Tryz.results62, go_sem, kr0, kr1, kr2]) rfl ⟨_, rfl, own_se u HM.out.size, HM.out.bl⟩
def ResNE (d : Dat) (n k : Int) (w : World) (e : Ending) (w' : World) : Prop := ∃ v, e = .returned (.tuple #[v, .int .i64 n, errV k]) ∧ Own w.heap.size w'.heap.size w' d v ∧ Below w.heap.size w w'
theorem seen_zero {x : Do} {c : Int} (h : seenOfB x c = false) : (seenOfT x c).seq = 0 := by
 unfold seenOfB at h
 unfold seenOfT
 cases hg : seenGo c x.seen with
 | none => rfl
 | some s => rw [hg] at h; cases h
theorem forget_len {x : Do} (hd : docB x = true) : forgetB x (x.list.length : Int) = true ∧ forgetT x (x.list.length : Int) = x := by
 obtain ⟨g1, g2⟩ := forget_at (n := (x.list.length : Int)) (m := 0) hd (by omega) (by omega)
 have ht : textAtT x (x.from_ + ((0 : Nat) : Int)) = x.text := by
  rw [show x.from_ + ((0 : Nat) : Int) = x.from_ by omega]
  exact (textAt_first hd).1
 refine ⟨g1, ?_⟩
 rw [g2, ht]
 simp
theorem head_commit {x : Do} {c s : Int} {q : List Pt} (hd : docB x = true) : headRevT (commitT x c s q) = x.from_ + (x.list.length : Int) + 1 := by
 obtain ⟨y, -, -, -, -, yR, yC⟩ := forget7 hd
 rw [yC]
 exact head_more hd yR _
theorem implSubmitE_d (v v2 : Value) (x : Do) (c s base : Int) (o : List Pt) (w : World) (h : RdC w w.heap.size (datDo x) v) (h2 : RdC w w.heap.size (encPs o) v2) (hs : SmDo x) (hs2 : SmP o) : Calls Tryz.prog 31 #[v, .int .i64 c, .int .i64 s, .int .i64 base, v2] w (ResNE (datDo (subDo x c s base o)) (subRev x c s base o) (subCode x c s base o) w) := by
 have HR := Lib.hid h
 have HO := Lib.hid h2
 obtain ⟨A2, c2, A3, c3, A4, c4, rfl, -, -, -⟩ := aggDo h
 obtain ⟨Ao, co, rfl⟩ := sliceP h2
 clear h h2
 have hl := hs.list.len
 have HM := Lib.hid (Ms.start w)
 replace HM := Lib.hid (HM.out.new #[.string x.name, .int .i64 x.from_, .slice A2 x.text.length c2, .slice A3 x.list.length c3, .slice A4 x.seen.length c4] 33)
 have hm := HM.out.new #[.string ⟨#[]⟩, .int .i64 0, .slice none 0 0, .slice none 0 0, .slice none 0 0] 33
 simp only [World.size_alloc] at hm
 replace HM := Lib.hid hm
 clear hm
 go_enter Tryz.func31, Tryz.ntmps31
 go_wp2_with fail
 obtain ⟨W1, hW, hm⟩ := HM.out.name
 rw [← hW]
 replace HM := Lib.hid hm
 clear hm hW
 refine (implDocOk_d _ x _ (HM.out.arg HR.out) hs).mono ?_
 rintro e' W2 ⟨rfl, b'⟩
 replace HM := Lib.hid (HM.out.past b')
 clear b'
 cases hd : docB x
 ·have HN := Lib.hid (sub_no (x := x) (c := c) (s := s) (base := base) (o := o) (k := 1) (by decide) (show subCode x c s base o = 1 by unfold subCode; simp [hd]))
  obtain ⟨kr0, kr1, kr2, kr3, kr4⟩ := HM.out.c5 0 rfl
  obtain ⟨fr0, fr1, fr2, fr3, fr4⟩ := HM.out.f5 0 rfl
  go_wp2
  clear kr0 kr1 kr2 kr3 kr4 fr0 fr1 fr2 fr3 fr4
  have hm := HM.out.putRow (ys := [.string ⟨#[]⟩, .int .i64 0, .slice none 0 0, .slice none 0 0, .slice none 0 0]) rfl
  simp only [low.putRow, Nat.zero_add, Nat.reduceAdd] at hm
  replace HM := Lib.hid hm
  clear hm
  obtain ⟨W3, hW, hm⟩ := HM.out.name
  rw [← hW]
  replace HM := Lib.hid hm
  clear hm hW
  obtain ⟨kr0, kr1, kr2, kr3, kr4⟩ := HM.out.c5 0 rfl
  rw [HN.out.1, HN.out.2.1, HN.out.2.2]
  exact bodyPost_ret (v := .tuple #[.agg #[.string ⟨#[]⟩, .int .i64 0, .slice none 0 0, .slice none 0 0, .slice none 0 0], .int .i64 0, .iface 101 (.int .i64 1)]) (by simp [results, Tryz.results31, go_sem, kr0, kr1, kr2, kr3, kr4]) rfl ⟨_, by first | rfl | (rw [show errV (1) = .iface 101 (.int .i64 (1)) from rfl]; rfl), HM.out.noDo.own (i := 0) rfl, HM.out.bl⟩
 go_wp2_with fail
 refine (clientOk_any c _).mono ?_
 rintro e' w' ⟨rfl, rfl⟩
 cases hc : inB c 1 8
 ·have HN := Lib.hid (sub_no (x := x) (c := c) (s := s) (base := base) (o := o) (k := 1) (by decide) (show subCode x c s base o = 1 by unfold subCode; simp [hd, hc]))
  obtain ⟨kr0, kr1, kr2, kr3, kr4⟩ := HM.out.c5 0 rfl
  obtain ⟨fr0, fr1, fr2, fr3, fr4⟩ := HM.out.f5 0 rfl
  go_wp2
  clear kr0 kr1 kr2 kr3 kr4 fr0 fr1 fr2 fr3 fr4
  have hm := HM.out.putRow (ys := [.string ⟨#[]⟩, .int .i64 0, .slice none 0 0, .slice none 0 0, .slice none 0 0]) rfl
  simp only [low.putRow, Nat.zero_add, Nat.reduceAdd] at hm
  replace HM := Lib.hid hm
  clear hm
  obtain ⟨W4, hW, hm⟩ := HM.out.name
  rw [← hW]
  replace HM := Lib.hid hm
  clear hm hW
  obtain ⟨kr0, kr1, kr2, kr3, kr4⟩ := HM.out.c5 0 rfl
  rw [HN.out.1, HN.out.2.1, HN.out.2.2]
  exact bodyPost_ret (v := .tuple #[.agg #[.string ⟨#[]⟩, .int .i64 0, .slice none 0 0, .slice none 0 0, .slice none 0 0], .int .i64 0, .iface 101 (.int .i64 1)]) (by simp [results, Tryz.results31, go_sem, kr0, kr1, kr2, kr3, kr4]) rfl ⟨_, by first | rfl | (rw [show errV (1) = .iface 101 (.int .i64 (1)) from rfl]; rfl), HM.out.noDo.own (i := 0) rfl, HM.out.bl⟩
 go_wp2_with fail
 refine (seqOk_any s _).mono ?_
 rintro e' w' ⟨rfl, rfl⟩
 cases hq : inB s 1 1000000000
 ·have HN := Lib.hid (sub_no (x := x) (c := c) (s := s) (base := base) (o := o) (k := 1) (by decide) (show subCode x c s base o = 1 by unfold subCode; simp [hd, hc, hq]))
  obtain ⟨kr0, kr1, kr2, kr3, kr4⟩ := HM.out.c5 0 rfl
  obtain ⟨fr0, fr1, fr2, fr3, fr4⟩ := HM.out.f5 0 rfl
  go_wp2
  clear kr0 kr1 kr2 kr3 kr4 fr0 fr1 fr2 fr3 fr4
  have hm := HM.out.putRow (ys := [.string ⟨#[]⟩, .int .i64 0, .slice none 0 0, .slice none 0 0, .slice none 0 0]) rfl
  simp only [low.putRow, Nat.zero_add, Nat.reduceAdd] at hm
  replace HM := Lib.hid hm
  clear hm
  obtain ⟨W5, hW, hm⟩ := HM.out.name
  rw [← hW]
  replace HM := Lib.hid hm
  clear hm hW
  obtain ⟨kr0, kr1, kr2, kr3, kr4⟩ := HM.out.c5 0 rfl
  rw [HN.out.1, HN.out.2.1, HN.out.2.2]
  exact bodyPost_ret (v := .tuple #[.agg #[.string ⟨#[]⟩, .int .i64 0, .slice none 0 0, .slice none 0 0, .slice none 0 0], .int .i64 0, .iface 101 (.int .i64 1)]) (by simp [results, Tryz.results31, go_sem, kr0, kr1, kr2, kr3, kr4]) rfl ⟨_, by first | rfl | (rw [show errV (1) = .iface 101 (.int .i64 (1)) from rfl]; rfl), HM.out.noDo.own (i := 0) rfl, HM.out.bl⟩
 go_wp2_with fail
 refine (implOpOk_r _ o _ (HM.out.arg HO.out) hs2).mono ?_
 rintro e' W6 ⟨rfl, b'⟩
 replace HM := Lib.hid (HM.out.past b')
 clear b'
 cases ho : okOp o
 ·have HN := Lib.hid (sub_no (x := x) (c := c) (s := s) (base := base) (o := o) (k := 1) (by decide) (show subCode x c s base o = 1 by unfold subCode; simp [hd, hc, hq, ho]))
  obtain ⟨kr0, kr1, kr2, kr3, kr4⟩ := HM.out.c5 0 rfl
  obtain ⟨fr0, fr1, fr2, fr3, fr4⟩ := HM.out.f5 0 rfl
  go_wp2
  clear kr0 kr1 kr2 kr3 kr4 fr0 fr1 fr2 fr3 fr4
  have hm := HM.out.putRow (ys := [.string ⟨#[]⟩, .int .i64 0, .slice none 0 0, .slice none 0 0, .slice none 0 0]) rfl
  simp only [low.putRow, Nat.zero_add, Nat.reduceAdd] at hm
  replace HM := Lib.hid hm
  clear hm
  obtain ⟨W7, hW, hm⟩ := HM.out.name
  rw [← hW]
  replace HM := Lib.hid hm
  clear hm hW
  obtain ⟨kr0, kr1, kr2, kr3, kr4⟩ := HM.out.c5 0 rfl
  rw [HN.out.1, HN.out.2.1, HN.out.2.2]
  exact bodyPost_ret (v := .tuple #[.agg #[.string ⟨#[]⟩, .int .i64 0, .slice none 0 0, .slice none 0 0, .slice none 0 0], .int .i64 0, .iface 101 (.int .i64 1)]) (by simp [results, Tryz.results31, go_sem, kr0, kr1, kr2, kr3, kr4]) rfl ⟨_, by first | rfl | (rw [show errV (1) = .iface 101 (.int .i64 (1)) from rfl]; rfl), HM.out.noDo.own (i := 0) rfl, HM.out.bl⟩
 obtain ⟨kx0, kx1, kx2, kx3, kx4⟩ := HM.out.c5 1 rfl
 go_wp2_with fail
 clear kx0 kx1 kx2 kx3 kx4
 refine (implSeenOf_d _ x c _ (HM.out.arg HR.out) hs).mono ?_
 rintro e' W8 ⟨v', rfl, o', b'⟩
 obtain rfl := aggSe o'.read
 clear o'
 replace HM := Lib.hid (HM.out.past b')
 clear b'
 obtain ⟨hb0, hb1⟩ := seenOf_bd c hd
 have hs0 : 1 ≤ s := by have h9 := hq; unfold inB at h9; exact (of_decide_eq_true h9).1
 replace HM := Lib.hid (HM.out.new #[.int .i64 (seenOfT x c).client, .int .i64 (seenOfT x c).seq, .int .i64 (seenOfT x c).rev] 54)
 obtain ⟨ksb0, ksb1, ksb2⟩ := HM.out.c3 0 rfl
 by_cases h6 : s = (seenOfT x c).seq
 ·have hse : seenOfB x c = true := by cases h9 : seenOfB x c with | true => rfl | false => have := seen_zero h9; omega
  have HN := Lib.hid (sub_again (base := base) hd hc hq ho hse h6.symm)
  have FL := Lib.hid (forget_len hd)
  have g6 : (s == (seenOfT x c).seq) = true := by simpa using h6
  clear h6 hse
  obtain ⟨kx0, kx1, kx2, kx3, kx4⟩ := HM.out.c5 2 rfl
  go_wp2_with fail
  clear kx0 kx1 kx2 kx3 kx4 ksb0 ksb1 ksb2
  obtain ⟨W9, hW, hm⟩ := HM.out.name
  rw [← hW]
  replace HM := Lib.hid hm
  clear hm hW
  refine (implForget_d _ x (x.list.length : Int) _ (HM.out.arg HR.out) hs (by unfold Rng; omega)).mono ?_
  rw [FL.out.1, FL.out.2]
  rintro e' W10 ⟨v', rfl, o', b'⟩
  obtain ⟨A12, c12, A13, c13, A14, c14, rfl, -, -, -⟩ := aggDo o'.read
  obtain ⟨bf, hm⟩ := HM.out.got o' b'
  clear o' b' g6
  replace HM := Lib.hid hm
  clear hm
  replace HM := Lib.hid (HM.out.new #[.string x.name, .int .i64 x.from_, .slice A12 x.text.length c12, .slice A13 x.list.length c13, .slice A14 x.seen.length c14] 33)
  go_wp2
  obtain ⟨W11, hW, hm⟩ := HM.out.name
  rw [← hW]
  replace HM := Lib.hid hm
  clear hm hW
  replace HM := Lib.hid (HM.out.drew)
  refine wp_region_held_drew (S := fun W => Ms w [.bx W10.heap.size (.cells #[.string x.name, .int .i64 x.from_, .slice A12 x.text.length c12, .slice A13 x.list.length c13, .slice A14 x.seen.length c14] 33 (0, 0)), .bx W8.heap.size (.cells #[.int .i64 (seenOfT x c).client, .int .i64 (seenOfT x c).seq, .int .i64 (seenOfT x c).rev] 54 (0, 0))] W) (by kernel_rfl) (HM.out.pick (ks := [0, 2]) (by decide) rfl) (fun hS => ?_)
  generalize W11.drew = W12 at HM hS  ⊢
  refine tk (v := ?_) 0 58 rfl (fun w' hS' => ?_) hS ?_
  rotate_left
  ·(try dsimp only at hS'); obtain ⟨q0, q1, q2, q3, q4⟩ := hS'.c5 0 rfl; obtain ⟨p0, p1, p2⟩ := hS'.c3 1 rfl; go_simp; all_goals (with_reducible rfl)
  try simp only [Act.put, pa, pb, pc]
  refine tk (v := ?_) 1 59 rfl (fun w' hS' => ?_) hS ?_
  rotate_left
  ·go_simp; all_goals (with_reducible rfl)
  try simp only [Act.put, pa, pb, pc]
  refine tk (v := ?_) 2 60 rfl (fun w' hS' => ?_) hS ?_
  rotate_left
  ·(try dsimp only at hS'); obtain ⟨q0, q1, q2, q3, q4⟩ := hS'.c5 0 rfl; obtain ⟨p0, p1, p2⟩ := hS'.c3 1 rfl; go_simp; all_goals (with_reducible rfl)
  try simp only [Act.put, pa, pb, pc]
  refine r1 3 none rfl (fun K hK => ?_)
  obtain ⟨kr0, kr1, kr2, kr3, kr4⟩ := HM.out.c5 3 rfl
  obtain ⟨fr0, fr1, fr2, fr3, fr4⟩ := HM.out.f5 3 rfl
  go_simp
  clear hS kr0 kr1 kr2 kr3 kr4 fr0 fr1 fr2 fr3 fr4
  have hm := HM.out.pk [3, 0, 1, 2, 4] (by decide) (by simp)
  simp only [low.pk, low.gz, low.gs] at hm
  replace HM := Lib.hid hm
  clear hm
  have hm := HM.out.putRow (ys := [.string x.name, .int .i64 x.from_, .slice A12 x.text.length c12, .slice A13 x.list.length c13, .slice A14 x.seen.length c14]) rfl
  simp only [low.putRow, Nat.zero_add, Nat.reduceAdd] at hm
  replace HM := Lib.hid hm
  clear hm
  obtain ⟨W13, hW, hm⟩ := HM.out.name
  rw [← hW]
  replace HM := Lib.hid hm
  clear hm hW
  refine hK.out _ _ (HM.out.pick (ks := [1, 3]) (by decide) rfl) (fun hS => ?_)
  clear hK K
  try simp only [Act.put]
  refine tk (v := ?_) 4 11 rfl (fun w' hS' => ?_) hS ?_
  rotate_left
  ·go_simp; all_goals (with_reducible rfl)
  try simp only [Act.put, pa, pb, pc]
  refine tk (v := ?_) 5 12 rfl (fun w' hS' => ?_) hS ?_
  rotate_left
  ·go_simp; all_goals (with_reducible rfl)
  try simp only [Act.put, pa, pb, pc]
  refine wpAnyH_done (by kernel_rfl) ?_ _
  clear hS
  go_wp2
  obtain ⟨kr0, kr1, kr2, kr3, kr4⟩ := HM.out.c5 0 rfl
  have hm := HM.out.pk [2, 0, 1, 3, 4] (by decide) (by simp)
  simp only [low.pk, low.gz, low.gs] at hm
  replace HM := Lib.hid hm
  clear hm
  rw [HN.out.1, HN.out.2.1, HN.out.2.2]
  exact bodyPost_ret (v := .tuple #[.agg #[.string x.name, .int .i64 x.from_, .slice A12 x.text.length c12, .slice A13 x.list.length c13, .slice A14 x.seen.length c14], .int .i64 (seenOfT x c).rev, .nilIface]) (by simp [results, Tryz.results31, go_sem, kr0, kr1, kr2, kr3, kr4]) rfl ⟨_, rfl, HM.out.own (i := 0) rfl, HM.out.bl⟩
 have g6 : (s == (seenOfT x c).seq) = false := by simpa using h6
 have hn6 : ¬ (seenOfB x c = true ∧ (seenOfT x c).seq = s) := fun h => h6 h.2.symm
 have HN6 := Lib.hid hn6
 clear h6 hn6
 by_cases h7 : ¬ s = (seenOfT x c).seq + 1
 ·have HN := Lib.hid (sub_no (x := x) (c := c) (s := s) (base := base) (o := o) (k := 4) (by decide) (show subCode x c s base o = 4 by unfold subCode; simp [hd, hc, hq, ho, HN6.out, h7]))
  have g7 : (s != (seenOfT x c).seq + 1) = true := by simpa using h7
  obtain ⟨kr0, kr1, kr2, kr3, kr4⟩ := HM.out.c5 1 rfl
  obtain ⟨fr0, fr1, fr2, fr3, fr4⟩ := HM.out.f5 1 rfl
  go_wp2
  clear kr0 kr1 kr2 kr3 kr4 fr0 fr1 fr2 fr3 fr4
  have hm := HM.out.pk [1, 0, 2] (by decide) (by simp)
  simp only [low.pk, low.gz, low.gs] at hm
  replace HM := Lib.hid hm
  clear hm
  have hm := HM.out.putRow (ys := [.string ⟨#[]⟩, .int .i64 0, .slice none 0 0, .slice none 0 0, .slice none 0 0]) rfl
  simp only [low.putRow, Nat.zero_add, Nat.reduceAdd] at hm
  replace HM := Lib.hid hm
  clear hm
  obtain ⟨W14, hW, hm⟩ := HM.out.name
  rw [← hW]
  replace HM := Lib.hid hm
  clear hm hW
  obtain ⟨kr0, kr1, kr2, kr3, kr4⟩ := HM.out.c5 0 rfl
  rw [HN.out.1, HN.out.2.1, HN.out.2.2]
  exact bodyPost_ret (v := .tuple #[.agg #[.string ⟨#[]⟩, .int .i64 0, .slice none 0 0, .slice none 0 0, .slice none 0 0], .int .i64 0, .iface 101 (.int .i64 4)]) (by simp [results, Tryz.results31, go_sem, kr0, kr1, kr2, kr3, kr4]) rfl ⟨_, by first | rfl | (rw [show errV (4) = .iface 101 (.int .i64 (4)) from rfl]; rfl), HM.out.noDo.own (i := 0) rfl, HM.out.bl⟩
 have g7 : (s != (seenOfT x c).seq + 1) = false := by simpa using h7
 have E7 := Lib.hid (Classical.not_not.1 h7)
 clear h7
 obtain ⟨kx0, kx1, kx2, kx3, kx4⟩ := HM.out.c5 2 rfl
 go_wp2_with fail
 clear g6 g7 kx0 kx1 kx2 kx3 kx4 ksb0 ksb1 ksb2
 obtain ⟨W15, hW, hm⟩ := HM.out.name
 rw [← hW]
 replace HM := Lib.hid hm
 clear hm hW
 refine (implRebaseE_d _ _ x base o _ (HM.out.arg HR.out) (HM.out.arg HO.out) hs hs2).mono ?_
 rintro e' W16 ⟨v', rfl, o', b'⟩
 obtain ⟨Aq, nq, cq, rfl⟩ := sliceV o'.read
 obtain ⟨bq, hm⟩ := HM.out.got o' b'
 clear o' b'
 replace HM := Lib.hid hm
 clear hm
 by_cases h8 : ¬ rebCode x base o = 0
 ·have HN := Lib.hid (sub_no (x := x) (c := c) (s := s) (base := base) (o := o) (k := (rebCode x base o)) (h8) (show subCode x c s base o = (rebCode x base o) by have e7 := eq_true E7.out; unfold subCode; simp [hd, hc, hq, ho, HN6.out, h8, e7]))
  have HE := Lib.hid (show errV (rebCode x base o) = .iface 101 (.int .i64 (rebCode x base o)) by unfold errV; rw [if_neg h8])
  clear h8
  rw [HE.out]
  obtain ⟨kr0, kr1, kr2, kr3, kr4⟩ := HM.out.c5 2 rfl
  obtain ⟨fr0, fr1, fr2, fr3, fr4⟩ := HM.out.f5 2 rfl
  go_wp2
  clear kr0 kr1 kr2 kr3 kr4 fr0 fr1 fr2 fr3 fr4
  have hm := HM.out.pk [2, 0, 1, 3] (by decide) (by simp)
  simp only [low.pk, low.gz, low.gs] at hm
  replace HM := Lib.hid hm
  clear hm
  have hm := HM.out.putRow (ys := [.string ⟨#[]⟩, .int .i64 0, .slice none 0 0, .slice none 0 0, .slice none 0 0]) rfl
  simp only [low.putRow, Nat.zero_add, Nat.reduceAdd] at hm
  replace HM := Lib.hid hm
  clear hm
  obtain ⟨W17, hW, hm⟩ := HM.out.name
  rw [← hW]
  replace HM := Lib.hid hm
  clear hm hW
  obtain ⟨kr0, kr1, kr2, kr3, kr4⟩ := HM.out.c5 0 rfl
  rw [HN.out.1, HN.out.2.1, HN.out.2.2]
  exact bodyPost_ret (v := .tuple #[.agg #[.string ⟨#[]⟩, .int .i64 0, .slice none 0 0, .slice none 0 0, .slice none 0 0], .int .i64 0, .iface 101 (.int .i64 (rebCode x base o))]) (by simp [results, Tryz.results31, go_sem, kr0, kr1, kr2, kr3, kr4]) rfl ⟨_, by rw [HE.out], HM.out.noDo.own (i := 0) rfl, HM.out.bl⟩
 have h8 : rebCode x base o = 0 := Classical.not_not.1 h8
 have H8 := Lib.hid h8
 rw [show errV (rebCode x base o) = .nilIface by unfold errV; rw [if_pos h8]]
 clear h8
 obtain ⟨kx0, kx1, kx2, kx3, kx4⟩ := HM.out.c5 3 rfl
 go_wp2_with fail
 clear kx0 kx1 kx2 kx3 kx4
 refine (implHeadRev_w _ x _ (HM.out.arg HR.out)).mono ?_
 rintro e' W18 ⟨rfl, b'⟩
 replace HM := Lib.hid (HM.out.past b')
 clear b'
 by_cases h9 : (999999000 : Int) ≤ headRevT x
 ·have HN := Lib.hid (sub_no (x := x) (c := c) (s := s) (base := base) (o := o) (k := 5) (by decide) (show subCode x c s base o = 5 by have e7 := eq_true E7.out; unfold subCode; simp [hd, hc, hq, ho, HN6.out, H8.out, h9, e7]))
  have g9 : decide ((999999000 : Int) ≤ headRevT x) = true := decide_eq_true h9
  obtain ⟨kr0, kr1, kr2, kr3, kr4⟩ := HM.out.c5 2 rfl
  obtain ⟨fr0, fr1, fr2, fr3, fr4⟩ := HM.out.f5 2 rfl
  go_wp2
  clear kr0 kr1 kr2 kr3 kr4 fr0 fr1 fr2 fr3 fr4
  have hm := HM.out.pk [2, 0, 1, 3] (by decide) (by simp)
  simp only [low.pk, low.gz, low.gs] at hm
  replace HM := Lib.hid hm
  clear hm
  have hm := HM.out.putRow (ys := [.string ⟨#[]⟩, .int .i64 0, .slice none 0 0, .slice none 0 0, .slice none 0 0]) rfl
  simp only [low.putRow, Nat.zero_add, Nat.reduceAdd] at hm
  replace HM := Lib.hid hm
  clear hm
  obtain ⟨W19, hW, hm⟩ := HM.out.name
  rw [← hW]
  replace HM := Lib.hid hm
  clear hm hW
  obtain ⟨kr0, kr1, kr2, kr3, kr4⟩ := HM.out.c5 0 rfl
  rw [HN.out.1, HN.out.2.1, HN.out.2.2]
  exact bodyPost_ret (v := .tuple #[.agg #[.string ⟨#[]⟩, .int .i64 0, .slice none 0 0, .slice none 0 0, .slice none 0 0], .int .i64 0, .iface 101 (.int .i64 5)]) (by simp [results, Tryz.results31, go_sem, kr0, kr1, kr2, kr3, kr4]) rfl ⟨_, by first | rfl | (rw [show errV (5) = .iface 101 (.int .i64 (5)) from rfl]; rfl), HM.out.noDo.own (i := 0) rfl, HM.out.bl⟩
 have g9 : decide ((999999000 : Int) ≤ headRevT x) = false := decide_eq_false h9
 have HN := Lib.hid (sub_go (show SubGo x c s base o from ⟨hd, hc, hq, ho, HN6.out, E7.out, H8.out, h9⟩))
 have HD := Lib.hid hd
 clear h9
 obtain ⟨kx0, kx1, kx2, kx3, kx4⟩ := HM.out.c5 3 rfl
 go_wp2_with fail
 clear g9 kx0 kx1 kx2 kx3 kx4
 refine (implCommit_m w _ x c s (rebOp x base o) Aq nq cq (w.heap.size + 1) 33 bq #[.string ⟨#[]⟩, .int .i64 0, .slice none 0 0, .slice none 0 0, .slice none 0 0] _ HR.out hs HD.out (HM.out.pick (ks := [0, 2]) (by decide) rfl)).mono ?_
 rintro e' W20 ⟨v', b9, rfl, hm⟩
 obtain ⟨A12, c12, A13, c13, A14, c14, rfl, -, -, -⟩ := aggDo (hm.read (i := 0) rfl)
 clear HM
 have HM := Lib.hid hm
 clear hm
 replace HM := Lib.hid (HM.out.new #[.string (commitT x c s (rebOp x base o)).name, .int .i64 (commitT x c s (rebOp x base o)).from_, .slice A12 (commitT x c s (rebOp x base o)).text.length c12, .slice A13 (commitT x c s (rebOp x base o)).list.length c13, .slice A14 (commitT x c s (rebOp x base o)).seen.length c14] 33)
 go_wp2
 obtain ⟨W21, hW, hm⟩ := HM.out.name
 rw [← hW]
 replace HM := Lib.hid hm
 clear hm hW
 replace HM := Lib.hid (HM.out.drew)
 refine wp_region_held_drew (S := fun W => Ms w [.bx W20.heap.size (.cells #[.string (commitT x c s (rebOp x base o)).name, .int .i64 (commitT x c s (rebOp x base o)).from_, .slice A12 (commitT x c s (rebOp x base o)).text.length c12, .slice A13 (commitT x c s (rebOp x base o)).list.length c13, .slice A14 (commitT x c s (rebOp x base o)).seen.length c14] 33 (0, 0))] W) (by kernel_rfl) (HM.out.pick (ks := [0]) (by decide) rfl) (fun hS => ?_)
 generalize W21.drew = W22 at HM hS  ⊢
 refine tk (v := ?_) 0 90 rfl (fun w' hS' => ?_) hS ?_
 rotate_left
 ·(try dsimp only at hS'); obtain ⟨q0, q1, q2, q3, q4⟩ := hS'.c5 0 rfl; go_simp; all_goals (with_reducible rfl)
 try simp only [Act.put, pa, pb, pc]
 refine tk (v := ?_) 1 91 rfl (fun w' hS' => ?_) hS ?_
 rotate_left
 ·(try dsimp only at hS'); obtain ⟨q0, q1, q2, q3, q4⟩ := hS'.c5 0 rfl; go_simp; all_goals (with_reducible rfl)
 try simp only [Act.put, pa, pb, pc]
 refine r1 2 (some 92) rfl (fun K hK => ?_)
 go_simp
 refine (implHeadRev_w _ (commitT x c s (rebOp x base o)) _ (HM.out.read (i := 1) rfl)).mono ?_
 rw [head_commit HD.out]
 rintro e' W23 ⟨rfl, b'⟩
 replace HM := Lib.hid (HM.out.past b')
 clear b'
 clear hS
 refine hK.out _ _ (HM.out.pick (ks := [0]) (by decide) rfl) (fun hS => ?_)
 clear hK K
 try simp only [Act.put, pa, pb, pc]
 refine r1 3 none rfl (fun K hK => ?_)
 obtain ⟨kr0, kr1, kr2, kr3, kr4⟩ := HM.out.c5 2 rfl
 obtain ⟨fr0, fr1, fr2, fr3, fr4⟩ := HM.out.f5 2 rfl
 go_simp
 clear hS kr0 kr1 kr2 kr3 kr4 fr0 fr1 fr2 fr3 fr4
 have hm := HM.out.pk [2, 0, 1] (by decide) (by simp)
 simp only [low.pk, low.gz, low.gs] at hm
 replace HM := Lib.hid hm
 clear hm
 have hm := HM.out.putRow (ys := [.string (commitT x c s (rebOp x base o)).name, .int .i64 (commitT x c s (rebOp x base o)).from_, .slice A12 (commitT x c s (rebOp x base o)).text.length c12, .slice A13 (commitT x c s (rebOp x base o)).list.length c13, .slice A14 (commitT x c s (rebOp x base o)).seen.length c14]) rfl
 simp only [low.putRow, Nat.zero_add, Nat.reduceAdd] at hm
 replace HM := Lib.hid hm
 clear hm
 obtain ⟨W24, hW, hm⟩ := HM.out.name
 rw [← hW]
 replace HM := Lib.hid hm
 clear hm hW
 refine hK.out _ _ (HM.out.pick (ks := [1]) (by decide) rfl) (fun hS => ?_)
 clear hK K
 try simp only [Act.put]
 refine tk (v := ?_) 4 11 rfl (fun w' hS' => ?_) hS ?_
 rotate_left
 ·go_simp; all_goals (with_reducible rfl)
 try simp only [Act.put, pa, pb, pc]
 refine tk (v := ?_) 5 12 rfl (fun w' hS' => ?_) hS ?_
 rotate_left
 ·go_simp; all_goals (with_reducible rfl)
 try simp only [Act.put, pa, pb, pc]
 refine wpAnyH_done (by kernel_rfl) ?_ _
 clear hS
 go_wp2
 obtain ⟨kr0, kr1, kr2, kr3, kr4⟩ := HM.out.c5 0 rfl
 have hm := HM.out.pk [2, 0, 1] (by decide) (by simp)
 simp only [low.pk, low.gz, low.gs] at hm
 replace HM := Lib.hid hm
 clear hm
 rw [HN.out.1, HN.out.2.1, HN.out.2.2]
 exact bodyPost_ret (v := .tuple #[.agg #[.string (commitT x c s (rebOp x base o)).name, .int .i64 (commitT x c s (rebOp x base o)).from_, .slice A12 (commitT x c s (rebOp x base o)).text.length c12, .slice A13 (commitT x c s (rebOp x base o)).list.length c13, .slice A14 (commitT x c s (rebOp x base o)).seen.length c14], .int .i64 (x.from_ + (x.list.length : Int) + 1), .nilIface]) (by simp [results, Tryz.results31, go_sem, kr0, kr1, kr2, kr3, kr4]) rfl ⟨_, rfl, HM.out.own (i := 0) rfl, HM.out.bl⟩
theorem implSubmit_d (v v2 : Value) (x : Do) (c s base : Int) (o : List Pt) (w : World) (h : RdC w w.heap.size (datDo x) v) (h2 : RdC w w.heap.size (encPs o) v2) (hs : SmDo x) (hs2 : SmP o) (hg : ET w) : Calls Tryz.prog 9 #[v, .int .i64 c, .int .i64 s, .int .i64 base, v2] w (ResNN (datDo (subDo x c s base o)) (subRev x c s base o) (subCode x c s base o) w) := by
 have HR := Lib.hid h
 have HO := Lib.hid h2
 have HG := Lib.hid hg
 obtain ⟨A2, c2, A3, c3, A4, c4, rfl, -, -, -⟩ := aggDo h
 obtain ⟨Ao, co, rfl⟩ := sliceP h2
 clear h h2 hg
 have hl := hs.list.len
 have HM := Lib.hid (Ms.start w)
 replace HM := Lib.hid (HM.out.new #[.string x.name, .int .i64 x.from_, .slice A2 x.text.length c2, .slice A3 x.list.length c3, .slice A4 x.seen.length c4] 33)
 have hm := HM.out.new #[.string ⟨#[]⟩, .int .i64 0, .slice none 0 0, .slice none 0 0, .slice none 0 0] 33
 simp only [World.size_alloc] at hm
 replace HM := Lib.hid hm
 clear hm
 go_enter Tryz.func9, Tryz.ntmps9
 go_wp2_with fail
 obtain ⟨W1, hW, hm⟩ := HM.out.name
 rw [← hW]
 replace HM := Lib.hid hm
 clear hm hW
 refine (implSubmitE_d _ _ x c s base o _ (HM.out.arg HR.out) (HM.out.arg HO.out) hs hs2).mono ?_
 rintro e' W2 ⟨v', rfl, o', b'⟩
 obtain ⟨A12, c12, A13, c13, A14, c14, rfl, -, -, -⟩ := aggDo o'.read
 obtain ⟨bf, hm⟩ := HM.out.got o' b'
 clear o' b'
 replace HM := Lib.hid hm
 clear hm
 generalize hE : errV (subCode x c s base o) = E
 have HE := Lib.hid hE
 clear hE
 replace HM := Lib.hid (HM.out.new #[.string (subDo x c s base o).name, .int .i64 (subDo x c s base o).from_, .slice A12 (subDo x c s base o).text.length c12, .slice A13 (subDo x c s base o).list.length c13, .slice A14 (subDo x c s base o).seen.length c14] 33)
 go_wp2
 obtain ⟨W3, hW, hm⟩ := HM.out.name
 rw [← hW]
 replace HM := Lib.hid hm
 clear hm hW
 replace HM := Lib.hid (HM.out.drew)
 refine wp_region_held_drew (S := fun W => Ms w [.bx W2.heap.size (.cells #[.string (subDo x c s base o).name, .int .i64 (subDo x c s base o).from_, .slice A12 (subDo x c s base o).text.length c12, .slice A13 (subDo x c s base o).list.length c13, .slice A14 (subDo x c s base o).seen.length c14] 33 (0, 0))] W) (by kernel_rfl) (HM.out.pick (ks := [0]) (by decide) rfl) (fun hS => ?_)
 generalize W3.drew = W4 at HM hS  ⊢
 refine tk (v := ?_) 0 26 rfl (fun w' hS' => ?_) hS ?_
 rotate_left
 ·(try dsimp only at hS'); obtain ⟨q0, q1, q2, q3, q4⟩ := hS'.c5 0 rfl; go_simp; all_goals (with_reducible rfl)
 try simp only [Act.put, pa, pb, pc]
 refine tk (v := ?_) 1 27 rfl (fun w' hS' => ?_) hS ?_
 rotate_left
 ·go_simp; all_goals (with_reducible rfl)
 try simp only [Act.put, pa, pb, pc]
 refine tk (v := ?_) 2 28 rfl (fun w' hS' => ?_) hS ?_
 rotate_left
 ·go_simp; all_goals (with_reducible rfl)
 try simp only [Act.put, pa, pb, pc]
 refine r1 3 (some 29) rfl (fun K hK => ?_)
 go_simp
 rw [← HE.out]
 refine (codeOf_any (subCode x c s base o) _ (HG.out.past rfl HM.out.bl)).mono ?_
 rintro e' W5 ⟨rfl, b'⟩
 replace HM := Lib.hid (HM.out.past b')
 clear b'
 clear hS
 refine hK.out _ _ (HM.out.pick (ks := [0]) (by decide) rfl) (fun hS => ?_)
 clear hK K
 try simp only [Act.put, pa, pb, pc]
 refine r1 4 none rfl (fun K hK => ?_)
 obtain ⟨kr0, kr1, kr2, kr3, kr4⟩ := HM.out.c5 2 rfl
 obtain ⟨fr0, fr1, fr2, fr3, fr4⟩ := HM.out.f5 2 rfl
 go_simp
 clear hS kr0 kr1 kr2 kr3 kr4 fr0 fr1 fr2 fr3 fr4
 have hm := HM.out.pk [2, 0, 1, 3] (by decide) (by simp)
 simp only [low.pk, low.gz, low.gs] at hm
 replace HM := Lib.hid hm
 clear hm
 have hm := HM.out.putRow (ys := [.string (subDo x c s base o).name, .int .i64 (subDo x c s base o).from_, .slice A12 (subDo x c s base o).text.length c12, .slice A13 (subDo x c s base o).list.length c13, .slice A14 (subDo x c s base o).seen.length c14]) rfl
 simp only [low.putRow, Nat.zero_add, Nat.reduceAdd] at hm
 replace HM := Lib.hid hm
 clear hm
 obtain ⟨W6, hW, hm⟩ := HM.out.name
 rw [← hW]
 replace HM := Lib.hid hm
 clear hm hW
 refine hK.out _ _ (HM.out.pick (ks := [1]) (by decide) rfl) (fun hS => ?_)
 clear hK K
 try simp only [Act.put]
 refine tk (v := ?_) 5 11 rfl (fun w' hS' => ?_) hS ?_
 rotate_left
 ·go_simp; all_goals (with_reducible rfl)
 try simp only [Act.put, pa, pb, pc]
 refine tk (v := ?_) 6 12 rfl (fun w' hS' => ?_) hS ?_
 rotate_left
 ·go_simp; all_goals (with_reducible rfl)
 try simp only [Act.put, pa, pb, pc]
 refine wpAnyH_done (by kernel_rfl) ?_ _
 clear hS
 go_wp2
 obtain ⟨kr0, kr1, kr2, kr3, kr4⟩ := HM.out.c5 0 rfl
 have hm := HM.out.pk [2, 0, 1, 3] (by decide) (by simp)
 simp only [low.pk, low.gz, low.gs] at hm
 replace HM := Lib.hid hm
 clear hm
 exact bodyPost_ret (v := .tuple #[.agg #[.string (subDo x c s base o).name, .int .i64 (subDo x c s base o).from_, .slice A12 (subDo x c s base o).text.length c12, .slice A13 (subDo x c s base o).list.length c13, .slice A14 (subDo x c s base o).seen.length c14], .int .i64 (subRev x c s base o), .int .i64 (subCode x c s base o)]) (by simp [results, Tryz.results9, go_sem, kr0, kr1, kr2, kr3, kr4]) rfl (HM.out.resNN _ _)
end Go.Proofs.YtglklgnggkenhaaGreatDoor.low
