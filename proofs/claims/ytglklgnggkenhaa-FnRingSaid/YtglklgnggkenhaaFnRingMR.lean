/-
  Proved: for every argument (bytes of a draw), the law FnRing of this seat's translation returns true (a ring returns what was pushed, in order and without gaps, until it is evicted); no conditions.
-/
import Derived.Test.YtglklgnggkenhaaRows
import Derived.Test.YtglklgnggkenhaaMR1
import Derived.WalkKit
import Derived.ProofKit
import Derived.OpenShut
import Derived.ShutString
import Derived.ChangeOld
import Derived.Below
import Derived.Test.YtglklgnggkenhaaMR2
import Derived.Test.YtglklgnggkenhaaMR3
set_option maxHeartbeats 12800000
set_option maxRecDepth 1000000
namespace Go.Proofs.Ytglklgnggkenhaa.fnRing
open Go.ChangeShapes Go.WideShapes Go.ChangeAt Go.RowKit
open Go.ChangeMaps (open_string shut_string)
open low
set_option linter.unusedVariables false
theorem own : ownKnob Try.prog.godebug = none := by kernel_rfl
theorem walk (A0 : Option Addr) (c0 : Nat) (zs0 : List Int) (w : World) (w0 : Row (Value.int .u8) w w.heap.size A0 zs0) (l0 : zs0.length ≤ maxLen) (b0 : ∀ z ∈ zs0, 0 ≤ z ∧ z < 256) :
  Calls Try.prog 3 #[.slice A0 zs0.length c0] w fun e w' => e = .returned (.bool true) ∧ Below w.heap.size w w' := by
 by_cases hl : zs0.length ≤ 1048576
 ·skip
  have hc : Code8 w (.slice A0 zs0.length c0) := ⟨A0, c0, zs0, rfl, hl, w0, b0⟩
  have D : Below w.heap.size w w := Below.refl _ _
  go_enter Try.func3, Try.ntmps3
  go_wp2_with fail
  refine (specMakeEntries_d _ _ hc).mono ?_
  rintro e w1 ⟨l, vl, rfl, hall, hlen, rl, b1⟩
  obtain ⟨Al, cl, rfl⟩ := sliceEns rl
  replace D := D.trans (b1.mono D.size)
  replace hc := hc.past b1
  clear b1 w0 b0
  go_wp2_with fail
  refine (specMakeNum_d _ 6 _ hc (by omega)).mono ?_
  rintro e u ⟨x, rfl, x0, x1, b2⟩
  replace x1 := x1 (by omega)
  replace D := D.trans (b2.mono D.size)
  have HC := Lib.hid (hc.past b2)
  have RL := Lib.hid (rl.past b2)
  clear b2 hc rl
  have gx : IntKind.i64.wrap (1 + x) = 1 + x := IntWalk.i64_in _ (by omega)
  obtain ⟨hnb, hrs⟩ := RS.start l (room := 1 + x) (by omega) (by omega)
  have HALL := Lib.hid hall
  clear hall
  have HM := Lib.hid (Ms.start u)
  go_wp2_with fail
  refine (implRingNew_w (1 + x) 10 _ ⟨by omega, by omega⟩).mono ?_
  rw [hnb]
  generalize ringNewT (1 + x) 10 = R at hrs ⊢
  rintro e' W1 ⟨v', rfl, o', b'⟩
  obtain ⟨AR, cR, rfl, -⟩ := aggRi o'.read
  obtain ⟨bn, hm⟩ := HM.out.got o' b'
  clear o' b' hnb
  obtain ⟨bR, hm⟩ := hm.unRi
  have HRS := Lib.hid hrs
  clear hrs
  replace HM := Lib.hid hm
  clear hm
  replace HM := Lib.hid (HM.out.new #[.int .i64 R.cap, .int .i64 R.next, .bool R.out, .slice AR R.list.length cR] 27)
  have hm := HM.out.empty 32 3
  simp only [World.size_alloc] at hm
  replace HM := Lib.hid hm
  clear hm
  go_wp2
  go_loopw [7, 38] (fun gv iv wr => ∃ (j : Nat) (R : Ri) (G : List En) (AR : Option Addr) (cR : Nat) (bR : List Nat) (Ag : Option Addr) (cg : Nat) (bg : List Nat), j ≤ l.length ∧ iv = .int .i64 (j : Int) ∧ gv = .slice Ag G.length cg ∧ RS l (1 + x) j R G ∧ Ms u [.bx W1.heap.size (.cells #[.int .i64 R.cap, .int .i64 R.next, .bool R.out, .slice AR R.list.length cR] 27 (0, 0)), .dt (encEns R.list) (.slice AR R.list.length cR) bR, .dt (encEns G) (.slice Ag G.length cg) bg] wr) (fun _ iv _ => l.length - (intOf iv).toNat)
  case atStart => exact ⟨0, R, [], _, _, _, _, _, _, Nat.zero_le _, rfl, rfl, HRS.out, HM.out.pick (ks := [1, 2, 0]) (by decide) rfl⟩
  case round =>
   obtain ⟨j, R, G, AR, cR, bR, Ag, cg, bg, hj, rfl, rfl, hrs, hm⟩ := hrel
   clear HM HRS
   have HM := Lib.hid hm
   have HRS := Lib.hid hrs
   have HSM := Lib.hid hrs.small
   have hG := hrs.le
   clear hm hrs
   by_cases hlt : j < l.length
   ·obtain ⟨b, off, e, A5, c5, rfl, hbb, hp, y0, y1, y2, q2⟩ := atEns RL.out hlt
    have x0_ := (HM.out.bl.cell (p := ⟨b, off + j * 3, none⟩) hbb).trans y0
    have x1_ := (HM.out.bl.cell (p := ⟨b, off + j * 3 + 1, none⟩) hbb).trans y1
    have x2_ := (HM.out.bl.cell (p := ⟨b, off + j * 3 + 2, none⟩) hbb).trans y2
    have hee : entryB e = true := List.all_eq_true.1 HALL.out e (List.mem_of_getElem? hp)
    have hse : SmEn e := by have := entry_800 hee; unfold SmEn; omega
    have HPU := Lib.hid (HRS.out.push hp hee hlen)
    have Q2 := Lib.hid q2
    clear y0 y1 y2 hp q2 hee
    replace HM := Lib.hid (HM.out.new #[.int .i64 e.client, .int .i64 e.seq, .slice A5 e.o.length c5] 32)
    obtain ⟨kr0, kr1, kr2, kr3⟩ := HM.out.c4 1 rfl
    go_wp2_with fail
    clear x0_ x1_ x2_ kr0 kr1 kr2 kr3
    obtain ⟨W2, hW, hm⟩ := HM.out.name
    rw [← hW]
    replace HM := Lib.hid hm
    clear hm hW
    refine (implRingLag_d _ R _ (rdRi R (HM.out.read (i := 2) rfl)) HSM.out).mono ?_
    rintro e' W3 ⟨rfl, b'⟩
    replace HM := Lib.hid (HM.out.past b')
    clear b'
    obtain ⟨kr0, kr1, kr2, kr3⟩ := HM.out.c4 1 rfl
    obtain ⟨ke0, ke1, ke2⟩ := HM.out.c3 0 rfl
    go_wp2_with fail
    clear kr0 kr1 kr2 kr3 ke0 ke1 ke2
    refine (implRingPush_d _ _ R e _ (rdRi R (HM.out.read (i := 2) rfl)) (rdEn e (HM.out.arg Q2.out)) HSM.out hse).mono ?_
    have hpu := HPU.out
    generalize ringPushT R e = X at hpu ⊢
    clear HPU
    rintro e' W4 ⟨v', rfl, o', b'⟩
    obtain ⟨AX, cX, rfl, -⟩ := aggRi o'.read
    obtain ⟨bn, hm⟩ := HM.out.got o' b'
    clear o' b'
    obtain ⟨bX, hm⟩ := hm.unRi
    obtain ⟨hps, hpc⟩ := hpu
    have HPS := Lib.hid hps
    have HSX := Lib.hid hps.small
    clear hps
    replace HM := Lib.hid hm
    clear hm
    rcases hpc with ⟨hO, hXo⟩ | ⟨hO, hL, hXo⟩ | ⟨hO, hL, hXo⟩
    ·have HOX := Lib.hid hXo
     replace HM := Lib.hid (HM.out.new #[.int .i64 X.cap, .int .i64 X.next, .bool true, .slice AX X.list.length cX] 27)
     obtain ⟨kr0, kr1, kr2, kr3⟩ := HM.out.c4 3 rfl
     rw [hO] at kr2
     go_wp2_with fail
     clear kr0 kr1 kr2 kr3 hO hXo
     obtain ⟨W5, hW, hm⟩ := HM.out.name
     rw [← hW]
     replace HM := Lib.hid hm
     clear hm hW
     have HRX := Lib.hid (show RdC W5 W5.heap.size (datRi X) (.agg #[.int .i64 X.cap, .int .i64 X.next, .bool true, .slice AX X.list.length cX]) from by have h9 := rdRi X (HM.out.read (i := 1) rfl); rw [HOX.out] at h9; exact h9)
     refine (implRingOk_d _ X _ HRX.out HSX.out).mono ?_
     rw [HPS.out.ok]
     rintro e' W6 ⟨rfl, b'⟩
     clear HRX
     replace HM := Lib.hid (HM.out.past b')
     clear b'
     obtain ⟨kx0, kx1, kx2, kx3⟩ := HM.out.c4 0 rfl
     obtain ⟨kr0, kr1, kr2, kr3⟩ := HM.out.c4 3 rfl
     obtain ⟨fr0, fr1, fr2, fr3⟩ := HM.out.f4 3 rfl
     obtain ⟨nxr, nrx⟩ := HM.out.ne (i := 0) (j := 3) rfl rfl (by omega)
     go_wp2_with fail
     clear kx0 kx1 kx2 kx3 kr0 kr1 kr2 kr3 fr0 fr1 fr2 fr3 nxr nrx
     have hm := HM.out.pk [3, 0, 1, 2, 4, 5] (by decide) (by simp)
     simp only [low.pk, List.getElem?_cons_zero, List.getElem?_cons_succ] at hm
     replace HM := Lib.hid hm
     clear hm
     have hm := HM.out.putRow (ys := [.int .i64 X.cap, .int .i64 X.next, .bool true, .slice AX X.list.length cX]) rfl
     simp only [low.putRow, Nat.zero_add, Nat.reduceAdd] at hm
     replace HM := Lib.hid hm
     clear hm
     obtain ⟨W7, hW, hm⟩ := HM.out.name
     rw [← hW]
     replace HM := Lib.hid hm
     clear hm hW
     refine (specMakeNum_d _ 3 _ (HC.out.past HM.out.bl) (by omega)).mono ?_
     rintro e' W8 ⟨y, rfl, -, -, b'⟩
     replace HM := Lib.hid (HM.out.past b')
     clear b'
     obtain ⟨z, hz1⟩ : ∃ z : Int, (j : Int).tmod 3 = z := ⟨_, rfl⟩
     have hz2 : (j : Int) % 3 = z := by rw [← hz1]; exact (Int.tmod_eq_emod_of_nonneg (by omega)).symm
     have hz3 : ((j % 3 : Nat) : Int) = z := by rw [← hz2]; omega
     by_cases hq : z = y
     ·have gq : (z == y) = true := by rw [beq_iff_eq]; exact hq
      clear hq
      obtain ⟨kr0, kr1, kr2, kr3⟩ := HM.out.c4 0 rfl
      go_wp2
      clear kr0 kr1 kr2 kr3 hz1 hz2 hz3 gq
      replace HM := Lib.hid (HM.out.drew)
      refine wp_region_held_drew (S := fun W => Ms u [.bx (W1.heap.size) (.cells #[.int .i64 X.cap, .int .i64 X.next, .bool true, .slice AX X.list.length cX] 27 (0, 0))] W) (by kernel_rfl) (HM.out.pick (ks := [0]) (by decide) rfl) (fun hS => ?_)
      generalize W8.drew = W9 at HM hS  ⊢
      refine tk (v := ?_) 0 70 rfl (fun w' hS' => ?_) hS ?_
      rotate_left
      ·(try dsimp only at hS'); obtain ⟨q0, q1, q2, q3⟩ := hS'.c4 0 rfl; go_simp; all_goals (with_reducible rfl)
      try simp only [Act.put, pa, pb, pc]
      refine tk (v := ?_) 1 71 rfl (fun w' hS' => ?_) hS ?_
      rotate_left
      ·go_simp; all_goals (with_reducible rfl)
      try simp only [Act.put, pa, pb, pc]
      refine wpAnyH_ready (rs := [2, 9]) (by kernel_rfl) (by simp) ?_
      refine AllReadyH.cons (o := ⟨some 72, _, _, _, _, _⟩) rfl (fun K hK => ?_) ?_
      ·go_simp
       refine (specMakeNum_d _ 4 _ (HC.out.past HM.out.bl) (by omega)).mono ?_
       rintro e' W10 ⟨y4, rfl, y40, y41, b'⟩
       replace HM := Lib.hid (HM.out.past b')
       clear b'
       replace y41 := y41 (by omega)
       have gy4 : IntKind.i64.wrap (1 + y4) = 1 + y4 := IntWalk.i64_in _ (by omega)
       clear hS
       refine hK.out _ _ (HM.out.pick (ks := [0]) (by decide) rfl) (fun hS => ?_)
       clear hK K
       try simp only [Act.put, pa, pb, pc]
       refine tk (v := ?_) 3 73 rfl (fun w' hS' => ?_) hS ?_
       rotate_left
       ·go_simp; all_goals (with_reducible rfl)
       try simp only [Act.put, pa, pb, pc]
       refine wpAnyH_ready (rs := [4, 9]) (by kernel_rfl) (by simp) ?_
       refine AllReadyH.cons (o := ⟨some 74, _, _, _, _, _⟩) rfl (fun K hK => ?_) ?_
       ·go_simp
        have HRX := Lib.hid (show RdC W10 W10.heap.size (datRi X) (.agg #[.int .i64 X.cap, .int .i64 X.next, .bool true, .slice AX X.list.length cX]) from by have h9 := rdRi X (HM.out.read (i := 2) rfl); rw [HOX.out] at h9; exact h9)
        obtain ⟨hY, hYo, hC9, hC0, hL6⟩ := HPS.out.poll (n := 1 + y4) (by omega) hlen (by omega)
        have hYx := hYo.trans HOX.out
        have hC := hC9 HOX.out
        refine (implRingPoll_d _ X (1 + y4) _ HRX.out HSX.out).mono ?_
        rw [hC]
        generalize ringPollT X (1 + y4) = Y at hY hYx ⊢
        generalize ringPollL X (1 + y4) = M at hY hL6 ⊢
        rintro e' W11 ⟨v', v2', b1', b2', rfl, ob1, ob2, dis, b'⟩
        obtain ⟨AY, cY, rfl, -⟩ := aggRi ob1.read
        obtain ⟨AM, cM, rfl⟩ := sliceEns ob2.read
        have hm := HM.out.got2 ob1 ob2 dis b'
        clear ob1 ob2 dis b' hC hC9 hC0 hYo HRX
        obtain ⟨bY, hm⟩ := hm.unRi
        have HPY := Lib.hid hY
        have HSY := Lib.hid hY.small
        have HOY := Lib.hid hYx
        clear hY hYx
        replace HM := Lib.hid hm
        clear hm
        clear hS
        refine hK.out _ _ (HM.out.pick (ks := [2]) (by decide) rfl) (fun hS => ?_)
        clear hK K
        try simp only [Act.put, pa, pb, pc]
        refine tk (v := ?_) 5 69 rfl (fun w' hS' => ?_) hS ?_
        rotate_left
        ·go_simp; all_goals (with_reducible rfl)
        try simp only [Act.put, pa, pb, pc]
        refine tk (v := ?_) 6 75 rfl (fun w' hS' => ?_) hS ?_
        rotate_left
        ·go_simp; all_goals (with_reducible rfl)
        try simp only [Act.put, pa, pb, pc]
        refine tk (v := ?_) 7 76 rfl (fun w' hS' => ?_) hS ?_
        rotate_left
        ·go_simp; all_goals (with_reducible rfl)
        try simp only [Act.put, pa, pb, pc]
        refine tk (v := ?_) 8 77 rfl (fun w' hS' => ?_) hS ?_
        rotate_left
        ·go_simp; all_goals (with_reducible rfl)
        try simp only [Act.put, pa, pb, pc]
        refine r1 9 (some 12) rfl (fun K hK => ?_)
        go_simp
        replace HM := Lib.hid (HM.out.new #[.int .i64 0, .int .i64 0, .bool false, .slice none 0 0] 27)
        obtain ⟨W12, hW, hm⟩ := HM.out.name
        rw [← hW]
        replace HM := Lib.hid hm
        clear hm hW
        clear hS
        refine hK.out _ _ (HM.out.pick (ks := [3]) (by decide) rfl) (fun hS => ?_)
        clear hK K
        try simp only [Act.put, pa, pb, pc]
        refine r1 10 none rfl (fun K hK => ?_)
        obtain ⟨ky0, ky1, ky2, ky3⟩ := HM.out.c4 0 rfl
        obtain ⟨fy0, fy1, fy2, fy3⟩ := HM.out.f4 0 rfl
        go_simp
        clear hS ky0 ky1 ky2 ky3 fy0 fy1 fy2 fy3
        have hm := HM.out.putRow (ys := [.int .i64 Y.cap, .int .i64 Y.next, .bool Y.out, .slice AY Y.list.length cY]) rfl
        simp only [low.putRow, Nat.zero_add, Nat.reduceAdd] at hm
        replace HM := Lib.hid hm
        clear hm
        obtain ⟨W13, hW, hm⟩ := HM.out.name
        rw [← hW]
        replace HM := Lib.hid hm
        clear hm hW
        refine hK.out _ _ (HM.out.pick (ks := [3]) (by decide) rfl) (fun hS => ?_)
        clear hK K
        try simp only [Act.put]
        refine tk (v := ?_) 11 13 rfl (fun w' hS' => ?_) hS ?_
        rotate_left
        ·go_simp; all_goals (with_reducible rfl)
        try simp only [Act.put, pa, pb, pc]
        refine tk (v := ?_) 12 14 rfl (fun w' hS' => ?_) hS ?_
        rotate_left
        ·go_simp; all_goals (with_reducible rfl)
        try simp only [Act.put, pa, pb, pc]
        refine wpAnyH_done (by kernel_rfl) ?_ _
        clear hS
        try clear gy4
        obtain ⟨kr0, kr1, kr2, kr3⟩ := HM.out.c4 3 rfl
        have hm := HM.out.pk [8, 2, 0, 1, 3, 4, 5, 6, 7] (by decide) (by simp)
        simp only [low.pk, List.getElem?_cons_zero, List.getElem?_cons_succ] at hm
        replace HM := Lib.hid hm
        clear hm
        go_wp2_with (at_builtin; refine wpList_msOwn rfl (.tmp 83) (.tmp 84) 23 rfl eltEn AM M.length cM (show Ms u (.dt (.rows 32 3 (G.map encEn)) _ _ :: .dt (.rows 32 3 (M.map encEn)) _ _ :: _) _ from HM.out) rfl rfl (one_en M) (by simp; omega) ?_; intro A7 c7 w7 b7 hm; rw [show (G.map encEn).length + M.length = (G ++ M).length by simp, show G.map encEn ++ M.map encEn = (G ++ M).map encEn by simp] at hm; rw [show (G.map encEn).length + M.length = (G ++ M).length by simp]; clear kr0 kr1 kr2 kr3; replace HM := Lib.hid (show Ms u [.dt (encEns (G ++ M)) (.slice A7 (G ++ M).length c7) b7, .bx (W11.heap.size) (.cells #[.int .i64 Y.cap, .int .i64 Y.next, .bool Y.out, .slice AY Y.list.length cY] 27 (0, 0)), .dt (encEns Y.list) (.slice AY Y.list.length cY) bY, .bx (W1.heap.size) (.cells #[.int .i64 X.cap, .int .i64 X.next, .bool true, .slice AX X.list.length cX] 27 (0, 0)), .bx W4.heap.size (.cells #[.int .i64 X.cap, .int .i64 X.next, .bool true, .slice AX X.list.length cX] 27 (0, 0)), .dt (encEns X.list) (.slice AX X.list.length cX) bX, .bx wr.heap.size (.cells #[.int .i64 e.client, .int .i64 e.seq, .slice A5 e.o.length c5] 32 (0, 0)), .dt (encEns R.list) (.slice AR R.list.length cR) bR] w7 from hm); clear hm; obtain ⟨gg, hgg⟩ : ∃ gg, G ++ M = gg := ⟨_, rfl⟩; have HPG := HPY; rw [hgg] at HM HPG; rw [hgg]; clear hgg HPY; obtain ⟨ky0, ky1, ky2, ky3⟩ := HM.out.c4 1 rfl; obtain ⟨kr0, kr1, kr2, kr3⟩ := HM.out.c4 3 rfl; obtain ⟨fr0, fr1, fr2, fr3⟩ := HM.out.f4 3 rfl; obtain ⟨nyr, nry⟩ := HM.out.ne (i := 1) (j := 3) rfl rfl (by omega); rw [HOY.out] at ky2)
        clear ky0 ky1 ky2 ky3 kr0 kr1 kr2 kr3 fr0 fr1 fr2 fr3 nyr nry
        have hm := HM.out.pk [3, 0, 1, 2, 4, 5, 6, 7] (by decide) (by simp)
        simp only [low.pk, List.getElem?_cons_zero, List.getElem?_cons_succ] at hm
        replace HM := Lib.hid hm
        clear hm
        have hm := HM.out.putRow (ys := [.int .i64 Y.cap, .int .i64 Y.next, .bool true, .slice AY Y.list.length cY]) rfl
        simp only [low.putRow, Nat.zero_add, Nat.reduceAdd] at hm
        replace HM := Lib.hid hm
        clear hm
        go_roundw
        case rel => exact ⟨j + 1, Y, gg, _, _, _, _, _, _, by omega, by go_num, rfl, HPG.out, by rw [HOY.out]; exact HM.out.pick (ks := [0, 3, 1]) (by decide) rfl⟩
        case measure => simp [intOf]; omega
       refine AllReadyH.cons (o := ⟨some 12, _, _, _, _, _⟩) rfl (fun K hK => ?_) AllReadyH.nil
       go_simp
       replace HM := Lib.hid (HM.out.new #[.int .i64 0, .int .i64 0, .bool false, .slice none 0 0] 27)
       obtain ⟨W14, hW, hm⟩ := HM.out.name
       rw [← hW]
       replace HM := Lib.hid hm
       clear hm hW
       clear hS
       refine hK.out _ _ (HM.out.pick (ks := [1]) (by decide) rfl) (fun hS => ?_)
       clear hK K
       try simp only [Act.put, pa, pb, pc]
       refine r1 4 (some 74) rfl (fun K hK => ?_)
       go_simp
       have HRX := Lib.hid (show RdC W14 W14.heap.size (datRi X) (.agg #[.int .i64 X.cap, .int .i64 X.next, .bool true, .slice AX X.list.length cX]) from by have h9 := rdRi X (HM.out.read (i := 3) rfl); rw [HOX.out] at h9; exact h9)
       obtain ⟨hY, hYo, hC9, hC0, hL6⟩ := HPS.out.poll (n := 1 + y4) (by omega) hlen (by omega)
       have hYx := hYo.trans HOX.out
       have hC := hC9 HOX.out
       refine (implRingPoll_d _ X (1 + y4) _ HRX.out HSX.out).mono ?_
       rw [hC]
       generalize ringPollT X (1 + y4) = Y at hY hYx ⊢
       generalize ringPollL X (1 + y4) = M at hY hL6 ⊢
       rintro e' W15 ⟨v', v2', b1', b2', rfl, ob1, ob2, dis, b'⟩
       obtain ⟨AY, cY, rfl, -⟩ := aggRi ob1.read
       obtain ⟨AM, cM, rfl⟩ := sliceEns ob2.read
       have hm := HM.out.got2 ob1 ob2 dis b'
       clear ob1 ob2 dis b' hC hC9 hC0 hYo HRX
       obtain ⟨bY, hm⟩ := hm.unRi
       have HPY := Lib.hid hY
       have HSY := Lib.hid hY.small
       have HOY := Lib.hid hYx
       clear hY hYx
       replace HM := Lib.hid hm
       clear hm
       clear hS
       refine hK.out _ _ (HM.out.pick (ks := [3]) (by decide) rfl) (fun hS => ?_)
       clear hK K
       try simp only [Act.put, pa, pb, pc]
       refine tk (v := ?_) 5 69 rfl (fun w' hS' => ?_) hS ?_
       rotate_left
       ·go_simp; all_goals (with_reducible rfl)
       try simp only [Act.put, pa, pb, pc]
       refine tk (v := ?_) 6 75 rfl (fun w' hS' => ?_) hS ?_
       rotate_left
       ·go_simp; all_goals (with_reducible rfl)
       try simp only [Act.put, pa, pb, pc]
       refine tk (v := ?_) 7 76 rfl (fun w' hS' => ?_) hS ?_
       rotate_left
       ·go_simp; all_goals (with_reducible rfl)
       try simp only [Act.put, pa, pb, pc]
       refine tk (v := ?_) 8 77 rfl (fun w' hS' => ?_) hS ?_
       rotate_left
       ·go_simp; all_goals (with_reducible rfl)
       try simp only [Act.put, pa, pb, pc]
       refine r1 10 none rfl (fun K hK => ?_)
       obtain ⟨ky0, ky1, ky2, ky3⟩ := HM.out.c4 2 rfl
       obtain ⟨fy0, fy1, fy2, fy3⟩ := HM.out.f4 2 rfl
       go_simp
       clear hS ky0 ky1 ky2 ky3 fy0 fy1 fy2 fy3
       have hm := HM.out.pk [2, 0, 1, 3, 4, 5, 6, 7, 8] (by decide) (by simp)
       simp only [low.pk, List.getElem?_cons_zero, List.getElem?_cons_succ] at hm
       replace HM := Lib.hid hm
       clear hm
       have hm := HM.out.putRow (ys := [.int .i64 Y.cap, .int .i64 Y.next, .bool Y.out, .slice AY Y.list.length cY]) rfl
       simp only [low.putRow, Nat.zero_add, Nat.reduceAdd] at hm
       replace HM := Lib.hid hm
       clear hm
       obtain ⟨W16, hW, hm⟩ := HM.out.name
       rw [← hW]
       replace HM := Lib.hid hm
       clear hm hW
       refine hK.out _ _ (HM.out.pick (ks := [3]) (by decide) rfl) (fun hS => ?_)
       clear hK K
       try simp only [Act.put]
       refine tk (v := ?_) 11 13 rfl (fun w' hS' => ?_) hS ?_
       rotate_left
       ·go_simp; all_goals (with_reducible rfl)
       try simp only [Act.put, pa, pb, pc]
       refine tk (v := ?_) 12 14 rfl (fun w' hS' => ?_) hS ?_
       rotate_left
       ·go_simp; all_goals (with_reducible rfl)
       try simp only [Act.put, pa, pb, pc]
       refine wpAnyH_done (by kernel_rfl) ?_ _
       clear hS
       try clear gy4
       obtain ⟨kr0, kr1, kr2, kr3⟩ := HM.out.c4 3 rfl
       have hm := HM.out.pk [8, 2, 0, 1, 3, 4, 5, 6, 7] (by decide) (by simp)
       simp only [low.pk, List.getElem?_cons_zero, List.getElem?_cons_succ] at hm
       replace HM := Lib.hid hm
       clear hm
       go_wp2_with (at_builtin; refine wpList_msOwn rfl (.tmp 83) (.tmp 84) 23 rfl eltEn AM M.length cM (show Ms u (.dt (.rows 32 3 (G.map encEn)) _ _ :: .dt (.rows 32 3 (M.map encEn)) _ _ :: _) _ from HM.out) rfl rfl (one_en M) (by simp; omega) ?_; intro A7 c7 w7 b7 hm; rw [show (G.map encEn).length + M.length = (G ++ M).length by simp, show G.map encEn ++ M.map encEn = (G ++ M).map encEn by simp] at hm; rw [show (G.map encEn).length + M.length = (G ++ M).length by simp]; clear kr0 kr1 kr2 kr3; replace HM := Lib.hid (show Ms u [.dt (encEns (G ++ M)) (.slice A7 (G ++ M).length c7) b7, .bx (W10.heap.size) (.cells #[.int .i64 Y.cap, .int .i64 Y.next, .bool Y.out, .slice AY Y.list.length cY] 27 (0, 0)), .dt (encEns Y.list) (.slice AY Y.list.length cY) bY, .bx (W1.heap.size) (.cells #[.int .i64 X.cap, .int .i64 X.next, .bool true, .slice AX X.list.length cX] 27 (0, 0)), .bx W4.heap.size (.cells #[.int .i64 X.cap, .int .i64 X.next, .bool true, .slice AX X.list.length cX] 27 (0, 0)), .dt (encEns X.list) (.slice AX X.list.length cX) bX, .bx wr.heap.size (.cells #[.int .i64 e.client, .int .i64 e.seq, .slice A5 e.o.length c5] 32 (0, 0)), .dt (encEns R.list) (.slice AR R.list.length cR) bR] w7 from hm); clear hm; obtain ⟨gg, hgg⟩ : ∃ gg, G ++ M = gg := ⟨_, rfl⟩; have HPG := HPY; rw [hgg] at HM HPG; rw [hgg]; clear hgg HPY; obtain ⟨ky0, ky1, ky2, ky3⟩ := HM.out.c4 1 rfl; obtain ⟨kr0, kr1, kr2, kr3⟩ := HM.out.c4 3 rfl; obtain ⟨fr0, fr1, fr2, fr3⟩ := HM.out.f4 3 rfl; obtain ⟨nyr, nry⟩ := HM.out.ne (i := 1) (j := 3) rfl rfl (by omega); rw [HOY.out] at ky2)
       clear ky0 ky1 ky2 ky3 kr0 kr1 kr2 kr3 fr0 fr1 fr2 fr3 nyr nry
       have hm := HM.out.pk [3, 0, 1, 2, 4, 5, 6, 7] (by decide) (by simp)
       simp only [low.pk, List.getElem?_cons_zero, List.getElem?_cons_succ] at hm
       replace HM := Lib.hid hm
       clear hm
       have hm := HM.out.putRow (ys := [.int .i64 Y.cap, .int .i64 Y.next, .bool true, .slice AY Y.list.length cY]) rfl
       simp only [low.putRow, Nat.zero_add, Nat.reduceAdd] at hm
       replace HM := Lib.hid hm
       clear hm
       go_roundw
       case rel => exact ⟨j + 1, Y, gg, _, _, _, _, _, _, by omega, by go_num, rfl, HPG.out, by rw [HOY.out]; exact HM.out.pick (ks := [0, 3, 1]) (by decide) rfl⟩
       case measure => simp [intOf]; omega
      refine AllReadyH.cons (o := ⟨some 12, _, _, _, _, _⟩) rfl (fun K hK => ?_) AllReadyH.nil
      go_simp
      replace HM := Lib.hid (HM.out.new #[.int .i64 0, .int .i64 0, .bool false, .slice none 0 0] 27)
      obtain ⟨W17, hW, hm⟩ := HM.out.name
      rw [← hW]
      replace HM := Lib.hid hm
      clear hm hW
      clear hS
      refine hK.out _ _ (HM.out.pick (ks := [1]) (by decide) rfl) (fun hS => ?_)
      clear hK K
      try simp only [Act.put, pa, pb, pc]
      refine r1 2 (some 72) rfl (fun K hK => ?_)
      go_simp
      refine (specMakeNum_d _ 4 _ (HC.out.past HM.out.bl) (by omega)).mono ?_
      rintro e' W18 ⟨y4, rfl, y40, y41, b'⟩
      replace HM := Lib.hid (HM.out.past b')
      clear b'
      replace y41 := y41 (by omega)
      have gy4 : IntKind.i64.wrap (1 + y4) = 1 + y4 := IntWalk.i64_in _ (by omega)
      clear hS
      refine hK.out _ _ (HM.out.pick (ks := [1]) (by decide) rfl) (fun hS => ?_)
      clear hK K
      try simp only [Act.put, pa, pb, pc]
      refine tk (v := ?_) 3 73 rfl (fun w' hS' => ?_) hS ?_
      rotate_left
      ·go_simp; all_goals (with_reducible rfl)
      try simp only [Act.put, pa, pb, pc]
      refine r1 4 (some 74) rfl (fun K hK => ?_)
      go_simp
      have HRX := Lib.hid (show RdC W18 W18.heap.size (datRi X) (.agg #[.int .i64 X.cap, .int .i64 X.next, .bool true, .slice AX X.list.length cX]) from by have h9 := rdRi X (HM.out.read (i := 3) rfl); rw [HOX.out] at h9; exact h9)
      obtain ⟨hY, hYo, hC9, hC0, hL6⟩ := HPS.out.poll (n := 1 + y4) (by omega) hlen (by omega)
      have hYx := hYo.trans HOX.out
      have hC := hC9 HOX.out
      refine (implRingPoll_d _ X (1 + y4) _ HRX.out HSX.out).mono ?_
      rw [hC]
      generalize ringPollT X (1 + y4) = Y at hY hYx ⊢
      generalize ringPollL X (1 + y4) = M at hY hL6 ⊢
      rintro e' W19 ⟨v', v2', b1', b2', rfl, ob1, ob2, dis, b'⟩
      obtain ⟨AY, cY, rfl, -⟩ := aggRi ob1.read
      obtain ⟨AM, cM, rfl⟩ := sliceEns ob2.read
      have hm := HM.out.got2 ob1 ob2 dis b'
      clear ob1 ob2 dis b' hC hC9 hC0 hYo HRX
      obtain ⟨bY, hm⟩ := hm.unRi
      have HPY := Lib.hid hY
      have HSY := Lib.hid hY.small
      have HOY := Lib.hid hYx
      clear hY hYx
      replace HM := Lib.hid hm
      clear hm
      clear hS
      refine hK.out _ _ (HM.out.pick (ks := [3]) (by decide) rfl) (fun hS => ?_)
      clear hK K
      try simp only [Act.put, pa, pb, pc]
      refine tk (v := ?_) 5 69 rfl (fun w' hS' => ?_) hS ?_
      rotate_left
      ·go_simp; all_goals (with_reducible rfl)
      try simp only [Act.put, pa, pb, pc]
      refine tk (v := ?_) 6 75 rfl (fun w' hS' => ?_) hS ?_
      rotate_left
      ·go_simp; all_goals (with_reducible rfl)
      try simp only [Act.put, pa, pb, pc]
      refine tk (v := ?_) 7 76 rfl (fun w' hS' => ?_) hS ?_
      rotate_left
      ·go_simp; all_goals (with_reducible rfl)
      try simp only [Act.put, pa, pb, pc]
      refine tk (v := ?_) 8 77 rfl (fun w' hS' => ?_) hS ?_
      rotate_left
      ·go_simp; all_goals (with_reducible rfl)
      try simp only [Act.put, pa, pb, pc]
      refine r1 10 none rfl (fun K hK => ?_)
      obtain ⟨ky0, ky1, ky2, ky3⟩ := HM.out.c4 2 rfl
      obtain ⟨fy0, fy1, fy2, fy3⟩ := HM.out.f4 2 rfl
      go_simp
      clear hS ky0 ky1 ky2 ky3 fy0 fy1 fy2 fy3
      have hm := HM.out.pk [2, 0, 1, 3, 4, 5, 6, 7, 8] (by decide) (by simp)
      simp only [low.pk, List.getElem?_cons_zero, List.getElem?_cons_succ] at hm
      replace HM := Lib.hid hm
      clear hm
      have hm := HM.out.putRow (ys := [.int .i64 Y.cap, .int .i64 Y.next, .bool Y.out, .slice AY Y.list.length cY]) rfl
      simp only [low.putRow, Nat.zero_add, Nat.reduceAdd] at hm
      replace HM := Lib.hid hm
      clear hm
      obtain ⟨W20, hW, hm⟩ := HM.out.name
      rw [← hW]
      replace HM := Lib.hid hm
      clear hm hW
      refine hK.out _ _ (HM.out.pick (ks := [3]) (by decide) rfl) (fun hS => ?_)
      clear hK K
      try simp only [Act.put]
      refine tk (v := ?_) 11 13 rfl (fun w' hS' => ?_) hS ?_
      rotate_left
      ·go_simp; all_goals (with_reducible rfl)
      try simp only [Act.put, pa, pb, pc]
      refine tk (v := ?_) 12 14 rfl (fun w' hS' => ?_) hS ?_
      rotate_left
      ·go_simp; all_goals (with_reducible rfl)
      try simp only [Act.put, pa, pb, pc]
      refine wpAnyH_done (by kernel_rfl) ?_ _
      clear hS
      try clear gy4
      obtain ⟨kr0, kr1, kr2, kr3⟩ := HM.out.c4 3 rfl
      have hm := HM.out.pk [8, 2, 0, 1, 3, 4, 5, 6, 7] (by decide) (by simp)
      simp only [low.pk, List.getElem?_cons_zero, List.getElem?_cons_succ] at hm
      replace HM := Lib.hid hm
      clear hm
      go_wp2_with (at_builtin; refine wpList_msOwn rfl (.tmp 83) (.tmp 84) 23 rfl eltEn AM M.length cM (show Ms u (.dt (.rows 32 3 (G.map encEn)) _ _ :: .dt (.rows 32 3 (M.map encEn)) _ _ :: _) _ from HM.out) rfl rfl (one_en M) (by simp; omega) ?_; intro A7 c7 w7 b7 hm; rw [show (G.map encEn).length + M.length = (G ++ M).length by simp, show G.map encEn ++ M.map encEn = (G ++ M).map encEn by simp] at hm; rw [show (G.map encEn).length + M.length = (G ++ M).length by simp]; clear kr0 kr1 kr2 kr3; replace HM := Lib.hid (show Ms u [.dt (encEns (G ++ M)) (.slice A7 (G ++ M).length c7) b7, .bx (W9.heap.size) (.cells #[.int .i64 Y.cap, .int .i64 Y.next, .bool Y.out, .slice AY Y.list.length cY] 27 (0, 0)), .dt (encEns Y.list) (.slice AY Y.list.length cY) bY, .bx (W1.heap.size) (.cells #[.int .i64 X.cap, .int .i64 X.next, .bool true, .slice AX X.list.length cX] 27 (0, 0)), .bx W4.heap.size (.cells #[.int .i64 X.cap, .int .i64 X.next, .bool true, .slice AX X.list.length cX] 27 (0, 0)), .dt (encEns X.list) (.slice AX X.list.length cX) bX, .bx wr.heap.size (.cells #[.int .i64 e.client, .int .i64 e.seq, .slice A5 e.o.length c5] 32 (0, 0)), .dt (encEns R.list) (.slice AR R.list.length cR) bR] w7 from hm); clear hm; obtain ⟨gg, hgg⟩ : ∃ gg, G ++ M = gg := ⟨_, rfl⟩; have HPG := HPY; rw [hgg] at HM HPG; rw [hgg]; clear hgg HPY; obtain ⟨ky0, ky1, ky2, ky3⟩ := HM.out.c4 1 rfl; obtain ⟨kr0, kr1, kr2, kr3⟩ := HM.out.c4 3 rfl; obtain ⟨fr0, fr1, fr2, fr3⟩ := HM.out.f4 3 rfl; obtain ⟨nyr, nry⟩ := HM.out.ne (i := 1) (j := 3) rfl rfl (by omega); rw [HOY.out] at ky2)
      clear ky0 ky1 ky2 ky3 kr0 kr1 kr2 kr3 fr0 fr1 fr2 fr3 nyr nry
      have hm := HM.out.pk [3, 0, 1, 2, 4, 5, 6, 7] (by decide) (by simp)
      simp only [low.pk, List.getElem?_cons_zero, List.getElem?_cons_succ] at hm
      replace HM := Lib.hid hm
      clear hm
      have hm := HM.out.putRow (ys := [.int .i64 Y.cap, .int .i64 Y.next, .bool true, .slice AY Y.list.length cY]) rfl
      simp only [low.putRow, Nat.zero_add, Nat.reduceAdd] at hm
      replace HM := Lib.hid hm
      clear hm
      go_roundw
      case rel => exact ⟨j + 1, Y, gg, _, _, _, _, _, _, by omega, by go_num, rfl, HPG.out, by rw [HOY.out]; exact HM.out.pick (ks := [0, 3, 1]) (by decide) rfl⟩
      case measure => simp [intOf]; omega
     have gq : (z == y) = false := by rw [beq_eq_false_iff_ne]; exact hq
     clear hq
     obtain ⟨kr0, kr1, kr2, kr3⟩ := HM.out.c4 0 rfl
     go_wp2
     clear kr0 kr1 kr2 kr3 hz1 hz2 hz3 gq
     go_roundw
     case rel => exact ⟨j + 1, X, G, _, _, _, _, _, _, by omega, by go_num, rfl, HPS.out, by rw [HOX.out]; exact HM.out.pick (ks := [0, 2, 5]) (by decide) rfl⟩
     case measure => simp [intOf]; omega
    ·have HOX := Lib.hid hXo
     have gl : (ringLagT R == 1 + x) = true := by rw [beq_iff_eq]; exact hL
     clear hL
     replace HM := Lib.hid (HM.out.new #[.int .i64 X.cap, .int .i64 X.next, .bool true, .slice AX X.list.length cX] 27)
     obtain ⟨kr0, kr1, kr2, kr3⟩ := HM.out.c4 3 rfl
     rw [hO] at kr2
     go_wp2_with fail
     clear kr0 kr1 kr2 kr3 hO hXo gl
     obtain ⟨W21, hW, hm⟩ := HM.out.name
     rw [← hW]
     replace HM := Lib.hid hm
     clear hm hW
     have HRX := Lib.hid (show RdC W21 W21.heap.size (datRi X) (.agg #[.int .i64 X.cap, .int .i64 X.next, .bool true, .slice AX X.list.length cX]) from by have h9 := rdRi X (HM.out.read (i := 1) rfl); rw [HOX.out] at h9; exact h9)
     refine (implRingOk_d _ X _ HRX.out HSX.out).mono ?_
     rw [HPS.out.ok]
     rintro e' W22 ⟨rfl, b'⟩
     clear HRX
     replace HM := Lib.hid (HM.out.past b')
     clear b'
     obtain ⟨kx0, kx1, kx2, kx3⟩ := HM.out.c4 0 rfl
     obtain ⟨kr0, kr1, kr2, kr3⟩ := HM.out.c4 3 rfl
     obtain ⟨fr0, fr1, fr2, fr3⟩ := HM.out.f4 3 rfl
     obtain ⟨nxr, nrx⟩ := HM.out.ne (i := 0) (j := 3) rfl rfl (by omega)
     go_wp2_with fail
     clear kx0 kx1 kx2 kx3 kr0 kr1 kr2 kr3 fr0 fr1 fr2 fr3 nxr nrx
     have hm := HM.out.pk [3, 0, 1, 2, 4, 5] (by decide) (by simp)
     simp only [low.pk, List.getElem?_cons_zero, List.getElem?_cons_succ] at hm
     replace HM := Lib.hid hm
     clear hm
     have hm := HM.out.putRow (ys := [.int .i64 X.cap, .int .i64 X.next, .bool true, .slice AX X.list.length cX]) rfl
     simp only [low.putRow, Nat.zero_add, Nat.reduceAdd] at hm
     replace HM := Lib.hid hm
     clear hm
     obtain ⟨W23, hW, hm⟩ := HM.out.name
     rw [← hW]
     replace HM := Lib.hid hm
     clear hm hW
     refine (specMakeNum_d _ 3 _ (HC.out.past HM.out.bl) (by omega)).mono ?_
     rintro e' W24 ⟨y, rfl, -, -, b'⟩
     replace HM := Lib.hid (HM.out.past b')
     clear b'
     obtain ⟨z, hz1⟩ : ∃ z : Int, (j : Int).tmod 3 = z := ⟨_, rfl⟩
     have hz2 : (j : Int) % 3 = z := by rw [← hz1]; exact (Int.tmod_eq_emod_of_nonneg (by omega)).symm
     have hz3 : ((j % 3 : Nat) : Int) = z := by rw [← hz2]; omega
     by_cases hq : z = y
     ·have gq : (z == y) = true := by rw [beq_iff_eq]; exact hq
      clear hq
      obtain ⟨kr0, kr1, kr2, kr3⟩ := HM.out.c4 0 rfl
      go_wp2
      clear kr0 kr1 kr2 kr3 hz1 hz2 hz3 gq
      replace HM := Lib.hid (HM.out.drew)
      refine wp_region_held_drew (S := fun W => Ms u [.bx (W1.heap.size) (.cells #[.int .i64 X.cap, .int .i64 X.next, .bool true, .slice AX X.list.length cX] 27 (0, 0))] W) (by kernel_rfl) (HM.out.pick (ks := [0]) (by decide) rfl) (fun hS => ?_)
      generalize W24.drew = W25 at HM hS  ⊢
      refine tk (v := ?_) 0 70 rfl (fun w' hS' => ?_) hS ?_
      rotate_left
      ·(try dsimp only at hS'); obtain ⟨q0, q1, q2, q3⟩ := hS'.c4 0 rfl; go_simp; all_goals (with_reducible rfl)
      try simp only [Act.put, pa, pb, pc]
      refine tk (v := ?_) 1 71 rfl (fun w' hS' => ?_) hS ?_
      rotate_left
      ·go_simp; all_goals (with_reducible rfl)
      try simp only [Act.put, pa, pb, pc]
      refine wpAnyH_ready (rs := [2, 9]) (by kernel_rfl) (by simp) ?_
      refine AllReadyH.cons (o := ⟨some 72, _, _, _, _, _⟩) rfl (fun K hK => ?_) ?_
      ·go_simp
       refine (specMakeNum_d _ 4 _ (HC.out.past HM.out.bl) (by omega)).mono ?_
       rintro e' W26 ⟨y4, rfl, y40, y41, b'⟩
       replace HM := Lib.hid (HM.out.past b')
       clear b'
       replace y41 := y41 (by omega)
       have gy4 : IntKind.i64.wrap (1 + y4) = 1 + y4 := IntWalk.i64_in _ (by omega)
       clear hS
       refine hK.out _ _ (HM.out.pick (ks := [0]) (by decide) rfl) (fun hS => ?_)
       clear hK K
       try simp only [Act.put, pa, pb, pc]
       refine tk (v := ?_) 3 73 rfl (fun w' hS' => ?_) hS ?_
       rotate_left
       ·go_simp; all_goals (with_reducible rfl)
       try simp only [Act.put, pa, pb, pc]
       refine wpAnyH_ready (rs := [4, 9]) (by kernel_rfl) (by simp) ?_
       refine AllReadyH.cons (o := ⟨some 74, _, _, _, _, _⟩) rfl (fun K hK => ?_) ?_
       ·go_simp
        have HRX := Lib.hid (show RdC W26 W26.heap.size (datRi X) (.agg #[.int .i64 X.cap, .int .i64 X.next, .bool true, .slice AX X.list.length cX]) from by have h9 := rdRi X (HM.out.read (i := 2) rfl); rw [HOX.out] at h9; exact h9)
        obtain ⟨hY, hYo, hC9, hC0, hL6⟩ := HPS.out.poll (n := 1 + y4) (by omega) hlen (by omega)
        have hYx := hYo.trans HOX.out
        have hC := hC9 HOX.out
        refine (implRingPoll_d _ X (1 + y4) _ HRX.out HSX.out).mono ?_
        rw [hC]
        generalize ringPollT X (1 + y4) = Y at hY hYx ⊢
        generalize ringPollL X (1 + y4) = M at hY hL6 ⊢
        rintro e' W27 ⟨v', v2', b1', b2', rfl, ob1, ob2, dis, b'⟩
        obtain ⟨AY, cY, rfl, -⟩ := aggRi ob1.read
        obtain ⟨AM, cM, rfl⟩ := sliceEns ob2.read
        have hm := HM.out.got2 ob1 ob2 dis b'
        clear ob1 ob2 dis b' hC hC9 hC0 hYo HRX
        obtain ⟨bY, hm⟩ := hm.unRi
        have HPY := Lib.hid hY
        have HSY := Lib.hid hY.small
        have HOY := Lib.hid hYx
        clear hY hYx
        replace HM := Lib.hid hm
        clear hm
        clear hS
        refine hK.out _ _ (HM.out.pick (ks := [2]) (by decide) rfl) (fun hS => ?_)
        clear hK K
        try simp only [Act.put, pa, pb, pc]
        refine tk (v := ?_) 5 69 rfl (fun w' hS' => ?_) hS ?_
        rotate_left
        ·go_simp; all_goals (with_reducible rfl)
        try simp only [Act.put, pa, pb, pc]
        refine tk (v := ?_) 6 75 rfl (fun w' hS' => ?_) hS ?_
        rotate_left
        ·go_simp; all_goals (with_reducible rfl)
        try simp only [Act.put, pa, pb, pc]
        refine tk (v := ?_) 7 76 rfl (fun w' hS' => ?_) hS ?_
        rotate_left
        ·go_simp; all_goals (with_reducible rfl)
        try simp only [Act.put, pa, pb, pc]
        refine tk (v := ?_) 8 77 rfl (fun w' hS' => ?_) hS ?_
        rotate_left
        ·go_simp; all_goals (with_reducible rfl)
        try simp only [Act.put, pa, pb, pc]
        refine r1 9 (some 12) rfl (fun K hK => ?_)
        go_simp
        replace HM := Lib.hid (HM.out.new #[.int .i64 0, .int .i64 0, .bool false, .slice none 0 0] 27)
        obtain ⟨W28, hW, hm⟩ := HM.out.name
        rw [← hW]
        replace HM := Lib.hid hm
        clear hm hW
        clear hS
        refine hK.out _ _ (HM.out.pick (ks := [3]) (by decide) rfl) (fun hS => ?_)
        clear hK K
        try simp only [Act.put, pa, pb, pc]
        refine r1 10 none rfl (fun K hK => ?_)
        obtain ⟨ky0, ky1, ky2, ky3⟩ := HM.out.c4 0 rfl
        obtain ⟨fy0, fy1, fy2, fy3⟩ := HM.out.f4 0 rfl
        go_simp
        clear hS ky0 ky1 ky2 ky3 fy0 fy1 fy2 fy3
        have hm := HM.out.putRow (ys := [.int .i64 Y.cap, .int .i64 Y.next, .bool Y.out, .slice AY Y.list.length cY]) rfl
        simp only [low.putRow, Nat.zero_add, Nat.reduceAdd] at hm
        replace HM := Lib.hid hm
        clear hm
        obtain ⟨W29, hW, hm⟩ := HM.out.name
        rw [← hW]
        replace HM := Lib.hid hm
        clear hm hW
        refine hK.out _ _ (HM.out.pick (ks := [3]) (by decide) rfl) (fun hS => ?_)
        clear hK K
        try simp only [Act.put]
        refine tk (v := ?_) 11 13 rfl (fun w' hS' => ?_) hS ?_
        rotate_left
        ·go_simp; all_goals (with_reducible rfl)
        try simp only [Act.put, pa, pb, pc]
        refine tk (v := ?_) 12 14 rfl (fun w' hS' => ?_) hS ?_
        rotate_left
        ·go_simp; all_goals (with_reducible rfl)
        try simp only [Act.put, pa, pb, pc]
        refine wpAnyH_done (by kernel_rfl) ?_ _
        clear hS
        try clear gy4
        obtain ⟨kr0, kr1, kr2, kr3⟩ := HM.out.c4 3 rfl
        have hm := HM.out.pk [8, 2, 0, 1, 3, 4, 5, 6, 7] (by decide) (by simp)
        simp only [low.pk, List.getElem?_cons_zero, List.getElem?_cons_succ] at hm
        replace HM := Lib.hid hm
        clear hm
        go_wp2_with (at_builtin; refine wpList_msOwn rfl (.tmp 83) (.tmp 84) 23 rfl eltEn AM M.length cM (show Ms u (.dt (.rows 32 3 (G.map encEn)) _ _ :: .dt (.rows 32 3 (M.map encEn)) _ _ :: _) _ from HM.out) rfl rfl (one_en M) (by simp; omega) ?_; intro A7 c7 w7 b7 hm; rw [show (G.map encEn).length + M.length = (G ++ M).length by simp, show G.map encEn ++ M.map encEn = (G ++ M).map encEn by simp] at hm; rw [show (G.map encEn).length + M.length = (G ++ M).length by simp]; clear kr0 kr1 kr2 kr3; replace HM := Lib.hid (show Ms u [.dt (encEns (G ++ M)) (.slice A7 (G ++ M).length c7) b7, .bx (W27.heap.size) (.cells #[.int .i64 Y.cap, .int .i64 Y.next, .bool Y.out, .slice AY Y.list.length cY] 27 (0, 0)), .dt (encEns Y.list) (.slice AY Y.list.length cY) bY, .bx (W1.heap.size) (.cells #[.int .i64 X.cap, .int .i64 X.next, .bool true, .slice AX X.list.length cX] 27 (0, 0)), .bx W4.heap.size (.cells #[.int .i64 X.cap, .int .i64 X.next, .bool true, .slice AX X.list.length cX] 27 (0, 0)), .dt (encEns X.list) (.slice AX X.list.length cX) bX, .bx wr.heap.size (.cells #[.int .i64 e.client, .int .i64 e.seq, .slice A5 e.o.length c5] 32 (0, 0)), .dt (encEns R.list) (.slice AR R.list.length cR) bR] w7 from hm); clear hm; obtain ⟨gg, hgg⟩ : ∃ gg, G ++ M = gg := ⟨_, rfl⟩; have HPG := HPY; rw [hgg] at HM HPG; rw [hgg]; clear hgg HPY; obtain ⟨ky0, ky1, ky2, ky3⟩ := HM.out.c4 1 rfl; obtain ⟨kr0, kr1, kr2, kr3⟩ := HM.out.c4 3 rfl; obtain ⟨fr0, fr1, fr2, fr3⟩ := HM.out.f4 3 rfl; obtain ⟨nyr, nry⟩ := HM.out.ne (i := 1) (j := 3) rfl rfl (by omega); rw [HOY.out] at ky2)
        clear ky0 ky1 ky2 ky3 kr0 kr1 kr2 kr3 fr0 fr1 fr2 fr3 nyr nry
        have hm := HM.out.pk [3, 0, 1, 2, 4, 5, 6, 7] (by decide) (by simp)
        simp only [low.pk, List.getElem?_cons_zero, List.getElem?_cons_succ] at hm
        replace HM := Lib.hid hm
        clear hm
        have hm := HM.out.putRow (ys := [.int .i64 Y.cap, .int .i64 Y.next, .bool true, .slice AY Y.list.length cY]) rfl
        simp only [low.putRow, Nat.zero_add, Nat.reduceAdd] at hm
        replace HM := Lib.hid hm
        clear hm
        go_roundw
        case rel => exact ⟨j + 1, Y, gg, _, _, _, _, _, _, by omega, by go_num, rfl, HPG.out, by rw [HOY.out]; exact HM.out.pick (ks := [0, 3, 1]) (by decide) rfl⟩
        case measure => simp [intOf]; omega
       refine AllReadyH.cons (o := ⟨some 12, _, _, _, _, _⟩) rfl (fun K hK => ?_) AllReadyH.nil
       go_simp
       replace HM := Lib.hid (HM.out.new #[.int .i64 0, .int .i64 0, .bool false, .slice none 0 0] 27)
       obtain ⟨W30, hW, hm⟩ := HM.out.name
       rw [← hW]
       replace HM := Lib.hid hm
       clear hm hW
       clear hS
       refine hK.out _ _ (HM.out.pick (ks := [1]) (by decide) rfl) (fun hS => ?_)
       clear hK K
       try simp only [Act.put, pa, pb, pc]
       refine r1 4 (some 74) rfl (fun K hK => ?_)
       go_simp
       have HRX := Lib.hid (show RdC W30 W30.heap.size (datRi X) (.agg #[.int .i64 X.cap, .int .i64 X.next, .bool true, .slice AX X.list.length cX]) from by have h9 := rdRi X (HM.out.read (i := 3) rfl); rw [HOX.out] at h9; exact h9)
       obtain ⟨hY, hYo, hC9, hC0, hL6⟩ := HPS.out.poll (n := 1 + y4) (by omega) hlen (by omega)
       have hYx := hYo.trans HOX.out
       have hC := hC9 HOX.out
       refine (implRingPoll_d _ X (1 + y4) _ HRX.out HSX.out).mono ?_
       rw [hC]
       generalize ringPollT X (1 + y4) = Y at hY hYx ⊢
       generalize ringPollL X (1 + y4) = M at hY hL6 ⊢
       rintro e' W31 ⟨v', v2', b1', b2', rfl, ob1, ob2, dis, b'⟩
       obtain ⟨AY, cY, rfl, -⟩ := aggRi ob1.read
       obtain ⟨AM, cM, rfl⟩ := sliceEns ob2.read
       have hm := HM.out.got2 ob1 ob2 dis b'
       clear ob1 ob2 dis b' hC hC9 hC0 hYo HRX
       obtain ⟨bY, hm⟩ := hm.unRi
       have HPY := Lib.hid hY
       have HSY := Lib.hid hY.small
       have HOY := Lib.hid hYx
       clear hY hYx
       replace HM := Lib.hid hm
       clear hm
       clear hS
       refine hK.out _ _ (HM.out.pick (ks := [3]) (by decide) rfl) (fun hS => ?_)
       clear hK K
       try simp only [Act.put, pa, pb, pc]
       refine tk (v := ?_) 5 69 rfl (fun w' hS' => ?_) hS ?_
       rotate_left
       ·go_simp; all_goals (with_reducible rfl)
       try simp only [Act.put, pa, pb, pc]
       refine tk (v := ?_) 6 75 rfl (fun w' hS' => ?_) hS ?_
       rotate_left
       ·go_simp; all_goals (with_reducible rfl)
       try simp only [Act.put, pa, pb, pc]
       refine tk (v := ?_) 7 76 rfl (fun w' hS' => ?_) hS ?_
       rotate_left
       ·go_simp; all_goals (with_reducible rfl)
       try simp only [Act.put, pa, pb, pc]
       refine tk (v := ?_) 8 77 rfl (fun w' hS' => ?_) hS ?_
       rotate_left
       ·go_simp; all_goals (with_reducible rfl)
       try simp only [Act.put, pa, pb, pc]
       refine r1 10 none rfl (fun K hK => ?_)
       obtain ⟨ky0, ky1, ky2, ky3⟩ := HM.out.c4 2 rfl
       obtain ⟨fy0, fy1, fy2, fy3⟩ := HM.out.f4 2 rfl
       go_simp
       clear hS ky0 ky1 ky2 ky3 fy0 fy1 fy2 fy3
       have hm := HM.out.pk [2, 0, 1, 3, 4, 5, 6, 7, 8] (by decide) (by simp)
       simp only [low.pk, List.getElem?_cons_zero, List.getElem?_cons_succ] at hm
       replace HM := Lib.hid hm
       clear hm
       have hm := HM.out.putRow (ys := [.int .i64 Y.cap, .int .i64 Y.next, .bool Y.out, .slice AY Y.list.length cY]) rfl
       simp only [low.putRow, Nat.zero_add, Nat.reduceAdd] at hm
       replace HM := Lib.hid hm
       clear hm
       obtain ⟨W32, hW, hm⟩ := HM.out.name
       rw [← hW]
       replace HM := Lib.hid hm
       clear hm hW
       refine hK.out _ _ (HM.out.pick (ks := [3]) (by decide) rfl) (fun hS => ?_)
       clear hK K
       try simp only [Act.put]
       refine tk (v := ?_) 11 13 rfl (fun w' hS' => ?_) hS ?_
       rotate_left
       ·go_simp; all_goals (with_reducible rfl)
       try simp only [Act.put, pa, pb, pc]
       refine tk (v := ?_) 12 14 rfl (fun w' hS' => ?_) hS ?_
       rotate_left
       ·go_simp; all_goals (with_reducible rfl)
       try simp only [Act.put, pa, pb, pc]
       refine wpAnyH_done (by kernel_rfl) ?_ _
       clear hS
       try clear gy4
       obtain ⟨kr0, kr1, kr2, kr3⟩ := HM.out.c4 3 rfl
       have hm := HM.out.pk [8, 2, 0, 1, 3, 4, 5, 6, 7] (by decide) (by simp)
       simp only [low.pk, List.getElem?_cons_zero, List.getElem?_cons_succ] at hm
       replace HM := Lib.hid hm
       clear hm
       go_wp2_with (at_builtin; refine wpList_msOwn rfl (.tmp 83) (.tmp 84) 23 rfl eltEn AM M.length cM (show Ms u (.dt (.rows 32 3 (G.map encEn)) _ _ :: .dt (.rows 32 3 (M.map encEn)) _ _ :: _) _ from HM.out) rfl rfl (one_en M) (by simp; omega) ?_; intro A7 c7 w7 b7 hm; rw [show (G.map encEn).length + M.length = (G ++ M).length by simp, show G.map encEn ++ M.map encEn = (G ++ M).map encEn by simp] at hm; rw [show (G.map encEn).length + M.length = (G ++ M).length by simp]; clear kr0 kr1 kr2 kr3; replace HM := Lib.hid (show Ms u [.dt (encEns (G ++ M)) (.slice A7 (G ++ M).length c7) b7, .bx (W26.heap.size) (.cells #[.int .i64 Y.cap, .int .i64 Y.next, .bool Y.out, .slice AY Y.list.length cY] 27 (0, 0)), .dt (encEns Y.list) (.slice AY Y.list.length cY) bY, .bx (W1.heap.size) (.cells #[.int .i64 X.cap, .int .i64 X.next, .bool true, .slice AX X.list.length cX] 27 (0, 0)), .bx W4.heap.size (.cells #[.int .i64 X.cap, .int .i64 X.next, .bool true, .slice AX X.list.length cX] 27 (0, 0)), .dt (encEns X.list) (.slice AX X.list.length cX) bX, .bx wr.heap.size (.cells #[.int .i64 e.client, .int .i64 e.seq, .slice A5 e.o.length c5] 32 (0, 0)), .dt (encEns R.list) (.slice AR R.list.length cR) bR] w7 from hm); clear hm; obtain ⟨gg, hgg⟩ : ∃ gg, G ++ M = gg := ⟨_, rfl⟩; have HPG := HPY; rw [hgg] at HM HPG; rw [hgg]; clear hgg HPY; obtain ⟨ky0, ky1, ky2, ky3⟩ := HM.out.c4 1 rfl; obtain ⟨kr0, kr1, kr2, kr3⟩ := HM.out.c4 3 rfl; obtain ⟨fr0, fr1, fr2, fr3⟩ := HM.out.f4 3 rfl; obtain ⟨nyr, nry⟩ := HM.out.ne (i := 1) (j := 3) rfl rfl (by omega); rw [HOY.out] at ky2)
       clear ky0 ky1 ky2 ky3 kr0 kr1 kr2 kr3 fr0 fr1 fr2 fr3 nyr nry
       have hm := HM.out.pk [3, 0, 1, 2, 4, 5, 6, 7] (by decide) (by simp)
       simp only [low.pk, List.getElem?_cons_zero, List.getElem?_cons_succ] at hm
       replace HM := Lib.hid hm
       clear hm
       have hm := HM.out.putRow (ys := [.int .i64 Y.cap, .int .i64 Y.next, .bool true, .slice AY Y.list.length cY]) rfl
       simp only [low.putRow, Nat.zero_add, Nat.reduceAdd] at hm
       replace HM := Lib.hid hm
       clear hm
       go_roundw
       case rel => exact ⟨j + 1, Y, gg, _, _, _, _, _, _, by omega, by go_num, rfl, HPG.out, by rw [HOY.out]; exact HM.out.pick (ks := [0, 3, 1]) (by decide) rfl⟩
       case measure => simp [intOf]; omega
      refine AllReadyH.cons (o := ⟨some 12, _, _, _, _, _⟩) rfl (fun K hK => ?_) AllReadyH.nil
      go_simp
      replace HM := Lib.hid (HM.out.new #[.int .i64 0, .int .i64 0, .bool false, .slice none 0 0] 27)
      obtain ⟨W33, hW, hm⟩ := HM.out.name
      rw [← hW]
      replace HM := Lib.hid hm
      clear hm hW
      clear hS
      refine hK.out _ _ (HM.out.pick (ks := [1]) (by decide) rfl) (fun hS => ?_)
      clear hK K
      try simp only [Act.put, pa, pb, pc]
      refine r1 2 (some 72) rfl (fun K hK => ?_)
      go_simp
      refine (specMakeNum_d _ 4 _ (HC.out.past HM.out.bl) (by omega)).mono ?_
      rintro e' W34 ⟨y4, rfl, y40, y41, b'⟩
      replace HM := Lib.hid (HM.out.past b')
      clear b'
      replace y41 := y41 (by omega)
      have gy4 : IntKind.i64.wrap (1 + y4) = 1 + y4 := IntWalk.i64_in _ (by omega)
      clear hS
      refine hK.out _ _ (HM.out.pick (ks := [1]) (by decide) rfl) (fun hS => ?_)
      clear hK K
      try simp only [Act.put, pa, pb, pc]
      refine tk (v := ?_) 3 73 rfl (fun w' hS' => ?_) hS ?_
      rotate_left
      ·go_simp; all_goals (with_reducible rfl)
      try simp only [Act.put, pa, pb, pc]
      refine r1 4 (some 74) rfl (fun K hK => ?_)
      go_simp
      have HRX := Lib.hid (show RdC W34 W34.heap.size (datRi X) (.agg #[.int .i64 X.cap, .int .i64 X.next, .bool true, .slice AX X.list.length cX]) from by have h9 := rdRi X (HM.out.read (i := 3) rfl); rw [HOX.out] at h9; exact h9)
      obtain ⟨hY, hYo, hC9, hC0, hL6⟩ := HPS.out.poll (n := 1 + y4) (by omega) hlen (by omega)
      have hYx := hYo.trans HOX.out
      have hC := hC9 HOX.out
      refine (implRingPoll_d _ X (1 + y4) _ HRX.out HSX.out).mono ?_
      rw [hC]
      generalize ringPollT X (1 + y4) = Y at hY hYx ⊢
      generalize ringPollL X (1 + y4) = M at hY hL6 ⊢
      rintro e' W35 ⟨v', v2', b1', b2', rfl, ob1, ob2, dis, b'⟩
      obtain ⟨AY, cY, rfl, -⟩ := aggRi ob1.read
      obtain ⟨AM, cM, rfl⟩ := sliceEns ob2.read
      have hm := HM.out.got2 ob1 ob2 dis b'
      clear ob1 ob2 dis b' hC hC9 hC0 hYo HRX
      obtain ⟨bY, hm⟩ := hm.unRi
      have HPY := Lib.hid hY
      have HSY := Lib.hid hY.small
      have HOY := Lib.hid hYx
      clear hY hYx
      replace HM := Lib.hid hm
      clear hm
      clear hS
      refine hK.out _ _ (HM.out.pick (ks := [3]) (by decide) rfl) (fun hS => ?_)
      clear hK K
      try simp only [Act.put, pa, pb, pc]
      refine tk (v := ?_) 5 69 rfl (fun w' hS' => ?_) hS ?_
      rotate_left
      ·go_simp; all_goals (with_reducible rfl)
      try simp only [Act.put, pa, pb, pc]
      refine tk (v := ?_) 6 75 rfl (fun w' hS' => ?_) hS ?_
      rotate_left
      ·go_simp; all_goals (with_reducible rfl)
      try simp only [Act.put, pa, pb, pc]
      refine tk (v := ?_) 7 76 rfl (fun w' hS' => ?_) hS ?_
      rotate_left
      ·go_simp; all_goals (with_reducible rfl)
      try simp only [Act.put, pa, pb, pc]
      refine tk (v := ?_) 8 77 rfl (fun w' hS' => ?_) hS ?_
      rotate_left
      ·go_simp; all_goals (with_reducible rfl)
      try simp only [Act.put, pa, pb, pc]
      refine r1 10 none rfl (fun K hK => ?_)
      obtain ⟨ky0, ky1, ky2, ky3⟩ := HM.out.c4 2 rfl
      obtain ⟨fy0, fy1, fy2, fy3⟩ := HM.out.f4 2 rfl
      go_simp
      clear hS ky0 ky1 ky2 ky3 fy0 fy1 fy2 fy3
      have hm := HM.out.pk [2, 0, 1, 3, 4, 5, 6, 7, 8] (by decide) (by simp)
      simp only [low.pk, List.getElem?_cons_zero, List.getElem?_cons_succ] at hm
      replace HM := Lib.hid hm
      clear hm
      have hm := HM.out.putRow (ys := [.int .i64 Y.cap, .int .i64 Y.next, .bool Y.out, .slice AY Y.list.length cY]) rfl
      simp only [low.putRow, Nat.zero_add, Nat.reduceAdd] at hm
      replace HM := Lib.hid hm
      clear hm
      obtain ⟨W36, hW, hm⟩ := HM.out.name
      rw [← hW]
      replace HM := Lib.hid hm
      clear hm hW
      refine hK.out _ _ (HM.out.pick (ks := [3]) (by decide) rfl) (fun hS => ?_)
      clear hK K
      try simp only [Act.put]
      refine tk (v := ?_) 11 13 rfl (fun w' hS' => ?_) hS ?_
      rotate_left
      ·go_simp; all_goals (with_reducible rfl)
      try simp only [Act.put, pa, pb, pc]
      refine tk (v := ?_) 12 14 rfl (fun w' hS' => ?_) hS ?_
      rotate_left
      ·go_simp; all_goals (with_reducible rfl)
      try simp only [Act.put, pa, pb, pc]
      refine wpAnyH_done (by kernel_rfl) ?_ _
      clear hS
      try clear gy4
      obtain ⟨kr0, kr1, kr2, kr3⟩ := HM.out.c4 3 rfl
      have hm := HM.out.pk [8, 2, 0, 1, 3, 4, 5, 6, 7] (by decide) (by simp)
      simp only [low.pk, List.getElem?_cons_zero, List.getElem?_cons_succ] at hm
      replace HM := Lib.hid hm
      clear hm
      go_wp2_with (at_builtin; refine wpList_msOwn rfl (.tmp 83) (.tmp 84) 23 rfl eltEn AM M.length cM (show Ms u (.dt (.rows 32 3 (G.map encEn)) _ _ :: .dt (.rows 32 3 (M.map encEn)) _ _ :: _) _ from HM.out) rfl rfl (one_en M) (by simp; omega) ?_; intro A7 c7 w7 b7 hm; rw [show (G.map encEn).length + M.length = (G ++ M).length by simp, show G.map encEn ++ M.map encEn = (G ++ M).map encEn by simp] at hm; rw [show (G.map encEn).length + M.length = (G ++ M).length by simp]; clear kr0 kr1 kr2 kr3; replace HM := Lib.hid (show Ms u [.dt (encEns (G ++ M)) (.slice A7 (G ++ M).length c7) b7, .bx (W25.heap.size) (.cells #[.int .i64 Y.cap, .int .i64 Y.next, .bool Y.out, .slice AY Y.list.length cY] 27 (0, 0)), .dt (encEns Y.list) (.slice AY Y.list.length cY) bY, .bx (W1.heap.size) (.cells #[.int .i64 X.cap, .int .i64 X.next, .bool true, .slice AX X.list.length cX] 27 (0, 0)), .bx W4.heap.size (.cells #[.int .i64 X.cap, .int .i64 X.next, .bool true, .slice AX X.list.length cX] 27 (0, 0)), .dt (encEns X.list) (.slice AX X.list.length cX) bX, .bx wr.heap.size (.cells #[.int .i64 e.client, .int .i64 e.seq, .slice A5 e.o.length c5] 32 (0, 0)), .dt (encEns R.list) (.slice AR R.list.length cR) bR] w7 from hm); clear hm; obtain ⟨gg, hgg⟩ : ∃ gg, G ++ M = gg := ⟨_, rfl⟩; have HPG := HPY; rw [hgg] at HM HPG; rw [hgg]; clear hgg HPY; obtain ⟨ky0, ky1, ky2, ky3⟩ := HM.out.c4 1 rfl; obtain ⟨kr0, kr1, kr2, kr3⟩ := HM.out.c4 3 rfl; obtain ⟨fr0, fr1, fr2, fr3⟩ := HM.out.f4 3 rfl; obtain ⟨nyr, nry⟩ := HM.out.ne (i := 1) (j := 3) rfl rfl (by omega); rw [HOY.out] at ky2)
      clear ky0 ky1 ky2 ky3 kr0 kr1 kr2 kr3 fr0 fr1 fr2 fr3 nyr nry
      have hm := HM.out.pk [3, 0, 1, 2, 4, 5, 6, 7] (by decide) (by simp)
      simp only [low.pk, List.getElem?_cons_zero, List.getElem?_cons_succ] at hm
      replace HM := Lib.hid hm
      clear hm
      have hm := HM.out.putRow (ys := [.int .i64 Y.cap, .int .i64 Y.next, .bool true, .slice AY Y.list.length cY]) rfl
      simp only [low.putRow, Nat.zero_add, Nat.reduceAdd] at hm
      replace HM := Lib.hid hm
      clear hm
      go_roundw
      case rel => exact ⟨j + 1, Y, gg, _, _, _, _, _, _, by omega, by go_num, rfl, HPG.out, by rw [HOY.out]; exact HM.out.pick (ks := [0, 3, 1]) (by decide) rfl⟩
      case measure => simp [intOf]; omega
     have gq : (z == y) = false := by rw [beq_eq_false_iff_ne]; exact hq
     clear hq
     obtain ⟨kr0, kr1, kr2, kr3⟩ := HM.out.c4 0 rfl
     go_wp2
     clear kr0 kr1 kr2 kr3 hz1 hz2 hz3 gq
     go_roundw
     case rel => exact ⟨j + 1, X, G, _, _, _, _, _, _, by omega, by go_num, rfl, HPS.out, by rw [HOX.out]; exact HM.out.pick (ks := [0, 2, 5]) (by decide) rfl⟩
     case measure => simp [intOf]; omega
    ·have HOX := Lib.hid hXo
     have gl : (ringLagT R == 1 + x) = false := by rw [beq_eq_false_iff_ne]; exact hL
     clear hL
     replace HM := Lib.hid (HM.out.new #[.int .i64 X.cap, .int .i64 X.next, .bool false, .slice AX X.list.length cX] 27)
     obtain ⟨kr0, kr1, kr2, kr3⟩ := HM.out.c4 3 rfl
     rw [hO] at kr2
     go_wp2_with fail
     clear kr0 kr1 kr2 kr3 hO hXo gl
     obtain ⟨W37, hW, hm⟩ := HM.out.name
     rw [← hW]
     replace HM := Lib.hid hm
     clear hm hW
     have HRX := Lib.hid (show RdC W37 W37.heap.size (datRi X) (.agg #[.int .i64 X.cap, .int .i64 X.next, .bool false, .slice AX X.list.length cX]) from by have h9 := rdRi X (HM.out.read (i := 1) rfl); rw [HOX.out] at h9; exact h9)
     refine (implRingOk_d _ X _ HRX.out HSX.out).mono ?_
     rw [HPS.out.ok]
     rintro e' W38 ⟨rfl, b'⟩
     clear HRX
     replace HM := Lib.hid (HM.out.past b')
     clear b'
     obtain ⟨kx0, kx1, kx2, kx3⟩ := HM.out.c4 0 rfl
     obtain ⟨kr0, kr1, kr2, kr3⟩ := HM.out.c4 3 rfl
     obtain ⟨fr0, fr1, fr2, fr3⟩ := HM.out.f4 3 rfl
     obtain ⟨nxr, nrx⟩ := HM.out.ne (i := 0) (j := 3) rfl rfl (by omega)
     go_wp2_with fail
     clear kx0 kx1 kx2 kx3 kr0 kr1 kr2 kr3 fr0 fr1 fr2 fr3 nxr nrx
     have hm := HM.out.pk [3, 0, 1, 2, 4, 5] (by decide) (by simp)
     simp only [low.pk, List.getElem?_cons_zero, List.getElem?_cons_succ] at hm
     replace HM := Lib.hid hm
     clear hm
     have hm := HM.out.putRow (ys := [.int .i64 X.cap, .int .i64 X.next, .bool false, .slice AX X.list.length cX]) rfl
     simp only [low.putRow, Nat.zero_add, Nat.reduceAdd] at hm
     replace HM := Lib.hid hm
     clear hm
     obtain ⟨W39, hW, hm⟩ := HM.out.name
     rw [← hW]
     replace HM := Lib.hid hm
     clear hm hW
     refine (specMakeNum_d _ 3 _ (HC.out.past HM.out.bl) (by omega)).mono ?_
     rintro e' W40 ⟨y, rfl, -, -, b'⟩
     replace HM := Lib.hid (HM.out.past b')
     clear b'
     obtain ⟨z, hz1⟩ : ∃ z : Int, (j : Int).tmod 3 = z := ⟨_, rfl⟩
     have hz2 : (j : Int) % 3 = z := by rw [← hz1]; exact (Int.tmod_eq_emod_of_nonneg (by omega)).symm
     have hz3 : ((j % 3 : Nat) : Int) = z := by rw [← hz2]; omega
     by_cases hq : z = y
     ·have gq : (z == y) = true := by rw [beq_iff_eq]; exact hq
      clear hq
      obtain ⟨kr0, kr1, kr2, kr3⟩ := HM.out.c4 0 rfl
      go_wp2
      clear kr0 kr1 kr2 kr3 hz1 hz2 hz3 gq
      replace HM := Lib.hid (HM.out.drew)
      refine wp_region_held_drew (S := fun W => Ms u [.bx (W1.heap.size) (.cells #[.int .i64 X.cap, .int .i64 X.next, .bool false, .slice AX X.list.length cX] 27 (0, 0))] W) (by kernel_rfl) (HM.out.pick (ks := [0]) (by decide) rfl) (fun hS => ?_)
      generalize W40.drew = W41 at HM hS  ⊢
      refine tk (v := ?_) 0 70 rfl (fun w' hS' => ?_) hS ?_
      rotate_left
      ·(try dsimp only at hS'); obtain ⟨q0, q1, q2, q3⟩ := hS'.c4 0 rfl; go_simp; all_goals (with_reducible rfl)
      try simp only [Act.put, pa, pb, pc]
      refine tk (v := ?_) 1 71 rfl (fun w' hS' => ?_) hS ?_
      rotate_left
      ·go_simp; all_goals (with_reducible rfl)
      try simp only [Act.put, pa, pb, pc]
      refine wpAnyH_ready (rs := [2, 9]) (by kernel_rfl) (by simp) ?_
      refine AllReadyH.cons (o := ⟨some 72, _, _, _, _, _⟩) rfl (fun K hK => ?_) ?_
      ·go_simp
       refine (specMakeNum_d _ 4 _ (HC.out.past HM.out.bl) (by omega)).mono ?_
       rintro e' W42 ⟨y4, rfl, y40, y41, b'⟩
       replace HM := Lib.hid (HM.out.past b')
       clear b'
       replace y41 := y41 (by omega)
       have gy4 : IntKind.i64.wrap (1 + y4) = 1 + y4 := IntWalk.i64_in _ (by omega)
       clear hS
       refine hK.out _ _ (HM.out.pick (ks := [0]) (by decide) rfl) (fun hS => ?_)
       clear hK K
       try simp only [Act.put, pa, pb, pc]
       refine tk (v := ?_) 3 73 rfl (fun w' hS' => ?_) hS ?_
       rotate_left
       ·go_simp; all_goals (with_reducible rfl)
       try simp only [Act.put, pa, pb, pc]
       refine wpAnyH_ready (rs := [4, 9]) (by kernel_rfl) (by simp) ?_
       refine AllReadyH.cons (o := ⟨some 74, _, _, _, _, _⟩) rfl (fun K hK => ?_) ?_
       ·go_simp
        have HRX := Lib.hid (show RdC W42 W42.heap.size (datRi X) (.agg #[.int .i64 X.cap, .int .i64 X.next, .bool false, .slice AX X.list.length cX]) from by have h9 := rdRi X (HM.out.read (i := 2) rfl); rw [HOX.out] at h9; exact h9)
        obtain ⟨hY, hYo, hC9, hC0, hL6⟩ := HPS.out.poll (n := 1 + y4) (by omega) hlen (by omega)
        have hYx := hYo.trans HOX.out
        have hC := hC0 HOX.out
        refine (implRingPoll_d _ X (1 + y4) _ HRX.out HSX.out).mono ?_
        rw [hC]
        generalize ringPollT X (1 + y4) = Y at hY hYx ⊢
        generalize ringPollL X (1 + y4) = M at hY hL6 ⊢
        rintro e' W43 ⟨v', v2', b1', b2', rfl, ob1, ob2, dis, b'⟩
        obtain ⟨AY, cY, rfl, -⟩ := aggRi ob1.read
        obtain ⟨AM, cM, rfl⟩ := sliceEns ob2.read
        have hm := HM.out.got2 ob1 ob2 dis b'
        clear ob1 ob2 dis b' hC hC9 hC0 hYo HRX
        obtain ⟨bY, hm⟩ := hm.unRi
        have HPY := Lib.hid hY
        have HSY := Lib.hid hY.small
        have HOY := Lib.hid hYx
        clear hY hYx
        replace HM := Lib.hid hm
        clear hm
        clear hS
        refine hK.out _ _ (HM.out.pick (ks := [2]) (by decide) rfl) (fun hS => ?_)
        clear hK K
        try simp only [Act.put, pa, pb, pc]
        refine tk (v := ?_) 5 69 rfl (fun w' hS' => ?_) hS ?_
        rotate_left
        ·go_simp; all_goals (with_reducible rfl)
        try simp only [Act.put, pa, pb, pc]
        refine tk (v := ?_) 6 75 rfl (fun w' hS' => ?_) hS ?_
        rotate_left
        ·go_simp; all_goals (with_reducible rfl)
        try simp only [Act.put, pa, pb, pc]
        refine tk (v := ?_) 7 76 rfl (fun w' hS' => ?_) hS ?_
        rotate_left
        ·go_simp; all_goals (with_reducible rfl)
        try simp only [Act.put, pa, pb, pc]
        refine tk (v := ?_) 8 77 rfl (fun w' hS' => ?_) hS ?_
        rotate_left
        ·go_simp; all_goals (with_reducible rfl)
        try simp only [Act.put, pa, pb, pc]
        refine r1 9 (some 12) rfl (fun K hK => ?_)
        go_simp
        replace HM := Lib.hid (HM.out.new #[.int .i64 0, .int .i64 0, .bool false, .slice none 0 0] 27)
        obtain ⟨W44, hW, hm⟩ := HM.out.name
        rw [← hW]
        replace HM := Lib.hid hm
        clear hm hW
        clear hS
        refine hK.out _ _ (HM.out.pick (ks := [3]) (by decide) rfl) (fun hS => ?_)
        clear hK K
        try simp only [Act.put, pa, pb, pc]
        refine r1 10 none rfl (fun K hK => ?_)
        obtain ⟨ky0, ky1, ky2, ky3⟩ := HM.out.c4 0 rfl
        obtain ⟨fy0, fy1, fy2, fy3⟩ := HM.out.f4 0 rfl
        go_simp
        clear hS ky0 ky1 ky2 ky3 fy0 fy1 fy2 fy3
        have hm := HM.out.putRow (ys := [.int .i64 Y.cap, .int .i64 Y.next, .bool Y.out, .slice AY Y.list.length cY]) rfl
        simp only [low.putRow, Nat.zero_add, Nat.reduceAdd] at hm
        replace HM := Lib.hid hm
        clear hm
        obtain ⟨W45, hW, hm⟩ := HM.out.name
        rw [← hW]
        replace HM := Lib.hid hm
        clear hm hW
        refine hK.out _ _ (HM.out.pick (ks := [3]) (by decide) rfl) (fun hS => ?_)
        clear hK K
        try simp only [Act.put]
        refine tk (v := ?_) 11 13 rfl (fun w' hS' => ?_) hS ?_
        rotate_left
        ·go_simp; all_goals (with_reducible rfl)
        try simp only [Act.put, pa, pb, pc]
        refine tk (v := ?_) 12 14 rfl (fun w' hS' => ?_) hS ?_
        rotate_left
        ·go_simp; all_goals (with_reducible rfl)
        try simp only [Act.put, pa, pb, pc]
        refine wpAnyH_done (by kernel_rfl) ?_ _
        clear hS
        try clear gy4
        obtain ⟨kr0, kr1, kr2, kr3⟩ := HM.out.c4 3 rfl
        have hm := HM.out.pk [8, 2, 0, 1, 3, 4, 5, 6, 7] (by decide) (by simp)
        simp only [low.pk, List.getElem?_cons_zero, List.getElem?_cons_succ] at hm
        replace HM := Lib.hid hm
        clear hm
        go_wp2_with (at_builtin; refine wpList_msOwn rfl (.tmp 83) (.tmp 84) 23 rfl eltEn AM M.length cM (show Ms u (.dt (.rows 32 3 (G.map encEn)) _ _ :: .dt (.rows 32 3 (M.map encEn)) _ _ :: _) _ from HM.out) rfl rfl (one_en M) (by simp; omega) ?_; intro A7 c7 w7 b7 hm; rw [show (G.map encEn).length + M.length = (G ++ M).length by simp, show G.map encEn ++ M.map encEn = (G ++ M).map encEn by simp] at hm; rw [show (G.map encEn).length + M.length = (G ++ M).length by simp]; clear kr0 kr1 kr2 kr3; replace HM := Lib.hid (show Ms u [.dt (encEns (G ++ M)) (.slice A7 (G ++ M).length c7) b7, .bx (W43.heap.size) (.cells #[.int .i64 Y.cap, .int .i64 Y.next, .bool Y.out, .slice AY Y.list.length cY] 27 (0, 0)), .dt (encEns Y.list) (.slice AY Y.list.length cY) bY, .bx (W1.heap.size) (.cells #[.int .i64 X.cap, .int .i64 X.next, .bool false, .slice AX X.list.length cX] 27 (0, 0)), .bx W4.heap.size (.cells #[.int .i64 X.cap, .int .i64 X.next, .bool false, .slice AX X.list.length cX] 27 (0, 0)), .dt (encEns X.list) (.slice AX X.list.length cX) bX, .bx wr.heap.size (.cells #[.int .i64 e.client, .int .i64 e.seq, .slice A5 e.o.length c5] 32 (0, 0)), .dt (encEns R.list) (.slice AR R.list.length cR) bR] w7 from hm); clear hm; obtain ⟨gg, hgg⟩ : ∃ gg, G ++ M = gg := ⟨_, rfl⟩; have HPG := HPY; rw [hgg] at HM HPG; rw [hgg]; clear hgg HPY; obtain ⟨ky0, ky1, ky2, ky3⟩ := HM.out.c4 1 rfl; obtain ⟨kr0, kr1, kr2, kr3⟩ := HM.out.c4 3 rfl; obtain ⟨fr0, fr1, fr2, fr3⟩ := HM.out.f4 3 rfl; obtain ⟨nyr, nry⟩ := HM.out.ne (i := 1) (j := 3) rfl rfl (by omega); rw [HOY.out] at ky2; obtain ⟨hn1, hn2⟩ := HPG.out.lag HOY.out (by omega); have hgl := HPG.out.le; have gw1 : IntKind.i64.wrap (11 + (gg.length : Int)) = 11 + (gg.length : Int) := IntWalk.i64_in _ (by omega); have gn : (Y.next != 11 + (gg.length : Int)) = false := (by rw [hn1]; simp); have gw2 : IntKind.i64.wrap (ringLagT Y + (gg.length : Int)) = ringLagT Y + (gg.length : Int) := IntWalk.i64_in _ (by omega); have gw3 : IntKind.i64.wrap ((j : Int) + 1) = (j : Int) + 1 := IntWalk.i64_in _ (by omega); have gl2 : (ringLagT Y + (gg.length : Int) != (j : Int) + 1) = false := (by rw [hn2]; simp); have HN1 := Lib.hid hn1; clear hn1 hn2)
        clear ky0 ky1 ky2 ky3 kr0 kr1 kr2 kr3 fr0 fr1 fr2 fr3 nyr nry
        have hm := HM.out.pk [3, 0, 1, 2, 4, 5, 6, 7] (by decide) (by simp)
        simp only [low.pk, List.getElem?_cons_zero, List.getElem?_cons_succ] at hm
        replace HM := Lib.hid hm
        clear hm
        have hm := HM.out.putRow (ys := [.int .i64 Y.cap, .int .i64 Y.next, .bool false, .slice AY Y.list.length cY]) rfl
        simp only [low.putRow, Nat.zero_add, Nat.reduceAdd] at hm
        replace HM := Lib.hid hm
        clear hm
        obtain ⟨W46, hW, hm⟩ := HM.out.name
        rw [← hW]
        replace HM := Lib.hid hm
        clear hm hW
        have HRn := Lib.hid (show RdC W46 W46.heap.size (datRi Y) (.agg #[.int .i64 Y.cap, .int .i64 Y.next, .bool false, .slice AY Y.list.length cY]) from by have h9 := rdRi Y (HM.out.read (i := 3) rfl); rw [HOY.out] at h9; exact h9)
        refine (implRingLag_d _ Y _ HRn.out HSY.out).mono ?_
        rintro e' W47 ⟨rfl, b'⟩
        clear HRn
        replace HM := Lib.hid (HM.out.past b')
        clear b'
        go_wp2
        clear gw1 gn gw2 gw3 gl2
        go_roundw
        case rel => exact ⟨j + 1, Y, gg, _, _, _, _, _, _, by omega, by go_num, rfl, HPG.out, by rw [HOY.out]; exact HM.out.pick (ks := [0, 3, 1]) (by decide) rfl⟩
        case measure => simp [intOf]; omega
       refine AllReadyH.cons (o := ⟨some 12, _, _, _, _, _⟩) rfl (fun K hK => ?_) AllReadyH.nil
       go_simp
       replace HM := Lib.hid (HM.out.new #[.int .i64 0, .int .i64 0, .bool false, .slice none 0 0] 27)
       obtain ⟨W48, hW, hm⟩ := HM.out.name
       rw [← hW]
       replace HM := Lib.hid hm
       clear hm hW
       clear hS
       refine hK.out _ _ (HM.out.pick (ks := [1]) (by decide) rfl) (fun hS => ?_)
       clear hK K
       try simp only [Act.put, pa, pb, pc]
       refine r1 4 (some 74) rfl (fun K hK => ?_)
       go_simp
       have HRX := Lib.hid (show RdC W48 W48.heap.size (datRi X) (.agg #[.int .i64 X.cap, .int .i64 X.next, .bool false, .slice AX X.list.length cX]) from by have h9 := rdRi X (HM.out.read (i := 3) rfl); rw [HOX.out] at h9; exact h9)
       obtain ⟨hY, hYo, hC9, hC0, hL6⟩ := HPS.out.poll (n := 1 + y4) (by omega) hlen (by omega)
       have hYx := hYo.trans HOX.out
       have hC := hC0 HOX.out
       refine (implRingPoll_d _ X (1 + y4) _ HRX.out HSX.out).mono ?_
       rw [hC]
       generalize ringPollT X (1 + y4) = Y at hY hYx ⊢
       generalize ringPollL X (1 + y4) = M at hY hL6 ⊢
       rintro e' W49 ⟨v', v2', b1', b2', rfl, ob1, ob2, dis, b'⟩
       obtain ⟨AY, cY, rfl, -⟩ := aggRi ob1.read
       obtain ⟨AM, cM, rfl⟩ := sliceEns ob2.read
       have hm := HM.out.got2 ob1 ob2 dis b'
       clear ob1 ob2 dis b' hC hC9 hC0 hYo HRX
       obtain ⟨bY, hm⟩ := hm.unRi
       have HPY := Lib.hid hY
       have HSY := Lib.hid hY.small
       have HOY := Lib.hid hYx
       clear hY hYx
       replace HM := Lib.hid hm
       clear hm
       clear hS
       refine hK.out _ _ (HM.out.pick (ks := [3]) (by decide) rfl) (fun hS => ?_)
       clear hK K
       try simp only [Act.put, pa, pb, pc]
       refine tk (v := ?_) 5 69 rfl (fun w' hS' => ?_) hS ?_
       rotate_left
       ·go_simp; all_goals (with_reducible rfl)
       try simp only [Act.put, pa, pb, pc]
       refine tk (v := ?_) 6 75 rfl (fun w' hS' => ?_) hS ?_
       rotate_left
       ·go_simp; all_goals (with_reducible rfl)
       try simp only [Act.put, pa, pb, pc]
       refine tk (v := ?_) 7 76 rfl (fun w' hS' => ?_) hS ?_
       rotate_left
       ·go_simp; all_goals (with_reducible rfl)
       try simp only [Act.put, pa, pb, pc]
       refine tk (v := ?_) 8 77 rfl (fun w' hS' => ?_) hS ?_
       rotate_left
       ·go_simp; all_goals (with_reducible rfl)
       try simp only [Act.put, pa, pb, pc]
       refine r1 10 none rfl (fun K hK => ?_)
       obtain ⟨ky0, ky1, ky2, ky3⟩ := HM.out.c4 2 rfl
       obtain ⟨fy0, fy1, fy2, fy3⟩ := HM.out.f4 2 rfl
       go_simp
       clear hS ky0 ky1 ky2 ky3 fy0 fy1 fy2 fy3
       have hm := HM.out.pk [2, 0, 1, 3, 4, 5, 6, 7, 8] (by decide) (by simp)
       simp only [low.pk, List.getElem?_cons_zero, List.getElem?_cons_succ] at hm
       replace HM := Lib.hid hm
       clear hm
       have hm := HM.out.putRow (ys := [.int .i64 Y.cap, .int .i64 Y.next, .bool Y.out, .slice AY Y.list.length cY]) rfl
       simp only [low.putRow, Nat.zero_add, Nat.reduceAdd] at hm
       replace HM := Lib.hid hm
       clear hm
       obtain ⟨W50, hW, hm⟩ := HM.out.name
       rw [← hW]
       replace HM := Lib.hid hm
       clear hm hW
       refine hK.out _ _ (HM.out.pick (ks := [3]) (by decide) rfl) (fun hS => ?_)
       clear hK K
       try simp only [Act.put]
       refine tk (v := ?_) 11 13 rfl (fun w' hS' => ?_) hS ?_
       rotate_left
       ·go_simp; all_goals (with_reducible rfl)
       try simp only [Act.put, pa, pb, pc]
       refine tk (v := ?_) 12 14 rfl (fun w' hS' => ?_) hS ?_
       rotate_left
       ·go_simp; all_goals (with_reducible rfl)
       try simp only [Act.put, pa, pb, pc]
       refine wpAnyH_done (by kernel_rfl) ?_ _
       clear hS
       try clear gy4
       obtain ⟨kr0, kr1, kr2, kr3⟩ := HM.out.c4 3 rfl
       have hm := HM.out.pk [8, 2, 0, 1, 3, 4, 5, 6, 7] (by decide) (by simp)
       simp only [low.pk, List.getElem?_cons_zero, List.getElem?_cons_succ] at hm
       replace HM := Lib.hid hm
       clear hm
       go_wp2_with (at_builtin; refine wpList_msOwn rfl (.tmp 83) (.tmp 84) 23 rfl eltEn AM M.length cM (show Ms u (.dt (.rows 32 3 (G.map encEn)) _ _ :: .dt (.rows 32 3 (M.map encEn)) _ _ :: _) _ from HM.out) rfl rfl (one_en M) (by simp; omega) ?_; intro A7 c7 w7 b7 hm; rw [show (G.map encEn).length + M.length = (G ++ M).length by simp, show G.map encEn ++ M.map encEn = (G ++ M).map encEn by simp] at hm; rw [show (G.map encEn).length + M.length = (G ++ M).length by simp]; clear kr0 kr1 kr2 kr3; replace HM := Lib.hid (show Ms u [.dt (encEns (G ++ M)) (.slice A7 (G ++ M).length c7) b7, .bx (W42.heap.size) (.cells #[.int .i64 Y.cap, .int .i64 Y.next, .bool Y.out, .slice AY Y.list.length cY] 27 (0, 0)), .dt (encEns Y.list) (.slice AY Y.list.length cY) bY, .bx (W1.heap.size) (.cells #[.int .i64 X.cap, .int .i64 X.next, .bool false, .slice AX X.list.length cX] 27 (0, 0)), .bx W4.heap.size (.cells #[.int .i64 X.cap, .int .i64 X.next, .bool false, .slice AX X.list.length cX] 27 (0, 0)), .dt (encEns X.list) (.slice AX X.list.length cX) bX, .bx wr.heap.size (.cells #[.int .i64 e.client, .int .i64 e.seq, .slice A5 e.o.length c5] 32 (0, 0)), .dt (encEns R.list) (.slice AR R.list.length cR) bR] w7 from hm); clear hm; obtain ⟨gg, hgg⟩ : ∃ gg, G ++ M = gg := ⟨_, rfl⟩; have HPG := HPY; rw [hgg] at HM HPG; rw [hgg]; clear hgg HPY; obtain ⟨ky0, ky1, ky2, ky3⟩ := HM.out.c4 1 rfl; obtain ⟨kr0, kr1, kr2, kr3⟩ := HM.out.c4 3 rfl; obtain ⟨fr0, fr1, fr2, fr3⟩ := HM.out.f4 3 rfl; obtain ⟨nyr, nry⟩ := HM.out.ne (i := 1) (j := 3) rfl rfl (by omega); rw [HOY.out] at ky2; obtain ⟨hn1, hn2⟩ := HPG.out.lag HOY.out (by omega); have hgl := HPG.out.le; have gw1 : IntKind.i64.wrap (11 + (gg.length : Int)) = 11 + (gg.length : Int) := IntWalk.i64_in _ (by omega); have gn : (Y.next != 11 + (gg.length : Int)) = false := (by rw [hn1]; simp); have gw2 : IntKind.i64.wrap (ringLagT Y + (gg.length : Int)) = ringLagT Y + (gg.length : Int) := IntWalk.i64_in _ (by omega); have gw3 : IntKind.i64.wrap ((j : Int) + 1) = (j : Int) + 1 := IntWalk.i64_in _ (by omega); have gl2 : (ringLagT Y + (gg.length : Int) != (j : Int) + 1) = false := (by rw [hn2]; simp); have HN1 := Lib.hid hn1; clear hn1 hn2)
       clear ky0 ky1 ky2 ky3 kr0 kr1 kr2 kr3 fr0 fr1 fr2 fr3 nyr nry
       have hm := HM.out.pk [3, 0, 1, 2, 4, 5, 6, 7] (by decide) (by simp)
       simp only [low.pk, List.getElem?_cons_zero, List.getElem?_cons_succ] at hm
       replace HM := Lib.hid hm
       clear hm
       have hm := HM.out.putRow (ys := [.int .i64 Y.cap, .int .i64 Y.next, .bool false, .slice AY Y.list.length cY]) rfl
       simp only [low.putRow, Nat.zero_add, Nat.reduceAdd] at hm
       replace HM := Lib.hid hm
       clear hm
       obtain ⟨W51, hW, hm⟩ := HM.out.name
       rw [← hW]
       replace HM := Lib.hid hm
       clear hm hW
       have HRn := Lib.hid (show RdC W51 W51.heap.size (datRi Y) (.agg #[.int .i64 Y.cap, .int .i64 Y.next, .bool false, .slice AY Y.list.length cY]) from by have h9 := rdRi Y (HM.out.read (i := 3) rfl); rw [HOY.out] at h9; exact h9)
       refine (implRingLag_d _ Y _ HRn.out HSY.out).mono ?_
       rintro e' W52 ⟨rfl, b'⟩
       clear HRn
       replace HM := Lib.hid (HM.out.past b')
       clear b'
       go_wp2
       clear gw1 gn gw2 gw3 gl2
       go_roundw
       case rel => exact ⟨j + 1, Y, gg, _, _, _, _, _, _, by omega, by go_num, rfl, HPG.out, by rw [HOY.out]; exact HM.out.pick (ks := [0, 3, 1]) (by decide) rfl⟩
       case measure => simp [intOf]; omega
      refine AllReadyH.cons (o := ⟨some 12, _, _, _, _, _⟩) rfl (fun K hK => ?_) AllReadyH.nil
      go_simp
      replace HM := Lib.hid (HM.out.new #[.int .i64 0, .int .i64 0, .bool false, .slice none 0 0] 27)
      obtain ⟨W53, hW, hm⟩ := HM.out.name
      rw [← hW]
      replace HM := Lib.hid hm
      clear hm hW
      clear hS
      refine hK.out _ _ (HM.out.pick (ks := [1]) (by decide) rfl) (fun hS => ?_)
      clear hK K
      try simp only [Act.put, pa, pb, pc]
      refine r1 2 (some 72) rfl (fun K hK => ?_)
      go_simp
      refine (specMakeNum_d _ 4 _ (HC.out.past HM.out.bl) (by omega)).mono ?_
      rintro e' W54 ⟨y4, rfl, y40, y41, b'⟩
      replace HM := Lib.hid (HM.out.past b')
      clear b'
      replace y41 := y41 (by omega)
      have gy4 : IntKind.i64.wrap (1 + y4) = 1 + y4 := IntWalk.i64_in _ (by omega)
      clear hS
      refine hK.out _ _ (HM.out.pick (ks := [1]) (by decide) rfl) (fun hS => ?_)
      clear hK K
      try simp only [Act.put, pa, pb, pc]
      refine tk (v := ?_) 3 73 rfl (fun w' hS' => ?_) hS ?_
      rotate_left
      ·go_simp; all_goals (with_reducible rfl)
      try simp only [Act.put, pa, pb, pc]
      refine r1 4 (some 74) rfl (fun K hK => ?_)
      go_simp
      have HRX := Lib.hid (show RdC W54 W54.heap.size (datRi X) (.agg #[.int .i64 X.cap, .int .i64 X.next, .bool false, .slice AX X.list.length cX]) from by have h9 := rdRi X (HM.out.read (i := 3) rfl); rw [HOX.out] at h9; exact h9)
      obtain ⟨hY, hYo, hC9, hC0, hL6⟩ := HPS.out.poll (n := 1 + y4) (by omega) hlen (by omega)
      have hYx := hYo.trans HOX.out
      have hC := hC0 HOX.out
      refine (implRingPoll_d _ X (1 + y4) _ HRX.out HSX.out).mono ?_
      rw [hC]
      generalize ringPollT X (1 + y4) = Y at hY hYx ⊢
      generalize ringPollL X (1 + y4) = M at hY hL6 ⊢
      rintro e' W55 ⟨v', v2', b1', b2', rfl, ob1, ob2, dis, b'⟩
      obtain ⟨AY, cY, rfl, -⟩ := aggRi ob1.read
      obtain ⟨AM, cM, rfl⟩ := sliceEns ob2.read
      have hm := HM.out.got2 ob1 ob2 dis b'
      clear ob1 ob2 dis b' hC hC9 hC0 hYo HRX
      obtain ⟨bY, hm⟩ := hm.unRi
      have HPY := Lib.hid hY
      have HSY := Lib.hid hY.small
      have HOY := Lib.hid hYx
      clear hY hYx
      replace HM := Lib.hid hm
      clear hm
      clear hS
      refine hK.out _ _ (HM.out.pick (ks := [3]) (by decide) rfl) (fun hS => ?_)
      clear hK K
      try simp only [Act.put, pa, pb, pc]
      refine tk (v := ?_) 5 69 rfl (fun w' hS' => ?_) hS ?_
      rotate_left
      ·go_simp; all_goals (with_reducible rfl)
      try simp only [Act.put, pa, pb, pc]
      refine tk (v := ?_) 6 75 rfl (fun w' hS' => ?_) hS ?_
      rotate_left
      ·go_simp; all_goals (with_reducible rfl)
      try simp only [Act.put, pa, pb, pc]
      refine tk (v := ?_) 7 76 rfl (fun w' hS' => ?_) hS ?_
      rotate_left
      ·go_simp; all_goals (with_reducible rfl)
      try simp only [Act.put, pa, pb, pc]
      refine tk (v := ?_) 8 77 rfl (fun w' hS' => ?_) hS ?_
      rotate_left
      ·go_simp; all_goals (with_reducible rfl)
      try simp only [Act.put, pa, pb, pc]
      refine r1 10 none rfl (fun K hK => ?_)
      obtain ⟨ky0, ky1, ky2, ky3⟩ := HM.out.c4 2 rfl
      obtain ⟨fy0, fy1, fy2, fy3⟩ := HM.out.f4 2 rfl
      go_simp
      clear hS ky0 ky1 ky2 ky3 fy0 fy1 fy2 fy3
      have hm := HM.out.pk [2, 0, 1, 3, 4, 5, 6, 7, 8] (by decide) (by simp)
      simp only [low.pk, List.getElem?_cons_zero, List.getElem?_cons_succ] at hm
      replace HM := Lib.hid hm
      clear hm
      have hm := HM.out.putRow (ys := [.int .i64 Y.cap, .int .i64 Y.next, .bool Y.out, .slice AY Y.list.length cY]) rfl
      simp only [low.putRow, Nat.zero_add, Nat.reduceAdd] at hm
      replace HM := Lib.hid hm
      clear hm
      obtain ⟨W56, hW, hm⟩ := HM.out.name
      rw [← hW]
      replace HM := Lib.hid hm
      clear hm hW
      refine hK.out _ _ (HM.out.pick (ks := [3]) (by decide) rfl) (fun hS => ?_)
      clear hK K
      try simp only [Act.put]
      refine tk (v := ?_) 11 13 rfl (fun w' hS' => ?_) hS ?_
      rotate_left
      ·go_simp; all_goals (with_reducible rfl)
      try simp only [Act.put, pa, pb, pc]
      refine tk (v := ?_) 12 14 rfl (fun w' hS' => ?_) hS ?_
      rotate_left
      ·go_simp; all_goals (with_reducible rfl)
      try simp only [Act.put, pa, pb, pc]
      refine wpAnyH_done (by kernel_rfl) ?_ _
      clear hS
      try clear gy4
      obtain ⟨kr0, kr1, kr2, kr3⟩ := HM.out.c4 3 rfl
      have hm := HM.out.pk [8, 2, 0, 1, 3, 4, 5, 6, 7] (by decide) (by simp)
      simp only [low.pk, List.getElem?_cons_zero, List.getElem?_cons_succ] at hm
      replace HM := Lib.hid hm
      clear hm
      go_wp2_with (at_builtin; refine wpList_msOwn rfl (.tmp 83) (.tmp 84) 23 rfl eltEn AM M.length cM (show Ms u (.dt (.rows 32 3 (G.map encEn)) _ _ :: .dt (.rows 32 3 (M.map encEn)) _ _ :: _) _ from HM.out) rfl rfl (one_en M) (by simp; omega) ?_; intro A7 c7 w7 b7 hm; rw [show (G.map encEn).length + M.length = (G ++ M).length by simp, show G.map encEn ++ M.map encEn = (G ++ M).map encEn by simp] at hm; rw [show (G.map encEn).length + M.length = (G ++ M).length by simp]; clear kr0 kr1 kr2 kr3; replace HM := Lib.hid (show Ms u [.dt (encEns (G ++ M)) (.slice A7 (G ++ M).length c7) b7, .bx (W41.heap.size) (.cells #[.int .i64 Y.cap, .int .i64 Y.next, .bool Y.out, .slice AY Y.list.length cY] 27 (0, 0)), .dt (encEns Y.list) (.slice AY Y.list.length cY) bY, .bx (W1.heap.size) (.cells #[.int .i64 X.cap, .int .i64 X.next, .bool false, .slice AX X.list.length cX] 27 (0, 0)), .bx W4.heap.size (.cells #[.int .i64 X.cap, .int .i64 X.next, .bool false, .slice AX X.list.length cX] 27 (0, 0)), .dt (encEns X.list) (.slice AX X.list.length cX) bX, .bx wr.heap.size (.cells #[.int .i64 e.client, .int .i64 e.seq, .slice A5 e.o.length c5] 32 (0, 0)), .dt (encEns R.list) (.slice AR R.list.length cR) bR] w7 from hm); clear hm; obtain ⟨gg, hgg⟩ : ∃ gg, G ++ M = gg := ⟨_, rfl⟩; have HPG := HPY; rw [hgg] at HM HPG; rw [hgg]; clear hgg HPY; obtain ⟨ky0, ky1, ky2, ky3⟩ := HM.out.c4 1 rfl; obtain ⟨kr0, kr1, kr2, kr3⟩ := HM.out.c4 3 rfl; obtain ⟨fr0, fr1, fr2, fr3⟩ := HM.out.f4 3 rfl; obtain ⟨nyr, nry⟩ := HM.out.ne (i := 1) (j := 3) rfl rfl (by omega); rw [HOY.out] at ky2; obtain ⟨hn1, hn2⟩ := HPG.out.lag HOY.out (by omega); have hgl := HPG.out.le; have gw1 : IntKind.i64.wrap (11 + (gg.length : Int)) = 11 + (gg.length : Int) := IntWalk.i64_in _ (by omega); have gn : (Y.next != 11 + (gg.length : Int)) = false := (by rw [hn1]; simp); have gw2 : IntKind.i64.wrap (ringLagT Y + (gg.length : Int)) = ringLagT Y + (gg.length : Int) := IntWalk.i64_in _ (by omega); have gw3 : IntKind.i64.wrap ((j : Int) + 1) = (j : Int) + 1 := IntWalk.i64_in _ (by omega); have gl2 : (ringLagT Y + (gg.length : Int) != (j : Int) + 1) = false := (by rw [hn2]; simp); have HN1 := Lib.hid hn1; clear hn1 hn2)
      clear ky0 ky1 ky2 ky3 kr0 kr1 kr2 kr3 fr0 fr1 fr2 fr3 nyr nry
      have hm := HM.out.pk [3, 0, 1, 2, 4, 5, 6, 7] (by decide) (by simp)
      simp only [low.pk, List.getElem?_cons_zero, List.getElem?_cons_succ] at hm
      replace HM := Lib.hid hm
      clear hm
      have hm := HM.out.putRow (ys := [.int .i64 Y.cap, .int .i64 Y.next, .bool false, .slice AY Y.list.length cY]) rfl
      simp only [low.putRow, Nat.zero_add, Nat.reduceAdd] at hm
      replace HM := Lib.hid hm
      clear hm
      obtain ⟨W57, hW, hm⟩ := HM.out.name
      rw [← hW]
      replace HM := Lib.hid hm
      clear hm hW
      have HRn := Lib.hid (show RdC W57 W57.heap.size (datRi Y) (.agg #[.int .i64 Y.cap, .int .i64 Y.next, .bool false, .slice AY Y.list.length cY]) from by have h9 := rdRi Y (HM.out.read (i := 3) rfl); rw [HOY.out] at h9; exact h9)
      refine (implRingLag_d _ Y _ HRn.out HSY.out).mono ?_
      rintro e' W58 ⟨rfl, b'⟩
      clear HRn
      replace HM := Lib.hid (HM.out.past b')
      clear b'
      go_wp2
      clear gw1 gn gw2 gw3 gl2
      go_roundw
      case rel => exact ⟨j + 1, Y, gg, _, _, _, _, _, _, by omega, by go_num, rfl, HPG.out, by rw [HOY.out]; exact HM.out.pick (ks := [0, 3, 1]) (by decide) rfl⟩
      case measure => simp [intOf]; omega
     have gq : (z == y) = false := by rw [beq_eq_false_iff_ne]; exact hq
     clear hq
     obtain ⟨hn1, hn2⟩ := HPS.out.lag HOX.out (by omega)
     have hgl := HPS.out.le
     have gw1 : IntKind.i64.wrap (11 + (G.length : Int)) = 11 + (G.length : Int) := IntWalk.i64_in _ (by omega)
     have gn : (X.next != 11 + (G.length : Int)) = false := (by rw [hn1]; simp)
     have gw2 : IntKind.i64.wrap (ringLagT X + (G.length : Int)) = ringLagT X + (G.length : Int) := IntWalk.i64_in _ (by omega)
     have gw3 : IntKind.i64.wrap ((j : Int) + 1) = (j : Int) + 1 := IntWalk.i64_in _ (by omega)
     have gl2 : (ringLagT X + (G.length : Int) != (j : Int) + 1) = false := (by rw [hn2]; simp)
     have HN1 := Lib.hid hn1
     clear hn1 hn2
     obtain ⟨kr0, kr1, kr2, kr3⟩ := HM.out.c4 0 rfl
     go_wp2_with fail
     clear kr0 kr1 kr2 kr3 hz1 hz2 hz3 gq
     have HRn := Lib.hid (show RdC W40 W40.heap.size (datRi X) (.agg #[.int .i64 X.cap, .int .i64 X.next, .bool false, .slice AX X.list.length cX]) from by have h9 := rdRi X (HM.out.read (i := 2) rfl); rw [HOX.out] at h9; exact h9)
     refine (implRingLag_d _ X _ HRn.out HSX.out).mono ?_
     rintro e' W59 ⟨rfl, b'⟩
     clear HRn
     replace HM := Lib.hid (HM.out.past b')
     clear b'
     go_wp2
     clear gw1 gn gw2 gw3 gl2
     go_roundw
     case rel => exact ⟨j + 1, X, G, _, _, _, _, _, _, by omega, by go_num, rfl, HPS.out, by rw [HOX.out]; exact HM.out.pick (ks := [0, 2, 5]) (by decide) rfl⟩
     case measure => simp [intOf]; omega
   ·obtain rfl : j = l.length := by omega
    go_wp2
    go_loopw [111] (fun iv wr => ∃ k : Nat, k ≤ G.length ∧ iv = .int .i64 (k : Int) ∧ Ms u [.bx W1.heap.size (.cells #[.int .i64 R.cap, .int .i64 R.next, .bool R.out, .slice AR R.list.length cR] 27 (0, 0)), .dt (encEns R.list) (.slice AR R.list.length cR) bR, .dt (encEns G) (.slice Ag G.length cg) bg] wr) (fun iv _ => G.length - (intOf iv).toNat)
    case atStart => exact ⟨0, Nat.zero_le _, rfl, HM.out⟩
    case round =>
     obtain ⟨k, hk, rfl, hm⟩ := hrel
     clear HM
     have HM := Lib.hid hm
     clear hm
     by_cases hlt2 : k < G.length
     ·obtain ⟨b', off', e, A5, c5, rfl, hbb', hp, x0_, x1_, x2_, q2⟩ := atEns (HM.out.read (i := 2) rfl) hlt2
      obtain ⟨hkl, hpl⟩ := HRS.out.same HALL.out hp
      obtain ⟨b, off, e2, B5, d5, rfl, hbb, hp2, z0, z1, z2, p2⟩ := atEns RL.out hkl
      obtain rfl : e = e2 := by rw [hpl] at hp2; injection hp2
      have hse : SmEn e := by have := entry_800 (List.all_eq_true.1 HALL.out e (List.mem_of_getElem? hp2)); unfold SmEn; omega
      have Z := Lib.hid (And.intro z0 (And.intro z1 z2))
      have Q2 := Lib.hid q2
      have P2 := Lib.hid p2
      have gk : decide ((l.length : Int) ≤ (k : Int)) = false := decide_eq_false (by omega)
      have gk2 : decide (l.length ≤ k) = false := decide_eq_false (by omega)
      have gk3 : ¬ l.length ≤ k := by omega
      clear z0 z1 z2 q2 p2 hp hp2 hpl
      replace HM := Lib.hid (HM.out.new #[.int .i64 e.client, .int .i64 e.seq, .slice A5 e.o.length c5] 32)
      have q3 := Q2.out.past (alloc_below wr (.cells #[.int .i64 e.client, .int .i64 e.seq, .slice A5 e.o.length c5] 32))
      clear Q2
      go_wp2
      clear x0_ x1_ x2_
      generalize (wr.alloc (.cells #[.int .i64 e.client, .int .i64 e.seq, .slice A5 e.o.length c5] 32)) = W2 at HM q3 ⊢
      replace HM := Lib.hid (HM.out.drew)
      have Q4 := q3.past (Below.refl _ _).drew
      clear q3
      refine wp_region_held_drew (S := fun W => Ms u [.bx wr.heap.size (.cells #[.int .i64 e.client, .int .i64 e.seq, .slice A5 e.o.length c5] 32 (0, 0))] W ∧ W.cell? ⟨b, off + k * 3, none⟩ = some (.int .i64 e.client) ∧ W.cell? ⟨b, off + k * 3 + 1, none⟩ = some (.int .i64 e.seq) ∧ W.cell? ⟨b, off + k * 3 + 2, none⟩ = some (.slice B5 e.o.length d5)) (by kernel_rfl) ⟨HM.out.pick (ks := [0]) (by decide) rfl, ⟨(HM.out.bl.cell (p := ⟨b, off + k * 3, none⟩) hbb).trans Z.out.1, (HM.out.bl.cell (p := ⟨b, off + k * 3 + 1, none⟩) hbb).trans Z.out.2.1, (HM.out.bl.cell (p := ⟨b, off + k * 3 + 2, none⟩) hbb).trans Z.out.2.2⟩⟩ (fun hS => ?_)
      generalize W2.drew = W3 at HM hS Q4 ⊢
      refine tk (v := ?_) 0 116 rfl (fun w' hS' => ?_) hS ?_
      rotate_left
      ·go_simp; all_goals (with_reducible rfl)
      try simp only [Act.put, pa, pb, pc]
      refine tk (v := ?_) 1 117 rfl (fun w' hS' => ?_) hS ?_
      rotate_left
      ·go_simp; all_goals (with_reducible rfl)
      try simp only [Act.put, pa, pb, pc]
      refine tk (v := ?_) 2 118 rfl (fun w' hS' => ?_) hS ?_
      rotate_left
      ·go_simp; all_goals (with_reducible rfl)
      try simp only [Act.put, pa, pb, pc]
      refine tk (v := ?_) 3 119 rfl (fun w' hS' => ?_) hS ?_
      rotate_left
      ·go_simp; all_goals (with_reducible rfl)
      try simp only [Act.put, pa, pb, pc]
      refine tk (v := ?_) 4 120 rfl (fun w' hS' => ?_) hS ?_
      rotate_left
      ·go_simp; all_goals (with_reducible rfl)
      try simp only [Act.put, pa, pb, pc]
      first | refine tu 5 121 rfl hS ?_ | (refine tk (v := ?_) 5 121 rfl (fun w' hS' => ?_) hS ?_; rotate_left; · ((try dsimp only at hS'); obtain ⟨p0, p1, p2⟩ := hS'.1.c3 0 rfl; obtain ⟨u0, u1, u2⟩ := hS'.2; go_simp; all_goals (with_reducible rfl)))
      try simp only [Act.put, pa, pb, pc]
      first | refine tu 6 122 rfl hS ?_ | (refine tk (v := ?_) 6 122 rfl (fun w' hS' => ?_) hS ?_; rotate_left; · (go_simp; all_goals (with_reducible rfl)))
      try simp only [Act.put, pa, pb, pc]
      first | refine tu 7 123 rfl hS ?_ | (refine tk (v := ?_) 7 123 rfl (fun w' hS' => ?_) hS ?_; rotate_left; · (go_simp; all_goals (with_reducible rfl)))
      try simp only [Act.put, pa, pb, pc]
      first | refine tu 8 124 rfl hS ?_ | (refine tk (v := ?_) 8 124 rfl (fun w' hS' => ?_) hS ?_; rotate_left; · (go_simp; all_goals (with_reducible rfl)))
      try simp only [Act.put, pa, pb, pc]
      first | refine tu 9 125 rfl hS ?_ | (refine tk (v := ?_) 9 125 rfl (fun w' hS' => ?_) hS ?_; rotate_left; · ((try dsimp only at hS'); obtain ⟨p0, p1, p2⟩ := hS'.1.c3 0 rfl; obtain ⟨u0, u1, u2⟩ := hS'.2; go_simp; all_goals (with_reducible rfl)))
      try simp only [Act.put, pa, pb, pc]
      refine r1 10 (some 126) rfl (fun K hK => ?_)
      go_simp
      refine (implEntrySame_d _ _ e e _ (rdEn e Q4) (rdEn e (HM.out.arg P2.out)) hse hse).mono ?_
      rw [entrySame_self]
      rintro e' W4 ⟨rfl, b9'⟩
      clear Q4
      replace HM := Lib.hid (HM.out.past b9')
      clear b9'
      clear hS
      refine hK.out _ _ ⟨HM.out.pick (ks := [0]) (by decide) rfl, ⟨(HM.out.bl.cell (p := ⟨b, off + k * 3, none⟩) hbb).trans Z.out.1, (HM.out.bl.cell (p := ⟨b, off + k * 3 + 1, none⟩) hbb).trans Z.out.2.1, (HM.out.bl.cell (p := ⟨b, off + k * 3 + 2, none⟩) hbb).trans Z.out.2.2⟩⟩ (fun hS => ?_)
      clear hK K
      try simp only [Act.put, pa, pb, pc]
      first | refine tu 11 127 rfl hS ?_ | (refine tk (v := ?_) 11 127 rfl (fun w' hS' => ?_) hS ?_; rotate_left; · (go_simp; all_goals (with_reducible rfl)))
      try simp only [Act.put, pa, pb, pc]
      refine tk (v := ?_) 12 128 rfl (fun w' hS' => ?_) hS ?_
      rotate_left
      ·go_simp; all_goals (with_reducible rfl)
      try simp only [Act.put, pa, pb, pc]
      refine wpAnyH_done (by kernel_rfl) ?_ _
      clear hS
      go_wp2
      clear gk gk2 gk3
      go_roundw
      case rel => exact ⟨k + 1, by omega, by go_num, HM.out.pick (ks := [1, 2, 3]) (by decide) rfl⟩
      case measure => simp [intOf]; omega
     ·obtain rfl : k = G.length := by omega
      obtain ⟨a1, a2, a3, a4, a5⟩ := HRS.out.again
      obtain ⟨kr0, kr1, kr2, kr3⟩ := HM.out.c4 0 rfl
      go_wp2_with fail
      clear kr0 kr1 kr2 kr3
      refine (implRingResync_d _ R 33 _ (rdRi R (HM.out.read (i := 1) rfl)) HSM.out ⟨by omega, by omega⟩).mono ?_
      rw [a1, a2]
      clear a1 a2
      generalize hZ : (⟨R.cap, 34, false, []⟩ : Ri) = Z at a3 a4 a5 ⊢
      have HZ := Lib.hid (show Z.out = false ∧ Z.next = 34 ∧ SmRi Z from by rw [← hZ]; exact ⟨rfl, rfl, smNew _ _⟩)
      clear hZ a3
      rintro e' W2 ⟨v', rfl, o', b'⟩
      obtain ⟨AZ, cZ, rfl, -⟩ := aggRi o'.read
      obtain ⟨bn, hm⟩ := HM.out.got o' b'
      clear o' b'
      obtain ⟨bZ, hm⟩ := hm.unRi
      replace HM := Lib.hid hm
      clear hm
      replace HM := Lib.hid (HM.out.new #[.int .i64 Z.cap, .int .i64 Z.next, .bool Z.out, .slice AZ Z.list.length cZ] 27)
      go_wp2_with fail
      obtain ⟨W3, hW, hm⟩ := HM.out.name
      rw [← hW]
      replace HM := Lib.hid hm
      clear hm hW
      refine (implRingPoll_d _ Z 5 _ (rdRi Z (HM.out.read (i := 1) rfl)) HZ.out.2.2).mono ?_
      rw [a4, a5]
      generalize ringPollT Z 5 = Y
      rintro e' W4 ⟨v', v2', b1', b2', rfl, ob1, ob2, dis, b'⟩
      obtain ⟨AY, cY, rfl, -⟩ := aggRi ob1.read
      obtain ⟨AM, cM, rfl⟩ := sliceEns ob2.read
      clear ob1 ob2 dis a4 a5
      replace HM := Lib.hid (HM.out.past b')
      clear b'
      replace HM := Lib.hid (HM.out.new #[.int .i64 Y.cap, .int .i64 Y.next, .bool Y.out, .slice AY Y.list.length cY] 27)
      obtain ⟨kz0, kz1, kz2, kz3⟩ := HM.out.c4 1 rfl
      rw [HZ.out.1] at kz2
      rw [HZ.out.2.1] at kz1
      go_wp2_with fail
      clear kz0 kz1 kz2 kz3
      obtain ⟨W5, hW, hm⟩ := HM.out.name
      rw [← hW]
      replace HM := Lib.hid hm
      clear hm hW
      have HRz := Lib.hid (show RdC W5 W5.heap.size (datRi Z) (.agg #[.int .i64 Z.cap, .int .i64 34, .bool false, .slice AZ Z.list.length cZ]) from by have h9 := rdRi Z (HM.out.read (i := 2) rfl); rw [HZ.out.1, HZ.out.2.1] at h9; exact h9)
      refine (implRingSame_d _ _ Z Z _ HRz.out HRz.out HZ.out.2.2 HZ.out.2.2).mono ?_
      rw [ringSame_self]
      rintro e' W6 ⟨rfl, b'⟩
      clear HRz
      replace HM := Lib.hid (HM.out.past b')
      clear b'
      go_wp2
      go_ret
      exact ⟨rfl, D.trans (HM.out.bl.mono D.size)⟩
 ·go_enter Try.func3, Try.ntmps3
  go_wp2
  go_ret
  exact ⟨rfl, Below.refl _ _⟩
theorem lifted (os : Os) (started : os.Started) (H : Type) (enc : TypeId × Value → H) :
  ReturnsInHanded {} Try.checked os 3 .any (Rows.fnRingSpec.pre6 enc Try.prog Try.f3 Rows.fnRingRow.domain false) (Rows.fnRingSpec.post enc Try.prog Try.f3 false true false false) := by
 refine returnsInHanded_of_change (C := Try.checked) own started (by kernel_rfl) Try.func3
  (ChangeSpec.witness6 (enc := enc) (C := Try.checked) false ⟨#[], #[.slice none 0 0], []⟩ 8 (by kernel_rfl) (by kernel_rfl) (by kernel_rfl) (by kernel_rfl)) ?_
 intro W base args ds gs before hval0 hW hcnd _
 have hval : ∀ (j : Nat) t v, Try.f3.params[j]? = some t → args[j]? = some v → Value.okWide Try.prog W .any base t v := hval0
 have hW' := hW
 obtain ⟨p, q, hA0, hV, rfl, hfz, hnd⟩ := hW
 have hA : DataW.TrodAll enc Try.prog W 0 (fun _ => true) true Try.f3.params.toList args.toList ds p := hA0
 rw [Try.params3] at hA hval
 obtain ⟨v0, vs0, x0, xs0, q0, r0, hargs, rfl, rfl, h0, t0⟩ := trodAll_cons hA
 obtain ⟨rfl, rfl, rfl⟩ := trodAll_nil t0
 obtain rfl : args = #[v0] := by cases args; simp_all
 obtain ⟨rfl, rfl⟩ := trodVars_none hV
 have k0 := h0
 have lt0 : ∀ x ∈ q0, x.block < W.heap.size := by obtain ⟨m, hm⟩ := k0; exact DataW.trod_lt m _ _ _ hm
 obtain ⟨B0, n0, d0, rfl⟩ := okWide_slice Try.underlying22 (hval 0 22 v0 rfl rfl)
 obtain ⟨f0, hf0⟩ := h0
 obtain ⟨A0, c0, zs0, e0, w0, l0, b0⟩ := read_bytes hf0
 obtain ⟨rfl, rfl, rfl⟩ : B0 = A0 ∧ n0 = zs0.length ∧ d0 = c0 := by simpa [Value.cells] using e0
 clear hA0 hval0
 refine (walk B0 d0 zs0 W w0 l0 b0).mono fun e W' ⟨he, bel⟩ => ?_
 subst he
 exact ⟨_, rfl, _, _, _, [], _, [], hW', trodAll_mk1 (shut_bool Try.underlying4 _), (trodAll_cons_mk (Below.trod laidOut (by kernel_rfl) (of_decide_eq_true (by kernel_rfl)) k0 bel lt0) trodAll_mk0), rfl, bel.frame _, fun h => by cases h⟩
theorem over : Rows.fnRingRow.holds Try.pinned (OpenSpec.ofChange Rows.fnRingSpec) :=
 OpenClaim.holds_of_wide 3 Try.f3 rfl rfl rfl rfl rfl rfl rfl ⟨rfl, rfl, rfl, rfl, rfl⟩ rfl rfl rfl rfl rfl (by kernel_rfl) Try.func3 (by kernel_rfl)
  (of_decide_eq_true (by kernel_rfl)) (by unfold Func.isWrapper; first | (rw [if_pos (by decide +kernel)]; kernel_rfl) | (rw [if_neg (by decide +kernel)]; exact ⟨rfl, rfl⟩))
  (fun os started H enc _ => lifted os started H enc)
theorem proved : Rows.FnRingSaid := over
end Go.Proofs.Ytglklgnggkenhaa.fnRing
