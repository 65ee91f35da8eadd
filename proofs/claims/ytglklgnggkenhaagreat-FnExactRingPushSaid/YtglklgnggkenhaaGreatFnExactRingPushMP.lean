/-
  Proved: for every argument (ring, entry), the law FnExactRingPush of this seat's translation returns true (impl.RingPush answers as spec.RingPush does, twice, leaves its arguments alone, and its result owns its memory); no conditions.
-/
import Derived.Test.YtglklgnggkenhaaGreatRows
import Derived.Test.YtglklgnggkenhaaGreatMP1
import Derived.WalkKit
import Derived.ProofKit
import Derived.OpenShut
import Derived.ShutString
import Derived.ChangeOld
import Derived.Below
import Derived.Test.YtglklgnggkenhaaGreatMP2
import Derived.Test.YtglklgnggkenhaaGreatMP3
set_option maxHeartbeats 12800000
set_option maxRecDepth 1000000
namespace Go.Proofs.YtglklgnggkenhaaGreat.fnExactRingPush
open Go.ChangeShapes Go.WideShapes Go.ChangeAt Go.RowKit
open Go.ChangeMaps (open_string shut_string)
open low
set_option linter.unusedVariables false
theorem own : ownKnob Tryz.prog.godebug = none := by kernel_rfl
theorem walk (x0 : Ri) (y0 : Value) (x1 : En) (y1 : Value) (w : World) (w0 : RdC w w.heap.size (datRi x0) y0) (l0 : LimRi x0) (w1 : RdC w w.heap.size (datEn x1) y1) (l1 : LimEn x1) :
  Calls Tryz.prog 3 #[y0, y1] w fun e w' => e = .returned (.bool true) ∧ Below w.heap.size w w' := by
 have D0 : Below w.heap.size w w := Below.refl _ _
 have R0 := w0
 obtain ⟨AA0_3, cA0_3, rfl, _⟩ := aggRi w0
 have R1 := w1
 obtain ⟨AA1_2, cA1_2, rfl, _⟩ := aggEn w1
 obtain ⟨bxA0', bxA1', DE⟩ := two_boxes2 w #[.int .i64 x0.cap, .int .i64 x0.next, .bool x0.out, .slice AA0_3 x0.list.length cA0_3] #[.int .i64 x1.client, .int .i64 x1.seq, .slice AA1_2 x1.o.length cA1_2] 24 27
 have bxA0 : Bx ((w.alloc (.cells #[.int .i64 x0.cap, .int .i64 x0.next, .bool x0.out, .slice AA0_3 x0.list.length cA0_3] 24)).alloc (.cells #[.int .i64 x1.client, .int .i64 x1.seq, .slice AA1_2 x1.o.length cA1_2] 27)) (w.heap.size) #[.int .i64 x0.cap, .int .i64 x0.next, .bool x0.out, .slice AA0_3 x0.list.length cA0_3] 24 := bxA0'
 clear bxA0'
 have bxA1 : Bx ((w.alloc (.cells #[.int .i64 x0.cap, .int .i64 x0.next, .bool x0.out, .slice AA0_3 x0.list.length cA0_3] 24)).alloc (.cells #[.int .i64 x1.client, .int .i64 x1.seq, .slice AA1_2 x1.o.length cA1_2] 27)) (w.heap.size + 1) #[.int .i64 x1.client, .int .i64 x1.seq, .slice AA1_2 x1.o.length cA1_2] 27 := bxA1'
 clear bxA1'
 have zE : ((w.alloc (.cells #[.int .i64 x0.cap, .int .i64 x0.next, .bool x0.out, .slice AA0_3 x0.list.length cA0_3] 24)).alloc (.cells #[.int .i64 x1.client, .int .i64 x1.seq, .slice AA1_2 x1.o.length cA1_2] 27)).heap.size = w.heap.size + 2 := by rw [World.size_alloc, World.size_alloc]
 go_enter Tryz.func3, Tryz.ntmps3
 go_wp2_with fail
 generalize ((w.alloc (.cells #[.int .i64 x0.cap, .int .i64 x0.next, .bool x0.out, .slice AA0_3 x0.list.length cA0_3] 24)).alloc (.cells #[.int .i64 x1.client, .int .i64 x1.seq, .slice AA1_2 x1.o.length cA1_2] 27)) = wE at bxA0 bxA1 DE zE ⊢
 refine (szRi _ x0 1048576 _ (R0.past DE) (by omega) (by omega) l0).mono ?_
 rintro e u1 ⟨r1, rfl, hr1, b1⟩
 rcases hr1 with rfl | ⟨p1, q1⟩
 ·go_wp2
  go_ret
  exact ⟨rfl, DE.trans (b1.mono DE.size)⟩
 have S0 : SmRi x0 := by unfold SmRi; omega
 have t1 : r1 ≤ 1048576 := by omega
 clear q1
 have bxA0 := bxA0.past b1
 have bxA1 := bxA1.past b1
 have z1 := b1.size
 have D1 := DE.trans (b1.mono DE.size)
 have ybxA10 : _ = (some (.int .i64 x1.client) : Option Value) := bxA1.cell (j := 0) rfl
 have ybxA11 : _ = (some (.int .i64 x1.seq) : Option Value) := bxA1.cell (j := 1) rfl
 have ybxA12 : _ = (some (.slice AA1_2 x1.o.length cA1_2) : Option Value) := bxA1.cell (j := 2) rfl
 go_wp2_with fail
 clear ybxA10 ybxA11 ybxA12
 refine (szEn _ x1 r1 _ (R1.past D1) (by omega) (by omega) l1).mono ?_
 rintro e u2 ⟨r2, rfl, hr2, b2⟩
 rcases hr2 with rfl | ⟨p2, q2⟩
 ·go_wp2
  go_ret
  exact ⟨rfl, D1.trans (b2.mono D1.size)⟩
 have S1 : SmEn x1 := by unfold SmEn; omega
 have t2 : r2 ≤ 1048576 := by omega
 clear q2
 have bxA0 := bxA0.past b2
 have bxA1 := bxA1.past b2
 have z2 := b2.size
 have D2 := D1.trans (b2.mono D1.size)
 have lbxA0 := bxA0.lt
 have ybxA00 : u2.cell? ⟨w.heap.size, 0, none⟩ = some (.int .i64 x0.cap) := bxA0.cell (j := 0) rfl
 have ybxA01 : u2.cell? ⟨w.heap.size, 1, none⟩ = some (.int .i64 x0.next) := bxA0.cell (j := 1) rfl
 have ybxA02 : u2.cell? ⟨w.heap.size, 2, none⟩ = some (.bool x0.out) := bxA0.cell (j := 2) rfl
 have ybxA03 : u2.cell? ⟨w.heap.size, 3, none⟩ = some (.slice AA0_3 x0.list.length cA0_3) := bxA0.cell (j := 3) rfl
 have YbxA0 := Lib.hid (And.intro lbxA0 (And.intro ybxA00 (And.intro ybxA01 (And.intro ybxA02 (And.intro ybxA03 trivial)))))
 clear lbxA0 ybxA00 ybxA01 ybxA02 ybxA03
 have lbxA1 := bxA1.lt
 have ybxA10 : u2.cell? ⟨w.heap.size + 1, 0, none⟩ = some (.int .i64 x1.client) := bxA1.cell (j := 0) rfl
 have ybxA11 : u2.cell? ⟨w.heap.size + 1, 1, none⟩ = some (.int .i64 x1.seq) := bxA1.cell (j := 1) rfl
 have ybxA12 : u2.cell? ⟨w.heap.size + 1, 2, none⟩ = some (.slice AA1_2 x1.o.length cA1_2) := bxA1.cell (j := 2) rfl
 have YbxA1 := Lib.hid (And.intro lbxA1 (And.intro ybxA10 (And.intro ybxA11 (And.intro ybxA12 trivial))))
 clear lbxA1 ybxA10 ybxA11 ybxA12
 go_wp2
 refine wp_region_held_drew (S := fun W => Below u2.heap.size u2 W) (by kernel_rfl) (Below.refl _ _).drew (fun hS => ?_)
 generalize u2.drew = W0 at hS ⊢
 refine low.tk (v := ?_) 0 24 rfl (fun w' hS' => ?_) hS ?_
 rotate_left
 ·(try dsimp only at hS'); have q0 := (hS'.cell (p := ⟨w.heap.size, 0, none⟩) YbxA0.out.1).trans YbxA0.out.2.1; have q1 := (hS'.cell (p := ⟨w.heap.size, 1, none⟩) YbxA0.out.1).trans YbxA0.out.2.2.1; have q2 := (hS'.cell (p := ⟨w.heap.size, 2, none⟩) YbxA0.out.1).trans YbxA0.out.2.2.2.1; have q3 := (hS'.cell (p := ⟨w.heap.size, 3, none⟩) YbxA0.out.1).trans YbxA0.out.2.2.2.2.1; go_simp; all_goals (with_reducible rfl)
 try simp only [Act.put, pa, pb, pc]
 refine low.tk (v := ?_) 2 26 rfl (fun w' hS' => ?_) hS ?_
 rotate_left
 ·(try dsimp only at hS'); have q0 := (hS'.cell (p := ⟨w.heap.size + 1, 0, none⟩) YbxA1.out.1).trans YbxA1.out.2.1; have q1 := (hS'.cell (p := ⟨w.heap.size + 1, 1, none⟩) YbxA1.out.1).trans YbxA1.out.2.2.1; have q2 := (hS'.cell (p := ⟨w.heap.size + 1, 2, none⟩) YbxA1.out.1).trans YbxA1.out.2.2.2.1; go_simp; all_goals (with_reducible rfl)
 try simp only [Act.put, pa, pb, pc]
 refine wpAnyH_ready (rs := [1, 5]) (by kernel_rfl) (by simp) ?_
 refine AllReadyH.cons (o := ⟨some 25, _, _, _, _, _⟩) rfl (fun K hK => ?_) ?_
 ·go_simp
  refine (toRi _ x0 _ (R0.past (D2.trans (hS.mono D2.size))) S0).mono ?_
  rintro e u3 ⟨v3, rfl, o3, b3⟩
  obtain ⟨A3_3, c3_3, rfl, _⟩ := aggRi o3.read
  have zz3 := b3.size
  have hT := hS.trans (b3.mono hS.size)
  clear hS b3
  refine hK.out _ _ hT (fun hS => ?_)
  clear hK K hT
  try simp only [Act.put, pa, pb, pc]
  refine wpAnyH_ready (rs := [3, 5]) (by kernel_rfl) (by simp) ?_
  refine AllReadyH.cons (o := ⟨some 27, _, _, _, _, _⟩) rfl (fun K hK => ?_) ?_
  ·go_simp
   refine (toEn _ x1 _ (R1.past (D2.trans (hS.mono D2.size))) S1).mono ?_
   rintro e u4 ⟨v4, rfl, o4, b4⟩
   obtain ⟨A4_2, c4_2, rfl, _⟩ := aggEn o4.read
   have o3 := o3.past b4
   have zz4 := b4.size
   have hT := hS.trans (b4.mono hS.size)
   clear hS b4
   refine hK.out _ _ hT (fun hS => ?_)
   clear hK K hT
   try simp only [Act.put, pa, pb, pc]
   refine wpAnyH_ready (rs := [4, 5]) (by kernel_rfl) (by simp) ?_
   refine AllReadyH.cons (o := ⟨some 28, _, _, _, _, _⟩) rfl (fun K hK => ?_) ?_
   ·go_simp
    refine (specRingPush_d _ _ x0 x1 _ (by exact o3.read) (by exact o4.read) S0 S1).mono ?_
    rintro e u5 ⟨v5, rfl, oW00, b5⟩
    obtain ⟨AW0_3, cW0_3, rfl, _⟩ := aggRi oW00.read
    have o3 := o3.past b5
    have o4 := o4.past b5
    have zz5 := b5.size
    have hT := hS.trans (b5.mono hS.size)
    clear hS b5
    refine hK.out _ _ hT (fun hS => ?_)
    clear hK K hT
    try simp only [Act.put, pa, pb, pc]
    refine low.r1 5 (some 6) rfl (fun K hK => ?_)
    go_simp
    have b9 := alloc_below u5 (.cells #[.int .i64 0, .int .i64 0, .bool false, .slice none 0 0] 32)
    have o3 := o3.past b9
    have o4 := o4.past b9
    have oW00 := oW00.past b9
    have bx9 := Bx.new u5 #[.int .i64 0, .int .i64 0, .bool false, .slice none 0 0] 32
    have zg := hS.size
    have zy : (u5.alloc (.cells #[.int .i64 0, .int .i64 0, .bool false, .slice none 0 0] 32)).heap.size = u5.heap.size + 1 := World.size_alloc _ _
    have hT := hS.trans (b9.mono hS.size)
    clear hS b9
    refine hK.out _ _ hT (fun hS => ?_)
    clear hK K hT
    try simp only [Act.put, pa, pb, pc]
    generalize u5.alloc (.cells #[.int .i64 0, .int .i64 0, .bool false, .slice none 0 0] 32) = W9 at o3 o4 oW00 bx9 zy hS ⊢
    refine low.r1 6 none rfl (fun K hK => ?_)
    have kq0 := bx9.cell (j := 0) rfl
    have fq0 := bxfree (j := 0) bx9
    have kq1 := bx9.cell (j := 1) rfl
    have fq1 := bxfree (j := 1) bx9
    have kq2 := bx9.cell (j := 2) rfl
    have fq2 := bxfree (j := 2) bx9
    have kq3 := bx9.cell (j := 3) rfl
    have fq3 := bxfree (j := 3) bx9
    go_simp
    clear kq0 fq0 kq1 fq1 kq2 fq2 kq3 fq3
    have hT : Below u2.heap.size u2 ((((W9.setCell ⟨u5.heap.size, 0, none⟩ (.int .i64 (ringPushT x0 x1).cap)).setCell ⟨u5.heap.size, 1, none⟩ (.int .i64 (ringPushT x0 x1).next)).setCell ⟨u5.heap.size, 2, none⟩ (.bool (ringPushT x0 x1).out)).setCell ⟨u5.heap.size, 3, none⟩ (.slice AW0_3 (ringPushT x0 x1).list.length cW0_3)) := putRow_below (lo := u2.heap.size) zg [.int .i64 (ringPushT x0 x1).cap, .int .i64 (ringPushT x0 x1).next, .bool (ringPushT x0 x1).out, .slice AW0_3 (ringPushT x0 x1).list.length cW0_3] _ 0 hS
    have bx8 : Bx ((((W9.setCell ⟨u5.heap.size, 0, none⟩ (.int .i64 (ringPushT x0 x1).cap)).setCell ⟨u5.heap.size, 1, none⟩ (.int .i64 (ringPushT x0 x1).next)).setCell ⟨u5.heap.size, 2, none⟩ (.bool (ringPushT x0 x1).out)).setCell ⟨u5.heap.size, 3, none⟩ (.slice AW0_3 (ringPushT x0 x1).list.length cW0_3)) (u5.heap.size) #[.int .i64 (ringPushT x0 x1).cap, .int .i64 (ringPushT x0 x1).next, .bool (ringPushT x0 x1).out, .slice AW0_3 (ringPushT x0 x1).list.length cW0_3] 32 := putRow_cells (ys := [.int .i64 (ringPushT x0 x1).cap, .int .i64 (ringPushT x0 x1).next, .bool (ringPushT x0 x1).out, .slice AW0_3 (ringPushT x0 x1).list.length cW0_3]) (cs := #[.int .i64 0, .int .i64 0, .bool false, .slice none 0 0]) (o := 0) rfl bx9
    have oW01 : Own _ _ ((((W9.setCell ⟨u5.heap.size, 0, none⟩ (.int .i64 (ringPushT x0 x1).cap)).setCell ⟨u5.heap.size, 1, none⟩ (.int .i64 (ringPushT x0 x1).next)).setCell ⟨u5.heap.size, 2, none⟩ (.bool (ringPushT x0 x1).out)).setCell ⟨u5.heap.size, 3, none⟩ (.slice AW0_3 (ringPushT x0 x1).list.length cW0_3)) _ _ := Own.putRow (g := u5.heap.size) (by omega) [.int .i64 (ringPushT x0 x1).cap, .int .i64 (ringPushT x0 x1).next, .bool (ringPushT x0 x1).out, .slice AW0_3 (ringPushT x0 x1).list.length cW0_3] _ 0 oW00
    have zw : ((((W9.setCell ⟨u5.heap.size, 0, none⟩ (.int .i64 (ringPushT x0 x1).cap)).setCell ⟨u5.heap.size, 1, none⟩ (.int .i64 (ringPushT x0 x1).next)).setCell ⟨u5.heap.size, 2, none⟩ (.bool (ringPushT x0 x1).out)).setCell ⟨u5.heap.size, 3, none⟩ (.slice AW0_3 (ringPushT x0 x1).list.length cW0_3)).heap.size = W9.heap.size := putRow_size _ [.int .i64 (ringPushT x0 x1).cap, .int .i64 (ringPushT x0 x1).next, .bool (ringPushT x0 x1).out, .slice AW0_3 (ringPushT x0 x1).list.length cW0_3] _ 0
    clear hS bx9 oW00
    refine hK.out _ _ hT (fun hS => ?_)
    clear hK K hT
    try simp only [Act.put]
    generalize ((((W9.setCell ⟨u5.heap.size, 0, none⟩ (.int .i64 (ringPushT x0 x1).cap)).setCell ⟨u5.heap.size, 1, none⟩ (.int .i64 (ringPushT x0 x1).next)).setCell ⟨u5.heap.size, 2, none⟩ (.bool (ringPushT x0 x1).out)).setCell ⟨u5.heap.size, 3, none⟩ (.slice AW0_3 (ringPushT x0 x1).list.length cW0_3)) = u6 at oW01 bx8 zw hS ⊢
    refine wpAnyH_done (by kernel_rfl) ?_ _
    have HK6 := hS
    clear hS
    clear o3 o4
    clear YbxA0 YbxA1
    have bxA0 := bxA0.past HK6
    have bxA1 := bxA1.past HK6
    have z6 := HK6.size
    have D6 := D2.trans (HK6.mono D2.size)
    obtain ⟨k6, oW0⟩ := oW01.blocks
    have bxW0 := bx8
    clear oW01 bx8
    have hs0 : SmRi (ringPushT x0 x1) := ringPush_small S0 S1
    generalize hL0 : (ringPushT x0 x1) = L0 at *
    have HL0 := Lib.hid hL0
    clear hL0
    have hc0 := cntRi hs0
    generalize hn0 : cntC (datRi L0) = n0 at *
    have HN0 := Lib.hid hn0
    clear hn0
    have nm0 : (((1 : Int) + (n0 : Int)) != ((1 : Int) + (n0 : Int))) = false := by simp
    have ybxA00 : _ = (some (.int .i64 x0.cap) : Option Value) := bxA0.cell (j := 0) rfl
    have ybxA01 : _ = (some (.int .i64 x0.next) : Option Value) := bxA0.cell (j := 1) rfl
    have ybxA02 : _ = (some (.bool x0.out) : Option Value) := bxA0.cell (j := 2) rfl
    have ybxA03 : _ = (some (.slice AA0_3 x0.list.length cA0_3) : Option Value) := bxA0.cell (j := 3) rfl
    go_wp2_with fail
    clear ybxA00 ybxA01 ybxA02 ybxA03
    refine (toRi _ x0 _ (R0.past D6) S0).mono ?_
    rintro e u7 ⟨v7, rfl, oX00, b7⟩
    obtain ⟨k7, oX0⟩ := oX00.blocks
    clear oX00
    obtain ⟨A7_3, c7_3, rfl, _⟩ := aggRi oX0.read
    have oW0 := oW0.past b7
    have bxA0 := bxA0.past b7
    have bxA1 := bxA1.past b7
    have bxW0 := bxW0.past b7
    have z7 := b7.size
    have D7 := D6.trans (b7.mono D6.size)
    have bxA0P := bxA0
    have bxA0L := bxA0.lt
    have bxA1P := bxA1
    have bxA1L := bxA1.lt
    have bxW0P := bxW0
    have bxW0L := bxW0.lt
    have ba7 := alloc_below u7 (.cells #[.int .i64 x0.cap, .int .i64 x0.next, .bool x0.out, .slice A7_3 x0.list.length c7_3] 32)
    have oW0 := oW0.past ba7
    have oX0 := oX0.past ba7
    have bxA0 := bxA0.past ba7
    have bxA1 := bxA1.past ba7
    have bxW0 := bxW0.past ba7
    have bxX0 := Bx.new u7 #[.int .i64 x0.cap, .int .i64 x0.next, .bool x0.out, .slice A7_3 x0.list.length c7_3] 32
    have zu7 : (u7.alloc (.cells #[.int .i64 x0.cap, .int .i64 x0.next, .bool x0.out, .slice A7_3 x0.list.length c7_3] 32)).heap.size = u7.heap.size + 1 := World.size_alloc _ _
    have Da7 := D7.trans (ba7.mono D7.size)
    clear ba7
    have ybxA10 : _ = (some (.int .i64 x1.client) : Option Value) := bxA1P.cell (j := 0) rfl
    have ybxA11 : _ = (some (.int .i64 x1.seq) : Option Value) := bxA1P.cell (j := 1) rfl
    have ybxA12 : _ = (some (.slice AA1_2 x1.o.length cA1_2) : Option Value) := bxA1P.cell (j := 2) rfl
    go_wp2_with fail
    generalize u7.alloc (.cells #[.int .i64 x0.cap, .int .i64 x0.next, .bool x0.out, .slice A7_3 x0.list.length c7_3] 32) = v7_ at oW0 oX0 bxA0 bxA1 bxW0 bxX0 zu7 Da7 ⊢
    clear bxA0P bxA0L
    clear bxA1P bxA1L
    clear bxW0P bxW0L
    clear ybxA10 ybxA11 ybxA12
    refine (toEn _ x1 _ (R1.past Da7) S1).mono ?_
    rintro e u8 ⟨v8, rfl, oX10, b8⟩
    obtain ⟨k8, oX1⟩ := oX10.blocks
    clear oX10
    obtain ⟨A8_2, c8_2, rfl, _⟩ := aggEn oX1.read
    have oW0 := oW0.past b8
    have oX0 := oX0.past b8
    have bxA0 := bxA0.past b8
    have bxA1 := bxA1.past b8
    have bxW0 := bxW0.past b8
    have bxX0 := bxX0.past b8
    have z8 := b8.size
    have D8 := Da7.trans (b8.mono Da7.size)
    have bxA0P := bxA0
    have bxA0L := bxA0.lt
    have bxA1P := bxA1
    have bxA1L := bxA1.lt
    have bxW0P := bxW0
    have bxW0L := bxW0.lt
    have bxX0P := bxX0
    have bxX0L := bxX0.lt
    have ba8 := alloc_below u8 (.cells #[.int .i64 x1.client, .int .i64 x1.seq, .slice A8_2 x1.o.length c8_2] 37)
    have oW0 := oW0.past ba8
    have oX0 := oX0.past ba8
    have oX1 := oX1.past ba8
    have bxA0 := bxA0.past ba8
    have bxA1 := bxA1.past ba8
    have bxW0 := bxW0.past ba8
    have bxX0 := bxX0.past ba8
    have bxX1 := Bx.new u8 #[.int .i64 x1.client, .int .i64 x1.seq, .slice A8_2 x1.o.length c8_2] 37
    have zu8 : (u8.alloc (.cells #[.int .i64 x1.client, .int .i64 x1.seq, .slice A8_2 x1.o.length c8_2] 37)).heap.size = u8.heap.size + 1 := World.size_alloc _ _
    have Da8 := D8.trans (ba8.mono D8.size)
    clear ba8
    have ybxX00 : _ = (some (.int .i64 x0.cap) : Option Value) := bxX0P.cell (j := 0) rfl
    have ybxX01 : _ = (some (.int .i64 x0.next) : Option Value) := bxX0P.cell (j := 1) rfl
    have ybxX02 : _ = (some (.bool x0.out) : Option Value) := bxX0P.cell (j := 2) rfl
    have ybxX03 : _ = (some (.slice A7_3 x0.list.length c7_3) : Option Value) := bxX0P.cell (j := 3) rfl
    go_wp2_with fail
    generalize u8.alloc (.cells #[.int .i64 x1.client, .int .i64 x1.seq, .slice A8_2 x1.o.length c8_2] 37) = v8_ at oW0 oX0 oX1 bxA0 bxA1 bxW0 bxX0 bxX1 zu8 Da8 ⊢
    clear bxA0P bxA0L
    clear bxA1P bxA1L
    clear bxW0P bxW0L
    clear bxX0P bxX0L
    clear ybxX00 ybxX01 ybxX02 ybxX03
    refine (implRingPush_d _ _ x0 x1 _ oX0.read oX1.read S0 S1).mono ?_
    rw [HL0.out]
    rintro e u9 ⟨v9, rfl, oG00, b9⟩
    have oW0 := oW0.past b9
    have oX0 := oX0.past b9
    have oX1 := oX1.past b9
    have bxA0 := bxA0.past b9
    have bxA1 := bxA1.past b9
    have bxW0 := bxW0.past b9
    have bxX0 := bxX0.past b9
    have bxX1 := bxX1.past b9
    obtain ⟨k9, oG0⟩ := oG00.blocks
    clear oG00
    have z9 := b9.size
    have D9 := Da8.trans (b9.mono Da8.size)
    obtain ⟨AG0_3, cG0_3, rfl, _⟩ := aggRi oG0.read
    have bxA0P := bxA0
    have bxA0L := bxA0.lt
    have bxA1P := bxA1
    have bxA1L := bxA1.lt
    have bxW0P := bxW0
    have bxW0L := bxW0.lt
    have bxX0P := bxX0
    have bxX0L := bxX0.lt
    have bxX1P := bxX1
    have bxX1L := bxX1.lt
    have ba9 := alloc_below u9 (.cells #[.int .i64 L0.cap, .int .i64 L0.next, .bool L0.out, .slice AG0_3 L0.list.length cG0_3] 32)
    have oW0 := oW0.past ba9
    have oX0 := oX0.past ba9
    have oX1 := oX1.past ba9
    have oG0 := oG0.past ba9
    have bxA0 := bxA0.past ba9
    have bxA1 := bxA1.past ba9
    have bxW0 := bxW0.past ba9
    have bxX0 := bxX0.past ba9
    have bxX1 := bxX1.past ba9
    have bxG0 := Bx.new u9 #[.int .i64 L0.cap, .int .i64 L0.next, .bool L0.out, .slice AG0_3 L0.list.length cG0_3] 32
    have zu9 : (u9.alloc (.cells #[.int .i64 L0.cap, .int .i64 L0.next, .bool L0.out, .slice AG0_3 L0.list.length cG0_3] 32)).heap.size = u9.heap.size + 1 := World.size_alloc _ _
    have Da9 := D9.trans (ba9.mono D9.size)
    clear ba9
    have HAG := Lib.hid (show ∀ (x0_ : Value) (x1_ : Value) (u : World), RdC u u.heap.size (datRi x0) x0_ → RdC u u.heap.size (datEn x1) x1_ → Calls Tryz.prog 10 #[x0_, x1_] u (OwnPost (datRi L0) u) from fun x0_ x1_ u h0_ h1_ => by rw [← HL0.out]; exact implRingPush_d x0_ x1_ x0 x1 u h0_ h1_ S0 S1 )
    have ybxW00 : _ = (some (.int .i64 L0.cap) : Option Value) := bxW0P.cell (j := 0) rfl
    have ybxW01 : _ = (some (.int .i64 L0.next) : Option Value) := bxW0P.cell (j := 1) rfl
    have ybxW02 : _ = (some (.bool L0.out) : Option Value) := bxW0P.cell (j := 2) rfl
    have ybxW03 : _ = (some (.slice AW0_3 L0.list.length cW0_3) : Option Value) := bxW0P.cell (j := 3) rfl
    go_wp2_with fail
    generalize u9.alloc (.cells #[.int .i64 L0.cap, .int .i64 L0.next, .bool L0.out, .slice AG0_3 L0.list.length cG0_3] 32) = v9_ at oW0 oX0 oX1 oG0 bxA0 bxA1 bxW0 bxX0 bxX1 bxG0 zu9 Da9 ⊢
    clear bxA0P bxA0L
    clear bxA1P bxA1L
    clear bxW0P bxW0L
    clear bxX0P bxX0L
    clear bxX1P bxX1L
    clear ybxW00 ybxW01 ybxW02 ybxW03
    refine (eqRi _ _ L0 _ oG0.read oW0.read hs0).mono ?_
    rintro e u10 ⟨rfl, b10⟩
    have oW0 := oW0.past b10
    have oX0 := oX0.past b10
    have oX1 := oX1.past b10
    have oG0 := oG0.past b10
    have bxA0 := bxA0.past b10
    have bxA1 := bxA1.past b10
    have bxW0 := bxW0.past b10
    have bxX0 := bxX0.past b10
    have bxX1 := bxX1.past b10
    have bxG0 := bxG0.past b10
    have z10 := b10.size
    have D10 := Da9.trans (b10.mono Da9.size)
    have lbxX0 := bxX0.lt
    have ybxX00 : u10.cell? ⟨u7.heap.size, 0, none⟩ = some (.int .i64 x0.cap) := bxX0.cell (j := 0) rfl
    have ybxX01 : u10.cell? ⟨u7.heap.size, 1, none⟩ = some (.int .i64 x0.next) := bxX0.cell (j := 1) rfl
    have ybxX02 : u10.cell? ⟨u7.heap.size, 2, none⟩ = some (.bool x0.out) := bxX0.cell (j := 2) rfl
    have ybxX03 : u10.cell? ⟨u7.heap.size, 3, none⟩ = some (.slice A7_3 x0.list.length c7_3) := bxX0.cell (j := 3) rfl
    have lbxA0 := bxA0.lt
    have ybxA00 : u10.cell? ⟨w.heap.size, 0, none⟩ = some (.int .i64 x0.cap) := bxA0.cell (j := 0) rfl
    have ybxA01 : u10.cell? ⟨w.heap.size, 1, none⟩ = some (.int .i64 x0.next) := bxA0.cell (j := 1) rfl
    have ybxA02 : u10.cell? ⟨w.heap.size, 2, none⟩ = some (.bool x0.out) := bxA0.cell (j := 2) rfl
    have ybxA03 : u10.cell? ⟨w.heap.size, 3, none⟩ = some (.slice AA0_3 x0.list.length cA0_3) := bxA0.cell (j := 3) rfl
    have SX := Lib.hid (show ∀ (W W1 : World), (W.cell? ⟨u7.heap.size, 0, none⟩ = some (.int .i64 x0.cap) ∧ W.cell? ⟨u7.heap.size, 1, none⟩ = some (.int .i64 x0.next) ∧ W.cell? ⟨u7.heap.size, 2, none⟩ = some (.bool x0.out) ∧ W.cell? ⟨u7.heap.size, 3, none⟩ = some (.slice A7_3 x0.list.length c7_3) ∧ W.cell? ⟨w.heap.size, 0, none⟩ = some (.int .i64 x0.cap) ∧ W.cell? ⟨w.heap.size, 1, none⟩ = some (.int .i64 x0.next) ∧ W.cell? ⟨w.heap.size, 2, none⟩ = some (.bool x0.out) ∧ W.cell? ⟨w.heap.size, 3, none⟩ = some (.slice AA0_3 x0.list.length cA0_3) ∧ KS u10 W) → Below W.heap.size W W1 → (W1.cell? ⟨u7.heap.size, 0, none⟩ = some (.int .i64 x0.cap) ∧ W1.cell? ⟨u7.heap.size, 1, none⟩ = some (.int .i64 x0.next) ∧ W1.cell? ⟨u7.heap.size, 2, none⟩ = some (.bool x0.out) ∧ W1.cell? ⟨u7.heap.size, 3, none⟩ = some (.slice A7_3 x0.list.length c7_3) ∧ W1.cell? ⟨w.heap.size, 0, none⟩ = some (.int .i64 x0.cap) ∧ W1.cell? ⟨w.heap.size, 1, none⟩ = some (.int .i64 x0.next) ∧ W1.cell? ⟨w.heap.size, 2, none⟩ = some (.bool x0.out) ∧ W1.cell? ⟨w.heap.size, 3, none⟩ = some (.slice AA0_3 x0.list.length cA0_3) ∧ KS u10 W1) from fun W W1 h hb => by have hk := h.2.2.2.2.2.2.2.2; have hkk : KS u10 W1 := hk.trans (hb.mono hk.size); exact ⟨(hkk.cell (p := ⟨u7.heap.size, 0, none⟩) lbxX0).trans ybxX00, (hkk.cell (p := ⟨u7.heap.size, 1, none⟩) lbxX0).trans ybxX01, (hkk.cell (p := ⟨u7.heap.size, 2, none⟩) lbxX0).trans ybxX02, (hkk.cell (p := ⟨u7.heap.size, 3, none⟩) lbxX0).trans ybxX03, (hkk.cell (p := ⟨w.heap.size, 0, none⟩) lbxA0).trans ybxA00, (hkk.cell (p := ⟨w.heap.size, 1, none⟩) lbxA0).trans ybxA01, (hkk.cell (p := ⟨w.heap.size, 2, none⟩) lbxA0).trans ybxA02, (hkk.cell (p := ⟨w.heap.size, 3, none⟩) lbxA0).trans ybxA03, hkk⟩)
    have RX := Lib.hid (show ∀ (W : World), (W.cell? ⟨u7.heap.size, 0, none⟩ = some (.int .i64 x0.cap) ∧ W.cell? ⟨u7.heap.size, 1, none⟩ = some (.int .i64 x0.next) ∧ W.cell? ⟨u7.heap.size, 2, none⟩ = some (.bool x0.out) ∧ W.cell? ⟨u7.heap.size, 3, none⟩ = some (.slice A7_3 x0.list.length c7_3) ∧ W.cell? ⟨w.heap.size, 0, none⟩ = some (.int .i64 x0.cap) ∧ W.cell? ⟨w.heap.size, 1, none⟩ = some (.int .i64 x0.next) ∧ W.cell? ⟨w.heap.size, 2, none⟩ = some (.bool x0.out) ∧ W.cell? ⟨w.heap.size, 3, none⟩ = some (.slice AA0_3 x0.list.length cA0_3) ∧ KS u10 W) → RdC W W.heap.size (datRi x0) (.agg #[.int .i64 x0.cap, .int .i64 x0.next, .bool x0.out, .slice A7_3 x0.list.length c7_3]) from fun W h => by have hk : Below u10.heap.size u10 W := h.2.2.2.2.2.2.2.2; exact (oX0.past hk).read)
    have RA := Lib.hid (show ∀ (W : World), (W.cell? ⟨u7.heap.size, 0, none⟩ = some (.int .i64 x0.cap) ∧ W.cell? ⟨u7.heap.size, 1, none⟩ = some (.int .i64 x0.next) ∧ W.cell? ⟨u7.heap.size, 2, none⟩ = some (.bool x0.out) ∧ W.cell? ⟨u7.heap.size, 3, none⟩ = some (.slice A7_3 x0.list.length c7_3) ∧ W.cell? ⟨w.heap.size, 0, none⟩ = some (.int .i64 x0.cap) ∧ W.cell? ⟨w.heap.size, 1, none⟩ = some (.int .i64 x0.next) ∧ W.cell? ⟨w.heap.size, 2, none⟩ = some (.bool x0.out) ∧ W.cell? ⟨w.heap.size, 3, none⟩ = some (.slice AA0_3 x0.list.length cA0_3) ∧ KS u10 W) → RdC W W.heap.size (datRi x0) (.agg #[.int .i64 x0.cap, .int .i64 x0.next, .bool x0.out, .slice AA0_3 x0.list.length cA0_3]) from fun W h => by have hk : Below u10.heap.size u10 W := h.2.2.2.2.2.2.2.2; exact R0.past (D10.trans (hk.mono D10.size)))
    have hS0 : u10.drew.cell? ⟨u7.heap.size, 0, none⟩ = some (.int .i64 x0.cap) ∧ u10.drew.cell? ⟨u7.heap.size, 1, none⟩ = some (.int .i64 x0.next) ∧ u10.drew.cell? ⟨u7.heap.size, 2, none⟩ = some (.bool x0.out) ∧ u10.drew.cell? ⟨u7.heap.size, 3, none⟩ = some (.slice A7_3 x0.list.length c7_3) ∧ u10.drew.cell? ⟨w.heap.size, 0, none⟩ = some (.int .i64 x0.cap) ∧ u10.drew.cell? ⟨w.heap.size, 1, none⟩ = some (.int .i64 x0.next) ∧ u10.drew.cell? ⟨w.heap.size, 2, none⟩ = some (.bool x0.out) ∧ u10.drew.cell? ⟨w.heap.size, 3, none⟩ = some (.slice AA0_3 x0.list.length cA0_3) ∧ KS u10 u10.drew := ⟨ybxX00, ybxX01, ybxX02, ybxX03, ybxA00, ybxA01, ybxA02, ybxA03, KS.start _⟩
    clear ybxX00 ybxX01 ybxX02 ybxX03 ybxA00 ybxA01 ybxA02 ybxA03
    go_wp2
    go_region_held3 (fun W => W.cell? ⟨u7.heap.size, 0, none⟩ = some (.int .i64 x0.cap) ∧ W.cell? ⟨u7.heap.size, 1, none⟩ = some (.int .i64 x0.next) ∧ W.cell? ⟨u7.heap.size, 2, none⟩ = some (.bool x0.out) ∧ W.cell? ⟨u7.heap.size, 3, none⟩ = some (.slice A7_3 x0.list.length c7_3) ∧ W.cell? ⟨w.heap.size, 0, none⟩ = some (.int .i64 x0.cap) ∧ W.cell? ⟨w.heap.size, 1, none⟩ = some (.int .i64 x0.next) ∧ W.cell? ⟨w.heap.size, 2, none⟩ = some (.bool x0.out) ∧ W.cell? ⟨w.heap.size, 3, none⟩ = some (.slice AA0_3 x0.list.length cA0_3) ∧ KS u10 W)
     (first | assumption | exact hS0 | (exact SX.out _ _ (by assumption) b11) | (exact SX.out _ _ (by assumption) b12))
     (first | (go_at_call 8; refine (toRi _ x0 _ (by exact RA.out _ (by assumption)) S0).mono ?_; rintro e u11 ⟨v11, rfl, o11, b11⟩; obtain ⟨A11_3, c11_3, rfl, _⟩ := aggRi o11.read) | (go_at_call 11; refine (eqRi _ _ x0 _ (by exact RX.out _ (by assumption)) (by exact o11.read) S0).mono ?_; rintro e u12 ⟨rfl, b12⟩))
    rename_i hS2
    have HK12 : Below u10.heap.size u10 u12 := hS2.2.2.2.2.2.2.2.2
    clear hS2 hS0 SX RX RA
    clear lbxX0 lbxA0
    have oW0 := oW0.past HK12
    have oX0 := oX0.past HK12
    have oX1 := oX1.past HK12
    have oG0 := oG0.past HK12
    have bxA0 := bxA0.past HK12
    have bxA1 := bxA1.past HK12
    have bxW0 := bxW0.past HK12
    have bxX0 := bxX0.past HK12
    have bxX1 := bxX1.past HK12
    have bxG0 := bxG0.past HK12
    have z12 := HK12.size
    have D12 := D10.trans (HK12.mono D10.size)
    clear o11 b11 b12
    have lbxX1 := bxX1.lt
    have ybxX10 : u12.cell? ⟨u8.heap.size, 0, none⟩ = some (.int .i64 x1.client) := bxX1.cell (j := 0) rfl
    have ybxX11 : u12.cell? ⟨u8.heap.size, 1, none⟩ = some (.int .i64 x1.seq) := bxX1.cell (j := 1) rfl
    have ybxX12 : u12.cell? ⟨u8.heap.size, 2, none⟩ = some (.slice A8_2 x1.o.length c8_2) := bxX1.cell (j := 2) rfl
    have lbxA1 := bxA1.lt
    have ybxA10 : u12.cell? ⟨w.heap.size + 1, 0, none⟩ = some (.int .i64 x1.client) := bxA1.cell (j := 0) rfl
    have ybxA11 : u12.cell? ⟨w.heap.size + 1, 1, none⟩ = some (.int .i64 x1.seq) := bxA1.cell (j := 1) rfl
    have ybxA12 : u12.cell? ⟨w.heap.size + 1, 2, none⟩ = some (.slice AA1_2 x1.o.length cA1_2) := bxA1.cell (j := 2) rfl
    have SX := Lib.hid (show ∀ (W W1 : World), (W.cell? ⟨u8.heap.size, 0, none⟩ = some (.int .i64 x1.client) ∧ W.cell? ⟨u8.heap.size, 1, none⟩ = some (.int .i64 x1.seq) ∧ W.cell? ⟨u8.heap.size, 2, none⟩ = some (.slice A8_2 x1.o.length c8_2) ∧ W.cell? ⟨w.heap.size + 1, 0, none⟩ = some (.int .i64 x1.client) ∧ W.cell? ⟨w.heap.size + 1, 1, none⟩ = some (.int .i64 x1.seq) ∧ W.cell? ⟨w.heap.size + 1, 2, none⟩ = some (.slice AA1_2 x1.o.length cA1_2) ∧ KS u12 W) → Below W.heap.size W W1 → (W1.cell? ⟨u8.heap.size, 0, none⟩ = some (.int .i64 x1.client) ∧ W1.cell? ⟨u8.heap.size, 1, none⟩ = some (.int .i64 x1.seq) ∧ W1.cell? ⟨u8.heap.size, 2, none⟩ = some (.slice A8_2 x1.o.length c8_2) ∧ W1.cell? ⟨w.heap.size + 1, 0, none⟩ = some (.int .i64 x1.client) ∧ W1.cell? ⟨w.heap.size + 1, 1, none⟩ = some (.int .i64 x1.seq) ∧ W1.cell? ⟨w.heap.size + 1, 2, none⟩ = some (.slice AA1_2 x1.o.length cA1_2) ∧ KS u12 W1) from fun W W1 h hb => by have hk := h.2.2.2.2.2.2; have hkk : KS u12 W1 := hk.trans (hb.mono hk.size); exact ⟨(hkk.cell (p := ⟨u8.heap.size, 0, none⟩) lbxX1).trans ybxX10, (hkk.cell (p := ⟨u8.heap.size, 1, none⟩) lbxX1).trans ybxX11, (hkk.cell (p := ⟨u8.heap.size, 2, none⟩) lbxX1).trans ybxX12, (hkk.cell (p := ⟨w.heap.size + 1, 0, none⟩) lbxA1).trans ybxA10, (hkk.cell (p := ⟨w.heap.size + 1, 1, none⟩) lbxA1).trans ybxA11, (hkk.cell (p := ⟨w.heap.size + 1, 2, none⟩) lbxA1).trans ybxA12, hkk⟩)
    have RX := Lib.hid (show ∀ (W : World), (W.cell? ⟨u8.heap.size, 0, none⟩ = some (.int .i64 x1.client) ∧ W.cell? ⟨u8.heap.size, 1, none⟩ = some (.int .i64 x1.seq) ∧ W.cell? ⟨u8.heap.size, 2, none⟩ = some (.slice A8_2 x1.o.length c8_2) ∧ W.cell? ⟨w.heap.size + 1, 0, none⟩ = some (.int .i64 x1.client) ∧ W.cell? ⟨w.heap.size + 1, 1, none⟩ = some (.int .i64 x1.seq) ∧ W.cell? ⟨w.heap.size + 1, 2, none⟩ = some (.slice AA1_2 x1.o.length cA1_2) ∧ KS u12 W) → RdC W W.heap.size (datEn x1) (.agg #[.int .i64 x1.client, .int .i64 x1.seq, .slice A8_2 x1.o.length c8_2]) from fun W h => by have hk : Below u12.heap.size u12 W := h.2.2.2.2.2.2; exact (oX1.past hk).read)
    have RA := Lib.hid (show ∀ (W : World), (W.cell? ⟨u8.heap.size, 0, none⟩ = some (.int .i64 x1.client) ∧ W.cell? ⟨u8.heap.size, 1, none⟩ = some (.int .i64 x1.seq) ∧ W.cell? ⟨u8.heap.size, 2, none⟩ = some (.slice A8_2 x1.o.length c8_2) ∧ W.cell? ⟨w.heap.size + 1, 0, none⟩ = some (.int .i64 x1.client) ∧ W.cell? ⟨w.heap.size + 1, 1, none⟩ = some (.int .i64 x1.seq) ∧ W.cell? ⟨w.heap.size + 1, 2, none⟩ = some (.slice AA1_2 x1.o.length cA1_2) ∧ KS u12 W) → RdC W W.heap.size (datEn x1) (.agg #[.int .i64 x1.client, .int .i64 x1.seq, .slice AA1_2 x1.o.length cA1_2]) from fun W h => by have hk : Below u12.heap.size u12 W := h.2.2.2.2.2.2; exact R1.past (D12.trans (hk.mono D12.size)))
    have hS0 : u12.drew.cell? ⟨u8.heap.size, 0, none⟩ = some (.int .i64 x1.client) ∧ u12.drew.cell? ⟨u8.heap.size, 1, none⟩ = some (.int .i64 x1.seq) ∧ u12.drew.cell? ⟨u8.heap.size, 2, none⟩ = some (.slice A8_2 x1.o.length c8_2) ∧ u12.drew.cell? ⟨w.heap.size + 1, 0, none⟩ = some (.int .i64 x1.client) ∧ u12.drew.cell? ⟨w.heap.size + 1, 1, none⟩ = some (.int .i64 x1.seq) ∧ u12.drew.cell? ⟨w.heap.size + 1, 2, none⟩ = some (.slice AA1_2 x1.o.length cA1_2) ∧ KS u12 u12.drew := ⟨ybxX10, ybxX11, ybxX12, ybxA10, ybxA11, ybxA12, KS.start _⟩
    clear ybxX10 ybxX11 ybxX12 ybxA10 ybxA11 ybxA12
    go_wp2
    go_region_held3 (fun W => W.cell? ⟨u8.heap.size, 0, none⟩ = some (.int .i64 x1.client) ∧ W.cell? ⟨u8.heap.size, 1, none⟩ = some (.int .i64 x1.seq) ∧ W.cell? ⟨u8.heap.size, 2, none⟩ = some (.slice A8_2 x1.o.length c8_2) ∧ W.cell? ⟨w.heap.size + 1, 0, none⟩ = some (.int .i64 x1.client) ∧ W.cell? ⟨w.heap.size + 1, 1, none⟩ = some (.int .i64 x1.seq) ∧ W.cell? ⟨w.heap.size + 1, 2, none⟩ = some (.slice AA1_2 x1.o.length cA1_2) ∧ KS u12 W)
     (first | assumption | exact hS0 | (exact SX.out _ _ (by assumption) b13) | (exact SX.out _ _ (by assumption) b14))
     (first | (go_at_call 9; refine (toEn _ x1 _ (by exact RA.out _ (by assumption)) S1).mono ?_; rintro e u13 ⟨v13, rfl, o13, b13⟩; obtain ⟨A13_2, c13_2, rfl, _⟩ := aggEn o13.read) | (go_at_call 12; refine (eqEn _ _ x1 _ (by exact RX.out _ (by assumption)) (by exact o13.read) S1).mono ?_; rintro e u14 ⟨rfl, b14⟩))
    rename_i hS2
    have HK14 : Below u12.heap.size u12 u14 := hS2.2.2.2.2.2.2
    clear hS2 hS0 SX RX RA
    clear lbxX1 lbxA1
    have oW0 := oW0.past HK14
    have oX0 := oX0.past HK14
    have oX1 := oX1.past HK14
    have oG0 := oG0.past HK14
    have bxA0 := bxA0.past HK14
    have bxA1 := bxA1.past HK14
    have bxW0 := bxW0.past HK14
    have bxX0 := bxX0.past HK14
    have bxX1 := bxX1.past HK14
    have bxG0 := bxG0.past HK14
    have z14 := HK14.size
    have D14 := D12.trans (HK14.mono D12.size)
    clear o13 b13 b14
    have cx0 := cntRi S0
    have ybxX00 : _ = (some (.int .i64 x0.cap) : Option Value) := bxX0.cell (j := 0) rfl
    have ybxX01 : _ = (some (.int .i64 x0.next) : Option Value) := bxX0.cell (j := 1) rfl
    have ybxX02 : _ = (some (.bool x0.out) : Option Value) := bxX0.cell (j := 2) rfl
    have ybxX03 : _ = (some (.slice A7_3 x0.list.length c7_3) : Option Value) := bxX0.cell (j := 3) rfl
    go_wp2_with fail
    clear ybxX00 ybxX01 ybxX02 ybxX03
    refine (markRi _ x0 _ (1) _ oX0.ow oX0.nd (by omega) (by omega) S0).mono ?_
    rintro e u15 ⟨rfl, m15, e15_, b15, t15⟩
    have oW0 := oW0.past b15
    have oX0 := oX0.past b15
    have oX1 := oX1.past b15
    have oG0 := oG0.past b15
    have bxA0 := bxA0.past b15
    have bxA1 := bxA1.past b15
    have bxW0 := bxW0.past b15
    have bxX0 := bxX0.past b15
    have bxX1 := bxX1.past b15
    have bxG0 := bxG0.past b15
    have zb15 := b15.size
    have Db15 := D14.trans (b15.mono D14.size)
    have oW0 := oW0.apart oX0 t15 (by omega)
    have oX1 := oX1.apart oX0 t15 (by omega)
    have oG0 := oG0.apart oX0 t15 (by omega)
    have bxA0 := bxA0.apart oX0 t15 (by omega)
    have bxA1 := bxA1.apart oX0 t15 (by omega)
    have bxW0 := bxW0.apart oX0 t15 (by omega)
    have bxX0 := bxX0.apart oX0 t15 (by omega)
    have bxX1 := bxX1.apart oX0 t15 (by omega)
    have bxG0 := bxG0.apart oX0 t15 (by omega)
    have z15 := t15.size
    have D15 := Db15.trans (oX0.under t15 (by omega))
    clear oX0 m15
    generalize cntC (datRi x0) = nx0 at *
    have cx1 := cntEn S1
    have ybxX10 : _ = (some (.int .i64 x1.client) : Option Value) := bxX1.cell (j := 0) rfl
    have ybxX11 : _ = (some (.int .i64 x1.seq) : Option Value) := bxX1.cell (j := 1) rfl
    have ybxX12 : _ = (some (.slice A8_2 x1.o.length c8_2) : Option Value) := bxX1.cell (j := 2) rfl
    go_wp2_with fail
    clear ybxX10 ybxX11 ybxX12
    refine (markEn _ x1 _ (1 + (nx0 : Int)) _ oX1.ow oX1.nd (by omega) (by omega) S1).mono ?_
    rintro e u16 ⟨rfl, m16, e16_, b16, t16⟩
    have oW0 := oW0.past b16
    have oX1 := oX1.past b16
    have oG0 := oG0.past b16
    have bxA0 := bxA0.past b16
    have bxA1 := bxA1.past b16
    have bxW0 := bxW0.past b16
    have bxX0 := bxX0.past b16
    have bxX1 := bxX1.past b16
    have bxG0 := bxG0.past b16
    have zb16 := b16.size
    have Db16 := D15.trans (b16.mono D15.size)
    have oW0 := oW0.apart oX1 t16 (by omega)
    have oG0 := oG0.apart oX1 t16 (by omega)
    have bxA0 := bxA0.apart oX1 t16 (by omega)
    have bxA1 := bxA1.apart oX1 t16 (by omega)
    have bxW0 := bxW0.apart oX1 t16 (by omega)
    have bxX0 := bxX0.apart oX1 t16 (by omega)
    have bxX1 := bxX1.apart oX1 t16 (by omega)
    have bxG0 := bxG0.apart oX1 t16 (by omega)
    have z16 := t16.size
    have D16 := Db16.trans (oX1.under t16 (by omega))
    clear oX1 m16
    generalize cntC (datEn x1) = nx1 at *
    have ybxG00 : _ = (some (.int .i64 L0.cap) : Option Value) := bxG0.cell (j := 0) rfl
    have ybxG01 : _ = (some (.int .i64 L0.next) : Option Value) := bxG0.cell (j := 1) rfl
    have ybxG02 : _ = (some (.bool L0.out) : Option Value) := bxG0.cell (j := 2) rfl
    have ybxG03 : _ = (some (.slice AG0_3 L0.list.length cG0_3) : Option Value) := bxG0.cell (j := 3) rfl
    have ybxW00 : _ = (some (.int .i64 L0.cap) : Option Value) := bxW0.cell (j := 0) rfl
    have ybxW01 : _ = (some (.int .i64 L0.next) : Option Value) := bxW0.cell (j := 1) rfl
    have ybxW02 : _ = (some (.bool L0.out) : Option Value) := bxW0.cell (j := 2) rfl
    have ybxW03 : _ = (some (.slice AW0_3 L0.list.length cW0_3) : Option Value) := bxW0.cell (j := 3) rfl
    go_wp2_with fail
    clear ybxG00 ybxG01 ybxG02 ybxG03 ybxW00 ybxW01 ybxW02 ybxW03
    refine (eqRi _ _ L0 _ oG0.read oW0.read hs0).mono ?_
    rintro e u17 ⟨rfl, b17⟩
    have oW0 := oW0.past b17
    have oG0 := oG0.past b17
    have bxA0 := bxA0.past b17
    have bxA1 := bxA1.past b17
    have bxW0 := bxW0.past b17
    have bxX0 := bxX0.past b17
    have bxX1 := bxX1.past b17
    have bxG0 := bxG0.past b17
    have z17 := b17.size
    have D17 := D16.trans (b17.mono D16.size)
    have ybxG00 : _ = (some (.int .i64 L0.cap) : Option Value) := bxG0.cell (j := 0) rfl
    have ybxG01 : _ = (some (.int .i64 L0.next) : Option Value) := bxG0.cell (j := 1) rfl
    have ybxG02 : _ = (some (.bool L0.out) : Option Value) := bxG0.cell (j := 2) rfl
    have ybxG03 : _ = (some (.slice AG0_3 L0.list.length cG0_3) : Option Value) := bxG0.cell (j := 3) rfl
    go_wp2_with fail
    clear ybxG00 ybxG01 ybxG02 ybxG03
    refine (markRi _ L0 _ (1) _ oG0.ow oG0.nd (by omega) (by omega) hs0).mono ?_
    rintro e u18 ⟨rfl, m18, e18_, b18, t18⟩
    have oW0 := oW0.past b18
    have oG0 := oG0.past b18
    have bxA0 := bxA0.past b18
    have bxA1 := bxA1.past b18
    have bxW0 := bxW0.past b18
    have bxX0 := bxX0.past b18
    have bxX1 := bxX1.past b18
    have bxG0 := bxG0.past b18
    have zb18 := b18.size
    have Db18 := D17.trans (b18.mono D17.size)
    have oW0 := oW0.apart oG0 t18 (by omega)
    have bxA0 := bxA0.apart oG0 t18 (by omega)
    have bxA1 := bxA1.apart oG0 t18 (by omega)
    have bxW0 := bxW0.apart oG0 t18 (by omega)
    have bxX0 := bxX0.apart oG0 t18 (by omega)
    have bxX1 := bxX1.apart oG0 t18 (by omega)
    have bxG0 := bxG0.apart oG0 t18 (by omega)
    have z18 := t18.size
    have D18 := Db18.trans (oG0.under t18 (by omega))
    have oG0 := oG0.marked m18 t18
    rw [HN0.out]
    have ybxG00 : _ = (some (.int .i64 L0.cap) : Option Value) := bxG0.cell (j := 0) rfl
    have ybxG01 : _ = (some (.int .i64 L0.next) : Option Value) := bxG0.cell (j := 1) rfl
    have ybxG02 : _ = (some (.bool L0.out) : Option Value) := bxG0.cell (j := 2) rfl
    have ybxG03 : _ = (some (.slice AG0_3 L0.list.length cG0_3) : Option Value) := bxG0.cell (j := 3) rfl
    go_wp2_with fail
    clear ybxG00 ybxG01 ybxG02 ybxG03
    refine (heldRi _ L0 (1) _ oG0.read (by omega) (by omega) hs0).mono ?_
    rintro e u19 ⟨rfl, b19⟩
    rw [HN0.out]
    have oW0 := oW0.past b19
    have oG0 := oG0.past b19
    have bxA0 := bxA0.past b19
    have bxA1 := bxA1.past b19
    have bxW0 := bxW0.past b19
    have bxX0 := bxX0.past b19
    have bxX1 := bxX1.past b19
    have bxG0 := bxG0.past b19
    have z19 := b19.size
    have D19 := D18.trans (b19.mono D18.size)
    have lbxA0 := bxA0.lt
    have ybxA00 : u19.cell? ⟨w.heap.size, 0, none⟩ = some (.int .i64 x0.cap) := bxA0.cell (j := 0) rfl
    have ybxA01 : u19.cell? ⟨w.heap.size, 1, none⟩ = some (.int .i64 x0.next) := bxA0.cell (j := 1) rfl
    have ybxA02 : u19.cell? ⟨w.heap.size, 2, none⟩ = some (.bool x0.out) := bxA0.cell (j := 2) rfl
    have ybxA03 : u19.cell? ⟨w.heap.size, 3, none⟩ = some (.slice AA0_3 x0.list.length cA0_3) := bxA0.cell (j := 3) rfl
    have YbxA0 := Lib.hid (And.intro lbxA0 (And.intro ybxA00 (And.intro ybxA01 (And.intro ybxA02 (And.intro ybxA03 trivial)))))
    clear lbxA0 ybxA00 ybxA01 ybxA02 ybxA03
    have lbxA1 := bxA1.lt
    have ybxA10 : u19.cell? ⟨w.heap.size + 1, 0, none⟩ = some (.int .i64 x1.client) := bxA1.cell (j := 0) rfl
    have ybxA11 : u19.cell? ⟨w.heap.size + 1, 1, none⟩ = some (.int .i64 x1.seq) := bxA1.cell (j := 1) rfl
    have ybxA12 : u19.cell? ⟨w.heap.size + 1, 2, none⟩ = some (.slice AA1_2 x1.o.length cA1_2) := bxA1.cell (j := 2) rfl
    have YbxA1 := Lib.hid (And.intro lbxA1 (And.intro ybxA10 (And.intro ybxA11 (And.intro ybxA12 trivial))))
    clear lbxA1 ybxA10 ybxA11 ybxA12
    go_wp2
    refine wp_region_held_drew (S := fun W => Below u19.heap.size u19 W) (by kernel_rfl) (Below.refl _ _).drew (fun hS => ?_)
    generalize u19.drew = W0 at hS ⊢
    refine low.tk (v := ?_) 0 75 rfl (fun w' hS' => ?_) hS ?_
    rotate_left
    ·(try dsimp only at hS'); have q0 := (hS'.cell (p := ⟨w.heap.size, 0, none⟩) YbxA0.out.1).trans YbxA0.out.2.1; have q1 := (hS'.cell (p := ⟨w.heap.size, 1, none⟩) YbxA0.out.1).trans YbxA0.out.2.2.1; have q2 := (hS'.cell (p := ⟨w.heap.size, 2, none⟩) YbxA0.out.1).trans YbxA0.out.2.2.2.1; have q3 := (hS'.cell (p := ⟨w.heap.size, 3, none⟩) YbxA0.out.1).trans YbxA0.out.2.2.2.2.1; go_simp; all_goals (with_reducible rfl)
    try simp only [Act.put, pa, pb, pc]
    refine low.tk (v := ?_) 2 77 rfl (fun w' hS' => ?_) hS ?_
    rotate_left
    ·(try dsimp only at hS'); have q0 := (hS'.cell (p := ⟨w.heap.size + 1, 0, none⟩) YbxA1.out.1).trans YbxA1.out.2.1; have q1 := (hS'.cell (p := ⟨w.heap.size + 1, 1, none⟩) YbxA1.out.1).trans YbxA1.out.2.2.1; have q2 := (hS'.cell (p := ⟨w.heap.size + 1, 2, none⟩) YbxA1.out.1).trans YbxA1.out.2.2.2.1; go_simp; all_goals (with_reducible rfl)
    try simp only [Act.put, pa, pb, pc]
    refine wpAnyH_ready (rs := [1, 5]) (by kernel_rfl) (by simp) ?_
    refine AllReadyH.cons (o := ⟨some 76, _, _, _, _, _⟩) rfl (fun K hK => ?_) ?_
    ·go_simp
     refine (toRi _ x0 _ (R0.past (D19.trans (hS.mono D19.size))) S0).mono ?_
     rintro e u20 ⟨v20, rfl, o20, b20⟩
     obtain ⟨A20_3, c20_3, rfl, _⟩ := aggRi o20.read
     have zz20 := b20.size
     have hT := hS.trans (b20.mono hS.size)
     clear hS b20
     refine hK.out _ _ hT (fun hS => ?_)
     clear hK K hT
     try simp only [Act.put, pa, pb, pc]
     refine wpAnyH_ready (rs := [3, 5]) (by kernel_rfl) (by simp) ?_
     refine AllReadyH.cons (o := ⟨some 78, _, _, _, _, _⟩) rfl (fun K hK => ?_) ?_
     ·go_simp
      refine (toEn _ x1 _ (R1.past (D19.trans (hS.mono D19.size))) S1).mono ?_
      rintro e u21 ⟨v21, rfl, o21, b21⟩
      obtain ⟨A21_2, c21_2, rfl, _⟩ := aggEn o21.read
      have o20 := o20.past b21
      have zz21 := b21.size
      have hT := hS.trans (b21.mono hS.size)
      clear hS b21
      refine hK.out _ _ hT (fun hS => ?_)
      clear hK K hT
      try simp only [Act.put, pa, pb, pc]
      refine wpAnyH_ready (rs := [4, 5]) (by kernel_rfl) (by simp) ?_
      refine AllReadyH.cons (o := ⟨some 79, _, _, _, _, _⟩) rfl (fun K hK => ?_) ?_
      ·go_simp
       refine (HAG.out _ _ _ (by exact o20.read) (by exact o21.read)).mono ?_
       rintro e u22 ⟨v22, rfl, oH00, b22⟩
       obtain ⟨AH0_3, cH0_3, rfl, _⟩ := aggRi oH00.read
       have o20 := o20.past b22
       have o21 := o21.past b22
       have zz22 := b22.size
       have hT := hS.trans (b22.mono hS.size)
       clear hS b22
       refine hK.out _ _ hT (fun hS => ?_)
       clear hK K hT
       try simp only [Act.put, pa, pb, pc]
       refine low.r1 5 (some 13) rfl (fun K hK => ?_)
       go_simp
       have b9 := alloc_below u22 (.cells #[.int .i64 0, .int .i64 0, .bool false, .slice none 0 0] 32)
       have o20 := o20.past b9
       have o21 := o21.past b9
       have oH00 := oH00.past b9
       have bx9 := Bx.new u22 #[.int .i64 0, .int .i64 0, .bool false, .slice none 0 0] 32
       have zg := hS.size
       have zy : (u22.alloc (.cells #[.int .i64 0, .int .i64 0, .bool false, .slice none 0 0] 32)).heap.size = u22.heap.size + 1 := World.size_alloc _ _
       have hT := hS.trans (b9.mono hS.size)
       clear hS b9
       refine hK.out _ _ hT (fun hS => ?_)
       clear hK K hT
       try simp only [Act.put, pa, pb, pc]
       generalize u22.alloc (.cells #[.int .i64 0, .int .i64 0, .bool false, .slice none 0 0] 32) = W9 at o20 o21 oH00 bx9 zy hS ⊢
       refine low.r1 6 none rfl (fun K hK => ?_)
       have kq0 := bx9.cell (j := 0) rfl
       have fq0 := bxfree (j := 0) bx9
       have kq1 := bx9.cell (j := 1) rfl
       have fq1 := bxfree (j := 1) bx9
       have kq2 := bx9.cell (j := 2) rfl
       have fq2 := bxfree (j := 2) bx9
       have kq3 := bx9.cell (j := 3) rfl
       have fq3 := bxfree (j := 3) bx9
       go_simp
       clear kq0 fq0 kq1 fq1 kq2 fq2 kq3 fq3
       have hT : Below u19.heap.size u19 ((((W9.setCell ⟨u22.heap.size, 0, none⟩ (.int .i64 L0.cap)).setCell ⟨u22.heap.size, 1, none⟩ (.int .i64 L0.next)).setCell ⟨u22.heap.size, 2, none⟩ (.bool L0.out)).setCell ⟨u22.heap.size, 3, none⟩ (.slice AH0_3 L0.list.length cH0_3)) := putRow_below (lo := u19.heap.size) zg [.int .i64 L0.cap, .int .i64 L0.next, .bool L0.out, .slice AH0_3 L0.list.length cH0_3] _ 0 hS
       have bx8 : Bx ((((W9.setCell ⟨u22.heap.size, 0, none⟩ (.int .i64 L0.cap)).setCell ⟨u22.heap.size, 1, none⟩ (.int .i64 L0.next)).setCell ⟨u22.heap.size, 2, none⟩ (.bool L0.out)).setCell ⟨u22.heap.size, 3, none⟩ (.slice AH0_3 L0.list.length cH0_3)) (u22.heap.size) #[.int .i64 L0.cap, .int .i64 L0.next, .bool L0.out, .slice AH0_3 L0.list.length cH0_3] 32 := putRow_cells (ys := [.int .i64 L0.cap, .int .i64 L0.next, .bool L0.out, .slice AH0_3 L0.list.length cH0_3]) (cs := #[.int .i64 0, .int .i64 0, .bool false, .slice none 0 0]) (o := 0) rfl bx9
       have oH01 : Own _ _ ((((W9.setCell ⟨u22.heap.size, 0, none⟩ (.int .i64 L0.cap)).setCell ⟨u22.heap.size, 1, none⟩ (.int .i64 L0.next)).setCell ⟨u22.heap.size, 2, none⟩ (.bool L0.out)).setCell ⟨u22.heap.size, 3, none⟩ (.slice AH0_3 L0.list.length cH0_3)) _ _ := Own.putRow (g := u22.heap.size) (by omega) [.int .i64 L0.cap, .int .i64 L0.next, .bool L0.out, .slice AH0_3 L0.list.length cH0_3] _ 0 oH00
       have zw : ((((W9.setCell ⟨u22.heap.size, 0, none⟩ (.int .i64 L0.cap)).setCell ⟨u22.heap.size, 1, none⟩ (.int .i64 L0.next)).setCell ⟨u22.heap.size, 2, none⟩ (.bool L0.out)).setCell ⟨u22.heap.size, 3, none⟩ (.slice AH0_3 L0.list.length cH0_3)).heap.size = W9.heap.size := putRow_size _ [.int .i64 L0.cap, .int .i64 L0.next, .bool L0.out, .slice AH0_3 L0.list.length cH0_3] _ 0
       clear hS bx9 oH00
       refine hK.out _ _ hT (fun hS => ?_)
       clear hK K hT
       try simp only [Act.put]
       generalize ((((W9.setCell ⟨u22.heap.size, 0, none⟩ (.int .i64 L0.cap)).setCell ⟨u22.heap.size, 1, none⟩ (.int .i64 L0.next)).setCell ⟨u22.heap.size, 2, none⟩ (.bool L0.out)).setCell ⟨u22.heap.size, 3, none⟩ (.slice AH0_3 L0.list.length cH0_3)) = u23 at oH01 bx8 zw hS ⊢
       refine wpAnyH_done (by kernel_rfl) ?_ _
       have HK23 := hS
       clear hS
       clear o20 o21
       clear YbxA0 YbxA1
       have oW0 := oW0.past HK23
       have oG0 := oG0.past HK23
       have bxA0 := bxA0.past HK23
       have bxA1 := bxA1.past HK23
       have bxW0 := bxW0.past HK23
       have bxX0 := bxX0.past HK23
       have bxX1 := bxX1.past HK23
       have bxG0 := bxG0.past HK23
       have z23 := HK23.size
       have D23 := D19.trans (HK23.mono D19.size)
       obtain ⟨k23, oH0⟩ := oH01.blocks
       have bxH0 := bx8
       clear oH01 bx8
       have ybxH00 : _ = (some (.int .i64 L0.cap) : Option Value) := bxH0.cell (j := 0) rfl
       have ybxH01 : _ = (some (.int .i64 L0.next) : Option Value) := bxH0.cell (j := 1) rfl
       have ybxH02 : _ = (some (.bool L0.out) : Option Value) := bxH0.cell (j := 2) rfl
       have ybxH03 : _ = (some (.slice AH0_3 L0.list.length cH0_3) : Option Value) := bxH0.cell (j := 3) rfl
       have ybxW00 : _ = (some (.int .i64 L0.cap) : Option Value) := bxW0.cell (j := 0) rfl
       have ybxW01 : _ = (some (.int .i64 L0.next) : Option Value) := bxW0.cell (j := 1) rfl
       have ybxW02 : _ = (some (.bool L0.out) : Option Value) := bxW0.cell (j := 2) rfl
       have ybxW03 : _ = (some (.slice AW0_3 L0.list.length cW0_3) : Option Value) := bxW0.cell (j := 3) rfl
       go_wp2_with fail
       clear ybxH00 ybxH01 ybxH02 ybxH03 ybxW00 ybxW01 ybxW02 ybxW03
       refine (eqRi _ _ L0 _ oH0.read oW0.read hs0).mono ?_
       rintro e u24 ⟨rfl, b24⟩
       have oW0 := oW0.past b24
       have oG0 := oG0.past b24
       have oH0 := oH0.past b24
       have bxA0 := bxA0.past b24
       have bxA1 := bxA1.past b24
       have bxW0 := bxW0.past b24
       have bxX0 := bxX0.past b24
       have bxX1 := bxX1.past b24
       have bxG0 := bxG0.past b24
       have bxH0 := bxH0.past b24
       have z24 := b24.size
       have D24 := D23.trans (b24.mono D23.size)
       have ybxG00 : _ = (some (.int .i64 L0.cap) : Option Value) := bxG0.cell (j := 0) rfl
       have ybxG01 : _ = (some (.int .i64 L0.next) : Option Value) := bxG0.cell (j := 1) rfl
       have ybxG02 : _ = (some (.bool L0.out) : Option Value) := bxG0.cell (j := 2) rfl
       have ybxG03 : _ = (some (.slice AG0_3 L0.list.length cG0_3) : Option Value) := bxG0.cell (j := 3) rfl
       go_wp2_with fail
       clear ybxG00 ybxG01 ybxG02 ybxG03
       refine (heldRi _ L0 (1) _ oG0.read (by omega) (by omega) hs0).mono ?_
       rintro e u25 ⟨rfl, b25⟩
       rw [HN0.out]
       have oW0 := oW0.past b25
       have oG0 := oG0.past b25
       have oH0 := oH0.past b25
       have bxA0 := bxA0.past b25
       have bxA1 := bxA1.past b25
       have bxW0 := bxW0.past b25
       have bxX0 := bxX0.past b25
       have bxX1 := bxX1.past b25
       have bxG0 := bxG0.past b25
       have bxH0 := bxH0.past b25
       have z25 := b25.size
       have D25 := D24.trans (b25.mono D24.size)
       go_wp2
       go_ret
       exact ⟨rfl, D25⟩
      refine AllReadyH.cons (o := ⟨some 13, _, _, _, _, _⟩) rfl (fun K hK => ?_) AllReadyH.nil
      go_simp
      have b9 := alloc_below u21 (.cells #[.int .i64 0, .int .i64 0, .bool false, .slice none 0 0] 32)
      have o20 := o20.past b9
      have o21 := o21.past b9
      have bx9 := Bx.new u21 #[.int .i64 0, .int .i64 0, .bool false, .slice none 0 0] 32
      have zg := hS.size
      have zy : (u21.alloc (.cells #[.int .i64 0, .int .i64 0, .bool false, .slice none 0 0] 32)).heap.size = u21.heap.size + 1 := World.size_alloc _ _
      have hT := hS.trans (b9.mono hS.size)
      clear hS b9
      refine hK.out _ _ hT (fun hS => ?_)
      clear hK K hT
      try simp only [Act.put, pa, pb, pc]
      generalize u21.alloc (.cells #[.int .i64 0, .int .i64 0, .bool false, .slice none 0 0] 32) = W9 at o20 o21 bx9 zy hS ⊢
      refine low.r1 4 (some 79) rfl (fun K hK => ?_)
      go_simp
      refine (HAG.out _ _ _ (by exact o20.read) (by exact o21.read)).mono ?_
      rintro e u22 ⟨v22, rfl, oH00, b22⟩
      obtain ⟨AH0_3, cH0_3, rfl, _⟩ := aggRi oH00.read
      have o20 := o20.past b22
      have o21 := o21.past b22
      have bx9 := bx9.past b22
      have zz22 := b22.size
      have hT := hS.trans (b22.mono hS.size)
      clear hS b22
      refine hK.out _ _ hT (fun hS => ?_)
      clear hK K hT
      try simp only [Act.put, pa, pb, pc]
      refine low.r1 6 none rfl (fun K hK => ?_)
      have kq0 := bx9.cell (j := 0) rfl
      have fq0 := bxfree (j := 0) bx9
      have kq1 := bx9.cell (j := 1) rfl
      have fq1 := bxfree (j := 1) bx9
      have kq2 := bx9.cell (j := 2) rfl
      have fq2 := bxfree (j := 2) bx9
      have kq3 := bx9.cell (j := 3) rfl
      have fq3 := bxfree (j := 3) bx9
      go_simp
      clear kq0 fq0 kq1 fq1 kq2 fq2 kq3 fq3
      have hT : Below u19.heap.size u19 ((((u22.setCell ⟨u21.heap.size, 0, none⟩ (.int .i64 L0.cap)).setCell ⟨u21.heap.size, 1, none⟩ (.int .i64 L0.next)).setCell ⟨u21.heap.size, 2, none⟩ (.bool L0.out)).setCell ⟨u21.heap.size, 3, none⟩ (.slice AH0_3 L0.list.length cH0_3)) := putRow_below (lo := u19.heap.size) zg [.int .i64 L0.cap, .int .i64 L0.next, .bool L0.out, .slice AH0_3 L0.list.length cH0_3] _ 0 hS
      have bx8 : Bx ((((u22.setCell ⟨u21.heap.size, 0, none⟩ (.int .i64 L0.cap)).setCell ⟨u21.heap.size, 1, none⟩ (.int .i64 L0.next)).setCell ⟨u21.heap.size, 2, none⟩ (.bool L0.out)).setCell ⟨u21.heap.size, 3, none⟩ (.slice AH0_3 L0.list.length cH0_3)) (u21.heap.size) #[.int .i64 L0.cap, .int .i64 L0.next, .bool L0.out, .slice AH0_3 L0.list.length cH0_3] 32 := putRow_cells (ys := [.int .i64 L0.cap, .int .i64 L0.next, .bool L0.out, .slice AH0_3 L0.list.length cH0_3]) (cs := #[.int .i64 0, .int .i64 0, .bool false, .slice none 0 0]) (o := 0) rfl bx9
      have oH01 : Own _ _ ((((u22.setCell ⟨u21.heap.size, 0, none⟩ (.int .i64 L0.cap)).setCell ⟨u21.heap.size, 1, none⟩ (.int .i64 L0.next)).setCell ⟨u21.heap.size, 2, none⟩ (.bool L0.out)).setCell ⟨u21.heap.size, 3, none⟩ (.slice AH0_3 L0.list.length cH0_3)) _ _ := Own.putRow (g := u21.heap.size) (by omega) [.int .i64 L0.cap, .int .i64 L0.next, .bool L0.out, .slice AH0_3 L0.list.length cH0_3] _ 0 oH00
      have zw : ((((u22.setCell ⟨u21.heap.size, 0, none⟩ (.int .i64 L0.cap)).setCell ⟨u21.heap.size, 1, none⟩ (.int .i64 L0.next)).setCell ⟨u21.heap.size, 2, none⟩ (.bool L0.out)).setCell ⟨u21.heap.size, 3, none⟩ (.slice AH0_3 L0.list.length cH0_3)).heap.size = u22.heap.size := putRow_size _ [.int .i64 L0.cap, .int .i64 L0.next, .bool L0.out, .slice AH0_3 L0.list.length cH0_3] _ 0
      clear hS bx9 oH00
      refine hK.out _ _ hT (fun hS => ?_)
      clear hK K hT
      try simp only [Act.put]
      generalize ((((u22.setCell ⟨u21.heap.size, 0, none⟩ (.int .i64 L0.cap)).setCell ⟨u21.heap.size, 1, none⟩ (.int .i64 L0.next)).setCell ⟨u21.heap.size, 2, none⟩ (.bool L0.out)).setCell ⟨u21.heap.size, 3, none⟩ (.slice AH0_3 L0.list.length cH0_3)) = u23 at oH01 bx8 zw hS ⊢
      refine wpAnyH_done (by kernel_rfl) ?_ _
      have HK23 := hS
      clear hS
      clear o20 o21
      clear YbxA0 YbxA1
      have oW0 := oW0.past HK23
      have oG0 := oG0.past HK23
      have bxA0 := bxA0.past HK23
      have bxA1 := bxA1.past HK23
      have bxW0 := bxW0.past HK23
      have bxX0 := bxX0.past HK23
      have bxX1 := bxX1.past HK23
      have bxG0 := bxG0.past HK23
      have z23 := HK23.size
      have D23 := D19.trans (HK23.mono D19.size)
      obtain ⟨k23, oH0⟩ := oH01.blocks
      have bxH0 := bx8
      clear oH01 bx8
      have ybxH00 : _ = (some (.int .i64 L0.cap) : Option Value) := bxH0.cell (j := 0) rfl
      have ybxH01 : _ = (some (.int .i64 L0.next) : Option Value) := bxH0.cell (j := 1) rfl
      have ybxH02 : _ = (some (.bool L0.out) : Option Value) := bxH0.cell (j := 2) rfl
      have ybxH03 : _ = (some (.slice AH0_3 L0.list.length cH0_3) : Option Value) := bxH0.cell (j := 3) rfl
      have ybxW00 : _ = (some (.int .i64 L0.cap) : Option Value) := bxW0.cell (j := 0) rfl
      have ybxW01 : _ = (some (.int .i64 L0.next) : Option Value) := bxW0.cell (j := 1) rfl
      have ybxW02 : _ = (some (.bool L0.out) : Option Value) := bxW0.cell (j := 2) rfl
      have ybxW03 : _ = (some (.slice AW0_3 L0.list.length cW0_3) : Option Value) := bxW0.cell (j := 3) rfl
      go_wp2_with fail
      clear ybxH00 ybxH01 ybxH02 ybxH03 ybxW00 ybxW01 ybxW02 ybxW03
      refine (eqRi _ _ L0 _ oH0.read oW0.read hs0).mono ?_
      rintro e u24 ⟨rfl, b24⟩
      have oW0 := oW0.past b24
      have oG0 := oG0.past b24
      have oH0 := oH0.past b24
      have bxA0 := bxA0.past b24
      have bxA1 := bxA1.past b24
      have bxW0 := bxW0.past b24
      have bxX0 := bxX0.past b24
      have bxX1 := bxX1.past b24
      have bxG0 := bxG0.past b24
      have bxH0 := bxH0.past b24
      have z24 := b24.size
      have D24 := D23.trans (b24.mono D23.size)
      have ybxG00 : _ = (some (.int .i64 L0.cap) : Option Value) := bxG0.cell (j := 0) rfl
      have ybxG01 : _ = (some (.int .i64 L0.next) : Option Value) := bxG0.cell (j := 1) rfl
      have ybxG02 : _ = (some (.bool L0.out) : Option Value) := bxG0.cell (j := 2) rfl
      have ybxG03 : _ = (some (.slice AG0_3 L0.list.length cG0_3) : Option Value) := bxG0.cell (j := 3) rfl
      go_wp2_with fail
      clear ybxG00 ybxG01 ybxG02 ybxG03
      refine (heldRi _ L0 (1) _ oG0.read (by omega) (by omega) hs0).mono ?_
      rintro e u25 ⟨rfl, b25⟩
      rw [HN0.out]
      have oW0 := oW0.past b25
      have oG0 := oG0.past b25
      have oH0 := oH0.past b25
      have bxA0 := bxA0.past b25
      have bxA1 := bxA1.past b25
      have bxW0 := bxW0.past b25
      have bxX0 := bxX0.past b25
      have bxX1 := bxX1.past b25
      have bxG0 := bxG0.past b25
      have bxH0 := bxH0.past b25
      have z25 := b25.size
      have D25 := D24.trans (b25.mono D24.size)
      go_wp2
      go_ret
      exact ⟨rfl, D25⟩
     refine AllReadyH.cons (o := ⟨some 13, _, _, _, _, _⟩) rfl (fun K hK => ?_) AllReadyH.nil
     go_simp
     have b9 := alloc_below u20 (.cells #[.int .i64 0, .int .i64 0, .bool false, .slice none 0 0] 32)
     have o20 := o20.past b9
     have bx9 := Bx.new u20 #[.int .i64 0, .int .i64 0, .bool false, .slice none 0 0] 32
     have zg := hS.size
     have zy : (u20.alloc (.cells #[.int .i64 0, .int .i64 0, .bool false, .slice none 0 0] 32)).heap.size = u20.heap.size + 1 := World.size_alloc _ _
     have hT := hS.trans (b9.mono hS.size)
     clear hS b9
     refine hK.out _ _ hT (fun hS => ?_)
     clear hK K hT
     try simp only [Act.put, pa, pb, pc]
     generalize u20.alloc (.cells #[.int .i64 0, .int .i64 0, .bool false, .slice none 0 0] 32) = W9 at o20 bx9 zy hS ⊢
     refine low.r1 3 (some 78) rfl (fun K hK => ?_)
     go_simp
     refine (toEn _ x1 _ (R1.past (D19.trans (hS.mono D19.size))) S1).mono ?_
     rintro e u21 ⟨v21, rfl, o21, b21⟩
     obtain ⟨A21_2, c21_2, rfl, _⟩ := aggEn o21.read
     have o20 := o20.past b21
     have bx9 := bx9.past b21
     have zz21 := b21.size
     have hT := hS.trans (b21.mono hS.size)
     clear hS b21
     refine hK.out _ _ hT (fun hS => ?_)
     clear hK K hT
     try simp only [Act.put, pa, pb, pc]
     refine low.r1 4 (some 79) rfl (fun K hK => ?_)
     go_simp
     refine (HAG.out _ _ _ (by exact o20.read) (by exact o21.read)).mono ?_
     rintro e u22 ⟨v22, rfl, oH00, b22⟩
     obtain ⟨AH0_3, cH0_3, rfl, _⟩ := aggRi oH00.read
     have o20 := o20.past b22
     have o21 := o21.past b22
     have bx9 := bx9.past b22
     have zz22 := b22.size
     have hT := hS.trans (b22.mono hS.size)
     clear hS b22
     refine hK.out _ _ hT (fun hS => ?_)
     clear hK K hT
     try simp only [Act.put, pa, pb, pc]
     refine low.r1 6 none rfl (fun K hK => ?_)
     have kq0 := bx9.cell (j := 0) rfl
     have fq0 := bxfree (j := 0) bx9
     have kq1 := bx9.cell (j := 1) rfl
     have fq1 := bxfree (j := 1) bx9
     have kq2 := bx9.cell (j := 2) rfl
     have fq2 := bxfree (j := 2) bx9
     have kq3 := bx9.cell (j := 3) rfl
     have fq3 := bxfree (j := 3) bx9
     go_simp
     clear kq0 fq0 kq1 fq1 kq2 fq2 kq3 fq3
     have hT : Below u19.heap.size u19 ((((u22.setCell ⟨u20.heap.size, 0, none⟩ (.int .i64 L0.cap)).setCell ⟨u20.heap.size, 1, none⟩ (.int .i64 L0.next)).setCell ⟨u20.heap.size, 2, none⟩ (.bool L0.out)).setCell ⟨u20.heap.size, 3, none⟩ (.slice AH0_3 L0.list.length cH0_3)) := putRow_below (lo := u19.heap.size) zg [.int .i64 L0.cap, .int .i64 L0.next, .bool L0.out, .slice AH0_3 L0.list.length cH0_3] _ 0 hS
     have bx8 : Bx ((((u22.setCell ⟨u20.heap.size, 0, none⟩ (.int .i64 L0.cap)).setCell ⟨u20.heap.size, 1, none⟩ (.int .i64 L0.next)).setCell ⟨u20.heap.size, 2, none⟩ (.bool L0.out)).setCell ⟨u20.heap.size, 3, none⟩ (.slice AH0_3 L0.list.length cH0_3)) (u20.heap.size) #[.int .i64 L0.cap, .int .i64 L0.next, .bool L0.out, .slice AH0_3 L0.list.length cH0_3] 32 := putRow_cells (ys := [.int .i64 L0.cap, .int .i64 L0.next, .bool L0.out, .slice AH0_3 L0.list.length cH0_3]) (cs := #[.int .i64 0, .int .i64 0, .bool false, .slice none 0 0]) (o := 0) rfl bx9
     have oH01 : Own _ _ ((((u22.setCell ⟨u20.heap.size, 0, none⟩ (.int .i64 L0.cap)).setCell ⟨u20.heap.size, 1, none⟩ (.int .i64 L0.next)).setCell ⟨u20.heap.size, 2, none⟩ (.bool L0.out)).setCell ⟨u20.heap.size, 3, none⟩ (.slice AH0_3 L0.list.length cH0_3)) _ _ := Own.putRow (g := u20.heap.size) (by omega) [.int .i64 L0.cap, .int .i64 L0.next, .bool L0.out, .slice AH0_3 L0.list.length cH0_3] _ 0 oH00
     have zw : ((((u22.setCell ⟨u20.heap.size, 0, none⟩ (.int .i64 L0.cap)).setCell ⟨u20.heap.size, 1, none⟩ (.int .i64 L0.next)).setCell ⟨u20.heap.size, 2, none⟩ (.bool L0.out)).setCell ⟨u20.heap.size, 3, none⟩ (.slice AH0_3 L0.list.length cH0_3)).heap.size = u22.heap.size := putRow_size _ [.int .i64 L0.cap, .int .i64 L0.next, .bool L0.out, .slice AH0_3 L0.list.length cH0_3] _ 0
     clear hS bx9 oH00
     refine hK.out _ _ hT (fun hS => ?_)
     clear hK K hT
     try simp only [Act.put]
     generalize ((((u22.setCell ⟨u20.heap.size, 0, none⟩ (.int .i64 L0.cap)).setCell ⟨u20.heap.size, 1, none⟩ (.int .i64 L0.next)).setCell ⟨u20.heap.size, 2, none⟩ (.bool L0.out)).setCell ⟨u20.heap.size, 3, none⟩ (.slice AH0_3 L0.list.length cH0_3)) = u23 at oH01 bx8 zw hS ⊢
     refine wpAnyH_done (by kernel_rfl) ?_ _
     have HK23 := hS
     clear hS
     clear o20 o21
     clear YbxA0 YbxA1
     have oW0 := oW0.past HK23
     have oG0 := oG0.past HK23
     have bxA0 := bxA0.past HK23
     have bxA1 := bxA1.past HK23
     have bxW0 := bxW0.past HK23
     have bxX0 := bxX0.past HK23
     have bxX1 := bxX1.past HK23
     have bxG0 := bxG0.past HK23
     have z23 := HK23.size
     have D23 := D19.trans (HK23.mono D19.size)
     obtain ⟨k23, oH0⟩ := oH01.blocks
     have bxH0 := bx8
     clear oH01 bx8
     have ybxH00 : _ = (some (.int .i64 L0.cap) : Option Value) := bxH0.cell (j := 0) rfl
     have ybxH01 : _ = (some (.int .i64 L0.next) : Option Value) := bxH0.cell (j := 1) rfl
     have ybxH02 : _ = (some (.bool L0.out) : Option Value) := bxH0.cell (j := 2) rfl
     have ybxH03 : _ = (some (.slice AH0_3 L0.list.length cH0_3) : Option Value) := bxH0.cell (j := 3) rfl
     have ybxW00 : _ = (some (.int .i64 L0.cap) : Option Value) := bxW0.cell (j := 0) rfl
     have ybxW01 : _ = (some (.int .i64 L0.next) : Option Value) := bxW0.cell (j := 1) rfl
     have ybxW02 : _ = (some (.bool L0.out) : Option Value) := bxW0.cell (j := 2) rfl
     have ybxW03 : _ = (some (.slice AW0_3 L0.list.length cW0_3) : Option Value) := bxW0.cell (j := 3) rfl
     go_wp2_with fail
     clear ybxH00 ybxH01 ybxH02 ybxH03 ybxW00 ybxW01 ybxW02 ybxW03
     refine (eqRi _ _ L0 _ oH0.read oW0.read hs0).mono ?_
     rintro e u24 ⟨rfl, b24⟩
     have oW0 := oW0.past b24
     have oG0 := oG0.past b24
     have oH0 := oH0.past b24
     have bxA0 := bxA0.past b24
     have bxA1 := bxA1.past b24
     have bxW0 := bxW0.past b24
     have bxX0 := bxX0.past b24
     have bxX1 := bxX1.past b24
     have bxG0 := bxG0.past b24
     have bxH0 := bxH0.past b24
     have z24 := b24.size
     have D24 := D23.trans (b24.mono D23.size)
     have ybxG00 : _ = (some (.int .i64 L0.cap) : Option Value) := bxG0.cell (j := 0) rfl
     have ybxG01 : _ = (some (.int .i64 L0.next) : Option Value) := bxG0.cell (j := 1) rfl
     have ybxG02 : _ = (some (.bool L0.out) : Option Value) := bxG0.cell (j := 2) rfl
     have ybxG03 : _ = (some (.slice AG0_3 L0.list.length cG0_3) : Option Value) := bxG0.cell (j := 3) rfl
     go_wp2_with fail
     clear ybxG00 ybxG01 ybxG02 ybxG03
     refine (heldRi _ L0 (1) _ oG0.read (by omega) (by omega) hs0).mono ?_
     rintro e u25 ⟨rfl, b25⟩
     rw [HN0.out]
     have oW0 := oW0.past b25
     have oG0 := oG0.past b25
     have oH0 := oH0.past b25
     have bxA0 := bxA0.past b25
     have bxA1 := bxA1.past b25
     have bxW0 := bxW0.past b25
     have bxX0 := bxX0.past b25
     have bxX1 := bxX1.past b25
     have bxG0 := bxG0.past b25
     have bxH0 := bxH0.past b25
     have z25 := b25.size
     have D25 := D24.trans (b25.mono D24.size)
     go_wp2
     go_ret
     exact ⟨rfl, D25⟩
    refine AllReadyH.cons (o := ⟨some 13, _, _, _, _, _⟩) rfl (fun K hK => ?_) AllReadyH.nil
    go_simp
    have b9 := alloc_below W0 (.cells #[.int .i64 0, .int .i64 0, .bool false, .slice none 0 0] 32)
    have bx9 := Bx.new W0 #[.int .i64 0, .int .i64 0, .bool false, .slice none 0 0] 32
    have zg := hS.size
    have zy : (W0.alloc (.cells #[.int .i64 0, .int .i64 0, .bool false, .slice none 0 0] 32)).heap.size = W0.heap.size + 1 := World.size_alloc _ _
    have hT := hS.trans (b9.mono hS.size)
    clear hS b9
    refine hK.out _ _ hT (fun hS => ?_)
    clear hK K hT
    try simp only [Act.put, pa, pb, pc]
    generalize W0.alloc (.cells #[.int .i64 0, .int .i64 0, .bool false, .slice none 0 0] 32) = W9 at  bx9 zy hS ⊢
    refine low.r1 1 (some 76) rfl (fun K hK => ?_)
    go_simp
    refine (toRi _ x0 _ (R0.past (D19.trans (hS.mono D19.size))) S0).mono ?_
    rintro e u20 ⟨v20, rfl, o20, b20⟩
    obtain ⟨A20_3, c20_3, rfl, _⟩ := aggRi o20.read
    have bx9 := bx9.past b20
    have zz20 := b20.size
    have hT := hS.trans (b20.mono hS.size)
    clear hS b20
    refine hK.out _ _ hT (fun hS => ?_)
    clear hK K hT
    try simp only [Act.put, pa, pb, pc]
    refine low.r1 3 (some 78) rfl (fun K hK => ?_)
    go_simp
    refine (toEn _ x1 _ (R1.past (D19.trans (hS.mono D19.size))) S1).mono ?_
    rintro e u21 ⟨v21, rfl, o21, b21⟩
    obtain ⟨A21_2, c21_2, rfl, _⟩ := aggEn o21.read
    have o20 := o20.past b21
    have bx9 := bx9.past b21
    have zz21 := b21.size
    have hT := hS.trans (b21.mono hS.size)
    clear hS b21
    refine hK.out _ _ hT (fun hS => ?_)
    clear hK K hT
    try simp only [Act.put, pa, pb, pc]
    refine low.r1 4 (some 79) rfl (fun K hK => ?_)
    go_simp
    refine (HAG.out _ _ _ (by exact o20.read) (by exact o21.read)).mono ?_
    rintro e u22 ⟨v22, rfl, oH00, b22⟩
    obtain ⟨AH0_3, cH0_3, rfl, _⟩ := aggRi oH00.read
    have o20 := o20.past b22
    have o21 := o21.past b22
    have bx9 := bx9.past b22
    have zz22 := b22.size
    have hT := hS.trans (b22.mono hS.size)
    clear hS b22
    refine hK.out _ _ hT (fun hS => ?_)
    clear hK K hT
    try simp only [Act.put, pa, pb, pc]
    refine low.r1 6 none rfl (fun K hK => ?_)
    have kq0 := bx9.cell (j := 0) rfl
    have fq0 := bxfree (j := 0) bx9
    have kq1 := bx9.cell (j := 1) rfl
    have fq1 := bxfree (j := 1) bx9
    have kq2 := bx9.cell (j := 2) rfl
    have fq2 := bxfree (j := 2) bx9
    have kq3 := bx9.cell (j := 3) rfl
    have fq3 := bxfree (j := 3) bx9
    go_simp
    clear kq0 fq0 kq1 fq1 kq2 fq2 kq3 fq3
    have hT : Below u19.heap.size u19 ((((u22.setCell ⟨W0.heap.size, 0, none⟩ (.int .i64 L0.cap)).setCell ⟨W0.heap.size, 1, none⟩ (.int .i64 L0.next)).setCell ⟨W0.heap.size, 2, none⟩ (.bool L0.out)).setCell ⟨W0.heap.size, 3, none⟩ (.slice AH0_3 L0.list.length cH0_3)) := putRow_below (lo := u19.heap.size) zg [.int .i64 L0.cap, .int .i64 L0.next, .bool L0.out, .slice AH0_3 L0.list.length cH0_3] _ 0 hS
    have bx8 : Bx ((((u22.setCell ⟨W0.heap.size, 0, none⟩ (.int .i64 L0.cap)).setCell ⟨W0.heap.size, 1, none⟩ (.int .i64 L0.next)).setCell ⟨W0.heap.size, 2, none⟩ (.bool L0.out)).setCell ⟨W0.heap.size, 3, none⟩ (.slice AH0_3 L0.list.length cH0_3)) (W0.heap.size) #[.int .i64 L0.cap, .int .i64 L0.next, .bool L0.out, .slice AH0_3 L0.list.length cH0_3] 32 := putRow_cells (ys := [.int .i64 L0.cap, .int .i64 L0.next, .bool L0.out, .slice AH0_3 L0.list.length cH0_3]) (cs := #[.int .i64 0, .int .i64 0, .bool false, .slice none 0 0]) (o := 0) rfl bx9
    have oH01 : Own _ _ ((((u22.setCell ⟨W0.heap.size, 0, none⟩ (.int .i64 L0.cap)).setCell ⟨W0.heap.size, 1, none⟩ (.int .i64 L0.next)).setCell ⟨W0.heap.size, 2, none⟩ (.bool L0.out)).setCell ⟨W0.heap.size, 3, none⟩ (.slice AH0_3 L0.list.length cH0_3)) _ _ := Own.putRow (g := W0.heap.size) (by omega) [.int .i64 L0.cap, .int .i64 L0.next, .bool L0.out, .slice AH0_3 L0.list.length cH0_3] _ 0 oH00
    have zw : ((((u22.setCell ⟨W0.heap.size, 0, none⟩ (.int .i64 L0.cap)).setCell ⟨W0.heap.size, 1, none⟩ (.int .i64 L0.next)).setCell ⟨W0.heap.size, 2, none⟩ (.bool L0.out)).setCell ⟨W0.heap.size, 3, none⟩ (.slice AH0_3 L0.list.length cH0_3)).heap.size = u22.heap.size := putRow_size _ [.int .i64 L0.cap, .int .i64 L0.next, .bool L0.out, .slice AH0_3 L0.list.length cH0_3] _ 0
    clear hS bx9 oH00
    refine hK.out _ _ hT (fun hS => ?_)
    clear hK K hT
    try simp only [Act.put]
    generalize ((((u22.setCell ⟨W0.heap.size, 0, none⟩ (.int .i64 L0.cap)).setCell ⟨W0.heap.size, 1, none⟩ (.int .i64 L0.next)).setCell ⟨W0.heap.size, 2, none⟩ (.bool L0.out)).setCell ⟨W0.heap.size, 3, none⟩ (.slice AH0_3 L0.list.length cH0_3)) = u23 at oH01 bx8 zw hS ⊢
    refine wpAnyH_done (by kernel_rfl) ?_ _
    have HK23 := hS
    clear hS
    clear o20 o21
    clear YbxA0 YbxA1
    have oW0 := oW0.past HK23
    have oG0 := oG0.past HK23
    have bxA0 := bxA0.past HK23
    have bxA1 := bxA1.past HK23
    have bxW0 := bxW0.past HK23
    have bxX0 := bxX0.past HK23
    have bxX1 := bxX1.past HK23
    have bxG0 := bxG0.past HK23
    have z23 := HK23.size
    have D23 := D19.trans (HK23.mono D19.size)
    obtain ⟨k23, oH0⟩ := oH01.blocks
    have bxH0 := bx8
    clear oH01 bx8
    have ybxH00 : _ = (some (.int .i64 L0.cap) : Option Value) := bxH0.cell (j := 0) rfl
    have ybxH01 : _ = (some (.int .i64 L0.next) : Option Value) := bxH0.cell (j := 1) rfl
    have ybxH02 : _ = (some (.bool L0.out) : Option Value) := bxH0.cell (j := 2) rfl
    have ybxH03 : _ = (some (.slice AH0_3 L0.list.length cH0_3) : Option Value) := bxH0.cell (j := 3) rfl
    have ybxW00 : _ = (some (.int .i64 L0.cap) : Option Value) := bxW0.cell (j := 0) rfl
    have ybxW01 : _ = (some (.int .i64 L0.next) : Option Value) := bxW0.cell (j := 1) rfl
    have ybxW02 : _ = (some (.bool L0.out) : Option Value) := bxW0.cell (j := 2) rfl
    have ybxW03 : _ = (some (.slice AW0_3 L0.list.length cW0_3) : Option Value) := bxW0.cell (j := 3) rfl
    go_wp2_with fail
    clear ybxH00 ybxH01 ybxH02 ybxH03 ybxW00 ybxW01 ybxW02 ybxW03
    refine (eqRi _ _ L0 _ oH0.read oW0.read hs0).mono ?_
    rintro e u24 ⟨rfl, b24⟩
    have oW0 := oW0.past b24
    have oG0 := oG0.past b24
    have oH0 := oH0.past b24
    have bxA0 := bxA0.past b24
    have bxA1 := bxA1.past b24
    have bxW0 := bxW0.past b24
    have bxX0 := bxX0.past b24
    have bxX1 := bxX1.past b24
    have bxG0 := bxG0.past b24
    have bxH0 := bxH0.past b24
    have z24 := b24.size
    have D24 := D23.trans (b24.mono D23.size)
    have ybxG00 : _ = (some (.int .i64 L0.cap) : Option Value) := bxG0.cell (j := 0) rfl
    have ybxG01 : _ = (some (.int .i64 L0.next) : Option Value) := bxG0.cell (j := 1) rfl
    have ybxG02 : _ = (some (.bool L0.out) : Option Value) := bxG0.cell (j := 2) rfl
    have ybxG03 : _ = (some (.slice AG0_3 L0.list.length cG0_3) : Option Value) := bxG0.cell (j := 3) rfl
    go_wp2_with fail
    clear ybxG00 ybxG01 ybxG02 ybxG03
    refine (heldRi _ L0 (1) _ oG0.read (by omega) (by omega) hs0).mono ?_
    rintro e u25 ⟨rfl, b25⟩
    rw [HN0.out]
    have oW0 := oW0.past b25
    have oG0 := oG0.past b25
    have oH0 := oH0.past b25
    have bxA0 := bxA0.past b25
    have bxA1 := bxA1.past b25
    have bxW0 := bxW0.past b25
    have bxX0 := bxX0.past b25
    have bxX1 := bxX1.past b25
    have bxG0 := bxG0.past b25
    have bxH0 := bxH0.past b25
    have z25 := b25.size
    have D25 := D24.trans (b25.mono D24.size)
    go_wp2
    go_ret
    exact ⟨rfl, D25⟩
   refine AllReadyH.cons (o := ⟨some 6, _, _, _, _, _⟩) rfl (fun K hK => ?_) AllReadyH.nil
   go_simp
   have b9 := alloc_below u4 (.cells #[.int .i64 0, .int .i64 0, .bool false, .slice none 0 0] 32)
   have o3 := o3.past b9
   have o4 := o4.past b9
   have bx9 := Bx.new u4 #[.int .i64 0, .int .i64 0, .bool false, .slice none 0 0] 32
   have zg := hS.size
   have zy : (u4.alloc (.cells #[.int .i64 0, .int .i64 0, .bool false, .slice none 0 0] 32)).heap.size = u4.heap.size + 1 := World.size_alloc _ _
   have hT := hS.trans (b9.mono hS.size)
   clear hS b9
   refine hK.out _ _ hT (fun hS => ?_)
   clear hK K hT
   try simp only [Act.put, pa, pb, pc]
   generalize u4.alloc (.cells #[.int .i64 0, .int .i64 0, .bool false, .slice none 0 0] 32) = W9 at o3 o4 bx9 zy hS ⊢
   refine low.r1 4 (some 28) rfl (fun K hK => ?_)
   go_simp
   refine (specRingPush_d _ _ x0 x1 _ (by exact o3.read) (by exact o4.read) S0 S1).mono ?_
   rintro e u5 ⟨v5, rfl, oW00, b5⟩
   obtain ⟨AW0_3, cW0_3, rfl, _⟩ := aggRi oW00.read
   have o3 := o3.past b5
   have o4 := o4.past b5
   have bx9 := bx9.past b5
   have zz5 := b5.size
   have hT := hS.trans (b5.mono hS.size)
   clear hS b5
   refine hK.out _ _ hT (fun hS => ?_)
   clear hK K hT
   try simp only [Act.put, pa, pb, pc]
   refine low.r1 6 none rfl (fun K hK => ?_)
   have kq0 := bx9.cell (j := 0) rfl
   have fq0 := bxfree (j := 0) bx9
   have kq1 := bx9.cell (j := 1) rfl
   have fq1 := bxfree (j := 1) bx9
   have kq2 := bx9.cell (j := 2) rfl
   have fq2 := bxfree (j := 2) bx9
   have kq3 := bx9.cell (j := 3) rfl
   have fq3 := bxfree (j := 3) bx9
   go_simp
   clear kq0 fq0 kq1 fq1 kq2 fq2 kq3 fq3
   have hT : Below u2.heap.size u2 ((((u5.setCell ⟨u4.heap.size, 0, none⟩ (.int .i64 (ringPushT x0 x1).cap)).setCell ⟨u4.heap.size, 1, none⟩ (.int .i64 (ringPushT x0 x1).next)).setCell ⟨u4.heap.size, 2, none⟩ (.bool (ringPushT x0 x1).out)).setCell ⟨u4.heap.size, 3, none⟩ (.slice AW0_3 (ringPushT x0 x1).list.length cW0_3)) := putRow_below (lo := u2.heap.size) zg [.int .i64 (ringPushT x0 x1).cap, .int .i64 (ringPushT x0 x1).next, .bool (ringPushT x0 x1).out, .slice AW0_3 (ringPushT x0 x1).list.length cW0_3] _ 0 hS
   have bx8 : Bx ((((u5.setCell ⟨u4.heap.size, 0, none⟩ (.int .i64 (ringPushT x0 x1).cap)).setCell ⟨u4.heap.size, 1, none⟩ (.int .i64 (ringPushT x0 x1).next)).setCell ⟨u4.heap.size, 2, none⟩ (.bool (ringPushT x0 x1).out)).setCell ⟨u4.heap.size, 3, none⟩ (.slice AW0_3 (ringPushT x0 x1).list.length cW0_3)) (u4.heap.size) #[.int .i64 (ringPushT x0 x1).cap, .int .i64 (ringPushT x0 x1).next, .bool (ringPushT x0 x1).out, .slice AW0_3 (ringPushT x0 x1).list.length cW0_3] 32 := putRow_cells (ys := [.int .i64 (ringPushT x0 x1).cap, .int .i64 (ringPushT x0 x1).next, .bool (ringPushT x0 x1).out, .slice AW0_3 (ringPushT x0 x1).list.length cW0_3]) (cs := #[.int .i64 0, .int .i64 0, .bool false, .slice none 0 0]) (o := 0) rfl bx9
   have oW01 : Own _ _ ((((u5.setCell ⟨u4.heap.size, 0, none⟩ (.int .i64 (ringPushT x0 x1).cap)).setCell ⟨u4.heap.size, 1, none⟩ (.int .i64 (ringPushT x0 x1).next)).setCell ⟨u4.heap.size, 2, none⟩ (.bool (ringPushT x0 x1).out)).setCell ⟨u4.heap.size, 3, none⟩ (.slice AW0_3 (ringPushT x0 x1).list.length cW0_3)) _ _ := Own.putRow (g := u4.heap.size) (by omega) [.int .i64 (ringPushT x0 x1).cap, .int .i64 (ringPushT x0 x1).next, .bool (ringPushT x0 x1).out, .slice AW0_3 (ringPushT x0 x1).list.length cW0_3] _ 0 oW00
   have zw : ((((u5.setCell ⟨u4.heap.size, 0, none⟩ (.int .i64 (ringPushT x0 x1).cap)).setCell ⟨u4.heap.size, 1, none⟩ (.int .i64 (ringPushT x0 x1).next)).setCell ⟨u4.heap.size, 2, none⟩ (.bool (ringPushT x0 x1).out)).setCell ⟨u4.heap.size, 3, none⟩ (.slice AW0_3 (ringPushT x0 x1).list.length cW0_3)).heap.size = u5.heap.size := putRow_size _ [.int .i64 (ringPushT x0 x1).cap, .int .i64 (ringPushT x0 x1).next, .bool (ringPushT x0 x1).out, .slice AW0_3 (ringPushT x0 x1).list.length cW0_3] _ 0
   clear hS bx9 oW00
   refine hK.out _ _ hT (fun hS => ?_)
   clear hK K hT
   try simp only [Act.put]
   generalize ((((u5.setCell ⟨u4.heap.size, 0, none⟩ (.int .i64 (ringPushT x0 x1).cap)).setCell ⟨u4.heap.size, 1, none⟩ (.int .i64 (ringPushT x0 x1).next)).setCell ⟨u4.heap.size, 2, none⟩ (.bool (ringPushT x0 x1).out)).setCell ⟨u4.heap.size, 3, none⟩ (.slice AW0_3 (ringPushT x0 x1).list.length cW0_3)) = u6 at oW01 bx8 zw hS ⊢
   refine wpAnyH_done (by kernel_rfl) ?_ _
   have HK6 := hS
   clear hS
   clear o3 o4
   clear YbxA0 YbxA1
   have bxA0 := bxA0.past HK6
   have bxA1 := bxA1.past HK6
   have z6 := HK6.size
   have D6 := D2.trans (HK6.mono D2.size)
   obtain ⟨k6, oW0⟩ := oW01.blocks
   have bxW0 := bx8
   clear oW01 bx8
   have hs0 : SmRi (ringPushT x0 x1) := ringPush_small S0 S1
   generalize hL0 : (ringPushT x0 x1) = L0 at *
   have HL0 := Lib.hid hL0
   clear hL0
   have hc0 := cntRi hs0
   generalize hn0 : cntC (datRi L0) = n0 at *
   have HN0 := Lib.hid hn0
   clear hn0
   have nm0 : (((1 : Int) + (n0 : Int)) != ((1 : Int) + (n0 : Int))) = false := by simp
   have ybxA00 : _ = (some (.int .i64 x0.cap) : Option Value) := bxA0.cell (j := 0) rfl
   have ybxA01 : _ = (some (.int .i64 x0.next) : Option Value) := bxA0.cell (j := 1) rfl
   have ybxA02 : _ = (some (.bool x0.out) : Option Value) := bxA0.cell (j := 2) rfl
   have ybxA03 : _ = (some (.slice AA0_3 x0.list.length cA0_3) : Option Value) := bxA0.cell (j := 3) rfl
   go_wp2_with fail
   clear ybxA00 ybxA01 ybxA02 ybxA03
   refine (toRi _ x0 _ (R0.past D6) S0).mono ?_
   rintro e u7 ⟨v7, rfl, oX00, b7⟩
   obtain ⟨k7, oX0⟩ := oX00.blocks
   clear oX00
   obtain ⟨A7_3, c7_3, rfl, _⟩ := aggRi oX0.read
   have oW0 := oW0.past b7
   have bxA0 := bxA0.past b7
   have bxA1 := bxA1.past b7
   have bxW0 := bxW0.past b7
   have z7 := b7.size
   have D7 := D6.trans (b7.mono D6.size)
   have bxA0P := bxA0
   have bxA0L := bxA0.lt
   have bxA1P := bxA1
   have bxA1L := bxA1.lt
   have bxW0P := bxW0
   have bxW0L := bxW0.lt
   have ba7 := alloc_below u7 (.cells #[.int .i64 x0.cap, .int .i64 x0.next, .bool x0.out, .slice A7_3 x0.list.length c7_3] 32)
   have oW0 := oW0.past ba7
   have oX0 := oX0.past ba7
   have bxA0 := bxA0.past ba7
   have bxA1 := bxA1.past ba7
   have bxW0 := bxW0.past ba7
   have bxX0 := Bx.new u7 #[.int .i64 x0.cap, .int .i64 x0.next, .bool x0.out, .slice A7_3 x0.list.length c7_3] 32
   have zu7 : (u7.alloc (.cells #[.int .i64 x0.cap, .int .i64 x0.next, .bool x0.out, .slice A7_3 x0.list.length c7_3] 32)).heap.size = u7.heap.size + 1 := World.size_alloc _ _
   have Da7 := D7.trans (ba7.mono D7.size)
   clear ba7
   have ybxA10 : _ = (some (.int .i64 x1.client) : Option Value) := bxA1P.cell (j := 0) rfl
   have ybxA11 : _ = (some (.int .i64 x1.seq) : Option Value) := bxA1P.cell (j := 1) rfl
   have ybxA12 : _ = (some (.slice AA1_2 x1.o.length cA1_2) : Option Value) := bxA1P.cell (j := 2) rfl
   go_wp2_with fail
   generalize u7.alloc (.cells #[.int .i64 x0.cap, .int .i64 x0.next, .bool x0.out, .slice A7_3 x0.list.length c7_3] 32) = v7_ at oW0 oX0 bxA0 bxA1 bxW0 bxX0 zu7 Da7 ⊢
   clear bxA0P bxA0L
   clear bxA1P bxA1L
   clear bxW0P bxW0L
   clear ybxA10 ybxA11 ybxA12
   refine (toEn _ x1 _ (R1.past Da7) S1).mono ?_
   rintro e u8 ⟨v8, rfl, oX10, b8⟩
   obtain ⟨k8, oX1⟩ := oX10.blocks
   clear oX10
   obtain ⟨A8_2, c8_2, rfl, _⟩ := aggEn oX1.read
   have oW0 := oW0.past b8
   have oX0 := oX0.past b8
   have bxA0 := bxA0.past b8
   have bxA1 := bxA1.past b8
   have bxW0 := bxW0.past b8
   have bxX0 := bxX0.past b8
   have z8 := b8.size
   have D8 := Da7.trans (b8.mono Da7.size)
   have bxA0P := bxA0
   have bxA0L := bxA0.lt
   have bxA1P := bxA1
   have bxA1L := bxA1.lt
   have bxW0P := bxW0
   have bxW0L := bxW0.lt
   have bxX0P := bxX0
   have bxX0L := bxX0.lt
   have ba8 := alloc_below u8 (.cells #[.int .i64 x1.client, .int .i64 x1.seq, .slice A8_2 x1.o.length c8_2] 37)
   have oW0 := oW0.past ba8
   have oX0 := oX0.past ba8
   have oX1 := oX1.past ba8
   have bxA0 := bxA0.past ba8
   have bxA1 := bxA1.past ba8
   have bxW0 := bxW0.past ba8
   have bxX0 := bxX0.past ba8
   have bxX1 := Bx.new u8 #[.int .i64 x1.client, .int .i64 x1.seq, .slice A8_2 x1.o.length c8_2] 37
   have zu8 : (u8.alloc (.cells #[.int .i64 x1.client, .int .i64 x1.seq, .slice A8_2 x1.o.length c8_2] 37)).heap.size = u8.heap.size + 1 := World.size_alloc _ _
   have Da8 := D8.trans (ba8.mono D8.size)
   clear ba8
   have ybxX00 : _ = (some (.int .i64 x0.cap) : Option Value) := bxX0P.cell (j := 0) rfl
   have ybxX01 : _ = (some (.int .i64 x0.next) : Option Value) := bxX0P.cell (j := 1) rfl
   have ybxX02 : _ = (some (.bool x0.out) : Option Value) := bxX0P.cell (j := 2) rfl
   have ybxX03 : _ = (some (.slice A7_3 x0.list.length c7_3) : Option Value) := bxX0P.cell (j := 3) rfl
   go_wp2_with fail
   generalize u8.alloc (.cells #[.int .i64 x1.client, .int .i64 x1.seq, .slice A8_2 x1.o.length c8_2] 37) = v8_ at oW0 oX0 oX1 bxA0 bxA1 bxW0 bxX0 bxX1 zu8 Da8 ⊢
   clear bxA0P bxA0L
   clear bxA1P bxA1L
   clear bxW0P bxW0L
   clear bxX0P bxX0L
   clear ybxX00 ybxX01 ybxX02 ybxX03
   refine (implRingPush_d _ _ x0 x1 _ oX0.read oX1.read S0 S1).mono ?_
   rw [HL0.out]
   rintro e u9 ⟨v9, rfl, oG00, b9⟩
   have oW0 := oW0.past b9
   have oX0 := oX0.past b9
   have oX1 := oX1.past b9
   have bxA0 := bxA0.past b9
   have bxA1 := bxA1.past b9
   have bxW0 := bxW0.past b9
   have bxX0 := bxX0.past b9
   have bxX1 := bxX1.past b9
   obtain ⟨k9, oG0⟩ := oG00.blocks
   clear oG00
   have z9 := b9.size
   have D9 := Da8.trans (b9.mono Da8.size)
   obtain ⟨AG0_3, cG0_3, rfl, _⟩ := aggRi oG0.read
   have bxA0P := bxA0
   have bxA0L := bxA0.lt
   have bxA1P := bxA1
   have bxA1L := bxA1.lt
   have bxW0P := bxW0
   have bxW0L := bxW0.lt
   have bxX0P := bxX0
   have bxX0L := bxX0.lt
   have bxX1P := bxX1
   have bxX1L := bxX1.lt
   have ba9 := alloc_below u9 (.cells #[.int .i64 L0.cap, .int .i64 L0.next, .bool L0.out, .slice AG0_3 L0.list.length cG0_3] 32)
   have oW0 := oW0.past ba9
   have oX0 := oX0.past ba9
   have oX1 := oX1.past ba9
   have oG0 := oG0.past ba9
   have bxA0 := bxA0.past ba9
   have bxA1 := bxA1.past ba9
   have bxW0 := bxW0.past ba9
   have bxX0 := bxX0.past ba9
   have bxX1 := bxX1.past ba9
   have bxG0 := Bx.new u9 #[.int .i64 L0.cap, .int .i64 L0.next, .bool L0.out, .slice AG0_3 L0.list.length cG0_3] 32
   have zu9 : (u9.alloc (.cells #[.int .i64 L0.cap, .int .i64 L0.next, .bool L0.out, .slice AG0_3 L0.list.length cG0_3] 32)).heap.size = u9.heap.size + 1 := World.size_alloc _ _
   have Da9 := D9.trans (ba9.mono D9.size)
   clear ba9
   have HAG := Lib.hid (show ∀ (x0_ : Value) (x1_ : Value) (u : World), RdC u u.heap.size (datRi x0) x0_ → RdC u u.heap.size (datEn x1) x1_ → Calls Tryz.prog 10 #[x0_, x1_] u (OwnPost (datRi L0) u) from fun x0_ x1_ u h0_ h1_ => by rw [← HL0.out]; exact implRingPush_d x0_ x1_ x0 x1 u h0_ h1_ S0 S1 )
   have ybxW00 : _ = (some (.int .i64 L0.cap) : Option Value) := bxW0P.cell (j := 0) rfl
   have ybxW01 : _ = (some (.int .i64 L0.next) : Option Value) := bxW0P.cell (j := 1) rfl
   have ybxW02 : _ = (some (.bool L0.out) : Option Value) := bxW0P.cell (j := 2) rfl
   have ybxW03 : _ = (some (.slice AW0_3 L0.list.length cW0_3) : Option Value) := bxW0P.cell (j := 3) rfl
   go_wp2_with fail
   generalize u9.alloc (.cells #[.int .i64 L0.cap, .int .i64 L0.next, .bool L0.out, .slice AG0_3 L0.list.length cG0_3] 32) = v9_ at oW0 oX0 oX1 oG0 bxA0 bxA1 bxW0 bxX0 bxX1 bxG0 zu9 Da9 ⊢
   clear bxA0P bxA0L
   clear bxA1P bxA1L
   clear bxW0P bxW0L
   clear bxX0P bxX0L
   clear bxX1P bxX1L
   clear ybxW00 ybxW01 ybxW02 ybxW03
   refine (eqRi _ _ L0 _ oG0.read oW0.read hs0).mono ?_
   rintro e u10 ⟨rfl, b10⟩
   have oW0 := oW0.past b10
   have oX0 := oX0.past b10
   have oX1 := oX1.past b10
   have oG0 := oG0.past b10
   have bxA0 := bxA0.past b10
   have bxA1 := bxA1.past b10
   have bxW0 := bxW0.past b10
   have bxX0 := bxX0.past b10
   have bxX1 := bxX1.past b10
   have bxG0 := bxG0.past b10
   have z10 := b10.size
   have D10 := Da9.trans (b10.mono Da9.size)
   have lbxX0 := bxX0.lt
   have ybxX00 : u10.cell? ⟨u7.heap.size, 0, none⟩ = some (.int .i64 x0.cap) := bxX0.cell (j := 0) rfl
   have ybxX01 : u10.cell? ⟨u7.heap.size, 1, none⟩ = some (.int .i64 x0.next) := bxX0.cell (j := 1) rfl
   have ybxX02 : u10.cell? ⟨u7.heap.size, 2, none⟩ = some (.bool x0.out) := bxX0.cell (j := 2) rfl
   have ybxX03 : u10.cell? ⟨u7.heap.size, 3, none⟩ = some (.slice A7_3 x0.list.length c7_3) := bxX0.cell (j := 3) rfl
   have lbxA0 := bxA0.lt
   have ybxA00 : u10.cell? ⟨w.heap.size, 0, none⟩ = some (.int .i64 x0.cap) := bxA0.cell (j := 0) rfl
   have ybxA01 : u10.cell? ⟨w.heap.size, 1, none⟩ = some (.int .i64 x0.next) := bxA0.cell (j := 1) rfl
   have ybxA02 : u10.cell? ⟨w.heap.size, 2, none⟩ = some (.bool x0.out) := bxA0.cell (j := 2) rfl
   have ybxA03 : u10.cell? ⟨w.heap.size, 3, none⟩ = some (.slice AA0_3 x0.list.length cA0_3) := bxA0.cell (j := 3) rfl
   have SX := Lib.hid (show ∀ (W W1 : World), (W.cell? ⟨u7.heap.size, 0, none⟩ = some (.int .i64 x0.cap) ∧ W.cell? ⟨u7.heap.size, 1, none⟩ = some (.int .i64 x0.next) ∧ W.cell? ⟨u7.heap.size, 2, none⟩ = some (.bool x0.out) ∧ W.cell? ⟨u7.heap.size, 3, none⟩ = some (.slice A7_3 x0.list.length c7_3) ∧ W.cell? ⟨w.heap.size, 0, none⟩ = some (.int .i64 x0.cap) ∧ W.cell? ⟨w.heap.size, 1, none⟩ = some (.int .i64 x0.next) ∧ W.cell? ⟨w.heap.size, 2, none⟩ = some (.bool x0.out) ∧ W.cell? ⟨w.heap.size, 3, none⟩ = some (.slice AA0_3 x0.list.length cA0_3) ∧ KS u10 W) → Below W.heap.size W W1 → (W1.cell? ⟨u7.heap.size, 0, none⟩ = some (.int .i64 x0.cap) ∧ W1.cell? ⟨u7.heap.size, 1, none⟩ = some (.int .i64 x0.next) ∧ W1.cell? ⟨u7.heap.size, 2, none⟩ = some (.bool x0.out) ∧ W1.cell? ⟨u7.heap.size, 3, none⟩ = some (.slice A7_3 x0.list.length c7_3) ∧ W1.cell? ⟨w.heap.size, 0, none⟩ = some (.int .i64 x0.cap) ∧ W1.cell? ⟨w.heap.size, 1, none⟩ = some (.int .i64 x0.next) ∧ W1.cell? ⟨w.heap.size, 2, none⟩ = some (.bool x0.out) ∧ W1.cell? ⟨w.heap.size, 3, none⟩ = some (.slice AA0_3 x0.list.length cA0_3) ∧ KS u10 W1) from fun W W1 h hb => by have hk := h.2.2.2.2.2.2.2.2; have hkk : KS u10 W1 := hk.trans (hb.mono hk.size); exact ⟨(hkk.cell (p := ⟨u7.heap.size, 0, none⟩) lbxX0).trans ybxX00, (hkk.cell (p := ⟨u7.heap.size, 1, none⟩) lbxX0).trans ybxX01, (hkk.cell (p := ⟨u7.heap.size, 2, none⟩) lbxX0).trans ybxX02, (hkk.cell (p := ⟨u7.heap.size, 3, none⟩) lbxX0).trans ybxX03, (hkk.cell (p := ⟨w.heap.size, 0, none⟩) lbxA0).trans ybxA00, (hkk.cell (p := ⟨w.heap.size, 1, none⟩) lbxA0).trans ybxA01, (hkk.cell (p := ⟨w.heap.size, 2, none⟩) lbxA0).trans ybxA02, (hkk.cell (p := ⟨w.heap.size, 3, none⟩) lbxA0).trans ybxA03, hkk⟩)
   have RX := Lib.hid (show ∀ (W : World), (W.cell? ⟨u7.heap.size, 0, none⟩ = some (.int .i64 x0.cap) ∧ W.cell? ⟨u7.heap.size, 1, none⟩ = some (.int .i64 x0.next) ∧ W.cell? ⟨u7.heap.size, 2, none⟩ = some (.bool x0.out) ∧ W.cell? ⟨u7.heap.size, 3, none⟩ = some (.slice A7_3 x0.list.length c7_3) ∧ W.cell? ⟨w.heap.size, 0, none⟩ = some (.int .i64 x0.cap) ∧ W.cell? ⟨w.heap.size, 1, none⟩ = some (.int .i64 x0.next) ∧ W.cell? ⟨w.heap.size, 2, none⟩ = some (.bool x0.out) ∧ W.cell? ⟨w.heap.size, 3, none⟩ = some (.slice AA0_3 x0.list.length cA0_3) ∧ KS u10 W) → RdC W W.heap.size (datRi x0) (.agg #[.int .i64 x0.cap, .int .i64 x0.next, .bool x0.out, .slice A7_3 x0.list.length c7_3]) from fun W h => by have hk : Below u10.heap.size u10 W := h.2.2.2.2.2.2.2.2; exact (oX0.past hk).read)
   have RA := Lib.hid (show ∀ (W : World), (W.cell? ⟨u7.heap.size, 0, none⟩ = some (.int .i64 x0.cap) ∧ W.cell? ⟨u7.heap.size, 1, none⟩ = some (.int .i64 x0.next) ∧ W.cell? ⟨u7.heap.size, 2, none⟩ = some (.bool x0.out) ∧ W.cell? ⟨u7.heap.size, 3, none⟩ = some (.slice A7_3 x0.list.length c7_3) ∧ W.cell? ⟨w.heap.size, 0, none⟩ = some (.int .i64 x0.cap) ∧ W.cell? ⟨w.heap.size, 1, none⟩ = some (.int .i64 x0.next) ∧ W.cell? ⟨w.heap.size, 2, none⟩ = some (.bool x0.out) ∧ W.cell? ⟨w.heap.size, 3, none⟩ = some (.slice AA0_3 x0.list.length cA0_3) ∧ KS u10 W) → RdC W W.heap.size (datRi x0) (.agg #[.int .i64 x0.cap, .int .i64 x0.next, .bool x0.out, .slice AA0_3 x0.list.length cA0_3]) from fun W h => by have hk : Below u10.heap.size u10 W := h.2.2.2.2.2.2.2.2; exact R0.past (D10.trans (hk.mono D10.size)))
   have hS0 : u10.drew.cell? ⟨u7.heap.size, 0, none⟩ = some (.int .i64 x0.cap) ∧ u10.drew.cell? ⟨u7.heap.size, 1, none⟩ = some (.int .i64 x0.next) ∧ u10.drew.cell? ⟨u7.heap.size, 2, none⟩ = some (.bool x0.out) ∧ u10.drew.cell? ⟨u7.heap.size, 3, none⟩ = some (.slice A7_3 x0.list.length c7_3) ∧ u10.drew.cell? ⟨w.heap.size, 0, none⟩ = some (.int .i64 x0.cap) ∧ u10.drew.cell? ⟨w.heap.size, 1, none⟩ = some (.int .i64 x0.next) ∧ u10.drew.cell? ⟨w.heap.size, 2, none⟩ = some (.bool x0.out) ∧ u10.drew.cell? ⟨w.heap.size, 3, none⟩ = some (.slice AA0_3 x0.list.length cA0_3) ∧ KS u10 u10.drew := ⟨ybxX00, ybxX01, ybxX02, ybxX03, ybxA00, ybxA01, ybxA02, ybxA03, KS.start _⟩
   clear ybxX00 ybxX01 ybxX02 ybxX03 ybxA00 ybxA01 ybxA02 ybxA03
   go_wp2
   go_region_held3 (fun W => W.cell? ⟨u7.heap.size, 0, none⟩ = some (.int .i64 x0.cap) ∧ W.cell? ⟨u7.heap.size, 1, none⟩ = some (.int .i64 x0.next) ∧ W.cell? ⟨u7.heap.size, 2, none⟩ = some (.bool x0.out) ∧ W.cell? ⟨u7.heap.size, 3, none⟩ = some (.slice A7_3 x0.list.length c7_3) ∧ W.cell? ⟨w.heap.size, 0, none⟩ = some (.int .i64 x0.cap) ∧ W.cell? ⟨w.heap.size, 1, none⟩ = some (.int .i64 x0.next) ∧ W.cell? ⟨w.heap.size, 2, none⟩ = some (.bool x0.out) ∧ W.cell? ⟨w.heap.size, 3, none⟩ = some (.slice AA0_3 x0.list.length cA0_3) ∧ KS u10 W)
    (first | assumption | exact hS0 | (exact SX.out _ _ (by assumption) b11) | (exact SX.out _ _ (by assumption) b12))
    (first | (go_at_call 8; refine (toRi _ x0 _ (by exact RA.out _ (by assumption)) S0).mono ?_; rintro e u11 ⟨v11, rfl, o11, b11⟩; obtain ⟨A11_3, c11_3, rfl, _⟩ := aggRi o11.read) | (go_at_call 11; refine (eqRi _ _ x0 _ (by exact RX.out _ (by assumption)) (by exact o11.read) S0).mono ?_; rintro e u12 ⟨rfl, b12⟩))
   rename_i hS2
   have HK12 : Below u10.heap.size u10 u12 := hS2.2.2.2.2.2.2.2.2
   clear hS2 hS0 SX RX RA
   clear lbxX0 lbxA0
   have oW0 := oW0.past HK12
   have oX0 := oX0.past HK12
   have oX1 := oX1.past HK12
   have oG0 := oG0.past HK12
   have bxA0 := bxA0.past HK12
   have bxA1 := bxA1.past HK12
   have bxW0 := bxW0.past HK12
   have bxX0 := bxX0.past HK12
   have bxX1 := bxX1.past HK12
   have bxG0 := bxG0.past HK12
   have z12 := HK12.size
   have D12 := D10.trans (HK12.mono D10.size)
   clear o11 b11 b12
   have lbxX1 := bxX1.lt
   have ybxX10 : u12.cell? ⟨u8.heap.size, 0, none⟩ = some (.int .i64 x1.client) := bxX1.cell (j := 0) rfl
   have ybxX11 : u12.cell? ⟨u8.heap.size, 1, none⟩ = some (.int .i64 x1.seq) := bxX1.cell (j := 1) rfl
   have ybxX12 : u12.cell? ⟨u8.heap.size, 2, none⟩ = some (.slice A8_2 x1.o.length c8_2) := bxX1.cell (j := 2) rfl
   have lbxA1 := bxA1.lt
   have ybxA10 : u12.cell? ⟨w.heap.size + 1, 0, none⟩ = some (.int .i64 x1.client) := bxA1.cell (j := 0) rfl
   have ybxA11 : u12.cell? ⟨w.heap.size + 1, 1, none⟩ = some (.int .i64 x1.seq) := bxA1.cell (j := 1) rfl
   have ybxA12 : u12.cell? ⟨w.heap.size + 1, 2, none⟩ = some (.slice AA1_2 x1.o.length cA1_2) := bxA1.cell (j := 2) rfl
   have SX := Lib.hid (show ∀ (W W1 : World), (W.cell? ⟨u8.heap.size, 0, none⟩ = some (.int .i64 x1.client) ∧ W.cell? ⟨u8.heap.size, 1, none⟩ = some (.int .i64 x1.seq) ∧ W.cell? ⟨u8.heap.size, 2, none⟩ = some (.slice A8_2 x1.o.length c8_2) ∧ W.cell? ⟨w.heap.size + 1, 0, none⟩ = some (.int .i64 x1.client) ∧ W.cell? ⟨w.heap.size + 1, 1, none⟩ = some (.int .i64 x1.seq) ∧ W.cell? ⟨w.heap.size + 1, 2, none⟩ = some (.slice AA1_2 x1.o.length cA1_2) ∧ KS u12 W) → Below W.heap.size W W1 → (W1.cell? ⟨u8.heap.size, 0, none⟩ = some (.int .i64 x1.client) ∧ W1.cell? ⟨u8.heap.size, 1, none⟩ = some (.int .i64 x1.seq) ∧ W1.cell? ⟨u8.heap.size, 2, none⟩ = some (.slice A8_2 x1.o.length c8_2) ∧ W1.cell? ⟨w.heap.size + 1, 0, none⟩ = some (.int .i64 x1.client) ∧ W1.cell? ⟨w.heap.size + 1, 1, none⟩ = some (.int .i64 x1.seq) ∧ W1.cell? ⟨w.heap.size + 1, 2, none⟩ = some (.slice AA1_2 x1.o.length cA1_2) ∧ KS u12 W1) from fun W W1 h hb => by have hk := h.2.2.2.2.2.2; have hkk : KS u12 W1 := hk.trans (hb.mono hk.size); exact ⟨(hkk.cell (p := ⟨u8.heap.size, 0, none⟩) lbxX1).trans ybxX10, (hkk.cell (p := ⟨u8.heap.size, 1, none⟩) lbxX1).trans ybxX11, (hkk.cell (p := ⟨u8.heap.size, 2, none⟩) lbxX1).trans ybxX12, (hkk.cell (p := ⟨w.heap.size + 1, 0, none⟩) lbxA1).trans ybxA10, (hkk.cell (p := ⟨w.heap.size + 1, 1, none⟩) lbxA1).trans ybxA11, (hkk.cell (p := ⟨w.heap.size + 1, 2, none⟩) lbxA1).trans ybxA12, hkk⟩)
   have RX := Lib.hid (show ∀ (W : World), (W.cell? ⟨u8.heap.size, 0, none⟩ = some (.int .i64 x1.client) ∧ W.cell? ⟨u8.heap.size, 1, none⟩ = some (.int .i64 x1.seq) ∧ W.cell? ⟨u8.heap.size, 2, none⟩ = some (.slice A8_2 x1.o.length c8_2) ∧ W.cell? ⟨w.heap.size + 1, 0, none⟩ = some (.int .i64 x1.client) ∧ W.cell? ⟨w.heap.size + 1, 1, none⟩ = some (.int .i64 x1.seq) ∧ W.cell? ⟨w.heap.size + 1, 2, none⟩ = some (.slice AA1_2 x1.o.length cA1_2) ∧ KS u12 W) → RdC W W.heap.size (datEn x1) (.agg #[.int .i64 x1.client, .int .i64 x1.seq, .slice A8_2 x1.o.length c8_2]) from fun W h => by have hk : Below u12.heap.size u12 W := h.2.2.2.2.2.2; exact (oX1.past hk).read)
   have RA := Lib.hid (show ∀ (W : World), (W.cell? ⟨u8.heap.size, 0, none⟩ = some (.int .i64 x1.client) ∧ W.cell? ⟨u8.heap.size, 1, none⟩ = some (.int .i64 x1.seq) ∧ W.cell? ⟨u8.heap.size, 2, none⟩ = some (.slice A8_2 x1.o.length c8_2) ∧ W.cell? ⟨w.heap.size + 1, 0, none⟩ = some (.int .i64 x1.client) ∧ W.cell? ⟨w.heap.size + 1, 1, none⟩ = some (.int .i64 x1.seq) ∧ W.cell? ⟨w.heap.size + 1, 2, none⟩ = some (.slice AA1_2 x1.o.length cA1_2) ∧ KS u12 W) → RdC W W.heap.size (datEn x1) (.agg #[.int .i64 x1.client, .int .i64 x1.seq, .slice AA1_2 x1.o.length cA1_2]) from fun W h => by have hk : Below u12.heap.size u12 W := h.2.2.2.2.2.2; exact R1.past (D12.trans (hk.mono D12.size)))
   have hS0 : u12.drew.cell? ⟨u8.heap.size, 0, none⟩ = some (.int .i64 x1.client) ∧ u12.drew.cell? ⟨u8.heap.size, 1, none⟩ = some (.int .i64 x1.seq) ∧ u12.drew.cell? ⟨u8.heap.size, 2, none⟩ = some (.slice A8_2 x1.o.length c8_2) ∧ u12.drew.cell? ⟨w.heap.size + 1, 0, none⟩ = some (.int .i64 x1.client) ∧ u12.drew.cell? ⟨w.heap.size + 1, 1, none⟩ = some (.int .i64 x1.seq) ∧ u12.drew.cell? ⟨w.heap.size + 1, 2, none⟩ = some (.slice AA1_2 x1.o.length cA1_2) ∧ KS u12 u12.drew := ⟨ybxX10, ybxX11, ybxX12, ybxA10, ybxA11, ybxA12, KS.start _⟩
   clear ybxX10 ybxX11 ybxX12 ybxA10 ybxA11 ybxA12
   go_wp2
   go_region_held3 (fun W => W.cell? ⟨u8.heap.size, 0, none⟩ = some (.int .i64 x1.client) ∧ W.cell? ⟨u8.heap.size, 1, none⟩ = some (.int .i64 x1.seq) ∧ W.cell? ⟨u8.heap.size, 2, none⟩ = some (.slice A8_2 x1.o.length c8_2) ∧ W.cell? ⟨w.heap.size + 1, 0, none⟩ = some (.int .i64 x1.client) ∧ W.cell? ⟨w.heap.size + 1, 1, none⟩ = some (.int .i64 x1.seq) ∧ W.cell? ⟨w.heap.size + 1, 2, none⟩ = some (.slice AA1_2 x1.o.length cA1_2) ∧ KS u12 W)
    (first | assumption | exact hS0 | (exact SX.out _ _ (by assumption) b13) | (exact SX.out _ _ (by assumption) b14))
    (first | (go_at_call 9; refine (toEn _ x1 _ (by exact RA.out _ (by assumption)) S1).mono ?_; rintro e u13 ⟨v13, rfl, o13, b13⟩; obtain ⟨A13_2, c13_2, rfl, _⟩ := aggEn o13.read) | (go_at_call 12; refine (eqEn _ _ x1 _ (by exact RX.out _ (by assumption)) (by exact o13.read) S1).mono ?_; rintro e u14 ⟨rfl, b14⟩))
   rename_i hS2
   have HK14 : Below u12.heap.size u12 u14 := hS2.2.2.2.2.2.2
   clear hS2 hS0 SX RX RA
   clear lbxX1 lbxA1
   have oW0 := oW0.past HK14
   have oX0 := oX0.past HK14
   have oX1 := oX1.past HK14
   have oG0 := oG0.past HK14
   have bxA0 := bxA0.past HK14
   have bxA1 := bxA1.past HK14
   have bxW0 := bxW0.past HK14
   have bxX0 := bxX0.past HK14
   have bxX1 := bxX1.past HK14
   have bxG0 := bxG0.past HK14
   have z14 := HK14.size
   have D14 := D12.trans (HK14.mono D12.size)
   clear o13 b13 b14
   have cx0 := cntRi S0
   have ybxX00 : _ = (some (.int .i64 x0.cap) : Option Value) := bxX0.cell (j := 0) rfl
   have ybxX01 : _ = (some (.int .i64 x0.next) : Option Value) := bxX0.cell (j := 1) rfl
   have ybxX02 : _ = (some (.bool x0.out) : Option Value) := bxX0.cell (j := 2) rfl
   have ybxX03 : _ = (some (.slice A7_3 x0.list.length c7_3) : Option Value) := bxX0.cell (j := 3) rfl
   go_wp2_with fail
   clear ybxX00 ybxX01 ybxX02 ybxX03
   refine (markRi _ x0 _ (1) _ oX0.ow oX0.nd (by omega) (by omega) S0).mono ?_
   rintro e u15 ⟨rfl, m15, e15_, b15, t15⟩
   have oW0 := oW0.past b15
   have oX0 := oX0.past b15
   have oX1 := oX1.past b15
   have oG0 := oG0.past b15
   have bxA0 := bxA0.past b15
   have bxA1 := bxA1.past b15
   have bxW0 := bxW0.past b15
   have bxX0 := bxX0.past b15
   have bxX1 := bxX1.past b15
   have bxG0 := bxG0.past b15
   have zb15 := b15.size
   have Db15 := D14.trans (b15.mono D14.size)
   have oW0 := oW0.apart oX0 t15 (by omega)
   have oX1 := oX1.apart oX0 t15 (by omega)
   have oG0 := oG0.apart oX0 t15 (by omega)
   have bxA0 := bxA0.apart oX0 t15 (by omega)
   have bxA1 := bxA1.apart oX0 t15 (by omega)
   have bxW0 := bxW0.apart oX0 t15 (by omega)
   have bxX0 := bxX0.apart oX0 t15 (by omega)
   have bxX1 := bxX1.apart oX0 t15 (by omega)
   have bxG0 := bxG0.apart oX0 t15 (by omega)
   have z15 := t15.size
   have D15 := Db15.trans (oX0.under t15 (by omega))
   clear oX0 m15
   generalize cntC (datRi x0) = nx0 at *
   have cx1 := cntEn S1
   have ybxX10 : _ = (some (.int .i64 x1.client) : Option Value) := bxX1.cell (j := 0) rfl
   have ybxX11 : _ = (some (.int .i64 x1.seq) : Option Value) := bxX1.cell (j := 1) rfl
   have ybxX12 : _ = (some (.slice A8_2 x1.o.length c8_2) : Option Value) := bxX1.cell (j := 2) rfl
   go_wp2_with fail
   clear ybxX10 ybxX11 ybxX12
   refine (markEn _ x1 _ (1 + (nx0 : Int)) _ oX1.ow oX1.nd (by omega) (by omega) S1).mono ?_
   rintro e u16 ⟨rfl, m16, e16_, b16, t16⟩
   have oW0 := oW0.past b16
   have oX1 := oX1.past b16
   have oG0 := oG0.past b16
   have bxA0 := bxA0.past b16
   have bxA1 := bxA1.past b16
   have bxW0 := bxW0.past b16
   have bxX0 := bxX0.past b16
   have bxX1 := bxX1.past b16
   have bxG0 := bxG0.past b16
   have zb16 := b16.size
   have Db16 := D15.trans (b16.mono D15.size)
   have oW0 := oW0.apart oX1 t16 (by omega)
   have oG0 := oG0.apart oX1 t16 (by omega)
   have bxA0 := bxA0.apart oX1 t16 (by omega)
   have bxA1 := bxA1.apart oX1 t16 (by omega)
   have bxW0 := bxW0.apart oX1 t16 (by omega)
   have bxX0 := bxX0.apart oX1 t16 (by omega)
   have bxX1 := bxX1.apart oX1 t16 (by omega)
   have bxG0 := bxG0.apart oX1 t16 (by omega)
   have z16 := t16.size
   have D16 := Db16.trans (oX1.under t16 (by omega))
   clear oX1 m16
   generalize cntC (datEn x1) = nx1 at *
   have ybxG00 : _ = (some (.int .i64 L0.cap) : Option Value) := bxG0.cell (j := 0) rfl
   have ybxG01 : _ = (some (.int .i64 L0.next) : Option Value) := bxG0.cell (j := 1) rfl
   have ybxG02 : _ = (some (.bool L0.out) : Option Value) := bxG0.cell (j := 2) rfl
   have ybxG03 : _ = (some (.slice AG0_3 L0.list.length cG0_3) : Option Value) := bxG0.cell (j := 3) rfl
   have ybxW00 : _ = (some (.int .i64 L0.cap) : Option Value) := bxW0.cell (j := 0) rfl
   have ybxW01 : _ = (some (.int .i64 L0.next) : Option Value) := bxW0.cell (j := 1) rfl
   have ybxW02 : _ = (some (.bool L0.out) : Option Value) := bxW0.cell (j := 2) rfl
   have ybxW03 : _ = (some (.slice AW0_3 L0.list.length cW0_3) : Option Value) := bxW0.cell (j := 3) rfl
   go_wp2_with fail
   clear ybxG00 ybxG01 ybxG02 ybxG03 ybxW00 ybxW01 ybxW02 ybxW03
   refine (eqRi _ _ L0 _ oG0.read oW0.read hs0).mono ?_
   rintro e u17 ⟨rfl, b17⟩
   have oW0 := oW0.past b17
   have oG0 := oG0.past b17
   have bxA0 := bxA0.past b17
   have bxA1 := bxA1.past b17
   have bxW0 := bxW0.past b17
   have bxX0 := bxX0.past b17
   have bxX1 := bxX1.past b17
   have bxG0 := bxG0.past b17
   have z17 := b17.size
   have D17 := D16.trans (b17.mono D16.size)
   have ybxG00 : _ = (some (.int .i64 L0.cap) : Option Value) := bxG0.cell (j := 0) rfl
   have ybxG01 : _ = (some (.int .i64 L0.next) : Option Value) := bxG0.cell (j := 1) rfl
   have ybxG02 : _ = (some (.bool L0.out) : Option Value) := bxG0.cell (j := 2) rfl
   have ybxG03 : _ = (some (.slice AG0_3 L0.list.length cG0_3) : Option Value) := bxG0.cell (j := 3) rfl
   go_wp2_with fail
   clear ybxG00 ybxG01 ybxG02 ybxG03
   refine (markRi _ L0 _ (1) _ oG0.ow oG0.nd (by omega) (by omega) hs0).mono ?_
   rintro e u18 ⟨rfl, m18, e18_, b18, t18⟩
   have oW0 := oW0.past b18
   have oG0 := oG0.past b18
   have bxA0 := bxA0.past b18
   have bxA1 := bxA1.past b18
   have bxW0 := bxW0.past b18
   have bxX0 := bxX0.past b18
   have bxX1 := bxX1.past b18
   have bxG0 := bxG0.past b18
   have zb18 := b18.size
   have Db18 := D17.trans (b18.mono D17.size)
   have oW0 := oW0.apart oG0 t18 (by omega)
   have bxA0 := bxA0.apart oG0 t18 (by omega)
   have bxA1 := bxA1.apart oG0 t18 (by omega)
   have bxW0 := bxW0.apart oG0 t18 (by omega)
   have bxX0 := bxX0.apart oG0 t18 (by omega)
   have bxX1 := bxX1.apart oG0 t18 (by omega)
   have bxG0 := bxG0.apart oG0 t18 (by omega)
   have z18 := t18.size
   have D18 := Db18.trans (oG0.under t18 (by omega))
   have oG0 := oG0.marked m18 t18
   rw [HN0.out]
   have ybxG00 : _ = (some (.int .i64 L0.cap) : Option Value) := bxG0.cell (j := 0) rfl
   have ybxG01 : _ = (some (.int .i64 L0.next) : Option Value) := bxG0.cell (j := 1) rfl
   have ybxG02 : _ = (some (.bool L0.out) : Option Value) := bxG0.cell (j := 2) rfl
   have ybxG03 : _ = (some (.slice AG0_3 L0.list.length cG0_3) : Option Value) := bxG0.cell (j := 3) rfl
   go_wp2_with fail
   clear ybxG00 ybxG01 ybxG02 ybxG03
   refine (heldRi _ L0 (1) _ oG0.read (by omega) (by omega) hs0).mono ?_
   rintro e u19 ⟨rfl, b19⟩
   rw [HN0.out]
   have oW0 := oW0.past b19
   have oG0 := oG0.past b19
   have bxA0 := bxA0.past b19
   have bxA1 := bxA1.past b19
   have bxW0 := bxW0.past b19
   have bxX0 := bxX0.past b19
   have bxX1 := bxX1.past b19
   have bxG0 := bxG0.past b19
   have z19 := b19.size
   have D19 := D18.trans (b19.mono D18.size)
   have lbxA0 := bxA0.lt
   have ybxA00 : u19.cell? ⟨w.heap.size, 0, none⟩ = some (.int .i64 x0.cap) := bxA0.cell (j := 0) rfl
   have ybxA01 : u19.cell? ⟨w.heap.size, 1, none⟩ = some (.int .i64 x0.next) := bxA0.cell (j := 1) rfl
   have ybxA02 : u19.cell? ⟨w.heap.size, 2, none⟩ = some (.bool x0.out) := bxA0.cell (j := 2) rfl
   have ybxA03 : u19.cell? ⟨w.heap.size, 3, none⟩ = some (.slice AA0_3 x0.list.length cA0_3) := bxA0.cell (j := 3) rfl
   have YbxA0 := Lib.hid (And.intro lbxA0 (And.intro ybxA00 (And.intro ybxA01 (And.intro ybxA02 (And.intro ybxA03 trivial)))))
   clear lbxA0 ybxA00 ybxA01 ybxA02 ybxA03
   have lbxA1 := bxA1.lt
   have ybxA10 : u19.cell? ⟨w.heap.size + 1, 0, none⟩ = some (.int .i64 x1.client) := bxA1.cell (j := 0) rfl
   have ybxA11 : u19.cell? ⟨w.heap.size + 1, 1, none⟩ = some (.int .i64 x1.seq) := bxA1.cell (j := 1) rfl
   have ybxA12 : u19.cell? ⟨w.heap.size + 1, 2, none⟩ = some (.slice AA1_2 x1.o.length cA1_2) := bxA1.cell (j := 2) rfl
   have YbxA1 := Lib.hid (And.intro lbxA1 (And.intro ybxA10 (And.intro ybxA11 (And.intro ybxA12 trivial))))
   clear lbxA1 ybxA10 ybxA11 ybxA12
   go_wp2
   refine wp_region_held_drew (S := fun W => Below u19.heap.size u19 W) (by kernel_rfl) (Below.refl _ _).drew (fun hS => ?_)
   generalize u19.drew = W0 at hS ⊢
   refine low.tk (v := ?_) 0 75 rfl (fun w' hS' => ?_) hS ?_
   rotate_left
   ·(try dsimp only at hS'); have q0 := (hS'.cell (p := ⟨w.heap.size, 0, none⟩) YbxA0.out.1).trans YbxA0.out.2.1; have q1 := (hS'.cell (p := ⟨w.heap.size, 1, none⟩) YbxA0.out.1).trans YbxA0.out.2.2.1; have q2 := (hS'.cell (p := ⟨w.heap.size, 2, none⟩) YbxA0.out.1).trans YbxA0.out.2.2.2.1; have q3 := (hS'.cell (p := ⟨w.heap.size, 3, none⟩) YbxA0.out.1).trans YbxA0.out.2.2.2.2.1; go_simp; all_goals (with_reducible rfl)
   try simp only [Act.put, pa, pb, pc]
   refine low.tk (v := ?_) 2 77 rfl (fun w' hS' => ?_) hS ?_
   rotate_left
   ·(try dsimp only at hS'); have q0 := (hS'.cell (p := ⟨w.heap.size + 1, 0, none⟩) YbxA1.out.1).trans YbxA1.out.2.1; have q1 := (hS'.cell (p := ⟨w.heap.size + 1, 1, none⟩) YbxA1.out.1).trans YbxA1.out.2.2.1; have q2 := (hS'.cell (p := ⟨w.heap.size + 1, 2, none⟩) YbxA1.out.1).trans YbxA1.out.2.2.2.1; go_simp; all_goals (with_reducible rfl)
   try simp only [Act.put, pa, pb, pc]
   refine wpAnyH_ready (rs := [1, 5]) (by kernel_rfl) (by simp) ?_
   refine AllReadyH.cons (o := ⟨some 76, _, _, _, _, _⟩) rfl (fun K hK => ?_) ?_
   ·go_simp
    refine (toRi _ x0 _ (R0.past (D19.trans (hS.mono D19.size))) S0).mono ?_
    rintro e u20 ⟨v20, rfl, o20, b20⟩
    obtain ⟨A20_3, c20_3, rfl, _⟩ := aggRi o20.read
    have zz20 := b20.size
    have hT := hS.trans (b20.mono hS.size)
    clear hS b20
    refine hK.out _ _ hT (fun hS => ?_)
    clear hK K hT
    try simp only [Act.put, pa, pb, pc]
    refine wpAnyH_ready (rs := [3, 5]) (by kernel_rfl) (by simp) ?_
    refine AllReadyH.cons (o := ⟨some 78, _, _, _, _, _⟩) rfl (fun K hK => ?_) ?_
    ·go_simp
     refine (toEn _ x1 _ (R1.past (D19.trans (hS.mono D19.size))) S1).mono ?_
     rintro e u21 ⟨v21, rfl, o21, b21⟩
     obtain ⟨A21_2, c21_2, rfl, _⟩ := aggEn o21.read
     have o20 := o20.past b21
     have zz21 := b21.size
     have hT := hS.trans (b21.mono hS.size)
     clear hS b21
     refine hK.out _ _ hT (fun hS => ?_)
     clear hK K hT
     try simp only [Act.put, pa, pb, pc]
     refine wpAnyH_ready (rs := [4, 5]) (by kernel_rfl) (by simp) ?_
     refine AllReadyH.cons (o := ⟨some 79, _, _, _, _, _⟩) rfl (fun K hK => ?_) ?_
     ·go_simp
      refine (HAG.out _ _ _ (by exact o20.read) (by exact o21.read)).mono ?_
      rintro e u22 ⟨v22, rfl, oH00, b22⟩
      obtain ⟨AH0_3, cH0_3, rfl, _⟩ := aggRi oH00.read
      have o20 := o20.past b22
      have o21 := o21.past b22
      have zz22 := b22.size
      have hT := hS.trans (b22.mono hS.size)
      clear hS b22
      refine hK.out _ _ hT (fun hS => ?_)
      clear hK K hT
      try simp only [Act.put, pa, pb, pc]
      refine low.r1 5 (some 13) rfl (fun K hK => ?_)
      go_simp
      have b9 := alloc_below u22 (.cells #[.int .i64 0, .int .i64 0, .bool false, .slice none 0 0] 32)
      have o20 := o20.past b9
      have o21 := o21.past b9
      have oH00 := oH00.past b9
      have bx9 := Bx.new u22 #[.int .i64 0, .int .i64 0, .bool false, .slice none 0 0] 32
      have zg := hS.size
      have zy : (u22.alloc (.cells #[.int .i64 0, .int .i64 0, .bool false, .slice none 0 0] 32)).heap.size = u22.heap.size + 1 := World.size_alloc _ _
      have hT := hS.trans (b9.mono hS.size)
      clear hS b9
      refine hK.out _ _ hT (fun hS => ?_)
      clear hK K hT
      try simp only [Act.put, pa, pb, pc]
      generalize u22.alloc (.cells #[.int .i64 0, .int .i64 0, .bool false, .slice none 0 0] 32) = W9 at o20 o21 oH00 bx9 zy hS ⊢
      refine low.r1 6 none rfl (fun K hK => ?_)
      have kq0 := bx9.cell (j := 0) rfl
      have fq0 := bxfree (j := 0) bx9
      have kq1 := bx9.cell (j := 1) rfl
      have fq1 := bxfree (j := 1) bx9
      have kq2 := bx9.cell (j := 2) rfl
      have fq2 := bxfree (j := 2) bx9
      have kq3 := bx9.cell (j := 3) rfl
      have fq3 := bxfree (j := 3) bx9
      go_simp
      clear kq0 fq0 kq1 fq1 kq2 fq2 kq3 fq3
      have hT : Below u19.heap.size u19 ((((W9.setCell ⟨u22.heap.size, 0, none⟩ (.int .i64 L0.cap)).setCell ⟨u22.heap.size, 1, none⟩ (.int .i64 L0.next)).setCell ⟨u22.heap.size, 2, none⟩ (.bool L0.out)).setCell ⟨u22.heap.size, 3, none⟩ (.slice AH0_3 L0.list.length cH0_3)) := putRow_below (lo := u19.heap.size) zg [.int .i64 L0.cap, .int .i64 L0.next, .bool L0.out, .slice AH0_3 L0.list.length cH0_3] _ 0 hS
      have bx8 : Bx ((((W9.setCell ⟨u22.heap.size, 0, none⟩ (.int .i64 L0.cap)).setCell ⟨u22.heap.size, 1, none⟩ (.int .i64 L0.next)).setCell ⟨u22.heap.size, 2, none⟩ (.bool L0.out)).setCell ⟨u22.heap.size, 3, none⟩ (.slice AH0_3 L0.list.length cH0_3)) (u22.heap.size) #[.int .i64 L0.cap, .int .i64 L0.next, .bool L0.out, .slice AH0_3 L0.list.length cH0_3] 32 := putRow_cells (ys := [.int .i64 L0.cap, .int .i64 L0.next, .bool L0.out, .slice AH0_3 L0.list.length cH0_3]) (cs := #[.int .i64 0, .int .i64 0, .bool false, .slice none 0 0]) (o := 0) rfl bx9
      have oH01 : Own _ _ ((((W9.setCell ⟨u22.heap.size, 0, none⟩ (.int .i64 L0.cap)).setCell ⟨u22.heap.size, 1, none⟩ (.int .i64 L0.next)).setCell ⟨u22.heap.size, 2, none⟩ (.bool L0.out)).setCell ⟨u22.heap.size, 3, none⟩ (.slice AH0_3 L0.list.length cH0_3)) _ _ := Own.putRow (g := u22.heap.size) (by omega) [.int .i64 L0.cap, .int .i64 L0.next, .bool L0.out, .slice AH0_3 L0.list.length cH0_3] _ 0 oH00
      have zw : ((((W9.setCell ⟨u22.heap.size, 0, none⟩ (.int .i64 L0.cap)).setCell ⟨u22.heap.size, 1, none⟩ (.int .i64 L0.next)).setCell ⟨u22.heap.size, 2, none⟩ (.bool L0.out)).setCell ⟨u22.heap.size, 3, none⟩ (.slice AH0_3 L0.list.length cH0_3)).heap.size = W9.heap.size := putRow_size _ [.int .i64 L0.cap, .int .i64 L0.next, .bool L0.out, .slice AH0_3 L0.list.length cH0_3] _ 0
      clear hS bx9 oH00
      refine hK.out _ _ hT (fun hS => ?_)
      clear hK K hT
      try simp only [Act.put]
      generalize ((((W9.setCell ⟨u22.heap.size, 0, none⟩ (.int .i64 L0.cap)).setCell ⟨u22.heap.size, 1, none⟩ (.int .i64 L0.next)).setCell ⟨u22.heap.size, 2, none⟩ (.bool L0.out)).setCell ⟨u22.heap.size, 3, none⟩ (.slice AH0_3 L0.list.length cH0_3)) = u23 at oH01 bx8 zw hS ⊢
      refine wpAnyH_done (by kernel_rfl) ?_ _
      have HK23 := hS
      clear hS
      clear o20 o21
      clear YbxA0 YbxA1
      have oW0 := oW0.past HK23
      have oG0 := oG0.past HK23
      have bxA0 := bxA0.past HK23
      have bxA1 := bxA1.past HK23
      have bxW0 := bxW0.past HK23
      have bxX0 := bxX0.past HK23
      have bxX1 := bxX1.past HK23
      have bxG0 := bxG0.past HK23
      have z23 := HK23.size
      have D23 := D19.trans (HK23.mono D19.size)
      obtain ⟨k23, oH0⟩ := oH01.blocks
      have bxH0 := bx8
      clear oH01 bx8
      have ybxH00 : _ = (some (.int .i64 L0.cap) : Option Value) := bxH0.cell (j := 0) rfl
      have ybxH01 : _ = (some (.int .i64 L0.next) : Option Value) := bxH0.cell (j := 1) rfl
      have ybxH02 : _ = (some (.bool L0.out) : Option Value) := bxH0.cell (j := 2) rfl
      have ybxH03 : _ = (some (.slice AH0_3 L0.list.length cH0_3) : Option Value) := bxH0.cell (j := 3) rfl
      have ybxW00 : _ = (some (.int .i64 L0.cap) : Option Value) := bxW0.cell (j := 0) rfl
      have ybxW01 : _ = (some (.int .i64 L0.next) : Option Value) := bxW0.cell (j := 1) rfl
      have ybxW02 : _ = (some (.bool L0.out) : Option Value) := bxW0.cell (j := 2) rfl
      have ybxW03 : _ = (some (.slice AW0_3 L0.list.length cW0_3) : Option Value) := bxW0.cell (j := 3) rfl
      go_wp2_with fail
      clear ybxH00 ybxH01 ybxH02 ybxH03 ybxW00 ybxW01 ybxW02 ybxW03
      refine (eqRi _ _ L0 _ oH0.read oW0.read hs0).mono ?_
      rintro e u24 ⟨rfl, b24⟩
      have oW0 := oW0.past b24
      have oG0 := oG0.past b24
      have oH0 := oH0.past b24
      have bxA0 := bxA0.past b24
      have bxA1 := bxA1.past b24
      have bxW0 := bxW0.past b24
      have bxX0 := bxX0.past b24
      have bxX1 := bxX1.past b24
      have bxG0 := bxG0.past b24
      have bxH0 := bxH0.past b24
      have z24 := b24.size
      have D24 := D23.trans (b24.mono D23.size)
      have ybxG00 : _ = (some (.int .i64 L0.cap) : Option Value) := bxG0.cell (j := 0) rfl
      have ybxG01 : _ = (some (.int .i64 L0.next) : Option Value) := bxG0.cell (j := 1) rfl
      have ybxG02 : _ = (some (.bool L0.out) : Option Value) := bxG0.cell (j := 2) rfl
      have ybxG03 : _ = (some (.slice AG0_3 L0.list.length cG0_3) : Option Value) := bxG0.cell (j := 3) rfl
      go_wp2_with fail
      clear ybxG00 ybxG01 ybxG02 ybxG03
      refine (heldRi _ L0 (1) _ oG0.read (by omega) (by omega) hs0).mono ?_
      rintro e u25 ⟨rfl, b25⟩
      rw [HN0.out]
      have oW0 := oW0.past b25
      have oG0 := oG0.past b25
      have oH0 := oH0.past b25
      have bxA0 := bxA0.past b25
      have bxA1 := bxA1.past b25
      have bxW0 := bxW0.past b25
      have bxX0 := bxX0.past b25
      have bxX1 := bxX1.past b25
      have bxG0 := bxG0.past b25
      have bxH0 := bxH0.past b25
      have z25 := b25.size
      have D25 := D24.trans (b25.mono D24.size)
      go_wp2
      go_ret
      exact ⟨rfl, D25⟩
     refine AllReadyH.cons (o := ⟨some 13, _, _, _, _, _⟩) rfl (fun K hK => ?_) AllReadyH.nil
     go_simp
     have b9 := alloc_below u21 (.cells #[.int .i64 0, .int .i64 0, .bool false, .slice none 0 0] 32)
     have o20 := o20.past b9
     have o21 := o21.past b9
     have bx9 := Bx.new u21 #[.int .i64 0, .int .i64 0, .bool false, .slice none 0 0] 32
     have zg := hS.size
     have zy : (u21.alloc (.cells #[.int .i64 0, .int .i64 0, .bool false, .slice none 0 0] 32)).heap.size = u21.heap.size + 1 := World.size_alloc _ _
     have hT := hS.trans (b9.mono hS.size)
     clear hS b9
     refine hK.out _ _ hT (fun hS => ?_)
     clear hK K hT
     try simp only [Act.put, pa, pb, pc]
     generalize u21.alloc (.cells #[.int .i64 0, .int .i64 0, .bool false, .slice none 0 0] 32) = W9 at o20 o21 bx9 zy hS ⊢
     refine low.r1 4 (some 79) rfl (fun K hK => ?_)
     go_simp
     refine (HAG.out _ _ _ (by exact o20.read) (by exact o21.read)).mono ?_
     rintro e u22 ⟨v22, rfl, oH00, b22⟩
     obtain ⟨AH0_3, cH0_3, rfl, _⟩ := aggRi oH00.read
     have o20 := o20.past b22
     have o21 := o21.past b22
     have bx9 := bx9.past b22
     have zz22 := b22.size
     have hT := hS.trans (b22.mono hS.size)
     clear hS b22
     refine hK.out _ _ hT (fun hS => ?_)
     clear hK K hT
     try simp only [Act.put, pa, pb, pc]
     refine low.r1 6 none rfl (fun K hK => ?_)
     have kq0 := bx9.cell (j := 0) rfl
     have fq0 := bxfree (j := 0) bx9
     have kq1 := bx9.cell (j := 1) rfl
     have fq1 := bxfree (j := 1) bx9
     have kq2 := bx9.cell (j := 2) rfl
     have fq2 := bxfree (j := 2) bx9
     have kq3 := bx9.cell (j := 3) rfl
     have fq3 := bxfree (j := 3) bx9
     go_simp
     clear kq0 fq0 kq1 fq1 kq2 fq2 kq3 fq3
     have hT : Below u19.heap.size u19 ((((u22.setCell ⟨u21.heap.size, 0, none⟩ (.int .i64 L0.cap)).setCell ⟨u21.heap.size, 1, none⟩ (.int .i64 L0.next)).setCell ⟨u21.heap.size, 2, none⟩ (.bool L0.out)).setCell ⟨u21.heap.size, 3, none⟩ (.slice AH0_3 L0.list.length cH0_3)) := putRow_below (lo := u19.heap.size) zg [.int .i64 L0.cap, .int .i64 L0.next, .bool L0.out, .slice AH0_3 L0.list.length cH0_3] _ 0 hS
     have bx8 : Bx ((((u22.setCell ⟨u21.heap.size, 0, none⟩ (.int .i64 L0.cap)).setCell ⟨u21.heap.size, 1, none⟩ (.int .i64 L0.next)).setCell ⟨u21.heap.size, 2, none⟩ (.bool L0.out)).setCell ⟨u21.heap.size, 3, none⟩ (.slice AH0_3 L0.list.length cH0_3)) (u21.heap.size) #[.int .i64 L0.cap, .int .i64 L0.next, .bool L0.out, .slice AH0_3 L0.list.length cH0_3] 32 := putRow_cells (ys := [.int .i64 L0.cap, .int .i64 L0.next, .bool L0.out, .slice AH0_3 L0.list.length cH0_3]) (cs := #[.int .i64 0, .int .i64 0, .bool false, .slice none 0 0]) (o := 0) rfl bx9
     have oH01 : Own _ _ ((((u22.setCell ⟨u21.heap.size, 0, none⟩ (.int .i64 L0.cap)).setCell ⟨u21.heap.size, 1, none⟩ (.int .i64 L0.next)).setCell ⟨u21.heap.size, 2, none⟩ (.bool L0.out)).setCell ⟨u21.heap.size, 3, none⟩ (.slice AH0_3 L0.list.length cH0_3)) _ _ := Own.putRow (g := u21.heap.size) (by omega) [.int .i64 L0.cap, .int .i64 L0.next, .bool L0.out, .slice AH0_3 L0.list.length cH0_3] _ 0 oH00
     have zw : ((((u22.setCell ⟨u21.heap.size, 0, none⟩ (.int .i64 L0.cap)).setCell ⟨u21.heap.size, 1, none⟩ (.int .i64 L0.next)).setCell ⟨u21.heap.size, 2, none⟩ (.bool L0.out)).setCell ⟨u21.heap.size, 3, none⟩ (.slice AH0_3 L0.list.length cH0_3)).heap.size = u22.heap.size := putRow_size _ [.int .i64 L0.cap, .int .i64 L0.next, .bool L0.out, .slice AH0_3 L0.list.length cH0_3] _ 0
     clear hS bx9 oH00
     refine hK.out _ _ hT (fun hS => ?_)
     clear hK K hT
     try simp only [Act.put]
     generalize ((((u22.setCell ⟨u21.heap.size, 0, none⟩ (.int .i64 L0.cap)).setCell ⟨u21.heap.size, 1, none⟩ (.int .i64 L0.next)).setCell ⟨u21.heap.size, 2, none⟩ (.bool L0.out)).setCell ⟨u21.heap.size, 3, none⟩ (.slice AH0_3 L0.list.length cH0_3)) = u23 at oH01 bx8 zw hS ⊢
     refine wpAnyH_done (by kernel_rfl) ?_ _
     have HK23 := hS
     clear hS
     clear o20 o21
     clear YbxA0 YbxA1
     have oW0 := oW0.past HK23
     have oG0 := oG0.past HK23
     have bxA0 := bxA0.past HK23
     have bxA1 := bxA1.past HK23
     have bxW0 := bxW0.past HK23
     have bxX0 := bxX0.past HK23
     have bxX1 := bxX1.past HK23
     have bxG0 := bxG0.past HK23
     have z23 := HK23.size
     have D23 := D19.trans (HK23.mono D19.size)
     obtain ⟨k23, oH0⟩ := oH01.blocks
     have bxH0 := bx8
     clear oH01 bx8
     have ybxH00 : _ = (some (.int .i64 L0.cap) : Option Value) := bxH0.cell (j := 0) rfl
     have ybxH01 : _ = (some (.int .i64 L0.next) : Option Value) := bxH0.cell (j := 1) rfl
     have ybxH02 : _ = (some (.bool L0.out) : Option Value) := bxH0.cell (j := 2) rfl
     have ybxH03 : _ = (some (.slice AH0_3 L0.list.length cH0_3) : Option Value) := bxH0.cell (j := 3) rfl
     have ybxW00 : _ = (some (.int .i64 L0.cap) : Option Value) := bxW0.cell (j := 0) rfl
     have ybxW01 : _ = (some (.int .i64 L0.next) : Option Value) := bxW0.cell (j := 1) rfl
     have ybxW02 : _ = (some (.bool L0.out) : Option Value) := bxW0.cell (j := 2) rfl
     have ybxW03 : _ = (some (.slice AW0_3 L0.list.length cW0_3) : Option Value) := bxW0.cell (j := 3) rfl
     go_wp2_with fail
     clear ybxH00 ybxH01 ybxH02 ybxH03 ybxW00 ybxW01 ybxW02 ybxW03
     refine (eqRi _ _ L0 _ oH0.read oW0.read hs0).mono ?_
     rintro e u24 ⟨rfl, b24⟩
     have oW0 := oW0.past b24
     have oG0 := oG0.past b24
     have oH0 := oH0.past b24
     have bxA0 := bxA0.past b24
     have bxA1 := bxA1.past b24
     have bxW0 := bxW0.past b24
     have bxX0 := bxX0.past b24
     have bxX1 := bxX1.past b24
     have bxG0 := bxG0.past b24
     have bxH0 := bxH0.past b24
     have z24 := b24.size
     have D24 := D23.trans (b24.mono D23.size)
     have ybxG00 : _ = (some (.int .i64 L0.cap) : Option Value) := bxG0.cell (j := 0) rfl
     have ybxG01 : _ = (some (.int .i64 L0.next) : Option Value) := bxG0.cell (j := 1) rfl
     have ybxG02 : _ = (some (.bool L0.out) : Option Value) := bxG0.cell (j := 2) rfl
     have ybxG03 : _ = (some (.slice AG0_3 L0.list.length cG0_3) : Option Value) := bxG0.cell (j := 3) rfl
     go_wp2_with fail
     clear ybxG00 ybxG01 ybxG02 ybxG03
     refine (heldRi _ L0 (1) _ oG0.read (by omega) (by omega) hs0).mono ?_
     rintro e u25 ⟨rfl, b25⟩
     rw [HN0.out]
     have oW0 := oW0.past b25
     have oG0 := oG0.past b25
     have oH0 := oH0.past b25
     have bxA0 := bxA0.past b25
     have bxA1 := bxA1.past b25
     have bxW0 := bxW0.past b25
     have bxX0 := bxX0.past b25
     have bxX1 := bxX1.past b25
     have bxG0 := bxG0.past b25
     have bxH0 := bxH0.past b25
     have z25 := b25.size
     have D25 := D24.trans (b25.mono D24.size)
     go_wp2
     go_ret
     exact ⟨rfl, D25⟩
    refine AllReadyH.cons (o := ⟨some 13, _, _, _, _, _⟩) rfl (fun K hK => ?_) AllReadyH.nil
    go_simp
    have b9 := alloc_below u20 (.cells #[.int .i64 0, .int .i64 0, .bool false, .slice none 0 0] 32)
    have o20 := o20.past b9
    have bx9 := Bx.new u20 #[.int .i64 0, .int .i64 0, .bool false, .slice none 0 0] 32
    have zg := hS.size
    have zy : (u20.alloc (.cells #[.int .i64 0, .int .i64 0, .bool false, .slice none 0 0] 32)).heap.size = u20.heap.size + 1 := World.size_alloc _ _
    have hT := hS.trans (b9.mono hS.size)
    clear hS b9
    refine hK.out _ _ hT (fun hS => ?_)
    clear hK K hT
    try simp only [Act.put, pa, pb, pc]
    generalize u20.alloc (.cells #[.int .i64 0, .int .i64 0, .bool false, .slice none 0 0] 32) = W9 at o20 bx9 zy hS ⊢
    refine low.r1 3 (some 78) rfl (fun K hK => ?_)
    go_simp
    refine (toEn _ x1 _ (R1.past (D19.trans (hS.mono D19.size))) S1).mono ?_
    rintro e u21 ⟨v21, rfl, o21, b21⟩
    obtain ⟨A21_2, c21_2, rfl, _⟩ := aggEn o21.read
    have o20 := o20.past b21
    have bx9 := bx9.past b21
    have zz21 := b21.size
    have hT := hS.trans (b21.mono hS.size)
    clear hS b21
    refine hK.out _ _ hT (fun hS => ?_)
    clear hK K hT
    try simp only [Act.put, pa, pb, pc]
    refine low.r1 4 (some 79) rfl (fun K hK => ?_)
    go_simp
    refine (HAG.out _ _ _ (by exact o20.read) (by exact o21.read)).mono ?_
    rintro e u22 ⟨v22, rfl, oH00, b22⟩
    obtain ⟨AH0_3, cH0_3, rfl, _⟩ := aggRi oH00.read
    have o20 := o20.past b22
    have o21 := o21.past b22
    have bx9 := bx9.past b22
    have zz22 := b22.size
    have hT := hS.trans (b22.mono hS.size)
    clear hS b22
    refine hK.out _ _ hT (fun hS => ?_)
    clear hK K hT
    try simp only [Act.put, pa, pb, pc]
    refine low.r1 6 none rfl (fun K hK => ?_)
    have kq0 := bx9.cell (j := 0) rfl
    have fq0 := bxfree (j := 0) bx9
    have kq1 := bx9.cell (j := 1) rfl
    have fq1 := bxfree (j := 1) bx9
    have kq2 := bx9.cell (j := 2) rfl
    have fq2 := bxfree (j := 2) bx9
    have kq3 := bx9.cell (j := 3) rfl
    have fq3 := bxfree (j := 3) bx9
    go_simp
    clear kq0 fq0 kq1 fq1 kq2 fq2 kq3 fq3
    have hT : Below u19.heap.size u19 ((((u22.setCell ⟨u20.heap.size, 0, none⟩ (.int .i64 L0.cap)).setCell ⟨u20.heap.size, 1, none⟩ (.int .i64 L0.next)).setCell ⟨u20.heap.size, 2, none⟩ (.bool L0.out)).setCell ⟨u20.heap.size, 3, none⟩ (.slice AH0_3 L0.list.length cH0_3)) := putRow_below (lo := u19.heap.size) zg [.int .i64 L0.cap, .int .i64 L0.next, .bool L0.out, .slice AH0_3 L0.list.length cH0_3] _ 0 hS
    have bx8 : Bx ((((u22.setCell ⟨u20.heap.size, 0, none⟩ (.int .i64 L0.cap)).setCell ⟨u20.heap.size, 1, none⟩ (.int .i64 L0.next)).setCell ⟨u20.heap.size, 2, none⟩ (.bool L0.out)).setCell ⟨u20.heap.size, 3, none⟩ (.slice AH0_3 L0.list.length cH0_3)) (u20.heap.size) #[.int .i64 L0.cap, .int .i64 L0.next, .bool L0.out, .slice AH0_3 L0.list.length cH0_3] 32 := putRow_cells (ys := [.int .i64 L0.cap, .int .i64 L0.next, .bool L0.out, .slice AH0_3 L0.list.length cH0_3]) (cs := #[.int .i64 0, .int .i64 0, .bool false, .slice none 0 0]) (o := 0) rfl bx9
    have oH01 : Own _ _ ((((u22.setCell ⟨u20.heap.size, 0, none⟩ (.int .i64 L0.cap)).setCell ⟨u20.heap.size, 1, none⟩ (.int .i64 L0.next)).setCell ⟨u20.heap.size, 2, none⟩ (.bool L0.out)).setCell ⟨u20.heap.size, 3, none⟩ (.slice AH0_3 L0.list.length cH0_3)) _ _ := Own.putRow (g := u20.heap.size) (by omega) [.int .i64 L0.cap, .int .i64 L0.next, .bool L0.out, .slice AH0_3 L0.list.length cH0_3] _ 0 oH00
    have zw : ((((u22.setCell ⟨u20.heap.size, 0, none⟩ (.int .i64 L0.cap)).setCell ⟨u20.heap.size, 1, none⟩ (.int .i64 L0.next)).setCell ⟨u20.heap.size, 2, none⟩ (.bool L0.out)).setCell ⟨u20.heap.size, 3, none⟩ (.slice AH0_3 L0.list.length cH0_3)).heap.size = u22.heap.size := putRow_size _ [.int .i64 L0.cap, .int .i64 L0.next, .bool L0.out, .slice AH0_3 L0.list.length cH0_3] _ 0
    clear hS bx9 oH00
    refine hK.out _ _ hT (fun hS => ?_)
    clear hK K hT
    try simp only [Act.put]
    generalize ((((u22.setCell ⟨u20.heap.size, 0, none⟩ (.int .i64 L0.cap)).setCell ⟨u20.heap.size, 1, none⟩ (.int .i64 L0.next)).setCell ⟨u20.heap.size, 2, none⟩ (.bool L0.out)).setCell ⟨u20.heap.size, 3, none⟩ (.slice AH0_3 L0.list.length cH0_3)) = u23 at oH01 bx8 zw hS ⊢
    refine wpAnyH_done (by kernel_rfl) ?_ _
    have HK23 := hS
    clear hS
    clear o20 o21
    clear YbxA0 YbxA1
    have oW0 := oW0.past HK23
    have oG0 := oG0.past HK23
    have bxA0 := bxA0.past HK23
    have bxA1 := bxA1.past HK23
    have bxW0 := bxW0.past HK23
    have bxX0 := bxX0.past HK23
    have bxX1 := bxX1.past HK23
    have bxG0 := bxG0.past HK23
    have z23 := HK23.size
    have D23 := D19.trans (HK23.mono D19.size)
    obtain ⟨k23, oH0⟩ := oH01.blocks
    have bxH0 := bx8
    clear oH01 bx8
    have ybxH00 : _ = (some (.int .i64 L0.cap) : Option Value) := bxH0.cell (j := 0) rfl
    have ybxH01 : _ = (some (.int .i64 L0.next) : Option Value) := bxH0.cell (j := 1) rfl
    have ybxH02 : _ = (some (.bool L0.out) : Option Value) := bxH0.cell (j := 2) rfl
    have ybxH03 : _ = (some (.slice AH0_3 L0.list.length cH0_3) : Option Value) := bxH0.cell (j := 3) rfl
    have ybxW00 : _ = (some (.int .i64 L0.cap) : Option Value) := bxW0.cell (j := 0) rfl
    have ybxW01 : _ = (some (.int .i64 L0.next) : Option Value) := bxW0.cell (j := 1) rfl
    have ybxW02 : _ = (some (.bool L0.out) : Option Value) := bxW0.cell (j := 2) rfl
    have ybxW03 : _ = (some (.slice AW0_3 L0.list.length cW0_3) : Option Value) := bxW0.cell (j := 3) rfl
    go_wp2_with fail
    clear ybxH00 ybxH01 ybxH02 ybxH03 ybxW00 ybxW01 ybxW02 ybxW03
    refine (eqRi _ _ L0 _ oH0.read oW0.read hs0).mono ?_
    rintro e u24 ⟨rfl, b24⟩
    have oW0 := oW0.past b24
    have oG0 := oG0.past b24
    have oH0 := oH0.past b24
    have bxA0 := bxA0.past b24
    have bxA1 := bxA1.past b24
    have bxW0 := bxW0.past b24
    have bxX0 := bxX0.past b24
    have bxX1 := bxX1.past b24
    have bxG0 := bxG0.past b24
    have bxH0 := bxH0.past b24
    have z24 := b24.size
    have D24 := D23.trans (b24.mono D23.size)
    have ybxG00 : _ = (some (.int .i64 L0.cap) : Option Value) := bxG0.cell (j := 0) rfl
    have ybxG01 : _ = (some (.int .i64 L0.next) : Option Value) := bxG0.cell (j := 1) rfl
    have ybxG02 : _ = (some (.bool L0.out) : Option Value) := bxG0.cell (j := 2) rfl
    have ybxG03 : _ = (some (.slice AG0_3 L0.list.length cG0_3) : Option Value) := bxG0.cell (j := 3) rfl
    go_wp2_with fail
    clear ybxG00 ybxG01 ybxG02 ybxG03
    refine (heldRi _ L0 (1) _ oG0.read (by omega) (by omega) hs0).mono ?_
    rintro e u25 ⟨rfl, b25⟩
    rw [HN0.out]
    have oW0 := oW0.past b25
    have oG0 := oG0.past b25
    have oH0 := oH0.past b25
    have bxA0 := bxA0.past b25
    have bxA1 := bxA1.past b25
    have bxW0 := bxW0.past b25
    have bxX0 := bxX0.past b25
    have bxX1 := bxX1.past b25
    have bxG0 := bxG0.past b25
    have bxH0 := bxH0.past b25
    have z25 := b25.size
    have D25 := D24.trans (b25.mono D24.size)
    go_wp2
    go_ret
    exact ⟨rfl, D25⟩
   refine AllReadyH.cons (o := ⟨some 13, _, _, _, _, _⟩) rfl (fun K hK => ?_) AllReadyH.nil
   go_simp
   have b9 := alloc_below W0 (.cells #[.int .i64 0, .int .i64 0, .bool false, .slice none 0 0] 32)
   have bx9 := Bx.new W0 #[.int .i64 0, .int .i64 0, .bool false, .slice none 0 0] 32
   have zg := hS.size
   have zy : (W0.alloc (.cells #[.int .i64 0, .int .i64 0, .bool false, .slice none 0 0] 32)).heap.size = W0.heap.size + 1 := World.size_alloc _ _
   have hT := hS.trans (b9.mono hS.size)
   clear hS b9
   refine hK.out _ _ hT (fun hS => ?_)
   clear hK K hT
   try simp only [Act.put, pa, pb, pc]
   generalize W0.alloc (.cells #[.int .i64 0, .int .i64 0, .bool false, .slice none 0 0] 32) = W9 at  bx9 zy hS ⊢
   refine low.r1 1 (some 76) rfl (fun K hK => ?_)
   go_simp
   refine (toRi _ x0 _ (R0.past (D19.trans (hS.mono D19.size))) S0).mono ?_
   rintro e u20 ⟨v20, rfl, o20, b20⟩
   obtain ⟨A20_3, c20_3, rfl, _⟩ := aggRi o20.read
   have bx9 := bx9.past b20
   have zz20 := b20.size
   have hT := hS.trans (b20.mono hS.size)
   clear hS b20
   refine hK.out _ _ hT (fun hS => ?_)
   clear hK K hT
   try simp only [Act.put, pa, pb, pc]
   refine low.r1 3 (some 78) rfl (fun K hK => ?_)
   go_simp
   refine (toEn _ x1 _ (R1.past (D19.trans (hS.mono D19.size))) S1).mono ?_
   rintro e u21 ⟨v21, rfl, o21, b21⟩
   obtain ⟨A21_2, c21_2, rfl, _⟩ := aggEn o21.read
   have o20 := o20.past b21
   have bx9 := bx9.past b21
   have zz21 := b21.size
   have hT := hS.trans (b21.mono hS.size)
   clear hS b21
   refine hK.out _ _ hT (fun hS => ?_)
   clear hK K hT
   try simp only [Act.put, pa, pb, pc]
   refine low.r1 4 (some 79) rfl (fun K hK => ?_)
   go_simp
   refine (HAG.out _ _ _ (by exact o20.read) (by exact o21.read)).mono ?_
   rintro e u22 ⟨v22, rfl, oH00, b22⟩
   obtain ⟨AH0_3, cH0_3, rfl, _⟩ := aggRi oH00.read
   have o20 := o20.past b22
   have o21 := o21.past b22
   have bx9 := bx9.past b22
   have zz22 := b22.size
   have hT := hS.trans (b22.mono hS.size)
   clear hS b22
   refine hK.out _ _ hT (fun hS => ?_)
   clear hK K hT
   try simp only [Act.put, pa, pb, pc]
   refine low.r1 6 none rfl (fun K hK => ?_)
   have kq0 := bx9.cell (j := 0) rfl
   have fq0 := bxfree (j := 0) bx9
   have kq1 := bx9.cell (j := 1) rfl
   have fq1 := bxfree (j := 1) bx9
   have kq2 := bx9.cell (j := 2) rfl
   have fq2 := bxfree (j := 2) bx9
   have kq3 := bx9.cell (j := 3) rfl
   have fq3 := bxfree (j := 3) bx9
   go_simp
   clear kq0 fq0 kq1 fq1 kq2 fq2 kq3 fq3
   have hT : Below u19.heap.size u19 ((((u22.setCell ⟨W0.heap.size, 0, none⟩ (.int .i64 L0.cap)).setCell ⟨W0.heap.size, 1, none⟩ (.int .i64 L0.next)).setCell ⟨W0.heap.size, 2, none⟩ (.bool L0.out)).setCell ⟨W0.heap.size, 3, none⟩ (.slice AH0_3 L0.list.length cH0_3)) := putRow_below (lo := u19.heap.size) zg [.int .i64 L0.cap, .int .i64 L0.next, .bool L0.out, .slice AH0_3 L0.list.length cH0_3] _ 0 hS
   have bx8 : Bx ((((u22.setCell ⟨W0.heap.size, 0, none⟩ (.int .i64 L0.cap)).setCell ⟨W0.heap.size, 1, none⟩ (.int .i64 L0.next)).setCell ⟨W0.heap.size, 2, none⟩ (.bool L0.out)).setCell ⟨W0.heap.size, 3, none⟩ (.slice AH0_3 L0.list.length cH0_3)) (W0.heap.size) #[.int .i64 L0.cap, .int .i64 L0.next, .bool L0.out, .slice AH0_3 L0.list.length cH0_3] 32 := putRow_cells (ys := [.int .i64 L0.cap, .int .i64 L0.next, .bool L0.out, .slice AH0_3 L0.list.length cH0_3]) (cs := #[.int .i64 0, .int .i64 0, .bool false, .slice none 0 0]) (o := 0) rfl bx9
   have oH01 : Own _ _ ((((u22.setCell ⟨W0.heap.size, 0, none⟩ (.int .i64 L0.cap)).setCell ⟨W0.heap.size, 1, none⟩ (.int .i64 L0.next)).setCell ⟨W0.heap.size, 2, none⟩ (.bool L0.out)).setCell ⟨W0.heap.size, 3, none⟩ (.slice AH0_3 L0.list.length cH0_3)) _ _ := Own.putRow (g := W0.heap.size) (by omega) [.int .i64 L0.cap, .int .i64 L0.next, .bool L0.out, .slice AH0_3 L0.list.length cH0_3] _ 0 oH00
   have zw : ((((u22.setCell ⟨W0.heap.size, 0, none⟩ (.int .i64 L0.cap)).setCell ⟨W0.heap.size, 1, none⟩ (.int .i64 L0.next)).setCell ⟨W0.heap.size, 2, none⟩ (.bool L0.out)).setCell ⟨W0.heap.size, 3, none⟩ (.slice AH0_3 L0.list.length cH0_3)).heap.size = u22.heap.size := putRow_size _ [.int .i64 L0.cap, .int .i64 L0.next, .bool L0.out, .slice AH0_3 L0.list.length cH0_3] _ 0
   clear hS bx9 oH00
   refine hK.out _ _ hT (fun hS => ?_)
   clear hK K hT
   try simp only [Act.put]
   generalize ((((u22.setCell ⟨W0.heap.size, 0, none⟩ (.int .i64 L0.cap)).setCell ⟨W0.heap.size, 1, none⟩ (.int .i64 L0.next)).setCell ⟨W0.heap.size, 2, none⟩ (.bool L0.out)).setCell ⟨W0.heap.size, 3, none⟩ (.slice AH0_3 L0.list.length cH0_3)) = u23 at oH01 bx8 zw hS ⊢
   refine wpAnyH_done (by kernel_rfl) ?_ _
   have HK23 := hS
   clear hS
   clear o20 o21
   clear YbxA0 YbxA1
   have oW0 := oW0.past HK23
   have oG0 := oG0.past HK23
   have bxA0 := bxA0.past HK23
   have bxA1 := bxA1.past HK23
   have bxW0 := bxW0.past HK23
   have bxX0 := bxX0.past HK23
   have bxX1 := bxX1.past HK23
   have bxG0 := bxG0.past HK23
   have z23 := HK23.size
   have D23 := D19.trans (HK23.mono D19.size)
   obtain ⟨k23, oH0⟩ := oH01.blocks
   have bxH0 := bx8
   clear oH01 bx8
   have ybxH00 : _ = (some (.int .i64 L0.cap) : Option Value) := bxH0.cell (j := 0) rfl
   have ybxH01 : _ = (some (.int .i64 L0.next) : Option Value) := bxH0.cell (j := 1) rfl
   have ybxH02 : _ = (some (.bool L0.out) : Option Value) := bxH0.cell (j := 2) rfl
   have ybxH03 : _ = (some (.slice AH0_3 L0.list.length cH0_3) : Option Value) := bxH0.cell (j := 3) rfl
   have ybxW00 : _ = (some (.int .i64 L0.cap) : Option Value) := bxW0.cell (j := 0) rfl
   have ybxW01 : _ = (some (.int .i64 L0.next) : Option Value) := bxW0.cell (j := 1) rfl
   have ybxW02 : _ = (some (.bool L0.out) : Option Value) := bxW0.cell (j := 2) rfl
   have ybxW03 : _ = (some (.slice AW0_3 L0.list.length cW0_3) : Option Value) := bxW0.cell (j := 3) rfl
   go_wp2_with fail
   clear ybxH00 ybxH01 ybxH02 ybxH03 ybxW00 ybxW01 ybxW02 ybxW03
   refine (eqRi _ _ L0 _ oH0.read oW0.read hs0).mono ?_
   rintro e u24 ⟨rfl, b24⟩
   have oW0 := oW0.past b24
   have oG0 := oG0.past b24
   have oH0 := oH0.past b24
   have bxA0 := bxA0.past b24
   have bxA1 := bxA1.past b24
   have bxW0 := bxW0.past b24
   have bxX0 := bxX0.past b24
   have bxX1 := bxX1.past b24
   have bxG0 := bxG0.past b24
   have bxH0 := bxH0.past b24
   have z24 := b24.size
   have D24 := D23.trans (b24.mono D23.size)
   have ybxG00 : _ = (some (.int .i64 L0.cap) : Option Value) := bxG0.cell (j := 0) rfl
   have ybxG01 : _ = (some (.int .i64 L0.next) : Option Value) := bxG0.cell (j := 1) rfl
   have ybxG02 : _ = (some (.bool L0.out) : Option Value) := bxG0.cell (j := 2) rfl
   have ybxG03 : _ = (some (.slice AG0_3 L0.list.length cG0_3) : Option Value) := bxG0.cell (j := 3) rfl
   go_wp2_with fail
   clear ybxG00 ybxG01 ybxG02 ybxG03
   refine (heldRi _ L0 (1) _ oG0.read (by omega) (by omega) hs0).mono ?_
   rintro e u25 ⟨rfl, b25⟩
   rw [HN0.out]
   have oW0 := oW0.past b25
   have oG0 := oG0.past b25
   have oH0 := oH0.past b25
   have bxA0 := bxA0.past b25
   have bxA1 := bxA1.past b25
   have bxW0 := bxW0.past b25
   have bxX0 := bxX0.past b25
   have bxX1 := bxX1.past b25
   have bxG0 := bxG0.past b25
   have bxH0 := bxH0.past b25
   have z25 := b25.size
   have D25 := D24.trans (b25.mono D24.size)
   go_wp2
   go_ret
   exact ⟨rfl, D25⟩
  refine AllReadyH.cons (o := ⟨some 6, _, _, _, _, _⟩) rfl (fun K hK => ?_) AllReadyH.nil
  go_simp
  have b9 := alloc_below u3 (.cells #[.int .i64 0, .int .i64 0, .bool false, .slice none 0 0] 32)
  have o3 := o3.past b9
  have bx9 := Bx.new u3 #[.int .i64 0, .int .i64 0, .bool false, .slice none 0 0] 32
  have zg := hS.size
  have zy : (u3.alloc (.cells #[.int .i64 0, .int .i64 0, .bool false, .slice none 0 0] 32)).heap.size = u3.heap.size + 1 := World.size_alloc _ _
  have hT := hS.trans (b9.mono hS.size)
  clear hS b9
  refine hK.out _ _ hT (fun hS => ?_)
  clear hK K hT
  try simp only [Act.put, pa, pb, pc]
  generalize u3.alloc (.cells #[.int .i64 0, .int .i64 0, .bool false, .slice none 0 0] 32) = W9 at o3 bx9 zy hS ⊢
  refine low.r1 3 (some 27) rfl (fun K hK => ?_)
  go_simp
  refine (toEn _ x1 _ (R1.past (D2.trans (hS.mono D2.size))) S1).mono ?_
  rintro e u4 ⟨v4, rfl, o4, b4⟩
  obtain ⟨A4_2, c4_2, rfl, _⟩ := aggEn o4.read
  have o3 := o3.past b4
  have bx9 := bx9.past b4
  have zz4 := b4.size
  have hT := hS.trans (b4.mono hS.size)
  clear hS b4
  refine hK.out _ _ hT (fun hS => ?_)
  clear hK K hT
  try simp only [Act.put, pa, pb, pc]
  refine low.r1 4 (some 28) rfl (fun K hK => ?_)
  go_simp
  refine (specRingPush_d _ _ x0 x1 _ (by exact o3.read) (by exact o4.read) S0 S1).mono ?_
  rintro e u5 ⟨v5, rfl, oW00, b5⟩
  obtain ⟨AW0_3, cW0_3, rfl, _⟩ := aggRi oW00.read
  have o3 := o3.past b5
  have o4 := o4.past b5
  have bx9 := bx9.past b5
  have zz5 := b5.size
  have hT := hS.trans (b5.mono hS.size)
  clear hS b5
  refine hK.out _ _ hT (fun hS => ?_)
  clear hK K hT
  try simp only [Act.put, pa, pb, pc]
  refine low.r1 6 none rfl (fun K hK => ?_)
  have kq0 := bx9.cell (j := 0) rfl
  have fq0 := bxfree (j := 0) bx9
  have kq1 := bx9.cell (j := 1) rfl
  have fq1 := bxfree (j := 1) bx9
  have kq2 := bx9.cell (j := 2) rfl
  have fq2 := bxfree (j := 2) bx9
  have kq3 := bx9.cell (j := 3) rfl
  have fq3 := bxfree (j := 3) bx9
  go_simp
  clear kq0 fq0 kq1 fq1 kq2 fq2 kq3 fq3
  have hT : Below u2.heap.size u2 ((((u5.setCell ⟨u3.heap.size, 0, none⟩ (.int .i64 (ringPushT x0 x1).cap)).setCell ⟨u3.heap.size, 1, none⟩ (.int .i64 (ringPushT x0 x1).next)).setCell ⟨u3.heap.size, 2, none⟩ (.bool (ringPushT x0 x1).out)).setCell ⟨u3.heap.size, 3, none⟩ (.slice AW0_3 (ringPushT x0 x1).list.length cW0_3)) := putRow_below (lo := u2.heap.size) zg [.int .i64 (ringPushT x0 x1).cap, .int .i64 (ringPushT x0 x1).next, .bool (ringPushT x0 x1).out, .slice AW0_3 (ringPushT x0 x1).list.length cW0_3] _ 0 hS
  have bx8 : Bx ((((u5.setCell ⟨u3.heap.size, 0, none⟩ (.int .i64 (ringPushT x0 x1).cap)).setCell ⟨u3.heap.size, 1, none⟩ (.int .i64 (ringPushT x0 x1).next)).setCell ⟨u3.heap.size, 2, none⟩ (.bool (ringPushT x0 x1).out)).setCell ⟨u3.heap.size, 3, none⟩ (.slice AW0_3 (ringPushT x0 x1).list.length cW0_3)) (u3.heap.size) #[.int .i64 (ringPushT x0 x1).cap, .int .i64 (ringPushT x0 x1).next, .bool (ringPushT x0 x1).out, .slice AW0_3 (ringPushT x0 x1).list.length cW0_3] 32 := putRow_cells (ys := [.int .i64 (ringPushT x0 x1).cap, .int .i64 (ringPushT x0 x1).next, .bool (ringPushT x0 x1).out, .slice AW0_3 (ringPushT x0 x1).list.length cW0_3]) (cs := #[.int .i64 0, .int .i64 0, .bool false, .slice none 0 0]) (o := 0) rfl bx9
  have oW01 : Own _ _ ((((u5.setCell ⟨u3.heap.size, 0, none⟩ (.int .i64 (ringPushT x0 x1).cap)).setCell ⟨u3.heap.size, 1, none⟩ (.int .i64 (ringPushT x0 x1).next)).setCell ⟨u3.heap.size, 2, none⟩ (.bool (ringPushT x0 x1).out)).setCell ⟨u3.heap.size, 3, none⟩ (.slice AW0_3 (ringPushT x0 x1).list.length cW0_3)) _ _ := Own.putRow (g := u3.heap.size) (by omega) [.int .i64 (ringPushT x0 x1).cap, .int .i64 (ringPushT x0 x1).next, .bool (ringPushT x0 x1).out, .slice AW0_3 (ringPushT x0 x1).list.length cW0_3] _ 0 oW00
  have zw : ((((u5.setCell ⟨u3.heap.size, 0, none⟩ (.int .i64 (ringPushT x0 x1).cap)).setCell ⟨u3.heap.size, 1, none⟩ (.int .i64 (ringPushT x0 x1).next)).setCell ⟨u3.heap.size, 2, none⟩ (.bool (ringPushT x0 x1).out)).setCell ⟨u3.heap.size, 3, none⟩ (.slice AW0_3 (ringPushT x0 x1).list.length cW0_3)).heap.size = u5.heap.size := putRow_size _ [.int .i64 (ringPushT x0 x1).cap, .int .i64 (ringPushT x0 x1).next, .bool (ringPushT x0 x1).out, .slice AW0_3 (ringPushT x0 x1).list.length cW0_3] _ 0
  clear hS bx9 oW00
  refine hK.out _ _ hT (fun hS => ?_)
  clear hK K hT
  try simp only [Act.put]
  generalize ((((u5.setCell ⟨u3.heap.size, 0, none⟩ (.int .i64 (ringPushT x0 x1).cap)).setCell ⟨u3.heap.size, 1, none⟩ (.int .i64 (ringPushT x0 x1).next)).setCell ⟨u3.heap.size, 2, none⟩ (.bool (ringPushT x0 x1).out)).setCell ⟨u3.heap.size, 3, none⟩ (.slice AW0_3 (ringPushT x0 x1).list.length cW0_3)) = u6 at oW01 bx8 zw hS ⊢
  refine wpAnyH_done (by kernel_rfl) ?_ _
  have HK6 := hS
  clear hS
  clear o3 o4
  clear YbxA0 YbxA1
  have bxA0 := bxA0.past HK6
  have bxA1 := bxA1.past HK6
  have z6 := HK6.size
  have D6 := D2.trans (HK6.mono D2.size)
  obtain ⟨k6, oW0⟩ := oW01.blocks
  have bxW0 := bx8
  clear oW01 bx8
  have hs0 : SmRi (ringPushT x0 x1) := ringPush_small S0 S1
  generalize hL0 : (ringPushT x0 x1) = L0 at *
  have HL0 := Lib.hid hL0
  clear hL0
  have hc0 := cntRi hs0
  generalize hn0 : cntC (datRi L0) = n0 at *
  have HN0 := Lib.hid hn0
  clear hn0
  have nm0 : (((1 : Int) + (n0 : Int)) != ((1 : Int) + (n0 : Int))) = false := by simp
  have ybxA00 : _ = (some (.int .i64 x0.cap) : Option Value) := bxA0.cell (j := 0) rfl
  have ybxA01 : _ = (some (.int .i64 x0.next) : Option Value) := bxA0.cell (j := 1) rfl
  have ybxA02 : _ = (some (.bool x0.out) : Option Value) := bxA0.cell (j := 2) rfl
  have ybxA03 : _ = (some (.slice AA0_3 x0.list.length cA0_3) : Option Value) := bxA0.cell (j := 3) rfl
  go_wp2_with fail
  clear ybxA00 ybxA01 ybxA02 ybxA03
  refine (toRi _ x0 _ (R0.past D6) S0).mono ?_
  rintro e u7 ⟨v7, rfl, oX00, b7⟩
  obtain ⟨k7, oX0⟩ := oX00.blocks
  clear oX00
  obtain ⟨A7_3, c7_3, rfl, _⟩ := aggRi oX0.read
  have oW0 := oW0.past b7
  have bxA0 := bxA0.past b7
  have bxA1 := bxA1.past b7
  have bxW0 := bxW0.past b7
  have z7 := b7.size
  have D7 := D6.trans (b7.mono D6.size)
  have bxA0P := bxA0
  have bxA0L := bxA0.lt
  have bxA1P := bxA1
  have bxA1L := bxA1.lt
  have bxW0P := bxW0
  have bxW0L := bxW0.lt
  have ba7 := alloc_below u7 (.cells #[.int .i64 x0.cap, .int .i64 x0.next, .bool x0.out, .slice A7_3 x0.list.length c7_3] 32)
  have oW0 := oW0.past ba7
  have oX0 := oX0.past ba7
  have bxA0 := bxA0.past ba7
  have bxA1 := bxA1.past ba7
  have bxW0 := bxW0.past ba7
  have bxX0 := Bx.new u7 #[.int .i64 x0.cap, .int .i64 x0.next, .bool x0.out, .slice A7_3 x0.list.length c7_3] 32
  have zu7 : (u7.alloc (.cells #[.int .i64 x0.cap, .int .i64 x0.next, .bool x0.out, .slice A7_3 x0.list.length c7_3] 32)).heap.size = u7.heap.size + 1 := World.size_alloc _ _
  have Da7 := D7.trans (ba7.mono D7.size)
  clear ba7
  have ybxA10 : _ = (some (.int .i64 x1.client) : Option Value) := bxA1P.cell (j := 0) rfl
  have ybxA11 : _ = (some (.int .i64 x1.seq) : Option Value) := bxA1P.cell (j := 1) rfl
  have ybxA12 : _ = (some (.slice AA1_2 x1.o.length cA1_2) : Option Value) := bxA1P.cell (j := 2) rfl
  go_wp2_with fail
  generalize u7.alloc (.cells #[.int .i64 x0.cap, .int .i64 x0.next, .bool x0.out, .slice A7_3 x0.list.length c7_3] 32) = v7_ at oW0 oX0 bxA0 bxA1 bxW0 bxX0 zu7 Da7 ⊢
  clear bxA0P bxA0L
  clear bxA1P bxA1L
  clear bxW0P bxW0L
  clear ybxA10 ybxA11 ybxA12
  refine (toEn _ x1 _ (R1.past Da7) S1).mono ?_
  rintro e u8 ⟨v8, rfl, oX10, b8⟩
  obtain ⟨k8, oX1⟩ := oX10.blocks
  clear oX10
  obtain ⟨A8_2, c8_2, rfl, _⟩ := aggEn oX1.read
  have oW0 := oW0.past b8
  have oX0 := oX0.past b8
  have bxA0 := bxA0.past b8
  have bxA1 := bxA1.past b8
  have bxW0 := bxW0.past b8
  have bxX0 := bxX0.past b8
  have z8 := b8.size
  have D8 := Da7.trans (b8.mono Da7.size)
  have bxA0P := bxA0
  have bxA0L := bxA0.lt
  have bxA1P := bxA1
  have bxA1L := bxA1.lt
  have bxW0P := bxW0
  have bxW0L := bxW0.lt
  have bxX0P := bxX0
  have bxX0L := bxX0.lt
  have ba8 := alloc_below u8 (.cells #[.int .i64 x1.client, .int .i64 x1.seq, .slice A8_2 x1.o.length c8_2] 37)
  have oW0 := oW0.past ba8
  have oX0 := oX0.past ba8
  have oX1 := oX1.past ba8
  have bxA0 := bxA0.past ba8
  have bxA1 := bxA1.past ba8
  have bxW0 := bxW0.past ba8
  have bxX0 := bxX0.past ba8
  have bxX1 := Bx.new u8 #[.int .i64 x1.client, .int .i64 x1.seq, .slice A8_2 x1.o.length c8_2] 37
  have zu8 : (u8.alloc (.cells #[.int .i64 x1.client, .int .i64 x1.seq, .slice A8_2 x1.o.length c8_2] 37)).heap.size = u8.heap.size + 1 := World.size_alloc _ _
  have Da8 := D8.trans (ba8.mono D8.size)
  clear ba8
  have ybxX00 : _ = (some (.int .i64 x0.cap) : Option Value) := bxX0P.cell (j := 0) rfl
  have ybxX01 : _ = (some (.int .i64 x0.next) : Option Value) := bxX0P.cell (j := 1) rfl
  have ybxX02 : _ = (some (.bool x0.out) : Option Value) := bxX0P.cell (j := 2) rfl
  have ybxX03 : _ = (some (.slice A7_3 x0.list.length c7_3) : Option Value) := bxX0P.cell (j := 3) rfl
  go_wp2_with fail
  generalize u8.alloc (.cells #[.int .i64 x1.client, .int .i64 x1.seq, .slice A8_2 x1.o.length c8_2] 37) = v8_ at oW0 oX0 oX1 bxA0 bxA1 bxW0 bxX0 bxX1 zu8 Da8 ⊢
  clear bxA0P bxA0L
  clear bxA1P bxA1L
  clear bxW0P bxW0L
  clear bxX0P bxX0L
  clear ybxX00 ybxX01 ybxX02 ybxX03
  refine (implRingPush_d _ _ x0 x1 _ oX0.read oX1.read S0 S1).mono ?_
  rw [HL0.out]
  rintro e u9 ⟨v9, rfl, oG00, b9⟩
  have oW0 := oW0.past b9
  have oX0 := oX0.past b9
  have oX1 := oX1.past b9
  have bxA0 := bxA0.past b9
  have bxA1 := bxA1.past b9
  have bxW0 := bxW0.past b9
  have bxX0 := bxX0.past b9
  have bxX1 := bxX1.past b9
  obtain ⟨k9, oG0⟩ := oG00.blocks
  clear oG00
  have z9 := b9.size
  have D9 := Da8.trans (b9.mono Da8.size)
  obtain ⟨AG0_3, cG0_3, rfl, _⟩ := aggRi oG0.read
  have bxA0P := bxA0
  have bxA0L := bxA0.lt
  have bxA1P := bxA1
  have bxA1L := bxA1.lt
  have bxW0P := bxW0
  have bxW0L := bxW0.lt
  have bxX0P := bxX0
  have bxX0L := bxX0.lt
  have bxX1P := bxX1
  have bxX1L := bxX1.lt
  have ba9 := alloc_below u9 (.cells #[.int .i64 L0.cap, .int .i64 L0.next, .bool L0.out, .slice AG0_3 L0.list.length cG0_3] 32)
  have oW0 := oW0.past ba9
  have oX0 := oX0.past ba9
  have oX1 := oX1.past ba9
  have oG0 := oG0.past ba9
  have bxA0 := bxA0.past ba9
  have bxA1 := bxA1.past ba9
  have bxW0 := bxW0.past ba9
  have bxX0 := bxX0.past ba9
  have bxX1 := bxX1.past ba9
  have bxG0 := Bx.new u9 #[.int .i64 L0.cap, .int .i64 L0.next, .bool L0.out, .slice AG0_3 L0.list.length cG0_3] 32
  have zu9 : (u9.alloc (.cells #[.int .i64 L0.cap, .int .i64 L0.next, .bool L0.out, .slice AG0_3 L0.list.length cG0_3] 32)).heap.size = u9.heap.size + 1 := World.size_alloc _ _
  have Da9 := D9.trans (ba9.mono D9.size)
  clear ba9
  have HAG := Lib.hid (show ∀ (x0_ : Value) (x1_ : Value) (u : World), RdC u u.heap.size (datRi x0) x0_ → RdC u u.heap.size (datEn x1) x1_ → Calls Tryz.prog 10 #[x0_, x1_] u (OwnPost (datRi L0) u) from fun x0_ x1_ u h0_ h1_ => by rw [← HL0.out]; exact implRingPush_d x0_ x1_ x0 x1 u h0_ h1_ S0 S1 )
  have ybxW00 : _ = (some (.int .i64 L0.cap) : Option Value) := bxW0P.cell (j := 0) rfl
  have ybxW01 : _ = (some (.int .i64 L0.next) : Option Value) := bxW0P.cell (j := 1) rfl
  have ybxW02 : _ = (some (.bool L0.out) : Option Value) := bxW0P.cell (j := 2) rfl
  have ybxW03 : _ = (some (.slice AW0_3 L0.list.length cW0_3) : Option Value) := bxW0P.cell (j := 3) rfl
  go_wp2_with fail
  generalize u9.alloc (.cells #[.int .i64 L0.cap, .int .i64 L0.next, .bool L0.out, .slice AG0_3 L0.list.length cG0_3] 32) = v9_ at oW0 oX0 oX1 oG0 bxA0 bxA1 bxW0 bxX0 bxX1 bxG0 zu9 Da9 ⊢
  clear bxA0P bxA0L
  clear bxA1P bxA1L
  clear bxW0P bxW0L
  clear bxX0P bxX0L
  clear bxX1P bxX1L
  clear ybxW00 ybxW01 ybxW02 ybxW03
  refine (eqRi _ _ L0 _ oG0.read oW0.read hs0).mono ?_
  rintro e u10 ⟨rfl, b10⟩
  have oW0 := oW0.past b10
  have oX0 := oX0.past b10
  have oX1 := oX1.past b10
  have oG0 := oG0.past b10
  have bxA0 := bxA0.past b10
  have bxA1 := bxA1.past b10
  have bxW0 := bxW0.past b10
  have bxX0 := bxX0.past b10
  have bxX1 := bxX1.past b10
  have bxG0 := bxG0.past b10
  have z10 := b10.size
  have D10 := Da9.trans (b10.mono Da9.size)
  have lbxX0 := bxX0.lt
  have ybxX00 : u10.cell? ⟨u7.heap.size, 0, none⟩ = some (.int .i64 x0.cap) := bxX0.cell (j := 0) rfl
  have ybxX01 : u10.cell? ⟨u7.heap.size, 1, none⟩ = some (.int .i64 x0.next) := bxX0.cell (j := 1) rfl
  have ybxX02 : u10.cell? ⟨u7.heap.size, 2, none⟩ = some (.bool x0.out) := bxX0.cell (j := 2) rfl
  have ybxX03 : u10.cell? ⟨u7.heap.size, 3, none⟩ = some (.slice A7_3 x0.list.length c7_3) := bxX0.cell (j := 3) rfl
  have lbxA0 := bxA0.lt
  have ybxA00 : u10.cell? ⟨w.heap.size, 0, none⟩ = some (.int .i64 x0.cap) := bxA0.cell (j := 0) rfl
  have ybxA01 : u10.cell? ⟨w.heap.size, 1, none⟩ = some (.int .i64 x0.next) := bxA0.cell (j := 1) rfl
  have ybxA02 : u10.cell? ⟨w.heap.size, 2, none⟩ = some (.bool x0.out) := bxA0.cell (j := 2) rfl
  have ybxA03 : u10.cell? ⟨w.heap.size, 3, none⟩ = some (.slice AA0_3 x0.list.length cA0_3) := bxA0.cell (j := 3) rfl
  have SX := Lib.hid (show ∀ (W W1 : World), (W.cell? ⟨u7.heap.size, 0, none⟩ = some (.int .i64 x0.cap) ∧ W.cell? ⟨u7.heap.size, 1, none⟩ = some (.int .i64 x0.next) ∧ W.cell? ⟨u7.heap.size, 2, none⟩ = some (.bool x0.out) ∧ W.cell? ⟨u7.heap.size, 3, none⟩ = some (.slice A7_3 x0.list.length c7_3) ∧ W.cell? ⟨w.heap.size, 0, none⟩ = some (.int .i64 x0.cap) ∧ W.cell? ⟨w.heap.size, 1, none⟩ = some (.int .i64 x0.next) ∧ W.cell? ⟨w.heap.size, 2, none⟩ = some (.bool x0.out) ∧ W.cell? ⟨w.heap.size, 3, none⟩ = some (.slice AA0_3 x0.list.length cA0_3) ∧ KS u10 W) → Below W.heap.size W W1 → (W1.cell? ⟨u7.heap.size, 0, none⟩ = some (.int .i64 x0.cap) ∧ W1.cell? ⟨u7.heap.size, 1, none⟩ = some (.int .i64 x0.next) ∧ W1.cell? ⟨u7.heap.size, 2, none⟩ = some (.bool x0.out) ∧ W1.cell? ⟨u7.heap.size, 3, none⟩ = some (.slice A7_3 x0.list.length c7_3) ∧ W1.cell? ⟨w.heap.size, 0, none⟩ = some (.int .i64 x0.cap) ∧ W1.cell? ⟨w.heap.size, 1, none⟩ = some (.int .i64 x0.next) ∧ W1.cell? ⟨w.heap.size, 2, none⟩ = some (.bool x0.out) ∧ W1.cell? ⟨w.heap.size, 3, none⟩ = some (.slice AA0_3 x0.list.length cA0_3) ∧ KS u10 W1) from fun W W1 h hb => by have hk := h.2.2.2.2.2.2.2.2; have hkk : KS u10 W1 := hk.trans (hb.mono hk.size); exact ⟨(hkk.cell (p := ⟨u7.heap.size, 0, none⟩) lbxX0).trans ybxX00, (hkk.cell (p := ⟨u7.heap.size, 1, none⟩) lbxX0).trans ybxX01, (hkk.cell (p := ⟨u7.heap.size, 2, none⟩) lbxX0).trans ybxX02, (hkk.cell (p := ⟨u7.heap.size, 3, none⟩) lbxX0).trans ybxX03, (hkk.cell (p := ⟨w.heap.size, 0, none⟩) lbxA0).trans ybxA00, (hkk.cell (p := ⟨w.heap.size, 1, none⟩) lbxA0).trans ybxA01, (hkk.cell (p := ⟨w.heap.size, 2, none⟩) lbxA0).trans ybxA02, (hkk.cell (p := ⟨w.heap.size, 3, none⟩) lbxA0).trans ybxA03, hkk⟩)
  have RX := Lib.hid (show ∀ (W : World), (W.cell? ⟨u7.heap.size, 0, none⟩ = some (.int .i64 x0.cap) ∧ W.cell? ⟨u7.heap.size, 1, none⟩ = some (.int .i64 x0.next) ∧ W.cell? ⟨u7.heap.size, 2, none⟩ = some (.bool x0.out) ∧ W.cell? ⟨u7.heap.size, 3, none⟩ = some (.slice A7_3 x0.list.length c7_3) ∧ W.cell? ⟨w.heap.size, 0, none⟩ = some (.int .i64 x0.cap) ∧ W.cell? ⟨w.heap.size, 1, none⟩ = some (.int .i64 x0.next) ∧ W.cell? ⟨w.heap.size, 2, none⟩ = some (.bool x0.out) ∧ W.cell? ⟨w.heap.size, 3, none⟩ = some (.slice AA0_3 x0.list.length cA0_3) ∧ KS u10 W) → RdC W W.heap.size (datRi x0) (.agg #[.int .i64 x0.cap, .int .i64 x0.next, .bool x0.out, .slice A7_3 x0.list.length c7_3]) from fun W h => by have hk : Below u10.heap.size u10 W := h.2.2.2.2.2.2.2.2; exact (oX0.past hk).read)
  have RA := Lib.hid (show ∀ (W : World), (W.cell? ⟨u7.heap.size, 0, none⟩ = some (.int .i64 x0.cap) ∧ W.cell? ⟨u7.heap.size, 1, none⟩ = some (.int .i64 x0.next) ∧ W.cell? ⟨u7.heap.size, 2, none⟩ = some (.bool x0.out) ∧ W.cell? ⟨u7.heap.size, 3, none⟩ = some (.slice A7_3 x0.list.length c7_3) ∧ W.cell? ⟨w.heap.size, 0, none⟩ = some (.int .i64 x0.cap) ∧ W.cell? ⟨w.heap.size, 1, none⟩ = some (.int .i64 x0.next) ∧ W.cell? ⟨w.heap.size, 2, none⟩ = some (.bool x0.out) ∧ W.cell? ⟨w.heap.size, 3, none⟩ = some (.slice AA0_3 x0.list.length cA0_3) ∧ KS u10 W) → RdC W W.heap.size (datRi x0) (.agg #[.int .i64 x0.cap, .int .i64 x0.next, .bool x0.out, .slice AA0_3 x0.list.length cA0_3]) from fun W h => by have hk : Below u10.heap.size u10 W := h.2.2.2.2.2.2.2.2; exact R0.past (D10.trans (hk.mono D10.size)))
  have hS0 : u10.drew.cell? ⟨u7.heap.size, 0, none⟩ = some (.int .i64 x0.cap) ∧ u10.drew.cell? ⟨u7.heap.size, 1, none⟩ = some (.int .i64 x0.next) ∧ u10.drew.cell? ⟨u7.heap.size, 2, none⟩ = some (.bool x0.out) ∧ u10.drew.cell? ⟨u7.heap.size, 3, none⟩ = some (.slice A7_3 x0.list.length c7_3) ∧ u10.drew.cell? ⟨w.heap.size, 0, none⟩ = some (.int .i64 x0.cap) ∧ u10.drew.cell? ⟨w.heap.size, 1, none⟩ = some (.int .i64 x0.next) ∧ u10.drew.cell? ⟨w.heap.size, 2, none⟩ = some (.bool x0.out) ∧ u10.drew.cell? ⟨w.heap.size, 3, none⟩ = some (.slice AA0_3 x0.list.length cA0_3) ∧ KS u10 u10.drew := ⟨ybxX00, ybxX01, ybxX02, ybxX03, ybxA00, ybxA01, ybxA02, ybxA03, KS.start _⟩
  clear ybxX00 ybxX01 ybxX02 ybxX03 ybxA00 ybxA01 ybxA02 ybxA03
  go_wp2
  go_region_held3 (fun W => W.cell? ⟨u7.heap.size, 0, none⟩ = some (.int .i64 x0.cap) ∧ W.cell? ⟨u7.heap.size, 1, none⟩ = some (.int .i64 x0.next) ∧ W.cell? ⟨u7.heap.size, 2, none⟩ = some (.bool x0.out) ∧ W.cell? ⟨u7.heap.size, 3, none⟩ = some (.slice A7_3 x0.list.length c7_3) ∧ W.cell? ⟨w.heap.size, 0, none⟩ = some (.int .i64 x0.cap) ∧ W.cell? ⟨w.heap.size, 1, none⟩ = some (.int .i64 x0.next) ∧ W.cell? ⟨w.heap.size, 2, none⟩ = some (.bool x0.out) ∧ W.cell? ⟨w.heap.size, 3, none⟩ = some (.slice AA0_3 x0.list.length cA0_3) ∧ KS u10 W)
   (first | assumption | exact hS0 | (exact SX.out _ _ (by assumption) b11) | (exact SX.out _ _ (by assumption) b12))
   (first | (go_at_call 8; refine (toRi _ x0 _ (by exact RA.out _ (by assumption)) S0).mono ?_; rintro e u11 ⟨v11, rfl, o11, b11⟩; obtain ⟨A11_3, c11_3, rfl, _⟩ := aggRi o11.read) | (go_at_call 11; refine (eqRi _ _ x0 _ (by exact RX.out _ (by assumption)) (by exact o11.read) S0).mono ?_; rintro e u12 ⟨rfl, b12⟩))
  rename_i hS2
  have HK12 : Below u10.heap.size u10 u12 := hS2.2.2.2.2.2.2.2.2
  clear hS2 hS0 SX RX RA
  clear lbxX0 lbxA0
  have oW0 := oW0.past HK12
  have oX0 := oX0.past HK12
  have oX1 := oX1.past HK12
  have oG0 := oG0.past HK12
  have bxA0 := bxA0.past HK12
  have bxA1 := bxA1.past HK12
  have bxW0 := bxW0.past HK12
  have bxX0 := bxX0.past HK12
  have bxX1 := bxX1.past HK12
  have bxG0 := bxG0.past HK12
  have z12 := HK12.size
  have D12 := D10.trans (HK12.mono D10.size)
  clear o11 b11 b12
  have lbxX1 := bxX1.lt
  have ybxX10 : u12.cell? ⟨u8.heap.size, 0, none⟩ = some (.int .i64 x1.client) := bxX1.cell (j := 0) rfl
  have ybxX11 : u12.cell? ⟨u8.heap.size, 1, none⟩ = some (.int .i64 x1.seq) := bxX1.cell (j := 1) rfl
  have ybxX12 : u12.cell? ⟨u8.heap.size, 2, none⟩ = some (.slice A8_2 x1.o.length c8_2) := bxX1.cell (j := 2) rfl
  have lbxA1 := bxA1.lt
  have ybxA10 : u12.cell? ⟨w.heap.size + 1, 0, none⟩ = some (.int .i64 x1.client) := bxA1.cell (j := 0) rfl
  have ybxA11 : u12.cell? ⟨w.heap.size + 1, 1, none⟩ = some (.int .i64 x1.seq) := bxA1.cell (j := 1) rfl
  have ybxA12 : u12.cell? ⟨w.heap.size + 1, 2, none⟩ = some (.slice AA1_2 x1.o.length cA1_2) := bxA1.cell (j := 2) rfl
  have SX := Lib.hid (show ∀ (W W1 : World), (W.cell? ⟨u8.heap.size, 0, none⟩ = some (.int .i64 x1.client) ∧ W.cell? ⟨u8.heap.size, 1, none⟩ = some (.int .i64 x1.seq) ∧ W.cell? ⟨u8.heap.size, 2, none⟩ = some (.slice A8_2 x1.o.length c8_2) ∧ W.cell? ⟨w.heap.size + 1, 0, none⟩ = some (.int .i64 x1.client) ∧ W.cell? ⟨w.heap.size + 1, 1, none⟩ = some (.int .i64 x1.seq) ∧ W.cell? ⟨w.heap.size + 1, 2, none⟩ = some (.slice AA1_2 x1.o.length cA1_2) ∧ KS u12 W) → Below W.heap.size W W1 → (W1.cell? ⟨u8.heap.size, 0, none⟩ = some (.int .i64 x1.client) ∧ W1.cell? ⟨u8.heap.size, 1, none⟩ = some (.int .i64 x1.seq) ∧ W1.cell? ⟨u8.heap.size, 2, none⟩ = some (.slice A8_2 x1.o.length c8_2) ∧ W1.cell? ⟨w.heap.size + 1, 0, none⟩ = some (.int .i64 x1.client) ∧ W1.cell? ⟨w.heap.size + 1, 1, none⟩ = some (.int .i64 x1.seq) ∧ W1.cell? ⟨w.heap.size + 1, 2, none⟩ = some (.slice AA1_2 x1.o.length cA1_2) ∧ KS u12 W1) from fun W W1 h hb => by have hk := h.2.2.2.2.2.2; have hkk : KS u12 W1 := hk.trans (hb.mono hk.size); exact ⟨(hkk.cell (p := ⟨u8.heap.size, 0, none⟩) lbxX1).trans ybxX10, (hkk.cell (p := ⟨u8.heap.size, 1, none⟩) lbxX1).trans ybxX11, (hkk.cell (p := ⟨u8.heap.size, 2, none⟩) lbxX1).trans ybxX12, (hkk.cell (p := ⟨w.heap.size + 1, 0, none⟩) lbxA1).trans ybxA10, (hkk.cell (p := ⟨w.heap.size + 1, 1, none⟩) lbxA1).trans ybxA11, (hkk.cell (p := ⟨w.heap.size + 1, 2, none⟩) lbxA1).trans ybxA12, hkk⟩)
  have RX := Lib.hid (show ∀ (W : World), (W.cell? ⟨u8.heap.size, 0, none⟩ = some (.int .i64 x1.client) ∧ W.cell? ⟨u8.heap.size, 1, none⟩ = some (.int .i64 x1.seq) ∧ W.cell? ⟨u8.heap.size, 2, none⟩ = some (.slice A8_2 x1.o.length c8_2) ∧ W.cell? ⟨w.heap.size + 1, 0, none⟩ = some (.int .i64 x1.client) ∧ W.cell? ⟨w.heap.size + 1, 1, none⟩ = some (.int .i64 x1.seq) ∧ W.cell? ⟨w.heap.size + 1, 2, none⟩ = some (.slice AA1_2 x1.o.length cA1_2) ∧ KS u12 W) → RdC W W.heap.size (datEn x1) (.agg #[.int .i64 x1.client, .int .i64 x1.seq, .slice A8_2 x1.o.length c8_2]) from fun W h => by have hk : Below u12.heap.size u12 W := h.2.2.2.2.2.2; exact (oX1.past hk).read)
  have RA := Lib.hid (show ∀ (W : World), (W.cell? ⟨u8.heap.size, 0, none⟩ = some (.int .i64 x1.client) ∧ W.cell? ⟨u8.heap.size, 1, none⟩ = some (.int .i64 x1.seq) ∧ W.cell? ⟨u8.heap.size, 2, none⟩ = some (.slice A8_2 x1.o.length c8_2) ∧ W.cell? ⟨w.heap.size + 1, 0, none⟩ = some (.int .i64 x1.client) ∧ W.cell? ⟨w.heap.size + 1, 1, none⟩ = some (.int .i64 x1.seq) ∧ W.cell? ⟨w.heap.size + 1, 2, none⟩ = some (.slice AA1_2 x1.o.length cA1_2) ∧ KS u12 W) → RdC W W.heap.size (datEn x1) (.agg #[.int .i64 x1.client, .int .i64 x1.seq, .slice AA1_2 x1.o.length cA1_2]) from fun W h => by have hk : Below u12.heap.size u12 W := h.2.2.2.2.2.2; exact R1.past (D12.trans (hk.mono D12.size)))
  have hS0 : u12.drew.cell? ⟨u8.heap.size, 0, none⟩ = some (.int .i64 x1.client) ∧ u12.drew.cell? ⟨u8.heap.size, 1, none⟩ = some (.int .i64 x1.seq) ∧ u12.drew.cell? ⟨u8.heap.size, 2, none⟩ = some (.slice A8_2 x1.o.length c8_2) ∧ u12.drew.cell? ⟨w.heap.size + 1, 0, none⟩ = some (.int .i64 x1.client) ∧ u12.drew.cell? ⟨w.heap.size + 1, 1, none⟩ = some (.int .i64 x1.seq) ∧ u12.drew.cell? ⟨w.heap.size + 1, 2, none⟩ = some (.slice AA1_2 x1.o.length cA1_2) ∧ KS u12 u12.drew := ⟨ybxX10, ybxX11, ybxX12, ybxA10, ybxA11, ybxA12, KS.start _⟩
  clear ybxX10 ybxX11 ybxX12 ybxA10 ybxA11 ybxA12
  go_wp2
  go_region_held3 (fun W => W.cell? ⟨u8.heap.size, 0, none⟩ = some (.int .i64 x1.client) ∧ W.cell? ⟨u8.heap.size, 1, none⟩ = some (.int .i64 x1.seq) ∧ W.cell? ⟨u8.heap.size, 2, none⟩ = some (.slice A8_2 x1.o.length c8_2) ∧ W.cell? ⟨w.heap.size + 1, 0, none⟩ = some (.int .i64 x1.client) ∧ W.cell? ⟨w.heap.size + 1, 1, none⟩ = some (.int .i64 x1.seq) ∧ W.cell? ⟨w.heap.size + 1, 2, none⟩ = some (.slice AA1_2 x1.o.length cA1_2) ∧ KS u12 W)
   (first | assumption | exact hS0 | (exact SX.out _ _ (by assumption) b13) | (exact SX.out _ _ (by assumption) b14))
   (first | (go_at_call 9; refine (toEn _ x1 _ (by exact RA.out _ (by assumption)) S1).mono ?_; rintro e u13 ⟨v13, rfl, o13, b13⟩; obtain ⟨A13_2, c13_2, rfl, _⟩ := aggEn o13.read) | (go_at_call 12; refine (eqEn _ _ x1 _ (by exact RX.out _ (by assumption)) (by exact o13.read) S1).mono ?_; rintro e u14 ⟨rfl, b14⟩))
  rename_i hS2
  have HK14 : Below u12.heap.size u12 u14 := hS2.2.2.2.2.2.2
  clear hS2 hS0 SX RX RA
  clear lbxX1 lbxA1
  have oW0 := oW0.past HK14
  have oX0 := oX0.past HK14
  have oX1 := oX1.past HK14
  have oG0 := oG0.past HK14
  have bxA0 := bxA0.past HK14
  have bxA1 := bxA1.past HK14
  have bxW0 := bxW0.past HK14
  have bxX0 := bxX0.past HK14
  have bxX1 := bxX1.past HK14
  have bxG0 := bxG0.past HK14
  have z14 := HK14.size
  have D14 := D12.trans (HK14.mono D12.size)
  clear o13 b13 b14
  have cx0 := cntRi S0
  have ybxX00 : _ = (some (.int .i64 x0.cap) : Option Value) := bxX0.cell (j := 0) rfl
  have ybxX01 : _ = (some (.int .i64 x0.next) : Option Value) := bxX0.cell (j := 1) rfl
  have ybxX02 : _ = (some (.bool x0.out) : Option Value) := bxX0.cell (j := 2) rfl
  have ybxX03 : _ = (some (.slice A7_3 x0.list.length c7_3) : Option Value) := bxX0.cell (j := 3) rfl
  go_wp2_with fail
  clear ybxX00 ybxX01 ybxX02 ybxX03
  refine (markRi _ x0 _ (1) _ oX0.ow oX0.nd (by omega) (by omega) S0).mono ?_
  rintro e u15 ⟨rfl, m15, e15_, b15, t15⟩
  have oW0 := oW0.past b15
  have oX0 := oX0.past b15
  have oX1 := oX1.past b15
  have oG0 := oG0.past b15
  have bxA0 := bxA0.past b15
  have bxA1 := bxA1.past b15
  have bxW0 := bxW0.past b15
  have bxX0 := bxX0.past b15
  have bxX1 := bxX1.past b15
  have bxG0 := bxG0.past b15
  have zb15 := b15.size
  have Db15 := D14.trans (b15.mono D14.size)
  have oW0 := oW0.apart oX0 t15 (by omega)
  have oX1 := oX1.apart oX0 t15 (by omega)
  have oG0 := oG0.apart oX0 t15 (by omega)
  have bxA0 := bxA0.apart oX0 t15 (by omega)
  have bxA1 := bxA1.apart oX0 t15 (by omega)
  have bxW0 := bxW0.apart oX0 t15 (by omega)
  have bxX0 := bxX0.apart oX0 t15 (by omega)
  have bxX1 := bxX1.apart oX0 t15 (by omega)
  have bxG0 := bxG0.apart oX0 t15 (by omega)
  have z15 := t15.size
  have D15 := Db15.trans (oX0.under t15 (by omega))
  clear oX0 m15
  generalize cntC (datRi x0) = nx0 at *
  have cx1 := cntEn S1
  have ybxX10 : _ = (some (.int .i64 x1.client) : Option Value) := bxX1.cell (j := 0) rfl
  have ybxX11 : _ = (some (.int .i64 x1.seq) : Option Value) := bxX1.cell (j := 1) rfl
  have ybxX12 : _ = (some (.slice A8_2 x1.o.length c8_2) : Option Value) := bxX1.cell (j := 2) rfl
  go_wp2_with fail
  clear ybxX10 ybxX11 ybxX12
  refine (markEn _ x1 _ (1 + (nx0 : Int)) _ oX1.ow oX1.nd (by omega) (by omega) S1).mono ?_
  rintro e u16 ⟨rfl, m16, e16_, b16, t16⟩
  have oW0 := oW0.past b16
  have oX1 := oX1.past b16
  have oG0 := oG0.past b16
  have bxA0 := bxA0.past b16
  have bxA1 := bxA1.past b16
  have bxW0 := bxW0.past b16
  have bxX0 := bxX0.past b16
  have bxX1 := bxX1.past b16
  have bxG0 := bxG0.past b16
  have zb16 := b16.size
  have Db16 := D15.trans (b16.mono D15.size)
  have oW0 := oW0.apart oX1 t16 (by omega)
  have oG0 := oG0.apart oX1 t16 (by omega)
  have bxA0 := bxA0.apart oX1 t16 (by omega)
  have bxA1 := bxA1.apart oX1 t16 (by omega)
  have bxW0 := bxW0.apart oX1 t16 (by omega)
  have bxX0 := bxX0.apart oX1 t16 (by omega)
  have bxX1 := bxX1.apart oX1 t16 (by omega)
  have bxG0 := bxG0.apart oX1 t16 (by omega)
  have z16 := t16.size
  have D16 := Db16.trans (oX1.under t16 (by omega))
  clear oX1 m16
  generalize cntC (datEn x1) = nx1 at *
  have ybxG00 : _ = (some (.int .i64 L0.cap) : Option Value) := bxG0.cell (j := 0) rfl
  have ybxG01 : _ = (some (.int .i64 L0.next) : Option Value) := bxG0.cell (j := 1) rfl
  have ybxG02 : _ = (some (.bool L0.out) : Option Value) := bxG0.cell (j := 2) rfl
  have ybxG03 : _ = (some (.slice AG0_3 L0.list.length cG0_3) : Option Value) := bxG0.cell (j := 3) rfl
  have ybxW00 : _ = (some (.int .i64 L0.cap) : Option Value) := bxW0.cell (j := 0) rfl
  have ybxW01 : _ = (some (.int .i64 L0.next) : Option Value) := bxW0.cell (j := 1) rfl
  have ybxW02 : _ = (some (.bool L0.out) : Option Value) := bxW0.cell (j := 2) rfl
  have ybxW03 : _ = (some (.slice AW0_3 L0.list.length cW0_3) : Option Value) := bxW0.cell (j := 3) rfl
  go_wp2_with fail
  clear ybxG00 ybxG01 ybxG02 ybxG03 ybxW00 ybxW01 ybxW02 ybxW03
  refine (eqRi _ _ L0 _ oG0.read oW0.read hs0).mono ?_
  rintro e u17 ⟨rfl, b17⟩
  have oW0 := oW0.past b17
  have oG0 := oG0.past b17
  have bxA0 := bxA0.past b17
  have bxA1 := bxA1.past b17
  have bxW0 := bxW0.past b17
  have bxX0 := bxX0.past b17
  have bxX1 := bxX1.past b17
  have bxG0 := bxG0.past b17
  have z17 := b17.size
  have D17 := D16.trans (b17.mono D16.size)
  have ybxG00 : _ = (some (.int .i64 L0.cap) : Option Value) := bxG0.cell (j := 0) rfl
  have ybxG01 : _ = (some (.int .i64 L0.next) : Option Value) := bxG0.cell (j := 1) rfl
  have ybxG02 : _ = (some (.bool L0.out) : Option Value) := bxG0.cell (j := 2) rfl
  have ybxG03 : _ = (some (.slice AG0_3 L0.list.length cG0_3) : Option Value) := bxG0.cell (j := 3) rfl
  go_wp2_with fail
  clear ybxG00 ybxG01 ybxG02 ybxG03
  refine (markRi _ L0 _ (1) _ oG0.ow oG0.nd (by omega) (by omega) hs0).mono ?_
  rintro e u18 ⟨rfl, m18, e18_, b18, t18⟩
  have oW0 := oW0.past b18
  have oG0 := oG0.past b18
  have bxA0 := bxA0.past b18
  have bxA1 := bxA1.past b18
  have bxW0 := bxW0.past b18
  have bxX0 := bxX0.past b18
  have bxX1 := bxX1.past b18
  have bxG0 := bxG0.past b18
  have zb18 := b18.size
  have Db18 := D17.trans (b18.mono D17.size)
  have oW0 := oW0.apart oG0 t18 (by omega)
  have bxA0 := bxA0.apart oG0 t18 (by omega)
  have bxA1 := bxA1.apart oG0 t18 (by omega)
  have bxW0 := bxW0.apart oG0 t18 (by omega)
  have bxX0 := bxX0.apart oG0 t18 (by omega)
  have bxX1 := bxX1.apart oG0 t18 (by omega)
  have bxG0 := bxG0.apart oG0 t18 (by omega)
  have z18 := t18.size
  have D18 := Db18.trans (oG0.under t18 (by omega))
  have oG0 := oG0.marked m18 t18
  rw [HN0.out]
  have ybxG00 : _ = (some (.int .i64 L0.cap) : Option Value) := bxG0.cell (j := 0) rfl
  have ybxG01 : _ = (some (.int .i64 L0.next) : Option Value) := bxG0.cell (j := 1) rfl
  have ybxG02 : _ = (some (.bool L0.out) : Option Value) := bxG0.cell (j := 2) rfl
  have ybxG03 : _ = (some (.slice AG0_3 L0.list.length cG0_3) : Option Value) := bxG0.cell (j := 3) rfl
  go_wp2_with fail
  clear ybxG00 ybxG01 ybxG02 ybxG03
  refine (heldRi _ L0 (1) _ oG0.read (by omega) (by omega) hs0).mono ?_
  rintro e u19 ⟨rfl, b19⟩
  rw [HN0.out]
  have oW0 := oW0.past b19
  have oG0 := oG0.past b19
  have bxA0 := bxA0.past b19
  have bxA1 := bxA1.past b19
  have bxW0 := bxW0.past b19
  have bxX0 := bxX0.past b19
  have bxX1 := bxX1.past b19
  have bxG0 := bxG0.past b19
  have z19 := b19.size
  have D19 := D18.trans (b19.mono D18.size)
  have lbxA0 := bxA0.lt
  have ybxA00 : u19.cell? ⟨w.heap.size, 0, none⟩ = some (.int .i64 x0.cap) := bxA0.cell (j := 0) rfl
  have ybxA01 : u19.cell? ⟨w.heap.size, 1, none⟩ = some (.int .i64 x0.next) := bxA0.cell (j := 1) rfl
  have ybxA02 : u19.cell? ⟨w.heap.size, 2, none⟩ = some (.bool x0.out) := bxA0.cell (j := 2) rfl
  have ybxA03 : u19.cell? ⟨w.heap.size, 3, none⟩ = some (.slice AA0_3 x0.list.length cA0_3) := bxA0.cell (j := 3) rfl
  have YbxA0 := Lib.hid (And.intro lbxA0 (And.intro ybxA00 (And.intro ybxA01 (And.intro ybxA02 (And.intro ybxA03 trivial)))))
  clear lbxA0 ybxA00 ybxA01 ybxA02 ybxA03
  have lbxA1 := bxA1.lt
  have ybxA10 : u19.cell? ⟨w.heap.size + 1, 0, none⟩ = some (.int .i64 x1.client) := bxA1.cell (j := 0) rfl
  have ybxA11 : u19.cell? ⟨w.heap.size + 1, 1, none⟩ = some (.int .i64 x1.seq) := bxA1.cell (j := 1) rfl
  have ybxA12 : u19.cell? ⟨w.heap.size + 1, 2, none⟩ = some (.slice AA1_2 x1.o.length cA1_2) := bxA1.cell (j := 2) rfl
  have YbxA1 := Lib.hid (And.intro lbxA1 (And.intro ybxA10 (And.intro ybxA11 (And.intro ybxA12 trivial))))
  clear lbxA1 ybxA10 ybxA11 ybxA12
  go_wp2
  refine wp_region_held_drew (S := fun W => Below u19.heap.size u19 W) (by kernel_rfl) (Below.refl _ _).drew (fun hS => ?_)
  generalize u19.drew = W0 at hS ⊢
  refine low.tk (v := ?_) 0 75 rfl (fun w' hS' => ?_) hS ?_
  rotate_left
  ·(try dsimp only at hS'); have q0 := (hS'.cell (p := ⟨w.heap.size, 0, none⟩) YbxA0.out.1).trans YbxA0.out.2.1; have q1 := (hS'.cell (p := ⟨w.heap.size, 1, none⟩) YbxA0.out.1).trans YbxA0.out.2.2.1; have q2 := (hS'.cell (p := ⟨w.heap.size, 2, none⟩) YbxA0.out.1).trans YbxA0.out.2.2.2.1; have q3 := (hS'.cell (p := ⟨w.heap.size, 3, none⟩) YbxA0.out.1).trans YbxA0.out.2.2.2.2.1; go_simp; all_goals (with_reducible rfl)
  try simp only [Act.put, pa, pb, pc]
  refine low.tk (v := ?_) 2 77 rfl (fun w' hS' => ?_) hS ?_
  rotate_left
  ·(try dsimp only at hS'); have q0 := (hS'.cell (p := ⟨w.heap.size + 1, 0, none⟩) YbxA1.out.1).trans YbxA1.out.2.1; have q1 := (hS'.cell (p := ⟨w.heap.size + 1, 1, none⟩) YbxA1.out.1).trans YbxA1.out.2.2.1; have q2 := (hS'.cell (p := ⟨w.heap.size + 1, 2, none⟩) YbxA1.out.1).trans YbxA1.out.2.2.2.1; go_simp; all_goals (with_reducible rfl)
  try simp only [Act.put, pa, pb, pc]
  refine wpAnyH_ready (rs := [1, 5]) (by kernel_rfl) (by simp) ?_
  refine AllReadyH.cons (o := ⟨some 76, _, _, _, _, _⟩) rfl (fun K hK => ?_) ?_
  ·go_simp
   refine (toRi _ x0 _ (R0.past (D19.trans (hS.mono D19.size))) S0).mono ?_
   rintro e u20 ⟨v20, rfl, o20, b20⟩
   obtain ⟨A20_3, c20_3, rfl, _⟩ := aggRi o20.read
   have zz20 := b20.size
   have hT := hS.trans (b20.mono hS.size)
   clear hS b20
   refine hK.out _ _ hT (fun hS => ?_)
   clear hK K hT
   try simp only [Act.put, pa, pb, pc]
   refine wpAnyH_ready (rs := [3, 5]) (by kernel_rfl) (by simp) ?_
   refine AllReadyH.cons (o := ⟨some 78, _, _, _, _, _⟩) rfl (fun K hK => ?_) ?_
   ·go_simp
    refine (toEn _ x1 _ (R1.past (D19.trans (hS.mono D19.size))) S1).mono ?_
    rintro e u21 ⟨v21, rfl, o21, b21⟩
    obtain ⟨A21_2, c21_2, rfl, _⟩ := aggEn o21.read
    have o20 := o20.past b21
    have zz21 := b21.size
    have hT := hS.trans (b21.mono hS.size)
    clear hS b21
    refine hK.out _ _ hT (fun hS => ?_)
    clear hK K hT
    try simp only [Act.put, pa, pb, pc]
    refine wpAnyH_ready (rs := [4, 5]) (by kernel_rfl) (by simp) ?_
    refine AllReadyH.cons (o := ⟨some 79, _, _, _, _, _⟩) rfl (fun K hK => ?_) ?_
    ·go_simp
     refine (HAG.out _ _ _ (by exact o20.read) (by exact o21.read)).mono ?_
     rintro e u22 ⟨v22, rfl, oH00, b22⟩
     obtain ⟨AH0_3, cH0_3, rfl, _⟩ := aggRi oH00.read
     have o20 := o20.past b22
     have o21 := o21.past b22
     have zz22 := b22.size
     have hT := hS.trans (b22.mono hS.size)
     clear hS b22
     refine hK.out _ _ hT (fun hS => ?_)
     clear hK K hT
     try simp only [Act.put, pa, pb, pc]
     refine low.r1 5 (some 13) rfl (fun K hK => ?_)
     go_simp
     have b9 := alloc_below u22 (.cells #[.int .i64 0, .int .i64 0, .bool false, .slice none 0 0] 32)
     have o20 := o20.past b9
     have o21 := o21.past b9
     have oH00 := oH00.past b9
     have bx9 := Bx.new u22 #[.int .i64 0, .int .i64 0, .bool false, .slice none 0 0] 32
     have zg := hS.size
     have zy : (u22.alloc (.cells #[.int .i64 0, .int .i64 0, .bool false, .slice none 0 0] 32)).heap.size = u22.heap.size + 1 := World.size_alloc _ _
     have hT := hS.trans (b9.mono hS.size)
     clear hS b9
     refine hK.out _ _ hT (fun hS => ?_)
     clear hK K hT
     try simp only [Act.put, pa, pb, pc]
     generalize u22.alloc (.cells #[.int .i64 0, .int .i64 0, .bool false, .slice none 0 0] 32) = W9 at o20 o21 oH00 bx9 zy hS ⊢
     refine low.r1 6 none rfl (fun K hK => ?_)
     have kq0 := bx9.cell (j := 0) rfl
     have fq0 := bxfree (j := 0) bx9
     have kq1 := bx9.cell (j := 1) rfl
     have fq1 := bxfree (j := 1) bx9
     have kq2 := bx9.cell (j := 2) rfl
     have fq2 := bxfree (j := 2) bx9
     have kq3 := bx9.cell (j := 3) rfl
     have fq3 := bxfree (j := 3) bx9
     go_simp
     clear kq0 fq0 kq1 fq1 kq2 fq2 kq3 fq3
     have hT : Below u19.heap.size u19 ((((W9.setCell ⟨u22.heap.size, 0, none⟩ (.int .i64 L0.cap)).setCell ⟨u22.heap.size, 1, none⟩ (.int .i64 L0.next)).setCell ⟨u22.heap.size, 2, none⟩ (.bool L0.out)).setCell ⟨u22.heap.size, 3, none⟩ (.slice AH0_3 L0.list.length cH0_3)) := putRow_below (lo := u19.heap.size) zg [.int .i64 L0.cap, .int .i64 L0.next, .bool L0.out, .slice AH0_3 L0.list.length cH0_3] _ 0 hS
     have bx8 : Bx ((((W9.setCell ⟨u22.heap.size, 0, none⟩ (.int .i64 L0.cap)).setCell ⟨u22.heap.size, 1, none⟩ (.int .i64 L0.next)).setCell ⟨u22.heap.size, 2, none⟩ (.bool L0.out)).setCell ⟨u22.heap.size, 3, none⟩ (.slice AH0_3 L0.list.length cH0_3)) (u22.heap.size) #[.int .i64 L0.cap, .int .i64 L0.next, .bool L0.out, .slice AH0_3 L0.list.length cH0_3] 32 := putRow_cells (ys := [.int .i64 L0.cap, .int .i64 L0.next, .bool L0.out, .slice AH0_3 L0.list.length cH0_3]) (cs := #[.int .i64 0, .int .i64 0, .bool false, .slice none 0 0]) (o := 0) rfl bx9
     have oH01 : Own _ _ ((((W9.setCell ⟨u22.heap.size, 0, none⟩ (.int .i64 L0.cap)).setCell ⟨u22.heap.size, 1, none⟩ (.int .i64 L0.next)).setCell ⟨u22.heap.size, 2, none⟩ (.bool L0.out)).setCell ⟨u22.heap.size, 3, none⟩ (.slice AH0_3 L0.list.length cH0_3)) _ _ := Own.putRow (g := u22.heap.size) (by omega) [.int .i64 L0.cap, .int .i64 L0.next, .bool L0.out, .slice AH0_3 L0.list.length cH0_3] _ 0 oH00
     have zw : ((((W9.setCell ⟨u22.heap.size, 0, none⟩ (.int .i64 L0.cap)).setCell ⟨u22.heap.size, 1, none⟩ (.int .i64 L0.next)).setCell ⟨u22.heap.size, 2, none⟩ (.bool L0.out)).setCell ⟨u22.heap.size, 3, none⟩ (.slice AH0_3 L0.list.length cH0_3)).heap.size = W9.heap.size := putRow_size _ [.int .i64 L0.cap, .int .i64 L0.next, .bool L0.out, .slice AH0_3 L0.list.length cH0_3] _ 0
     clear hS bx9 oH00
     refine hK.out _ _ hT (fun hS => ?_)
     clear hK K hT
     try simp only [Act.put]
     generalize ((((W9.setCell ⟨u22.heap.size, 0, none⟩ (.int .i64 L0.cap)).setCell ⟨u22.heap.size, 1, none⟩ (.int .i64 L0.next)).setCell ⟨u22.heap.size, 2, none⟩ (.bool L0.out)).setCell ⟨u22.heap.size, 3, none⟩ (.slice AH0_3 L0.list.length cH0_3)) = u23 at oH01 bx8 zw hS ⊢
     refine wpAnyH_done (by kernel_rfl) ?_ _
     have HK23 := hS
     clear hS
     clear o20 o21
     clear YbxA0 YbxA1
     have oW0 := oW0.past HK23
     have oG0 := oG0.past HK23
     have bxA0 := bxA0.past HK23
     have bxA1 := bxA1.past HK23
     have bxW0 := bxW0.past HK23
     have bxX0 := bxX0.past HK23
     have bxX1 := bxX1.past HK23
     have bxG0 := bxG0.past HK23
     have z23 := HK23.size
     have D23 := D19.trans (HK23.mono D19.size)
     obtain ⟨k23, oH0⟩ := oH01.blocks
     have bxH0 := bx8
     clear oH01 bx8
     have ybxH00 : _ = (some (.int .i64 L0.cap) : Option Value) := bxH0.cell (j := 0) rfl
     have ybxH01 : _ = (some (.int .i64 L0.next) : Option Value) := bxH0.cell (j := 1) rfl
     have ybxH02 : _ = (some (.bool L0.out) : Option Value) := bxH0.cell (j := 2) rfl
     have ybxH03 : _ = (some (.slice AH0_3 L0.list.length cH0_3) : Option Value) := bxH0.cell (j := 3) rfl
     have ybxW00 : _ = (some (.int .i64 L0.cap) : Option Value) := bxW0.cell (j := 0) rfl
     have ybxW01 : _ = (some (.int .i64 L0.next) : Option Value) := bxW0.cell (j := 1) rfl
     have ybxW02 : _ = (some (.bool L0.out) : Option Value) := bxW0.cell (j := 2) rfl
     have ybxW03 : _ = (some (.slice AW0_3 L0.list.length cW0_3) : Option Value) := bxW0.cell (j := 3) rfl
     go_wp2_with fail
     clear ybxH00 ybxH01 ybxH02 ybxH03 ybxW00 ybxW01 ybxW02 ybxW03
     refine (eqRi _ _ L0 _ oH0.read oW0.read hs0).mono ?_
     rintro e u24 ⟨rfl, b24⟩
     have oW0 := oW0.past b24
     have oG0 := oG0.past b24
     have oH0 := oH0.past b24
     have bxA0 := bxA0.past b24
     have bxA1 := bxA1.past b24
     have bxW0 := bxW0.past b24
     have bxX0 := bxX0.past b24
     have bxX1 := bxX1.past b24
     have bxG0 := bxG0.past b24
     have bxH0 := bxH0.past b24
     have z24 := b24.size
     have D24 := D23.trans (b24.mono D23.size)
     have ybxG00 : _ = (some (.int .i64 L0.cap) : Option Value) := bxG0.cell (j := 0) rfl
     have ybxG01 : _ = (some (.int .i64 L0.next) : Option Value) := bxG0.cell (j := 1) rfl
     have ybxG02 : _ = (some (.bool L0.out) : Option Value) := bxG0.cell (j := 2) rfl
     have ybxG03 : _ = (some (.slice AG0_3 L0.list.length cG0_3) : Option Value) := bxG0.cell (j := 3) rfl
     go_wp2_with fail
     clear ybxG00 ybxG01 ybxG02 ybxG03
     refine (heldRi _ L0 (1) _ oG0.read (by omega) (by omega) hs0).mono ?_
     rintro e u25 ⟨rfl, b25⟩
     rw [HN0.out]
     have oW0 := oW0.past b25
     have oG0 := oG0.past b25
     have oH0 := oH0.past b25
     have bxA0 := bxA0.past b25
     have bxA1 := bxA1.past b25
     have bxW0 := bxW0.past b25
     have bxX0 := bxX0.past b25
     have bxX1 := bxX1.past b25
     have bxG0 := bxG0.past b25
     have bxH0 := bxH0.past b25
     have z25 := b25.size
     have D25 := D24.trans (b25.mono D24.size)
     go_wp2
     go_ret
     exact ⟨rfl, D25⟩
    refine AllReadyH.cons (o := ⟨some 13, _, _, _, _, _⟩) rfl (fun K hK => ?_) AllReadyH.nil
    go_simp
    have b9 := alloc_below u21 (.cells #[.int .i64 0, .int .i64 0, .bool false, .slice none 0 0] 32)
    have o20 := o20.past b9
    have o21 := o21.past b9
    have bx9 := Bx.new u21 #[.int .i64 0, .int .i64 0, .bool false, .slice none 0 0] 32
    have zg := hS.size
    have zy : (u21.alloc (.cells #[.int .i64 0, .int .i64 0, .bool false, .slice none 0 0] 32)).heap.size = u21.heap.size + 1 := World.size_alloc _ _
    have hT := hS.trans (b9.mono hS.size)
    clear hS b9
    refine hK.out _ _ hT (fun hS => ?_)
    clear hK K hT
    try simp only [Act.put, pa, pb, pc]
    generalize u21.alloc (.cells #[.int .i64 0, .int .i64 0, .bool false, .slice none 0 0] 32) = W9 at o20 o21 bx9 zy hS ⊢
    refine low.r1 4 (some 79) rfl (fun K hK => ?_)
    go_simp
    refine (HAG.out _ _ _ (by exact o20.read) (by exact o21.read)).mono ?_
    rintro e u22 ⟨v22, rfl, oH00, b22⟩
    obtain ⟨AH0_3, cH0_3, rfl, _⟩ := aggRi oH00.read
    have o20 := o20.past b22
    have o21 := o21.past b22
    have bx9 := bx9.past b22
    have zz22 := b22.size
    have hT := hS.trans (b22.mono hS.size)
    clear hS b22
    refine hK.out _ _ hT (fun hS => ?_)
    clear hK K hT
    try simp only [Act.put, pa, pb, pc]
    refine low.r1 6 none rfl (fun K hK => ?_)
    have kq0 := bx9.cell (j := 0) rfl
    have fq0 := bxfree (j := 0) bx9
    have kq1 := bx9.cell (j := 1) rfl
    have fq1 := bxfree (j := 1) bx9
    have kq2 := bx9.cell (j := 2) rfl
    have fq2 := bxfree (j := 2) bx9
    have kq3 := bx9.cell (j := 3) rfl
    have fq3 := bxfree (j := 3) bx9
    go_simp
    clear kq0 fq0 kq1 fq1 kq2 fq2 kq3 fq3
    have hT : Below u19.heap.size u19 ((((u22.setCell ⟨u21.heap.size, 0, none⟩ (.int .i64 L0.cap)).setCell ⟨u21.heap.size, 1, none⟩ (.int .i64 L0.next)).setCell ⟨u21.heap.size, 2, none⟩ (.bool L0.out)).setCell ⟨u21.heap.size, 3, none⟩ (.slice AH0_3 L0.list.length cH0_3)) := putRow_below (lo := u19.heap.size) zg [.int .i64 L0.cap, .int .i64 L0.next, .bool L0.out, .slice AH0_3 L0.list.length cH0_3] _ 0 hS
    have bx8 : Bx ((((u22.setCell ⟨u21.heap.size, 0, none⟩ (.int .i64 L0.cap)).setCell ⟨u21.heap.size, 1, none⟩ (.int .i64 L0.next)).setCell ⟨u21.heap.size, 2, none⟩ (.bool L0.out)).setCell ⟨u21.heap.size, 3, none⟩ (.slice AH0_3 L0.list.length cH0_3)) (u21.heap.size) #[.int .i64 L0.cap, .int .i64 L0.next, .bool L0.out, .slice AH0_3 L0.list.length cH0_3] 32 := putRow_cells (ys := [.int .i64 L0.cap, .int .i64 L0.next, .bool L0.out, .slice AH0_3 L0.list.length cH0_3]) (cs := #[.int .i64 0, .int .i64 0, .bool false, .slice none 0 0]) (o := 0) rfl bx9
    have oH01 : Own _ _ ((((u22.setCell ⟨u21.heap.size, 0, none⟩ (.int .i64 L0.cap)).setCell ⟨u21.heap.size, 1, none⟩ (.int .i64 L0.next)).setCell ⟨u21.heap.size, 2, none⟩ (.bool L0.out)).setCell ⟨u21.heap.size, 3, none⟩ (.slice AH0_3 L0.list.length cH0_3)) _ _ := Own.putRow (g := u21.heap.size) (by omega) [.int .i64 L0.cap, .int .i64 L0.next, .bool L0.out, .slice AH0_3 L0.list.length cH0_3] _ 0 oH00
    have zw : ((((u22.setCell ⟨u21.heap.size, 0, none⟩ (.int .i64 L0.cap)).setCell ⟨u21.heap.size, 1, none⟩ (.int .i64 L0.next)).setCell ⟨u21.heap.size, 2, none⟩ (.bool L0.out)).setCell ⟨u21.heap.size, 3, none⟩ (.slice AH0_3 L0.list.length cH0_3)).heap.size = u22.heap.size := putRow_size _ [.int .i64 L0.cap, .int .i64 L0.next, .bool L0.out, .slice AH0_3 L0.list.length cH0_3] _ 0
    clear hS bx9 oH00
    refine hK.out _ _ hT (fun hS => ?_)
    clear hK K hT
    try simp only [Act.put]
    generalize ((((u22.setCell ⟨u21.heap.size, 0, none⟩ (.int .i64 L0.cap)).setCell ⟨u21.heap.size, 1, none⟩ (.int .i64 L0.next)).setCell ⟨u21.heap.size, 2, none⟩ (.bool L0.out)).setCell ⟨u21.heap.size, 3, none⟩ (.slice AH0_3 L0.list.length cH0_3)) = u23 at oH01 bx8 zw hS ⊢
    refine wpAnyH_done (by kernel_rfl) ?_ _
    have HK23 := hS
    clear hS
    clear o20 o21
    clear YbxA0 YbxA1
    have oW0 := oW0.past HK23
    have oG0 := oG0.past HK23
    have bxA0 := bxA0.past HK23
    have bxA1 := bxA1.past HK23
    have bxW0 := bxW0.past HK23
    have bxX0 := bxX0.past HK23
    have bxX1 := bxX1.past HK23
    have bxG0 := bxG0.past HK23
    have z23 := HK23.size
    have D23 := D19.trans (HK23.mono D19.size)
    obtain ⟨k23, oH0⟩ := oH01.blocks
    have bxH0 := bx8
    clear oH01 bx8
    have ybxH00 : _ = (some (.int .i64 L0.cap) : Option Value) := bxH0.cell (j := 0) rfl
    have ybxH01 : _ = (some (.int .i64 L0.next) : Option Value) := bxH0.cell (j := 1) rfl
    have ybxH02 : _ = (some (.bool L0.out) : Option Value) := bxH0.cell (j := 2) rfl
    have ybxH03 : _ = (some (.slice AH0_3 L0.list.length cH0_3) : Option Value) := bxH0.cell (j := 3) rfl
    have ybxW00 : _ = (some (.int .i64 L0.cap) : Option Value) := bxW0.cell (j := 0) rfl
    have ybxW01 : _ = (some (.int .i64 L0.next) : Option Value) := bxW0.cell (j := 1) rfl
    have ybxW02 : _ = (some (.bool L0.out) : Option Value) := bxW0.cell (j := 2) rfl
    have ybxW03 : _ = (some (.slice AW0_3 L0.list.length cW0_3) : Option Value) := bxW0.cell (j := 3) rfl
    go_wp2_with fail
    clear ybxH00 ybxH01 ybxH02 ybxH03 ybxW00 ybxW01 ybxW02 ybxW03
    refine (eqRi _ _ L0 _ oH0.read oW0.read hs0).mono ?_
    rintro e u24 ⟨rfl, b24⟩
    have oW0 := oW0.past b24
    have oG0 := oG0.past b24
    have oH0 := oH0.past b24
    have bxA0 := bxA0.past b24
    have bxA1 := bxA1.past b24
    have bxW0 := bxW0.past b24
    have bxX0 := bxX0.past b24
    have bxX1 := bxX1.past b24
    have bxG0 := bxG0.past b24
    have bxH0 := bxH0.past b24
    have z24 := b24.size
    have D24 := D23.trans (b24.mono D23.size)
    have ybxG00 : _ = (some (.int .i64 L0.cap) : Option Value) := bxG0.cell (j := 0) rfl
    have ybxG01 : _ = (some (.int .i64 L0.next) : Option Value) := bxG0.cell (j := 1) rfl
    have ybxG02 : _ = (some (.bool L0.out) : Option Value) := bxG0.cell (j := 2) rfl
    have ybxG03 : _ = (some (.slice AG0_3 L0.list.length cG0_3) : Option Value) := bxG0.cell (j := 3) rfl
    go_wp2_with fail
    clear ybxG00 ybxG01 ybxG02 ybxG03
    refine (heldRi _ L0 (1) _ oG0.read (by omega) (by omega) hs0).mono ?_
    rintro e u25 ⟨rfl, b25⟩
    rw [HN0.out]
    have oW0 := oW0.past b25
    have oG0 := oG0.past b25
    have oH0 := oH0.past b25
    have bxA0 := bxA0.past b25
    have bxA1 := bxA1.past b25
    have bxW0 := bxW0.past b25
    have bxX0 := bxX0.past b25
    have bxX1 := bxX1.past b25
    have bxG0 := bxG0.past b25
    have bxH0 := bxH0.past b25
    have z25 := b25.size
    have D25 := D24.trans (b25.mono D24.size)
    go_wp2
    go_ret
    exact ⟨rfl, D25⟩
   refine AllReadyH.cons (o := ⟨some 13, _, _, _, _, _⟩) rfl (fun K hK => ?_) AllReadyH.nil
   go_simp
   have b9 := alloc_below u20 (.cells #[.int .i64 0, .int .i64 0, .bool false, .slice none 0 0] 32)
   have o20 := o20.past b9
   have bx9 := Bx.new u20 #[.int .i64 0, .int .i64 0, .bool false, .slice none 0 0] 32
   have zg := hS.size
   have zy : (u20.alloc (.cells #[.int .i64 0, .int .i64 0, .bool false, .slice none 0 0] 32)).heap.size = u20.heap.size + 1 := World.size_alloc _ _
   have hT := hS.trans (b9.mono hS.size)
   clear hS b9
   refine hK.out _ _ hT (fun hS => ?_)
   clear hK K hT
   try simp only [Act.put, pa, pb, pc]
   generalize u20.alloc (.cells #[.int .i64 0, .int .i64 0, .bool false, .slice none 0 0] 32) = W9 at o20 bx9 zy hS ⊢
   refine low.r1 3 (some 78) rfl (fun K hK => ?_)
   go_simp
   refine (toEn _ x1 _ (R1.past (D19.trans (hS.mono D19.size))) S1).mono ?_
   rintro e u21 ⟨v21, rfl, o21, b21⟩
   obtain ⟨A21_2, c21_2, rfl, _⟩ := aggEn o21.read
   have o20 := o20.past b21
   have bx9 := bx9.past b21
   have zz21 := b21.size
   have hT := hS.trans (b21.mono hS.size)
   clear hS b21
   refine hK.out _ _ hT (fun hS => ?_)
   clear hK K hT
   try simp only [Act.put, pa, pb, pc]
   refine low.r1 4 (some 79) rfl (fun K hK => ?_)
   go_simp
   refine (HAG.out _ _ _ (by exact o20.read) (by exact o21.read)).mono ?_
   rintro e u22 ⟨v22, rfl, oH00, b22⟩
   obtain ⟨AH0_3, cH0_3, rfl, _⟩ := aggRi oH00.read
   have o20 := o20.past b22
   have o21 := o21.past b22
   have bx9 := bx9.past b22
   have zz22 := b22.size
   have hT := hS.trans (b22.mono hS.size)
   clear hS b22
   refine hK.out _ _ hT (fun hS => ?_)
   clear hK K hT
   try simp only [Act.put, pa, pb, pc]
   refine low.r1 6 none rfl (fun K hK => ?_)
   have kq0 := bx9.cell (j := 0) rfl
   have fq0 := bxfree (j := 0) bx9
   have kq1 := bx9.cell (j := 1) rfl
   have fq1 := bxfree (j := 1) bx9
   have kq2 := bx9.cell (j := 2) rfl
   have fq2 := bxfree (j := 2) bx9
   have kq3 := bx9.cell (j := 3) rfl
   have fq3 := bxfree (j := 3) bx9
   go_simp
   clear kq0 fq0 kq1 fq1 kq2 fq2 kq3 fq3
   have hT : Below u19.heap.size u19 ((((u22.setCell ⟨u20.heap.size, 0, none⟩ (.int .i64 L0.cap)).setCell ⟨u20.heap.size, 1, none⟩ (.int .i64 L0.next)).setCell ⟨u20.heap.size, 2, none⟩ (.bool L0.out)).setCell ⟨u20.heap.size, 3, none⟩ (.slice AH0_3 L0.list.length cH0_3)) := putRow_below (lo := u19.heap.size) zg [.int .i64 L0.cap, .int .i64 L0.next, .bool L0.out, .slice AH0_3 L0.list.length cH0_3] _ 0 hS
   have bx8 : Bx ((((u22.setCell ⟨u20.heap.size, 0, none⟩ (.int .i64 L0.cap)).setCell ⟨u20.heap.size, 1, none⟩ (.int .i64 L0.next)).setCell ⟨u20.heap.size, 2, none⟩ (.bool L0.out)).setCell ⟨u20.heap.size, 3, none⟩ (.slice AH0_3 L0.list.length cH0_3)) (u20.heap.size) #[.int .i64 L0.cap, .int .i64 L0.next, .bool L0.out, .slice AH0_3 L0.list.length cH0_3] 32 := putRow_cells (ys := [.int .i64 L0.cap, .int .i64 L0.next, .bool L0.out, .slice AH0_3 L0.list.length cH0_3]) (cs := #[.int .i64 0, .int .i64 0, .bool false, .slice none 0 0]) (o := 0) rfl bx9
   have oH01 : Own _ _ ((((u22.setCell ⟨u20.heap.size, 0, none⟩ (.int .i64 L0.cap)).setCell ⟨u20.heap.size, 1, none⟩ (.int .i64 L0.next)).setCell ⟨u20.heap.size, 2, none⟩ (.bool L0.out)).setCell ⟨u20.heap.size, 3, none⟩ (.slice AH0_3 L0.list.length cH0_3)) _ _ := Own.putRow (g := u20.heap.size) (by omega) [.int .i64 L0.cap, .int .i64 L0.next, .bool L0.out, .slice AH0_3 L0.list.length cH0_3] _ 0 oH00
   have zw : ((((u22.setCell ⟨u20.heap.size, 0, none⟩ (.int .i64 L0.cap)).setCell ⟨u20.heap.size, 1, none⟩ (.int .i64 L0.next)).setCell ⟨u20.heap.size, 2, none⟩ (.bool L0.out)).setCell ⟨u20.heap.size, 3, none⟩ (.slice AH0_3 L0.list.length cH0_3)).heap.size = u22.heap.size := putRow_size _ [.int .i64 L0.cap, .int .i64 L0.next, .bool L0.out, .slice AH0_3 L0.list.length cH0_3] _ 0
   clear hS bx9 oH00
   refine hK.out _ _ hT (fun hS => ?_)
   clear hK K hT
   try simp only [Act.put]
   generalize ((((u22.setCell ⟨u20.heap.size, 0, none⟩ (.int .i64 L0.cap)).setCell ⟨u20.heap.size, 1, none⟩ (.int .i64 L0.next)).setCell ⟨u20.heap.size, 2, none⟩ (.bool L0.out)).setCell ⟨u20.heap.size, 3, none⟩ (.slice AH0_3 L0.list.length cH0_3)) = u23 at oH01 bx8 zw hS ⊢
   refine wpAnyH_done (by kernel_rfl) ?_ _
   have HK23 := hS
   clear hS
   clear o20 o21
   clear YbxA0 YbxA1
   have oW0 := oW0.past HK23
   have oG0 := oG0.past HK23
   have bxA0 := bxA0.past HK23
   have bxA1 := bxA1.past HK23
   have bxW0 := bxW0.past HK23
   have bxX0 := bxX0.past HK23
   have bxX1 := bxX1.past HK23
   have bxG0 := bxG0.past HK23
   have z23 := HK23.size
   have D23 := D19.trans (HK23.mono D19.size)
   obtain ⟨k23, oH0⟩ := oH01.blocks
   have bxH0 := bx8
   clear oH01 bx8
   have ybxH00 : _ = (some (.int .i64 L0.cap) : Option Value) := bxH0.cell (j := 0) rfl
   have ybxH01 : _ = (some (.int .i64 L0.next) : Option Value) := bxH0.cell (j := 1) rfl
   have ybxH02 : _ = (some (.bool L0.out) : Option Value) := bxH0.cell (j := 2) rfl
   have ybxH03 : _ = (some (.slice AH0_3 L0.list.length cH0_3) : Option Value) := bxH0.cell (j := 3) rfl
   have ybxW00 : _ = (some (.int .i64 L0.cap) : Option Value) := bxW0.cell (j := 0) rfl
   have ybxW01 : _ = (some (.int .i64 L0.next) : Option Value) := bxW0.cell (j := 1) rfl
   have ybxW02 : _ = (some (.bool L0.out) : Option Value) := bxW0.cell (j := 2) rfl
   have ybxW03 : _ = (some (.slice AW0_3 L0.list.length cW0_3) : Option Value) := bxW0.cell (j := 3) rfl
   go_wp2_with fail
   clear ybxH00 ybxH01 ybxH02 ybxH03 ybxW00 ybxW01 ybxW02 ybxW03
   refine (eqRi _ _ L0 _ oH0.read oW0.read hs0).mono ?_
   rintro e u24 ⟨rfl, b24⟩
   have oW0 := oW0.past b24
   have oG0 := oG0.past b24
   have oH0 := oH0.past b24
   have bxA0 := bxA0.past b24
   have bxA1 := bxA1.past b24
   have bxW0 := bxW0.past b24
   have bxX0 := bxX0.past b24
   have bxX1 := bxX1.past b24
   have bxG0 := bxG0.past b24
   have bxH0 := bxH0.past b24
   have z24 := b24.size
   have D24 := D23.trans (b24.mono D23.size)
   have ybxG00 : _ = (some (.int .i64 L0.cap) : Option Value) := bxG0.cell (j := 0) rfl
   have ybxG01 : _ = (some (.int .i64 L0.next) : Option Value) := bxG0.cell (j := 1) rfl
   have ybxG02 : _ = (some (.bool L0.out) : Option Value) := bxG0.cell (j := 2) rfl
   have ybxG03 : _ = (some (.slice AG0_3 L0.list.length cG0_3) : Option Value) := bxG0.cell (j := 3) rfl
   go_wp2_with fail
   clear ybxG00 ybxG01 ybxG02 ybxG03
   refine (heldRi _ L0 (1) _ oG0.read (by omega) (by omega) hs0).mono ?_
   rintro e u25 ⟨rfl, b25⟩
   rw [HN0.out]
   have oW0 := oW0.past b25
   have oG0 := oG0.past b25
   have oH0 := oH0.past b25
   have bxA0 := bxA0.past b25
   have bxA1 := bxA1.past b25
   have bxW0 := bxW0.past b25
   have bxX0 := bxX0.past b25
   have bxX1 := bxX1.past b25
   have bxG0 := bxG0.past b25
   have bxH0 := bxH0.past b25
   have z25 := b25.size
   have D25 := D24.trans (b25.mono D24.size)
   go_wp2
   go_ret
   exact ⟨rfl, D25⟩
  refine AllReadyH.cons (o := ⟨some 13, _, _, _, _, _⟩) rfl (fun K hK => ?_) AllReadyH.nil
  go_simp
  have b9 := alloc_below W0 (.cells #[.int .i64 0, .int .i64 0, .bool false, .slice none 0 0] 32)
  have bx9 := Bx.new W0 #[.int .i64 0, .int .i64 0, .bool false, .slice none 0 0] 32
  have zg := hS.size
  have zy : (W0.alloc (.cells #[.int .i64 0, .int .i64 0, .bool false, .slice none 0 0] 32)).heap.size = W0.heap.size + 1 := World.size_alloc _ _
  have hT := hS.trans (b9.mono hS.size)
  clear hS b9
  refine hK.out _ _ hT (fun hS => ?_)
  clear hK K hT
  try simp only [Act.put, pa, pb, pc]
  generalize W0.alloc (.cells #[.int .i64 0, .int .i64 0, .bool false, .slice none 0 0] 32) = W9 at  bx9 zy hS ⊢
  refine low.r1 1 (some 76) rfl (fun K hK => ?_)
  go_simp
  refine (toRi _ x0 _ (R0.past (D19.trans (hS.mono D19.size))) S0).mono ?_
  rintro e u20 ⟨v20, rfl, o20, b20⟩
  obtain ⟨A20_3, c20_3, rfl, _⟩ := aggRi o20.read
  have bx9 := bx9.past b20
  have zz20 := b20.size
  have hT := hS.trans (b20.mono hS.size)
  clear hS b20
  refine hK.out _ _ hT (fun hS => ?_)
  clear hK K hT
  try simp only [Act.put, pa, pb, pc]
  refine low.r1 3 (some 78) rfl (fun K hK => ?_)
  go_simp
  refine (toEn _ x1 _ (R1.past (D19.trans (hS.mono D19.size))) S1).mono ?_
  rintro e u21 ⟨v21, rfl, o21, b21⟩
  obtain ⟨A21_2, c21_2, rfl, _⟩ := aggEn o21.read
  have o20 := o20.past b21
  have bx9 := bx9.past b21
  have zz21 := b21.size
  have hT := hS.trans (b21.mono hS.size)
  clear hS b21
  refine hK.out _ _ hT (fun hS => ?_)
  clear hK K hT
  try simp only [Act.put, pa, pb, pc]
  refine low.r1 4 (some 79) rfl (fun K hK => ?_)
  go_simp
  refine (HAG.out _ _ _ (by exact o20.read) (by exact o21.read)).mono ?_
  rintro e u22 ⟨v22, rfl, oH00, b22⟩
  obtain ⟨AH0_3, cH0_3, rfl, _⟩ := aggRi oH00.read
  have o20 := o20.past b22
  have o21 := o21.past b22
  have bx9 := bx9.past b22
  have zz22 := b22.size
  have hT := hS.trans (b22.mono hS.size)
  clear hS b22
  refine hK.out _ _ hT (fun hS => ?_)
  clear hK K hT
  try simp only [Act.put, pa, pb, pc]
  refine low.r1 6 none rfl (fun K hK => ?_)
  have kq0 := bx9.cell (j := 0) rfl
  have fq0 := bxfree (j := 0) bx9
  have kq1 := bx9.cell (j := 1) rfl
  have fq1 := bxfree (j := 1) bx9
  have kq2 := bx9.cell (j := 2) rfl
  have fq2 := bxfree (j := 2) bx9
  have kq3 := bx9.cell (j := 3) rfl
  have fq3 := bxfree (j := 3) bx9
  go_simp
  clear kq0 fq0 kq1 fq1 kq2 fq2 kq3 fq3
  have hT : Below u19.heap.size u19 ((((u22.setCell ⟨W0.heap.size, 0, none⟩ (.int .i64 L0.cap)).setCell ⟨W0.heap.size, 1, none⟩ (.int .i64 L0.next)).setCell ⟨W0.heap.size, 2, none⟩ (.bool L0.out)).setCell ⟨W0.heap.size, 3, none⟩ (.slice AH0_3 L0.list.length cH0_3)) := putRow_below (lo := u19.heap.size) zg [.int .i64 L0.cap, .int .i64 L0.next, .bool L0.out, .slice AH0_3 L0.list.length cH0_3] _ 0 hS
  have bx8 : Bx ((((u22.setCell ⟨W0.heap.size, 0, none⟩ (.int .i64 L0.cap)).setCell ⟨W0.heap.size, 1, none⟩ (.int .i64 L0.next)).setCell ⟨W0.heap.size, 2, none⟩ (.bool L0.out)).setCell ⟨W0.heap.size, 3, none⟩ (.slice AH0_3 L0.list.length cH0_3)) (W0.heap.size) #[.int .i64 L0.cap, .int .i64 L0.next, .bool L0.out, .slice AH0_3 L0.list.length cH0_3] 32 := putRow_cells (ys := [.int .i64 L0.cap, .int .i64 L0.next, .bool L0.out, .slice AH0_3 L0.list.length cH0_3]) (cs := #[.int .i64 0, .int .i64 0, .bool false, .slice none 0 0]) (o := 0) rfl bx9
  have oH01 : Own _ _ ((((u22.setCell ⟨W0.heap.size, 0, none⟩ (.int .i64 L0.cap)).setCell ⟨W0.heap.size, 1, none⟩ (.int .i64 L0.next)).setCell ⟨W0.heap.size, 2, none⟩ (.bool L0.out)).setCell ⟨W0.heap.size, 3, none⟩ (.slice AH0_3 L0.list.length cH0_3)) _ _ := Own.putRow (g := W0.heap.size) (by omega) [.int .i64 L0.cap, .int .i64 L0.next, .bool L0.out, .slice AH0_3 L0.list.length cH0_3] _ 0 oH00
  have zw : ((((u22.setCell ⟨W0.heap.size, 0, none⟩ (.int .i64 L0.cap)).setCell ⟨W0.heap.size, 1, none⟩ (.int .i64 L0.next)).setCell ⟨W0.heap.size, 2, none⟩ (.bool L0.out)).setCell ⟨W0.heap.size, 3, none⟩ (.slice AH0_3 L0.list.length cH0_3)).heap.size = u22.heap.size := putRow_size _ [.int .i64 L0.cap, .int .i64 L0.next, .bool L0.out, .slice AH0_3 L0.list.length cH0_3] _ 0
  clear hS bx9 oH00
  refine hK.out _ _ hT (fun hS => ?_)
  clear hK K hT
  try simp only [Act.put]
  generalize ((((u22.setCell ⟨W0.heap.size, 0, none⟩ (.int .i64 L0.cap)).setCell ⟨W0.heap.size, 1, none⟩ (.int .i64 L0.next)).setCell ⟨W0.heap.size, 2, none⟩ (.bool L0.out)).setCell ⟨W0.heap.size, 3, none⟩ (.slice AH0_3 L0.list.length cH0_3)) = u23 at oH01 bx8 zw hS ⊢
  refine wpAnyH_done (by kernel_rfl) ?_ _
  have HK23 := hS
  clear hS
  clear o20 o21
  clear YbxA0 YbxA1
  have oW0 := oW0.past HK23
  have oG0 := oG0.past HK23
  have bxA0 := bxA0.past HK23
  have bxA1 := bxA1.past HK23
  have bxW0 := bxW0.past HK23
  have bxX0 := bxX0.past HK23
  have bxX1 := bxX1.past HK23
  have bxG0 := bxG0.past HK23
  have z23 := HK23.size
  have D23 := D19.trans (HK23.mono D19.size)
  obtain ⟨k23, oH0⟩ := oH01.blocks
  have bxH0 := bx8
  clear oH01 bx8
  have ybxH00 : _ = (some (.int .i64 L0.cap) : Option Value) := bxH0.cell (j := 0) rfl
  have ybxH01 : _ = (some (.int .i64 L0.next) : Option Value) := bxH0.cell (j := 1) rfl
  have ybxH02 : _ = (some (.bool L0.out) : Option Value) := bxH0.cell (j := 2) rfl
  have ybxH03 : _ = (some (.slice AH0_3 L0.list.length cH0_3) : Option Value) := bxH0.cell (j := 3) rfl
  have ybxW00 : _ = (some (.int .i64 L0.cap) : Option Value) := bxW0.cell (j := 0) rfl
  have ybxW01 : _ = (some (.int .i64 L0.next) : Option Value) := bxW0.cell (j := 1) rfl
  have ybxW02 : _ = (some (.bool L0.out) : Option Value) := bxW0.cell (j := 2) rfl
  have ybxW03 : _ = (some (.slice AW0_3 L0.list.length cW0_3) : Option Value) := bxW0.cell (j := 3) rfl
  go_wp2_with fail
  clear ybxH00 ybxH01 ybxH02 ybxH03 ybxW00 ybxW01 ybxW02 ybxW03
  refine (eqRi _ _ L0 _ oH0.read oW0.read hs0).mono ?_
  rintro e u24 ⟨rfl, b24⟩
  have oW0 := oW0.past b24
  have oG0 := oG0.past b24
  have oH0 := oH0.past b24
  have bxA0 := bxA0.past b24
  have bxA1 := bxA1.past b24
  have bxW0 := bxW0.past b24
  have bxX0 := bxX0.past b24
  have bxX1 := bxX1.past b24
  have bxG0 := bxG0.past b24
  have bxH0 := bxH0.past b24
  have z24 := b24.size
  have D24 := D23.trans (b24.mono D23.size)
  have ybxG00 : _ = (some (.int .i64 L0.cap) : Option Value) := bxG0.cell (j := 0) rfl
  have ybxG01 : _ = (some (.int .i64 L0.next) : Option Value) := bxG0.cell (j := 1) rfl
  have ybxG02 : _ = (some (.bool L0.out) : Option Value) := bxG0.cell (j := 2) rfl
  have ybxG03 : _ = (some (.slice AG0_3 L0.list.length cG0_3) : Option Value) := bxG0.cell (j := 3) rfl
  go_wp2_with fail
  clear ybxG00 ybxG01 ybxG02 ybxG03
  refine (heldRi _ L0 (1) _ oG0.read (by omega) (by omega) hs0).mono ?_
  rintro e u25 ⟨rfl, b25⟩
  rw [HN0.out]
  have oW0 := oW0.past b25
  have oG0 := oG0.past b25
  have oH0 := oH0.past b25
  have bxA0 := bxA0.past b25
  have bxA1 := bxA1.past b25
  have bxW0 := bxW0.past b25
  have bxX0 := bxX0.past b25
  have bxX1 := bxX1.past b25
  have bxG0 := bxG0.past b25
  have bxH0 := bxH0.past b25
  have z25 := b25.size
  have D25 := D24.trans (b25.mono D24.size)
  go_wp2
  go_ret
  exact ⟨rfl, D25⟩
 refine AllReadyH.cons (o := ⟨some 6, _, _, _, _, _⟩) rfl (fun K hK => ?_) AllReadyH.nil
 go_simp
 have b9 := alloc_below W0 (.cells #[.int .i64 0, .int .i64 0, .bool false, .slice none 0 0] 32)
 have bx9 := Bx.new W0 #[.int .i64 0, .int .i64 0, .bool false, .slice none 0 0] 32
 have zg := hS.size
 have zy : (W0.alloc (.cells #[.int .i64 0, .int .i64 0, .bool false, .slice none 0 0] 32)).heap.size = W0.heap.size + 1 := World.size_alloc _ _
 have hT := hS.trans (b9.mono hS.size)
 clear hS b9
 refine hK.out _ _ hT (fun hS => ?_)
 clear hK K hT
 try simp only [Act.put, pa, pb, pc]
 generalize W0.alloc (.cells #[.int .i64 0, .int .i64 0, .bool false, .slice none 0 0] 32) = W9 at  bx9 zy hS ⊢
 refine low.r1 1 (some 25) rfl (fun K hK => ?_)
 go_simp
 refine (toRi _ x0 _ (R0.past (D2.trans (hS.mono D2.size))) S0).mono ?_
 rintro e u3 ⟨v3, rfl, o3, b3⟩
 obtain ⟨A3_3, c3_3, rfl, _⟩ := aggRi o3.read
 have bx9 := bx9.past b3
 have zz3 := b3.size
 have hT := hS.trans (b3.mono hS.size)
 clear hS b3
 refine hK.out _ _ hT (fun hS => ?_)
 clear hK K hT
 try simp only [Act.put, pa, pb, pc]
 refine low.r1 3 (some 27) rfl (fun K hK => ?_)
 go_simp
 refine (toEn _ x1 _ (R1.past (D2.trans (hS.mono D2.size))) S1).mono ?_
 rintro e u4 ⟨v4, rfl, o4, b4⟩
 obtain ⟨A4_2, c4_2, rfl, _⟩ := aggEn o4.read
 have o3 := o3.past b4
 have bx9 := bx9.past b4
 have zz4 := b4.size
 have hT := hS.trans (b4.mono hS.size)
 clear hS b4
 refine hK.out _ _ hT (fun hS => ?_)
 clear hK K hT
 try simp only [Act.put, pa, pb, pc]
 refine low.r1 4 (some 28) rfl (fun K hK => ?_)
 go_simp
 refine (specRingPush_d _ _ x0 x1 _ (by exact o3.read) (by exact o4.read) S0 S1).mono ?_
 rintro e u5 ⟨v5, rfl, oW00, b5⟩
 obtain ⟨AW0_3, cW0_3, rfl, _⟩ := aggRi oW00.read
 have o3 := o3.past b5
 have o4 := o4.past b5
 have bx9 := bx9.past b5
 have zz5 := b5.size
 have hT := hS.trans (b5.mono hS.size)
 clear hS b5
 refine hK.out _ _ hT (fun hS => ?_)
 clear hK K hT
 try simp only [Act.put, pa, pb, pc]
 refine low.r1 6 none rfl (fun K hK => ?_)
 have kq0 := bx9.cell (j := 0) rfl
 have fq0 := bxfree (j := 0) bx9
 have kq1 := bx9.cell (j := 1) rfl
 have fq1 := bxfree (j := 1) bx9
 have kq2 := bx9.cell (j := 2) rfl
 have fq2 := bxfree (j := 2) bx9
 have kq3 := bx9.cell (j := 3) rfl
 have fq3 := bxfree (j := 3) bx9
 go_simp
 clear kq0 fq0 kq1 fq1 kq2 fq2 kq3 fq3
 have hT : Below u2.heap.size u2 ((((u5.setCell ⟨W0.heap.size, 0, none⟩ (.int .i64 (ringPushT x0 x1).cap)).setCell ⟨W0.heap.size, 1, none⟩ (.int .i64 (ringPushT x0 x1).next)).setCell ⟨W0.heap.size, 2, none⟩ (.bool (ringPushT x0 x1).out)).setCell ⟨W0.heap.size, 3, none⟩ (.slice AW0_3 (ringPushT x0 x1).list.length cW0_3)) := putRow_below (lo := u2.heap.size) zg [.int .i64 (ringPushT x0 x1).cap, .int .i64 (ringPushT x0 x1).next, .bool (ringPushT x0 x1).out, .slice AW0_3 (ringPushT x0 x1).list.length cW0_3] _ 0 hS
 have bx8 : Bx ((((u5.setCell ⟨W0.heap.size, 0, none⟩ (.int .i64 (ringPushT x0 x1).cap)).setCell ⟨W0.heap.size, 1, none⟩ (.int .i64 (ringPushT x0 x1).next)).setCell ⟨W0.heap.size, 2, none⟩ (.bool (ringPushT x0 x1).out)).setCell ⟨W0.heap.size, 3, none⟩ (.slice AW0_3 (ringPushT x0 x1).list.length cW0_3)) (W0.heap.size) #[.int .i64 (ringPushT x0 x1).cap, .int .i64 (ringPushT x0 x1).next, .bool (ringPushT x0 x1).out, .slice AW0_3 (ringPushT x0 x1).list.length cW0_3] 32 := putRow_cells (ys := [.int .i64 (ringPushT x0 x1).cap, .int .i64 (ringPushT x0 x1).next, .bool (ringPushT x0 x1).out, .slice AW0_3 (ringPushT x0 x1).list.length cW0_3]) (cs := #[.int .i64 0, .int .i64 0, .bool false, .slice none 0 0]) (o := 0) rfl bx9
 have oW01 : Own _ _ ((((u5.setCell ⟨W0.heap.size, 0, none⟩ (.int .i64 (ringPushT x0 x1).cap)).setCell ⟨W0.heap.size, 1, none⟩ (.int .i64 (ringPushT x0 x1).next)).setCell ⟨W0.heap.size, 2, none⟩ (.bool (ringPushT x0 x1).out)).setCell ⟨W0.heap.size, 3, none⟩ (.slice AW0_3 (ringPushT x0 x1).list.length cW0_3)) _ _ := Own.putRow (g := W0.heap.size) (by omega) [.int .i64 (ringPushT x0 x1).cap, .int .i64 (ringPushT x0 x1).next, .bool (ringPushT x0 x1).out, .slice AW0_3 (ringPushT x0 x1).list.length cW0_3] _ 0 oW00
 have zw : ((((u5.setCell ⟨W0.heap.size, 0, none⟩ (.int .i64 (ringPushT x0 x1).cap)).setCell ⟨W0.heap.size, 1, none⟩ (.int .i64 (ringPushT x0 x1).next)).setCell ⟨W0.heap.size, 2, none⟩ (.bool (ringPushT x0 x1).out)).setCell ⟨W0.heap.size, 3, none⟩ (.slice AW0_3 (ringPushT x0 x1).list.length cW0_3)).heap.size = u5.heap.size := putRow_size _ [.int .i64 (ringPushT x0 x1).cap, .int .i64 (ringPushT x0 x1).next, .bool (ringPushT x0 x1).out, .slice AW0_3 (ringPushT x0 x1).list.length cW0_3] _ 0
 clear hS bx9 oW00
 refine hK.out _ _ hT (fun hS => ?_)
 clear hK K hT
 try simp only [Act.put]
 generalize ((((u5.setCell ⟨W0.heap.size, 0, none⟩ (.int .i64 (ringPushT x0 x1).cap)).setCell ⟨W0.heap.size, 1, none⟩ (.int .i64 (ringPushT x0 x1).next)).setCell ⟨W0.heap.size, 2, none⟩ (.bool (ringPushT x0 x1).out)).setCell ⟨W0.heap.size, 3, none⟩ (.slice AW0_3 (ringPushT x0 x1).list.length cW0_3)) = u6 at oW01 bx8 zw hS ⊢
 refine wpAnyH_done (by kernel_rfl) ?_ _
 have HK6 := hS
 clear hS
 clear o3 o4
 clear YbxA0 YbxA1
 have bxA0 := bxA0.past HK6
 have bxA1 := bxA1.past HK6
 have z6 := HK6.size
 have D6 := D2.trans (HK6.mono D2.size)
 obtain ⟨k6, oW0⟩ := oW01.blocks
 have bxW0 := bx8
 clear oW01 bx8
 have hs0 : SmRi (ringPushT x0 x1) := ringPush_small S0 S1
 generalize hL0 : (ringPushT x0 x1) = L0 at *
 have HL0 := Lib.hid hL0
 clear hL0
 have hc0 := cntRi hs0
 generalize hn0 : cntC (datRi L0) = n0 at *
 have HN0 := Lib.hid hn0
 clear hn0
 have nm0 : (((1 : Int) + (n0 : Int)) != ((1 : Int) + (n0 : Int))) = false := by simp
 have ybxA00 : _ = (some (.int .i64 x0.cap) : Option Value) := bxA0.cell (j := 0) rfl
 have ybxA01 : _ = (some (.int .i64 x0.next) : Option Value) := bxA0.cell (j := 1) rfl
 have ybxA02 : _ = (some (.bool x0.out) : Option Value) := bxA0.cell (j := 2) rfl
 have ybxA03 : _ = (some (.slice AA0_3 x0.list.length cA0_3) : Option Value) := bxA0.cell (j := 3) rfl
 go_wp2_with fail
 clear ybxA00 ybxA01 ybxA02 ybxA03
 refine (toRi _ x0 _ (R0.past D6) S0).mono ?_
 rintro e u7 ⟨v7, rfl, oX00, b7⟩
 obtain ⟨k7, oX0⟩ := oX00.blocks
 clear oX00
 obtain ⟨A7_3, c7_3, rfl, _⟩ := aggRi oX0.read
 have oW0 := oW0.past b7
 have bxA0 := bxA0.past b7
 have bxA1 := bxA1.past b7
 have bxW0 := bxW0.past b7
 have z7 := b7.size
 have D7 := D6.trans (b7.mono D6.size)
 have bxA0P := bxA0
 have bxA0L := bxA0.lt
 have bxA1P := bxA1
 have bxA1L := bxA1.lt
 have bxW0P := bxW0
 have bxW0L := bxW0.lt
 have ba7 := alloc_below u7 (.cells #[.int .i64 x0.cap, .int .i64 x0.next, .bool x0.out, .slice A7_3 x0.list.length c7_3] 32)
 have oW0 := oW0.past ba7
 have oX0 := oX0.past ba7
 have bxA0 := bxA0.past ba7
 have bxA1 := bxA1.past ba7
 have bxW0 := bxW0.past ba7
 have bxX0 := Bx.new u7 #[.int .i64 x0.cap, .int .i64 x0.next, .bool x0.out, .slice A7_3 x0.list.length c7_3] 32
 have zu7 : (u7.alloc (.cells #[.int .i64 x0.cap, .int .i64 x0.next, .bool x0.out, .slice A7_3 x0.list.length c7_3] 32)).heap.size = u7.heap.size + 1 := World.size_alloc _ _
 have Da7 := D7.trans (ba7.mono D7.size)
 clear ba7
 have ybxA10 : _ = (some (.int .i64 x1.client) : Option Value) := bxA1P.cell (j := 0) rfl
 have ybxA11 : _ = (some (.int .i64 x1.seq) : Option Value) := bxA1P.cell (j := 1) rfl
 have ybxA12 : _ = (some (.slice AA1_2 x1.o.length cA1_2) : Option Value) := bxA1P.cell (j := 2) rfl
 go_wp2_with fail
 generalize u7.alloc (.cells #[.int .i64 x0.cap, .int .i64 x0.next, .bool x0.out, .slice A7_3 x0.list.length c7_3] 32) = v7_ at oW0 oX0 bxA0 bxA1 bxW0 bxX0 zu7 Da7 ⊢
 clear bxA0P bxA0L
 clear bxA1P bxA1L
 clear bxW0P bxW0L
 clear ybxA10 ybxA11 ybxA12
 refine (toEn _ x1 _ (R1.past Da7) S1).mono ?_
 rintro e u8 ⟨v8, rfl, oX10, b8⟩
 obtain ⟨k8, oX1⟩ := oX10.blocks
 clear oX10
 obtain ⟨A8_2, c8_2, rfl, _⟩ := aggEn oX1.read
 have oW0 := oW0.past b8
 have oX0 := oX0.past b8
 have bxA0 := bxA0.past b8
 have bxA1 := bxA1.past b8
 have bxW0 := bxW0.past b8
 have bxX0 := bxX0.past b8
 have z8 := b8.size
 have D8 := Da7.trans (b8.mono Da7.size)
 have bxA0P := bxA0
 have bxA0L := bxA0.lt
 have bxA1P := bxA1
 have bxA1L := bxA1.lt
 have bxW0P := bxW0
 have bxW0L := bxW0.lt
 have bxX0P := bxX0
 have bxX0L := bxX0.lt
 have ba8 := alloc_below u8 (.cells #[.int .i64 x1.client, .int .i64 x1.seq, .slice A8_2 x1.o.length c8_2] 37)
 have oW0 := oW0.past ba8
 have oX0 := oX0.past ba8
 have oX1 := oX1.past ba8
 have bxA0 := bxA0.past ba8
 have bxA1 := bxA1.past ba8
 have bxW0 := bxW0.past ba8
 have bxX0 := bxX0.past ba8
 have bxX1 := Bx.new u8 #[.int .i64 x1.client, .int .i64 x1.seq, .slice A8_2 x1.o.length c8_2] 37
 have zu8 : (u8.alloc (.cells #[.int .i64 x1.client, .int .i64 x1.seq, .slice A8_2 x1.o.length c8_2] 37)).heap.size = u8.heap.size + 1 := World.size_alloc _ _
 have Da8 := D8.trans (ba8.mono D8.size)
 clear ba8
 have ybxX00 : _ = (some (.int .i64 x0.cap) : Option Value) := bxX0P.cell (j := 0) rfl
 have ybxX01 : _ = (some (.int .i64 x0.next) : Option Value) := bxX0P.cell (j := 1) rfl
 have ybxX02 : _ = (some (.bool x0.out) : Option Value) := bxX0P.cell (j := 2) rfl
 have ybxX03 : _ = (some (.slice A7_3 x0.list.length c7_3) : Option Value) := bxX0P.cell (j := 3) rfl
 go_wp2_with fail
 generalize u8.alloc (.cells #[.int .i64 x1.client, .int .i64 x1.seq, .slice A8_2 x1.o.length c8_2] 37) = v8_ at oW0 oX0 oX1 bxA0 bxA1 bxW0 bxX0 bxX1 zu8 Da8 ⊢
 clear bxA0P bxA0L
 clear bxA1P bxA1L
 clear bxW0P bxW0L
 clear bxX0P bxX0L
 clear ybxX00 ybxX01 ybxX02 ybxX03
 refine (implRingPush_d _ _ x0 x1 _ oX0.read oX1.read S0 S1).mono ?_
 rw [HL0.out]
 rintro e u9 ⟨v9, rfl, oG00, b9⟩
 have oW0 := oW0.past b9
 have oX0 := oX0.past b9
 have oX1 := oX1.past b9
 have bxA0 := bxA0.past b9
 have bxA1 := bxA1.past b9
 have bxW0 := bxW0.past b9
 have bxX0 := bxX0.past b9
 have bxX1 := bxX1.past b9
 obtain ⟨k9, oG0⟩ := oG00.blocks
 clear oG00
 have z9 := b9.size
 have D9 := Da8.trans (b9.mono Da8.size)
 obtain ⟨AG0_3, cG0_3, rfl, _⟩ := aggRi oG0.read
 have bxA0P := bxA0
 have bxA0L := bxA0.lt
 have bxA1P := bxA1
 have bxA1L := bxA1.lt
 have bxW0P := bxW0
 have bxW0L := bxW0.lt
 have bxX0P := bxX0
 have bxX0L := bxX0.lt
 have bxX1P := bxX1
 have bxX1L := bxX1.lt
 have ba9 := alloc_below u9 (.cells #[.int .i64 L0.cap, .int .i64 L0.next, .bool L0.out, .slice AG0_3 L0.list.length cG0_3] 32)
 have oW0 := oW0.past ba9
 have oX0 := oX0.past ba9
 have oX1 := oX1.past ba9
 have oG0 := oG0.past ba9
 have bxA0 := bxA0.past ba9
 have bxA1 := bxA1.past ba9
 have bxW0 := bxW0.past ba9
 have bxX0 := bxX0.past ba9
 have bxX1 := bxX1.past ba9
 have bxG0 := Bx.new u9 #[.int .i64 L0.cap, .int .i64 L0.next, .bool L0.out, .slice AG0_3 L0.list.length cG0_3] 32
 have zu9 : (u9.alloc (.cells #[.int .i64 L0.cap, .int .i64 L0.next, .bool L0.out, .slice AG0_3 L0.list.length cG0_3] 32)).heap.size = u9.heap.size + 1 := World.size_alloc _ _
 have Da9 := D9.trans (ba9.mono D9.size)
 clear ba9
 have HAG := Lib.hid (show ∀ (x0_ : Value) (x1_ : Value) (u : World), RdC u u.heap.size (datRi x0) x0_ → RdC u u.heap.size (datEn x1) x1_ → Calls Tryz.prog 10 #[x0_, x1_] u (OwnPost (datRi L0) u) from fun x0_ x1_ u h0_ h1_ => by rw [← HL0.out]; exact implRingPush_d x0_ x1_ x0 x1 u h0_ h1_ S0 S1 )
 have ybxW00 : _ = (some (.int .i64 L0.cap) : Option Value) := bxW0P.cell (j := 0) rfl
 have ybxW01 : _ = (some (.int .i64 L0.next) : Option Value) := bxW0P.cell (j := 1) rfl
 have ybxW02 : _ = (some (.bool L0.out) : Option Value) := bxW0P.cell (j := 2) rfl
 have ybxW03 : _ = (some (.slice AW0_3 L0.list.length cW0_3) : Option Value) := bxW0P.cell (j := 3) rfl
 go_wp2_with fail
 generalize u9.alloc (.cells #[.int .i64 L0.cap, .int .i64 L0.next, .bool L0.out, .slice AG0_3 L0.list.length cG0_3] 32) = v9_ at oW0 oX0 oX1 oG0 bxA0 bxA1 bxW0 bxX0 bxX1 bxG0 zu9 Da9 ⊢
 clear bxA0P bxA0L
 clear bxA1P bxA1L
 clear bxW0P bxW0L
 clear bxX0P bxX0L
 clear bxX1P bxX1L
 clear ybxW00 ybxW01 ybxW02 ybxW03
 refine (eqRi _ _ L0 _ oG0.read oW0.read hs0).mono ?_
 rintro e u10 ⟨rfl, b10⟩
 have oW0 := oW0.past b10
 have oX0 := oX0.past b10
 have oX1 := oX1.past b10
 have oG0 := oG0.past b10
 have bxA0 := bxA0.past b10
 have bxA1 := bxA1.past b10
 have bxW0 := bxW0.past b10
 have bxX0 := bxX0.past b10
 have bxX1 := bxX1.past b10
 have bxG0 := bxG0.past b10
 have z10 := b10.size
 have D10 := Da9.trans (b10.mono Da9.size)
 have lbxX0 := bxX0.lt
 have ybxX00 : u10.cell? ⟨u7.heap.size, 0, none⟩ = some (.int .i64 x0.cap) := bxX0.cell (j := 0) rfl
 have ybxX01 : u10.cell? ⟨u7.heap.size, 1, none⟩ = some (.int .i64 x0.next) := bxX0.cell (j := 1) rfl
 have ybxX02 : u10.cell? ⟨u7.heap.size, 2, none⟩ = some (.bool x0.out) := bxX0.cell (j := 2) rfl
 have ybxX03 : u10.cell? ⟨u7.heap.size, 3, none⟩ = some (.slice A7_3 x0.list.length c7_3) := bxX0.cell (j := 3) rfl
 have lbxA0 := bxA0.lt
 have ybxA00 : u10.cell? ⟨w.heap.size, 0, none⟩ = some (.int .i64 x0.cap) := bxA0.cell (j := 0) rfl
 have ybxA01 : u10.cell? ⟨w.heap.size, 1, none⟩ = some (.int .i64 x0.next) := bxA0.cell (j := 1) rfl
 have ybxA02 : u10.cell? ⟨w.heap.size, 2, none⟩ = some (.bool x0.out) := bxA0.cell (j := 2) rfl
 have ybxA03 : u10.cell? ⟨w.heap.size, 3, none⟩ = some (.slice AA0_3 x0.list.length cA0_3) := bxA0.cell (j := 3) rfl
 have SX := Lib.hid (show ∀ (W W1 : World), (W.cell? ⟨u7.heap.size, 0, none⟩ = some (.int .i64 x0.cap) ∧ W.cell? ⟨u7.heap.size, 1, none⟩ = some (.int .i64 x0.next) ∧ W.cell? ⟨u7.heap.size, 2, none⟩ = some (.bool x0.out) ∧ W.cell? ⟨u7.heap.size, 3, none⟩ = some (.slice A7_3 x0.list.length c7_3) ∧ W.cell? ⟨w.heap.size, 0, none⟩ = some (.int .i64 x0.cap) ∧ W.cell? ⟨w.heap.size, 1, none⟩ = some (.int .i64 x0.next) ∧ W.cell? ⟨w.heap.size, 2, none⟩ = some (.bool x0.out) ∧ W.cell? ⟨w.heap.size, 3, none⟩ = some (.slice AA0_3 x0.list.length cA0_3) ∧ KS u10 W) → Below W.heap.size W W1 → (W1.cell? ⟨u7.heap.size, 0, none⟩ = some (.int .i64 x0.cap) ∧ W1.cell? ⟨u7.heap.size, 1, none⟩ = some (.int .i64 x0.next) ∧ W1.cell? ⟨u7.heap.size, 2, none⟩ = some (.bool x0.out) ∧ W1.cell? ⟨u7.heap.size, 3, none⟩ = some (.slice A7_3 x0.list.length c7_3) ∧ W1.cell? ⟨w.heap.size, 0, none⟩ = some (.int .i64 x0.cap) ∧ W1.cell? ⟨w.heap.size, 1, none⟩ = some (.int .i64 x0.next) ∧ W1.cell? ⟨w.heap.size, 2, none⟩ = some (.bool x0.out) ∧ W1.cell? ⟨w.heap.size, 3, none⟩ = some (.slice AA0_3 x0.list.length cA0_3) ∧ KS u10 W1) from fun W W1 h hb => by have hk := h.2.2.2.2.2.2.2.2; have hkk : KS u10 W1 := hk.trans (hb.mono hk.size); exact ⟨(hkk.cell (p := ⟨u7.heap.size, 0, none⟩) lbxX0).trans ybxX00, (hkk.cell (p := ⟨u7.heap.size, 1, none⟩) lbxX0).trans ybxX01, (hkk.cell (p := ⟨u7.heap.size, 2, none⟩) lbxX0).trans ybxX02, (hkk.cell (p := ⟨u7.heap.size, 3, none⟩) lbxX0).trans ybxX03, (hkk.cell (p := ⟨w.heap.size, 0, none⟩) lbxA0).trans ybxA00, (hkk.cell (p := ⟨w.heap.size, 1, none⟩) lbxA0).trans ybxA01, (hkk.cell (p := ⟨w.heap.size, 2, none⟩) lbxA0).trans ybxA02, (hkk.cell (p := ⟨w.heap.size, 3, none⟩) lbxA0).trans ybxA03, hkk⟩)
 have RX := Lib.hid (show ∀ (W : World), (W.cell? ⟨u7.heap.size, 0, none⟩ = some (.int .i64 x0.cap) ∧ W.cell? ⟨u7.heap.size, 1, none⟩ = some (.int .i64 x0.next) ∧ W.cell? ⟨u7.heap.size, 2, none⟩ = some (.bool x0.out) ∧ W.cell? ⟨u7.heap.size, 3, none⟩ = some (.slice A7_3 x0.list.length c7_3) ∧ W.cell? ⟨w.heap.size, 0, none⟩ = some (.int .i64 x0.cap) ∧ W.cell? ⟨w.heap.size, 1, none⟩ = some (.int .i64 x0.next) ∧ W.cell? ⟨w.heap.size, 2, none⟩ = some (.bool x0.out) ∧ W.cell? ⟨w.heap.size, 3, none⟩ = some (.slice AA0_3 x0.list.length cA0_3) ∧ KS u10 W) → RdC W W.heap.size (datRi x0) (.agg #[.int .i64 x0.cap, .int .i64 x0.next, .bool x0.out, .slice A7_3 x0.list.length c7_3]) from fun W h => by have hk : Below u10.heap.size u10 W := h.2.2.2.2.2.2.2.2; exact (oX0.past hk).read)
 have RA := Lib.hid (show ∀ (W : World), (W.cell? ⟨u7.heap.size, 0, none⟩ = some (.int .i64 x0.cap) ∧ W.cell? ⟨u7.heap.size, 1, none⟩ = some (.int .i64 x0.next) ∧ W.cell? ⟨u7.heap.size, 2, none⟩ = some (.bool x0.out) ∧ W.cell? ⟨u7.heap.size, 3, none⟩ = some (.slice A7_3 x0.list.length c7_3) ∧ W.cell? ⟨w.heap.size, 0, none⟩ = some (.int .i64 x0.cap) ∧ W.cell? ⟨w.heap.size, 1, none⟩ = some (.int .i64 x0.next) ∧ W.cell? ⟨w.heap.size, 2, none⟩ = some (.bool x0.out) ∧ W.cell? ⟨w.heap.size, 3, none⟩ = some (.slice AA0_3 x0.list.length cA0_3) ∧ KS u10 W) → RdC W W.heap.size (datRi x0) (.agg #[.int .i64 x0.cap, .int .i64 x0.next, .bool x0.out, .slice AA0_3 x0.list.length cA0_3]) from fun W h => by have hk : Below u10.heap.size u10 W := h.2.2.2.2.2.2.2.2; exact R0.past (D10.trans (hk.mono D10.size)))
 have hS0 : u10.drew.cell? ⟨u7.heap.size, 0, none⟩ = some (.int .i64 x0.cap) ∧ u10.drew.cell? ⟨u7.heap.size, 1, none⟩ = some (.int .i64 x0.next) ∧ u10.drew.cell? ⟨u7.heap.size, 2, none⟩ = some (.bool x0.out) ∧ u10.drew.cell? ⟨u7.heap.size, 3, none⟩ = some (.slice A7_3 x0.list.length c7_3) ∧ u10.drew.cell? ⟨w.heap.size, 0, none⟩ = some (.int .i64 x0.cap) ∧ u10.drew.cell? ⟨w.heap.size, 1, none⟩ = some (.int .i64 x0.next) ∧ u10.drew.cell? ⟨w.heap.size, 2, none⟩ = some (.bool x0.out) ∧ u10.drew.cell? ⟨w.heap.size, 3, none⟩ = some (.slice AA0_3 x0.list.length cA0_3) ∧ KS u10 u10.drew := ⟨ybxX00, ybxX01, ybxX02, ybxX03, ybxA00, ybxA01, ybxA02, ybxA03, KS.start _⟩
 clear ybxX00 ybxX01 ybxX02 ybxX03 ybxA00 ybxA01 ybxA02 ybxA03
 go_wp2
 go_region_held3 (fun W => W.cell? ⟨u7.heap.size, 0, none⟩ = some (.int .i64 x0.cap) ∧ W.cell? ⟨u7.heap.size, 1, none⟩ = some (.int .i64 x0.next) ∧ W.cell? ⟨u7.heap.size, 2, none⟩ = some (.bool x0.out) ∧ W.cell? ⟨u7.heap.size, 3, none⟩ = some (.slice A7_3 x0.list.length c7_3) ∧ W.cell? ⟨w.heap.size, 0, none⟩ = some (.int .i64 x0.cap) ∧ W.cell? ⟨w.heap.size, 1, none⟩ = some (.int .i64 x0.next) ∧ W.cell? ⟨w.heap.size, 2, none⟩ = some (.bool x0.out) ∧ W.cell? ⟨w.heap.size, 3, none⟩ = some (.slice AA0_3 x0.list.length cA0_3) ∧ KS u10 W)
  (first | assumption | exact hS0 | (exact SX.out _ _ (by assumption) b11) | (exact SX.out _ _ (by assumption) b12))
  (first | (go_at_call 8; refine (toRi _ x0 _ (by exact RA.out _ (by assumption)) S0).mono ?_; rintro e u11 ⟨v11, rfl, o11, b11⟩; obtain ⟨A11_3, c11_3, rfl, _⟩ := aggRi o11.read) | (go_at_call 11; refine (eqRi _ _ x0 _ (by exact RX.out _ (by assumption)) (by exact o11.read) S0).mono ?_; rintro e u12 ⟨rfl, b12⟩))
 rename_i hS2
 have HK12 : Below u10.heap.size u10 u12 := hS2.2.2.2.2.2.2.2.2
 clear hS2 hS0 SX RX RA
 clear lbxX0 lbxA0
 have oW0 := oW0.past HK12
 have oX0 := oX0.past HK12
 have oX1 := oX1.past HK12
 have oG0 := oG0.past HK12
 have bxA0 := bxA0.past HK12
 have bxA1 := bxA1.past HK12
 have bxW0 := bxW0.past HK12
 have bxX0 := bxX0.past HK12
 have bxX1 := bxX1.past HK12
 have bxG0 := bxG0.past HK12
 have z12 := HK12.size
 have D12 := D10.trans (HK12.mono D10.size)
 clear o11 b11 b12
 have lbxX1 := bxX1.lt
 have ybxX10 : u12.cell? ⟨u8.heap.size, 0, none⟩ = some (.int .i64 x1.client) := bxX1.cell (j := 0) rfl
 have ybxX11 : u12.cell? ⟨u8.heap.size, 1, none⟩ = some (.int .i64 x1.seq) := bxX1.cell (j := 1) rfl
 have ybxX12 : u12.cell? ⟨u8.heap.size, 2, none⟩ = some (.slice A8_2 x1.o.length c8_2) := bxX1.cell (j := 2) rfl
 have lbxA1 := bxA1.lt
 have ybxA10 : u12.cell? ⟨w.heap.size + 1, 0, none⟩ = some (.int .i64 x1.client) := bxA1.cell (j := 0) rfl
 have ybxA11 : u12.cell? ⟨w.heap.size + 1, 1, none⟩ = some (.int .i64 x1.seq) := bxA1.cell (j := 1) rfl
 have ybxA12 : u12.cell? ⟨w.heap.size + 1, 2, none⟩ = some (.slice AA1_2 x1.o.length cA1_2) := bxA1.cell (j := 2) rfl
 have SX := Lib.hid (show ∀ (W W1 : World), (W.cell? ⟨u8.heap.size, 0, none⟩ = some (.int .i64 x1.client) ∧ W.cell? ⟨u8.heap.size, 1, none⟩ = some (.int .i64 x1.seq) ∧ W.cell? ⟨u8.heap.size, 2, none⟩ = some (.slice A8_2 x1.o.length c8_2) ∧ W.cell? ⟨w.heap.size + 1, 0, none⟩ = some (.int .i64 x1.client) ∧ W.cell? ⟨w.heap.size + 1, 1, none⟩ = some (.int .i64 x1.seq) ∧ W.cell? ⟨w.heap.size + 1, 2, none⟩ = some (.slice AA1_2 x1.o.length cA1_2) ∧ KS u12 W) → Below W.heap.size W W1 → (W1.cell? ⟨u8.heap.size, 0, none⟩ = some (.int .i64 x1.client) ∧ W1.cell? ⟨u8.heap.size, 1, none⟩ = some (.int .i64 x1.seq) ∧ W1.cell? ⟨u8.heap.size, 2, none⟩ = some (.slice A8_2 x1.o.length c8_2) ∧ W1.cell? ⟨w.heap.size + 1, 0, none⟩ = some (.int .i64 x1.client) ∧ W1.cell? ⟨w.heap.size + 1, 1, none⟩ = some (.int .i64 x1.seq) ∧ W1.cell? ⟨w.heap.size + 1, 2, none⟩ = some (.slice AA1_2 x1.o.length cA1_2) ∧ KS u12 W1) from fun W W1 h hb => by have hk := h.2.2.2.2.2.2; have hkk : KS u12 W1 := hk.trans (hb.mono hk.size); exact ⟨(hkk.cell (p := ⟨u8.heap.size, 0, none⟩) lbxX1).trans ybxX10, (hkk.cell (p := ⟨u8.heap.size, 1, none⟩) lbxX1).trans ybxX11, (hkk.cell (p := ⟨u8.heap.size, 2, none⟩) lbxX1).trans ybxX12, (hkk.cell (p := ⟨w.heap.size + 1, 0, none⟩) lbxA1).trans ybxA10, (hkk.cell (p := ⟨w.heap.size + 1, 1, none⟩) lbxA1).trans ybxA11, (hkk.cell (p := ⟨w.heap.size + 1, 2, none⟩) lbxA1).trans ybxA12, hkk⟩)
 have RX := Lib.hid (show ∀ (W : World), (W.cell? ⟨u8.heap.size, 0, none⟩ = some (.int .i64 x1.client) ∧ W.cell? ⟨u8.heap.size, 1, none⟩ = some (.int .i64 x1.seq) ∧ W.cell? ⟨u8.heap.size, 2, none⟩ = some (.slice A8_2 x1.o.length c8_2) ∧ W.cell? ⟨w.heap.size + 1, 0, none⟩ = some (.int .i64 x1.client) ∧ W.cell? ⟨w.heap.size + 1, 1, none⟩ = some (.int .i64 x1.seq) ∧ W.cell? ⟨w.heap.size + 1, 2, none⟩ = some (.slice AA1_2 x1.o.length cA1_2) ∧ KS u12 W) → RdC W W.heap.size (datEn x1) (.agg #[.int .i64 x1.client, .int .i64 x1.seq, .slice A8_2 x1.o.length c8_2]) from fun W h => by have hk : Below u12.heap.size u12 W := h.2.2.2.2.2.2; exact (oX1.past hk).read)
 have RA := Lib.hid (show ∀ (W : World), (W.cell? ⟨u8.heap.size, 0, none⟩ = some (.int .i64 x1.client) ∧ W.cell? ⟨u8.heap.size, 1, none⟩ = some (.int .i64 x1.seq) ∧ W.cell? ⟨u8.heap.size, 2, none⟩ = some (.slice A8_2 x1.o.length c8_2) ∧ W.cell? ⟨w.heap.size + 1, 0, none⟩ = some (.int .i64 x1.client) ∧ W.cell? ⟨w.heap.size + 1, 1, none⟩ = some (.int .i64 x1.seq) ∧ W.cell? ⟨w.heap.size + 1, 2, none⟩ = some (.slice AA1_2 x1.o.length cA1_2) ∧ KS u12 W) → RdC W W.heap.size (datEn x1) (.agg #[.int .i64 x1.client, .int .i64 x1.seq, .slice AA1_2 x1.o.length cA1_2]) from fun W h => by have hk : Below u12.heap.size u12 W := h.2.2.2.2.2.2; exact R1.past (D12.trans (hk.mono D12.size)))
 have hS0 : u12.drew.cell? ⟨u8.heap.size, 0, none⟩ = some (.int .i64 x1.client) ∧ u12.drew.cell? ⟨u8.heap.size, 1, none⟩ = some (.int .i64 x1.seq) ∧ u12.drew.cell? ⟨u8.heap.size, 2, none⟩ = some (.slice A8_2 x1.o.length c8_2) ∧ u12.drew.cell? ⟨w.heap.size + 1, 0, none⟩ = some (.int .i64 x1.client) ∧ u12.drew.cell? ⟨w.heap.size + 1, 1, none⟩ = some (.int .i64 x1.seq) ∧ u12.drew.cell? ⟨w.heap.size + 1, 2, none⟩ = some (.slice AA1_2 x1.o.length cA1_2) ∧ KS u12 u12.drew := ⟨ybxX10, ybxX11, ybxX12, ybxA10, ybxA11, ybxA12, KS.start _⟩
 clear ybxX10 ybxX11 ybxX12 ybxA10 ybxA11 ybxA12
 go_wp2
 go_region_held3 (fun W => W.cell? ⟨u8.heap.size, 0, none⟩ = some (.int .i64 x1.client) ∧ W.cell? ⟨u8.heap.size, 1, none⟩ = some (.int .i64 x1.seq) ∧ W.cell? ⟨u8.heap.size, 2, none⟩ = some (.slice A8_2 x1.o.length c8_2) ∧ W.cell? ⟨w.heap.size + 1, 0, none⟩ = some (.int .i64 x1.client) ∧ W.cell? ⟨w.heap.size + 1, 1, none⟩ = some (.int .i64 x1.seq) ∧ W.cell? ⟨w.heap.size + 1, 2, none⟩ = some (.slice AA1_2 x1.o.length cA1_2) ∧ KS u12 W)
  (first | assumption | exact hS0 | (exact SX.out _ _ (by assumption) b13) | (exact SX.out _ _ (by assumption) b14))
  (first | (go_at_call 9; refine (toEn _ x1 _ (by exact RA.out _ (by assumption)) S1).mono ?_; rintro e u13 ⟨v13, rfl, o13, b13⟩; obtain ⟨A13_2, c13_2, rfl, _⟩ := aggEn o13.read) | (go_at_call 12; refine (eqEn _ _ x1 _ (by exact RX.out _ (by assumption)) (by exact o13.read) S1).mono ?_; rintro e u14 ⟨rfl, b14⟩))
 rename_i hS2
 have HK14 : Below u12.heap.size u12 u14 := hS2.2.2.2.2.2.2
 clear hS2 hS0 SX RX RA
 clear lbxX1 lbxA1
 have oW0 := oW0.past HK14
 have oX0 := oX0.past HK14
 have oX1 := oX1.past HK14
 have oG0 := oG0.past HK14
 have bxA0 := bxA0.past HK14
 have bxA1 := bxA1.past HK14
 have bxW0 := bxW0.past HK14
 have bxX0 := bxX0.past HK14
 have bxX1 := bxX1.past HK14
 have bxG0 := bxG0.past HK14
 have z14 := HK14.size
 have D14 := D12.trans (HK14.mono D12.size)
 clear o13 b13 b14
 have cx0 := cntRi S0
 have ybxX00 : _ = (some (.int .i64 x0.cap) : Option Value) := bxX0.cell (j := 0) rfl
 have ybxX01 : _ = (some (.int .i64 x0.next) : Option Value) := bxX0.cell (j := 1) rfl
 have ybxX02 : _ = (some (.bool x0.out) : Option Value) := bxX0.cell (j := 2) rfl
 have ybxX03 : _ = (some (.slice A7_3 x0.list.length c7_3) : Option Value) := bxX0.cell (j := 3) rfl
 go_wp2_with fail
 clear ybxX00 ybxX01 ybxX02 ybxX03
 refine (markRi _ x0 _ (1) _ oX0.ow oX0.nd (by omega) (by omega) S0).mono ?_
 rintro e u15 ⟨rfl, m15, e15_, b15, t15⟩
 have oW0 := oW0.past b15
 have oX0 := oX0.past b15
 have oX1 := oX1.past b15
 have oG0 := oG0.past b15
 have bxA0 := bxA0.past b15
 have bxA1 := bxA1.past b15
 have bxW0 := bxW0.past b15
 have bxX0 := bxX0.past b15
 have bxX1 := bxX1.past b15
 have bxG0 := bxG0.past b15
 have zb15 := b15.size
 have Db15 := D14.trans (b15.mono D14.size)
 have oW0 := oW0.apart oX0 t15 (by omega)
 have oX1 := oX1.apart oX0 t15 (by omega)
 have oG0 := oG0.apart oX0 t15 (by omega)
 have bxA0 := bxA0.apart oX0 t15 (by omega)
 have bxA1 := bxA1.apart oX0 t15 (by omega)
 have bxW0 := bxW0.apart oX0 t15 (by omega)
 have bxX0 := bxX0.apart oX0 t15 (by omega)
 have bxX1 := bxX1.apart oX0 t15 (by omega)
 have bxG0 := bxG0.apart oX0 t15 (by omega)
 have z15 := t15.size
 have D15 := Db15.trans (oX0.under t15 (by omega))
 clear oX0 m15
 generalize cntC (datRi x0) = nx0 at *
 have cx1 := cntEn S1
 have ybxX10 : _ = (some (.int .i64 x1.client) : Option Value) := bxX1.cell (j := 0) rfl
 have ybxX11 : _ = (some (.int .i64 x1.seq) : Option Value) := bxX1.cell (j := 1) rfl
 have ybxX12 : _ = (some (.slice A8_2 x1.o.length c8_2) : Option Value) := bxX1.cell (j := 2) rfl
 go_wp2_with fail
 clear ybxX10 ybxX11 ybxX12
 refine (markEn _ x1 _ (1 + (nx0 : Int)) _ oX1.ow oX1.nd (by omega) (by omega) S1).mono ?_
 rintro e u16 ⟨rfl, m16, e16_, b16, t16⟩
 have oW0 := oW0.past b16
 have oX1 := oX1.past b16
 have oG0 := oG0.past b16
 have bxA0 := bxA0.past b16
 have bxA1 := bxA1.past b16
 have bxW0 := bxW0.past b16
 have bxX0 := bxX0.past b16
 have bxX1 := bxX1.past b16
 have bxG0 := bxG0.past b16
 have zb16 := b16.size
 have Db16 := D15.trans (b16.mono D15.size)
 have oW0 := oW0.apart oX1 t16 (by omega)
 have oG0 := oG0.apart oX1 t16 (by omega)
 have bxA0 := bxA0.apart oX1 t16 (by omega)
 have bxA1 := bxA1.apart oX1 t16 (by omega)
 have bxW0 := bxW0.apart oX1 t16 (by omega)
 have bxX0 := bxX0.apart oX1 t16 (by omega)
 have bxX1 := bxX1.apart oX1 t16 (by omega)
 have bxG0 := bxG0.apart oX1 t16 (by omega)
 have z16 := t16.size
 have D16 := Db16.trans (oX1.under t16 (by omega))
 clear oX1 m16
 generalize cntC (datEn x1) = nx1 at *
 have ybxG00 : _ = (some (.int .i64 L0.cap) : Option Value) := bxG0.cell (j := 0) rfl
 have ybxG01 : _ = (some (.int .i64 L0.next) : Option Value) := bxG0.cell (j := 1) rfl
 have ybxG02 : _ = (some (.bool L0.out) : Option Value) := bxG0.cell (j := 2) rfl
 have ybxG03 : _ = (some (.slice AG0_3 L0.list.length cG0_3) : Option Value) := bxG0.cell (j := 3) rfl
 have ybxW00 : _ = (some (.int .i64 L0.cap) : Option Value) := bxW0.cell (j := 0) rfl
 have ybxW01 : _ = (some (.int .i64 L0.next) : Option Value) := bxW0.cell (j := 1) rfl
 have ybxW02 : _ = (some (.bool L0.out) : Option Value) := bxW0.cell (j := 2) rfl
 have ybxW03 : _ = (some (.slice AW0_3 L0.list.length cW0_3) : Option Value) := bxW0.cell (j := 3) rfl
 go_wp2_with fail
 clear ybxG00 ybxG01 ybxG02 ybxG03 ybxW00 ybxW01 ybxW02 ybxW03
 refine (eqRi _ _ L0 _ oG0.read oW0.read hs0).mono ?_
 rintro e u17 ⟨rfl, b17⟩
 have oW0 := oW0.past b17
 have oG0 := oG0.past b17
 have bxA0 := bxA0.past b17
 have bxA1 := bxA1.past b17
 have bxW0 := bxW0.past b17
 have bxX0 := bxX0.past b17
 have bxX1 := bxX1.past b17
 have bxG0 := bxG0.past b17
 have z17 := b17.size
 have D17 := D16.trans (b17.mono D16.size)
 have ybxG00 : _ = (some (.int .i64 L0.cap) : Option Value) := bxG0.cell (j := 0) rfl
 have ybxG01 : _ = (some (.int .i64 L0.next) : Option Value) := bxG0.cell (j := 1) rfl
 have ybxG02 : _ = (some (.bool L0.out) : Option Value) := bxG0.cell (j := 2) rfl
 have ybxG03 : _ = (some (.slice AG0_3 L0.list.length cG0_3) : Option Value) := bxG0.cell (j := 3) rfl
 go_wp2_with fail
 clear ybxG00 ybxG01 ybxG02 ybxG03
 refine (markRi _ L0 _ (1) _ oG0.ow oG0.nd (by omega) (by omega) hs0).mono ?_
 rintro e u18 ⟨rfl, m18, e18_, b18, t18⟩
 have oW0 := oW0.past b18
 have oG0 := oG0.past b18
 have bxA0 := bxA0.past b18
 have bxA1 := bxA1.past b18
 have bxW0 := bxW0.past b18
 have bxX0 := bxX0.past b18
 have bxX1 := bxX1.past b18
 have bxG0 := bxG0.past b18
 have zb18 := b18.size
 have Db18 := D17.trans (b18.mono D17.size)
 have oW0 := oW0.apart oG0 t18 (by omega)
 have bxA0 := bxA0.apart oG0 t18 (by omega)
 have bxA1 := bxA1.apart oG0 t18 (by omega)
 have bxW0 := bxW0.apart oG0 t18 (by omega)
 have bxX0 := bxX0.apart oG0 t18 (by omega)
 have bxX1 := bxX1.apart oG0 t18 (by omega)
 have bxG0 := bxG0.apart oG0 t18 (by omega)
 have z18 := t18.size
 have D18 := Db18.trans (oG0.under t18 (by omega))
 have oG0 := oG0.marked m18 t18
 rw [HN0.out]
 have ybxG00 : _ = (some (.int .i64 L0.cap) : Option Value) := bxG0.cell (j := 0) rfl
 have ybxG01 : _ = (some (.int .i64 L0.next) : Option Value) := bxG0.cell (j := 1) rfl
 have ybxG02 : _ = (some (.bool L0.out) : Option Value) := bxG0.cell (j := 2) rfl
 have ybxG03 : _ = (some (.slice AG0_3 L0.list.length cG0_3) : Option Value) := bxG0.cell (j := 3) rfl
 go_wp2_with fail
 clear ybxG00 ybxG01 ybxG02 ybxG03
 refine (heldRi _ L0 (1) _ oG0.read (by omega) (by omega) hs0).mono ?_
 rintro e u19 ⟨rfl, b19⟩
 rw [HN0.out]
 have oW0 := oW0.past b19
 have oG0 := oG0.past b19
 have bxA0 := bxA0.past b19
 have bxA1 := bxA1.past b19
 have bxW0 := bxW0.past b19
 have bxX0 := bxX0.past b19
 have bxX1 := bxX1.past b19
 have bxG0 := bxG0.past b19
 have z19 := b19.size
 have D19 := D18.trans (b19.mono D18.size)
 have lbxA0 := bxA0.lt
 have ybxA00 : u19.cell? ⟨w.heap.size, 0, none⟩ = some (.int .i64 x0.cap) := bxA0.cell (j := 0) rfl
 have ybxA01 : u19.cell? ⟨w.heap.size, 1, none⟩ = some (.int .i64 x0.next) := bxA0.cell (j := 1) rfl
 have ybxA02 : u19.cell? ⟨w.heap.size, 2, none⟩ = some (.bool x0.out) := bxA0.cell (j := 2) rfl
 have ybxA03 : u19.cell? ⟨w.heap.size, 3, none⟩ = some (.slice AA0_3 x0.list.length cA0_3) := bxA0.cell (j := 3) rfl
 have YbxA0 := Lib.hid (And.intro lbxA0 (And.intro ybxA00 (And.intro ybxA01 (And.intro ybxA02 (And.intro ybxA03 trivial)))))
 clear lbxA0 ybxA00 ybxA01 ybxA02 ybxA03
 have lbxA1 := bxA1.lt
 have ybxA10 : u19.cell? ⟨w.heap.size + 1, 0, none⟩ = some (.int .i64 x1.client) := bxA1.cell (j := 0) rfl
 have ybxA11 : u19.cell? ⟨w.heap.size + 1, 1, none⟩ = some (.int .i64 x1.seq) := bxA1.cell (j := 1) rfl
 have ybxA12 : u19.cell? ⟨w.heap.size + 1, 2, none⟩ = some (.slice AA1_2 x1.o.length cA1_2) := bxA1.cell (j := 2) rfl
 have YbxA1 := Lib.hid (And.intro lbxA1 (And.intro ybxA10 (And.intro ybxA11 (And.intro ybxA12 trivial))))
 clear lbxA1 ybxA10 ybxA11 ybxA12
 go_wp2
 refine wp_region_held_drew (S := fun W => Below u19.heap.size u19 W) (by kernel_rfl) (Below.refl _ _).drew (fun hS => ?_)
 generalize u19.drew = W0 at hS ⊢
 refine low.tk (v := ?_) 0 75 rfl (fun w' hS' => ?_) hS ?_
 rotate_left
 ·(try dsimp only at hS'); have q0 := (hS'.cell (p := ⟨w.heap.size, 0, none⟩) YbxA0.out.1).trans YbxA0.out.2.1; have q1 := (hS'.cell (p := ⟨w.heap.size, 1, none⟩) YbxA0.out.1).trans YbxA0.out.2.2.1; have q2 := (hS'.cell (p := ⟨w.heap.size, 2, none⟩) YbxA0.out.1).trans YbxA0.out.2.2.2.1; have q3 := (hS'.cell (p := ⟨w.heap.size, 3, none⟩) YbxA0.out.1).trans YbxA0.out.2.2.2.2.1; go_simp; all_goals (with_reducible rfl)
 try simp only [Act.put, pa, pb, pc]
 refine low.tk (v := ?_) 2 77 rfl (fun w' hS' => ?_) hS ?_
 rotate_left
 ·(try dsimp only at hS'); have q0 := (hS'.cell (p := ⟨w.heap.size + 1, 0, none⟩) YbxA1.out.1).trans YbxA1.out.2.1; have q1 := (hS'.cell (p := ⟨w.heap.size + 1, 1, none⟩) YbxA1.out.1).trans YbxA1.out.2.2.1; have q2 := (hS'.cell (p := ⟨w.heap.size + 1, 2, none⟩) YbxA1.out.1).trans YbxA1.out.2.2.2.1; go_simp; all_goals (with_reducible rfl)
 try simp only [Act.put, pa, pb, pc]
 refine wpAnyH_ready (rs := [1, 5]) (by kernel_rfl) (by simp) ?_
 refine AllReadyH.cons (o := ⟨some 76, _, _, _, _, _⟩) rfl (fun K hK => ?_) ?_
 ·go_simp
  refine (toRi _ x0 _ (R0.past (D19.trans (hS.mono D19.size))) S0).mono ?_
  rintro e u20 ⟨v20, rfl, o20, b20⟩
  obtain ⟨A20_3, c20_3, rfl, _⟩ := aggRi o20.read
  have zz20 := b20.size
  have hT := hS.trans (b20.mono hS.size)
  clear hS b20
  refine hK.out _ _ hT (fun hS => ?_)
  clear hK K hT
  try simp only [Act.put, pa, pb, pc]
  refine wpAnyH_ready (rs := [3, 5]) (by kernel_rfl) (by simp) ?_
  refine AllReadyH.cons (o := ⟨some 78, _, _, _, _, _⟩) rfl (fun K hK => ?_) ?_
  ·go_simp
   refine (toEn _ x1 _ (R1.past (D19.trans (hS.mono D19.size))) S1).mono ?_
   rintro e u21 ⟨v21, rfl, o21, b21⟩
   obtain ⟨A21_2, c21_2, rfl, _⟩ := aggEn o21.read
   have o20 := o20.past b21
   have zz21 := b21.size
   have hT := hS.trans (b21.mono hS.size)
   clear hS b21
   refine hK.out _ _ hT (fun hS => ?_)
   clear hK K hT
   try simp only [Act.put, pa, pb, pc]
   refine wpAnyH_ready (rs := [4, 5]) (by kernel_rfl) (by simp) ?_
   refine AllReadyH.cons (o := ⟨some 79, _, _, _, _, _⟩) rfl (fun K hK => ?_) ?_
   ·go_simp
    refine (HAG.out _ _ _ (by exact o20.read) (by exact o21.read)).mono ?_
    rintro e u22 ⟨v22, rfl, oH00, b22⟩
    obtain ⟨AH0_3, cH0_3, rfl, _⟩ := aggRi oH00.read
    have o20 := o20.past b22
    have o21 := o21.past b22
    have zz22 := b22.size
    have hT := hS.trans (b22.mono hS.size)
    clear hS b22
    refine hK.out _ _ hT (fun hS => ?_)
    clear hK K hT
    try simp only [Act.put, pa, pb, pc]
    refine low.r1 5 (some 13) rfl (fun K hK => ?_)
    go_simp
    have b9 := alloc_below u22 (.cells #[.int .i64 0, .int .i64 0, .bool false, .slice none 0 0] 32)
    have o20 := o20.past b9
    have o21 := o21.past b9
    have oH00 := oH00.past b9
    have bx9 := Bx.new u22 #[.int .i64 0, .int .i64 0, .bool false, .slice none 0 0] 32
    have zg := hS.size
    have zy : (u22.alloc (.cells #[.int .i64 0, .int .i64 0, .bool false, .slice none 0 0] 32)).heap.size = u22.heap.size + 1 := World.size_alloc _ _
    have hT := hS.trans (b9.mono hS.size)
    clear hS b9
    refine hK.out _ _ hT (fun hS => ?_)
    clear hK K hT
    try simp only [Act.put, pa, pb, pc]
    generalize u22.alloc (.cells #[.int .i64 0, .int .i64 0, .bool false, .slice none 0 0] 32) = W9 at o20 o21 oH00 bx9 zy hS ⊢
    refine low.r1 6 none rfl (fun K hK => ?_)
    have kq0 := bx9.cell (j := 0) rfl
    have fq0 := bxfree (j := 0) bx9
    have kq1 := bx9.cell (j := 1) rfl
    have fq1 := bxfree (j := 1) bx9
    have kq2 := bx9.cell (j := 2) rfl
    have fq2 := bxfree (j := 2) bx9
    have kq3 := bx9.cell (j := 3) rfl
    have fq3 := bxfree (j := 3) bx9
    go_simp
    clear kq0 fq0 kq1 fq1 kq2 fq2 kq3 fq3
    have hT : Below u19.heap.size u19 ((((W9.setCell ⟨u22.heap.size, 0, none⟩ (.int .i64 L0.cap)).setCell ⟨u22.heap.size, 1, none⟩ (.int .i64 L0.next)).setCell ⟨u22.heap.size, 2, none⟩ (.bool L0.out)).setCell ⟨u22.heap.size, 3, none⟩ (.slice AH0_3 L0.list.length cH0_3)) := putRow_below (lo := u19.heap.size) zg [.int .i64 L0.cap, .int .i64 L0.next, .bool L0.out, .slice AH0_3 L0.list.length cH0_3] _ 0 hS
    have bx8 : Bx ((((W9.setCell ⟨u22.heap.size, 0, none⟩ (.int .i64 L0.cap)).setCell ⟨u22.heap.size, 1, none⟩ (.int .i64 L0.next)).setCell ⟨u22.heap.size, 2, none⟩ (.bool L0.out)).setCell ⟨u22.heap.size, 3, none⟩ (.slice AH0_3 L0.list.length cH0_3)) (u22.heap.size) #[.int .i64 L0.cap, .int .i64 L0.next, .bool L0.out, .slice AH0_3 L0.list.length cH0_3] 32 := putRow_cells (ys := [.int .i64 L0.cap, .int .i64 L0.next, .bool L0.out, .slice AH0_3 L0.list.length cH0_3]) (cs := #[.int .i64 0, .int .i64 0, .bool false, .slice none 0 0]) (o := 0) rfl bx9
    have oH01 : Own _ _ ((((W9.setCell ⟨u22.heap.size, 0, none⟩ (.int .i64 L0.cap)).setCell ⟨u22.heap.size, 1, none⟩ (.int .i64 L0.next)).setCell ⟨u22.heap.size, 2, none⟩ (.bool L0.out)).setCell ⟨u22.heap.size, 3, none⟩ (.slice AH0_3 L0.list.length cH0_3)) _ _ := Own.putRow (g := u22.heap.size) (by omega) [.int .i64 L0.cap, .int .i64 L0.next, .bool L0.out, .slice AH0_3 L0.list.length cH0_3] _ 0 oH00
    have zw : ((((W9.setCell ⟨u22.heap.size, 0, none⟩ (.int .i64 L0.cap)).setCell ⟨u22.heap.size, 1, none⟩ (.int .i64 L0.next)).setCell ⟨u22.heap.size, 2, none⟩ (.bool L0.out)).setCell ⟨u22.heap.size, 3, none⟩ (.slice AH0_3 L0.list.length cH0_3)).heap.size = W9.heap.size := putRow_size _ [.int .i64 L0.cap, .int .i64 L0.next, .bool L0.out, .slice AH0_3 L0.list.length cH0_3] _ 0
    clear hS bx9 oH00
    refine hK.out _ _ hT (fun hS => ?_)
    clear hK K hT
    try simp only [Act.put]
    generalize ((((W9.setCell ⟨u22.heap.size, 0, none⟩ (.int .i64 L0.cap)).setCell ⟨u22.heap.size, 1, none⟩ (.int .i64 L0.next)).setCell ⟨u22.heap.size, 2, none⟩ (.bool L0.out)).setCell ⟨u22.heap.size, 3, none⟩ (.slice AH0_3 L0.list.length cH0_3)) = u23 at oH01 bx8 zw hS ⊢
    refine wpAnyH_done (by kernel_rfl) ?_ _
    have HK23 := hS
    clear hS
    clear o20 o21
    clear YbxA0 YbxA1
    have oW0 := oW0.past HK23
    have oG0 := oG0.past HK23
    have bxA0 := bxA0.past HK23
    have bxA1 := bxA1.past HK23
    have bxW0 := bxW0.past HK23
    have bxX0 := bxX0.past HK23
    have bxX1 := bxX1.past HK23
    have bxG0 := bxG0.past HK23
    have z23 := HK23.size
    have D23 := D19.trans (HK23.mono D19.size)
    obtain ⟨k23, oH0⟩ := oH01.blocks
    have bxH0 := bx8
    clear oH01 bx8
    have ybxH00 : _ = (some (.int .i64 L0.cap) : Option Value) := bxH0.cell (j := 0) rfl
    have ybxH01 : _ = (some (.int .i64 L0.next) : Option Value) := bxH0.cell (j := 1) rfl
    have ybxH02 : _ = (some (.bool L0.out) : Option Value) := bxH0.cell (j := 2) rfl
    have ybxH03 : _ = (some (.slice AH0_3 L0.list.length cH0_3) : Option Value) := bxH0.cell (j := 3) rfl
    have ybxW00 : _ = (some (.int .i64 L0.cap) : Option Value) := bxW0.cell (j := 0) rfl
    have ybxW01 : _ = (some (.int .i64 L0.next) : Option Value) := bxW0.cell (j := 1) rfl
    have ybxW02 : _ = (some (.bool L0.out) : Option Value) := bxW0.cell (j := 2) rfl
    have ybxW03 : _ = (some (.slice AW0_3 L0.list.length cW0_3) : Option Value) := bxW0.cell (j := 3) rfl
    go_wp2_with fail
    clear ybxH00 ybxH01 ybxH02 ybxH03 ybxW00 ybxW01 ybxW02 ybxW03
    refine (eqRi _ _ L0 _ oH0.read oW0.read hs0).mono ?_
    rintro e u24 ⟨rfl, b24⟩
    have oW0 := oW0.past b24
    have oG0 := oG0.past b24
    have oH0 := oH0.past b24
    have bxA0 := bxA0.past b24
    have bxA1 := bxA1.past b24
    have bxW0 := bxW0.past b24
    have bxX0 := bxX0.past b24
    have bxX1 := bxX1.past b24
    have bxG0 := bxG0.past b24
    have bxH0 := bxH0.past b24
    have z24 := b24.size
    have D24 := D23.trans (b24.mono D23.size)
    have ybxG00 : _ = (some (.int .i64 L0.cap) : Option Value) := bxG0.cell (j := 0) rfl
    have ybxG01 : _ = (some (.int .i64 L0.next) : Option Value) := bxG0.cell (j := 1) rfl
    have ybxG02 : _ = (some (.bool L0.out) : Option Value) := bxG0.cell (j := 2) rfl
    have ybxG03 : _ = (some (.slice AG0_3 L0.list.length cG0_3) : Option Value) := bxG0.cell (j := 3) rfl
    go_wp2_with fail
    clear ybxG00 ybxG01 ybxG02 ybxG03
    refine (heldRi _ L0 (1) _ oG0.read (by omega) (by omega) hs0).mono ?_
    rintro e u25 ⟨rfl, b25⟩
    rw [HN0.out]
    have oW0 := oW0.past b25
    have oG0 := oG0.past b25
    have oH0 := oH0.past b25
    have bxA0 := bxA0.past b25
    have bxA1 := bxA1.past b25
    have bxW0 := bxW0.past b25
    have bxX0 := bxX0.past b25
    have bxX1 := bxX1.past b25
    have bxG0 := bxG0.past b25
    have bxH0 := bxH0.past b25
    have z25 := b25.size
    have D25 := D24.trans (b25.mono D24.size)
    go_wp2
    go_ret
    exact ⟨rfl, D25⟩
   refine AllReadyH.cons (o := ⟨some 13, _, _, _, _, _⟩) rfl (fun K hK => ?_) AllReadyH.nil
   go_simp
   have b9 := alloc_below u21 (.cells #[.int .i64 0, .int .i64 0, .bool false, .slice none 0 0] 32)
   have o20 := o20.past b9
   have o21 := o21.past b9
   have bx9 := Bx.new u21 #[.int .i64 0, .int .i64 0, .bool false, .slice none 0 0] 32
   have zg := hS.size
   have zy : (u21.alloc (.cells #[.int .i64 0, .int .i64 0, .bool false, .slice none 0 0] 32)).heap.size = u21.heap.size + 1 := World.size_alloc _ _
   have hT := hS.trans (b9.mono hS.size)
   clear hS b9
   refine hK.out _ _ hT (fun hS => ?_)
   clear hK K hT
   try simp only [Act.put, pa, pb, pc]
   generalize u21.alloc (.cells #[.int .i64 0, .int .i64 0, .bool false, .slice none 0 0] 32) = W9 at o20 o21 bx9 zy hS ⊢
   refine low.r1 4 (some 79) rfl (fun K hK => ?_)
   go_simp
   refine (HAG.out _ _ _ (by exact o20.read) (by exact o21.read)).mono ?_
   rintro e u22 ⟨v22, rfl, oH00, b22⟩
   obtain ⟨AH0_3, cH0_3, rfl, _⟩ := aggRi oH00.read
   have o20 := o20.past b22
   have o21 := o21.past b22
   have bx9 := bx9.past b22
   have zz22 := b22.size
   have hT := hS.trans (b22.mono hS.size)
   clear hS b22
   refine hK.out _ _ hT (fun hS => ?_)
   clear hK K hT
   try simp only [Act.put, pa, pb, pc]
   refine low.r1 6 none rfl (fun K hK => ?_)
   have kq0 := bx9.cell (j := 0) rfl
   have fq0 := bxfree (j := 0) bx9
   have kq1 := bx9.cell (j := 1) rfl
   have fq1 := bxfree (j := 1) bx9
   have kq2 := bx9.cell (j := 2) rfl
   have fq2 := bxfree (j := 2) bx9
   have kq3 := bx9.cell (j := 3) rfl
   have fq3 := bxfree (j := 3) bx9
   go_simp
   clear kq0 fq0 kq1 fq1 kq2 fq2 kq3 fq3
   have hT : Below u19.heap.size u19 ((((u22.setCell ⟨u21.heap.size, 0, none⟩ (.int .i64 L0.cap)).setCell ⟨u21.heap.size, 1, none⟩ (.int .i64 L0.next)).setCell ⟨u21.heap.size, 2, none⟩ (.bool L0.out)).setCell ⟨u21.heap.size, 3, none⟩ (.slice AH0_3 L0.list.length cH0_3)) := putRow_below (lo := u19.heap.size) zg [.int .i64 L0.cap, .int .i64 L0.next, .bool L0.out, .slice AH0_3 L0.list.length cH0_3] _ 0 hS
   have bx8 : Bx ((((u22.setCell ⟨u21.heap.size, 0, none⟩ (.int .i64 L0.cap)).setCell ⟨u21.heap.size, 1, none⟩ (.int .i64 L0.next)).setCell ⟨u21.heap.size, 2, none⟩ (.bool L0.out)).setCell ⟨u21.heap.size, 3, none⟩ (.slice AH0_3 L0.list.length cH0_3)) (u21.heap.size) #[.int .i64 L0.cap, .int .i64 L0.next, .bool L0.out, .slice AH0_3 L0.list.length cH0_3] 32 := putRow_cells (ys := [.int .i64 L0.cap, .int .i64 L0.next, .bool L0.out, .slice AH0_3 L0.list.length cH0_3]) (cs := #[.int .i64 0, .int .i64 0, .bool false, .slice none 0 0]) (o := 0) rfl bx9
   have oH01 : Own _ _ ((((u22.setCell ⟨u21.heap.size, 0, none⟩ (.int .i64 L0.cap)).setCell ⟨u21.heap.size, 1, none⟩ (.int .i64 L0.next)).setCell ⟨u21.heap.size, 2, none⟩ (.bool L0.out)).setCell ⟨u21.heap.size, 3, none⟩ (.slice AH0_3 L0.list.length cH0_3)) _ _ := Own.putRow (g := u21.heap.size) (by omega) [.int .i64 L0.cap, .int .i64 L0.next, .bool L0.out, .slice AH0_3 L0.list.length cH0_3] _ 0 oH00
   have zw : ((((u22.setCell ⟨u21.heap.size, 0, none⟩ (.int .i64 L0.cap)).setCell ⟨u21.heap.size, 1, none⟩ (.int .i64 L0.next)).setCell ⟨u21.heap.size, 2, none⟩ (.bool L0.out)).setCell ⟨u21.heap.size, 3, none⟩ (.slice AH0_3 L0.list.length cH0_3)).heap.size = u22.heap.size := putRow_size _ [.int .i64 L0.cap, .int .i64 L0.next, .bool L0.out, .slice AH0_3 L0.list.length cH0_3] _ 0
   clear hS bx9 oH00
   refine hK.out _ _ hT (fun hS => ?_)
   clear hK K hT
   try simp only [Act.put]
   generalize ((((u22.setCell ⟨u21.heap.size, 0, none⟩ (.int .i64 L0.cap)).setCell ⟨u21.heap.size, 1, none⟩ (.int .i64 L0.next)).setCell ⟨u21.heap.size, 2, none⟩ (.bool L0.out)).setCell ⟨u21.heap.size, 3, none⟩ (.slice AH0_3 L0.list.length cH0_3)) = u23 at oH01 bx8 zw hS ⊢
   refine wpAnyH_done (by kernel_rfl) ?_ _
   have HK23 := hS
   clear hS
   clear o20 o21
   clear YbxA0 YbxA1
   have oW0 := oW0.past HK23
   have oG0 := oG0.past HK23
   have bxA0 := bxA0.past HK23
   have bxA1 := bxA1.past HK23
   have bxW0 := bxW0.past HK23
   have bxX0 := bxX0.past HK23
   have bxX1 := bxX1.past HK23
   have bxG0 := bxG0.past HK23
   have z23 := HK23.size
   have D23 := D19.trans (HK23.mono D19.size)
   obtain ⟨k23, oH0⟩ := oH01.blocks
   have bxH0 := bx8
   clear oH01 bx8
   have ybxH00 : _ = (some (.int .i64 L0.cap) : Option Value) := bxH0.cell (j := 0) rfl
   have ybxH01 : _ = (some (.int .i64 L0.next) : Option Value) := bxH0.cell (j := 1) rfl
   have ybxH02 : _ = (some (.bool L0.out) : Option Value) := bxH0.cell (j := 2) rfl
   have ybxH03 : _ = (some (.slice AH0_3 L0.list.length cH0_3) : Option Value) := bxH0.cell (j := 3) rfl
   have ybxW00 : _ = (some (.int .i64 L0.cap) : Option Value) := bxW0.cell (j := 0) rfl
   have ybxW01 : _ = (some (.int .i64 L0.next) : Option Value) := bxW0.cell (j := 1) rfl
   have ybxW02 : _ = (some (.bool L0.out) : Option Value) := bxW0.cell (j := 2) rfl
   have ybxW03 : _ = (some (.slice AW0_3 L0.list.length cW0_3) : Option Value) := bxW0.cell (j := 3) rfl
   go_wp2_with fail
   clear ybxH00 ybxH01 ybxH02 ybxH03 ybxW00 ybxW01 ybxW02 ybxW03
   refine (eqRi _ _ L0 _ oH0.read oW0.read hs0).mono ?_
   rintro e u24 ⟨rfl, b24⟩
   have oW0 := oW0.past b24
   have oG0 := oG0.past b24
   have oH0 := oH0.past b24
   have bxA0 := bxA0.past b24
   have bxA1 := bxA1.past b24
   have bxW0 := bxW0.past b24
   have bxX0 := bxX0.past b24
   have bxX1 := bxX1.past b24
   have bxG0 := bxG0.past b24
   have bxH0 := bxH0.past b24
   have z24 := b24.size
   have D24 := D23.trans (b24.mono D23.size)
   have ybxG00 : _ = (some (.int .i64 L0.cap) : Option Value) := bxG0.cell (j := 0) rfl
   have ybxG01 : _ = (some (.int .i64 L0.next) : Option Value) := bxG0.cell (j := 1) rfl
   have ybxG02 : _ = (some (.bool L0.out) : Option Value) := bxG0.cell (j := 2) rfl
   have ybxG03 : _ = (some (.slice AG0_3 L0.list.length cG0_3) : Option Value) := bxG0.cell (j := 3) rfl
   go_wp2_with fail
   clear ybxG00 ybxG01 ybxG02 ybxG03
   refine (heldRi _ L0 (1) _ oG0.read (by omega) (by omega) hs0).mono ?_
   rintro e u25 ⟨rfl, b25⟩
   rw [HN0.out]
   have oW0 := oW0.past b25
   have oG0 := oG0.past b25
   have oH0 := oH0.past b25
   have bxA0 := bxA0.past b25
   have bxA1 := bxA1.past b25
   have bxW0 := bxW0.past b25
   have bxX0 := bxX0.past b25
   have bxX1 := bxX1.past b25
   have bxG0 := bxG0.past b25
   have bxH0 := bxH0.past b25
   have z25 := b25.size
   have D25 := D24.trans (b25.mono D24.size)
   go_wp2
   go_ret
   exact ⟨rfl, D25⟩
  refine AllReadyH.cons (o := ⟨some 13, _, _, _, _, _⟩) rfl (fun K hK => ?_) AllReadyH.nil
  go_simp
  have b9 := alloc_below u20 (.cells #[.int .i64 0, .int .i64 0, .bool false, .slice none 0 0] 32)
  have o20 := o20.past b9
  have bx9 := Bx.new u20 #[.int .i64 0, .int .i64 0, .bool false, .slice none 0 0] 32
  have zg := hS.size
  have zy : (u20.alloc (.cells #[.int .i64 0, .int .i64 0, .bool false, .slice none 0 0] 32)).heap.size = u20.heap.size + 1 := World.size_alloc _ _
  have hT := hS.trans (b9.mono hS.size)
  clear hS b9
  refine hK.out _ _ hT (fun hS => ?_)
  clear hK K hT
  try simp only [Act.put, pa, pb, pc]
  generalize u20.alloc (.cells #[.int .i64 0, .int .i64 0, .bool false, .slice none 0 0] 32) = W9 at o20 bx9 zy hS ⊢
  refine low.r1 3 (some 78) rfl (fun K hK => ?_)
  go_simp
  refine (toEn _ x1 _ (R1.past (D19.trans (hS.mono D19.size))) S1).mono ?_
  rintro e u21 ⟨v21, rfl, o21, b21⟩
  obtain ⟨A21_2, c21_2, rfl, _⟩ := aggEn o21.read
  have o20 := o20.past b21
  have bx9 := bx9.past b21
  have zz21 := b21.size
  have hT := hS.trans (b21.mono hS.size)
  clear hS b21
  refine hK.out _ _ hT (fun hS => ?_)
  clear hK K hT
  try simp only [Act.put, pa, pb, pc]
  refine low.r1 4 (some 79) rfl (fun K hK => ?_)
  go_simp
  refine (HAG.out _ _ _ (by exact o20.read) (by exact o21.read)).mono ?_
  rintro e u22 ⟨v22, rfl, oH00, b22⟩
  obtain ⟨AH0_3, cH0_3, rfl, _⟩ := aggRi oH00.read
  have o20 := o20.past b22
  have o21 := o21.past b22
  have bx9 := bx9.past b22
  have zz22 := b22.size
  have hT := hS.trans (b22.mono hS.size)
  clear hS b22
  refine hK.out _ _ hT (fun hS => ?_)
  clear hK K hT
  try simp only [Act.put, pa, pb, pc]
  refine low.r1 6 none rfl (fun K hK => ?_)
  have kq0 := bx9.cell (j := 0) rfl
  have fq0 := bxfree (j := 0) bx9
  have kq1 := bx9.cell (j := 1) rfl
  have fq1 := bxfree (j := 1) bx9
  have kq2 := bx9.cell (j := 2) rfl
  have fq2 := bxfree (j := 2) bx9
  have kq3 := bx9.cell (j := 3) rfl
  have fq3 := bxfree (j := 3) bx9
  go_simp
  clear kq0 fq0 kq1 fq1 kq2 fq2 kq3 fq3
  have hT : Below u19.heap.size u19 ((((u22.setCell ⟨u20.heap.size, 0, none⟩ (.int .i64 L0.cap)).setCell ⟨u20.heap.size, 1, none⟩ (.int .i64 L0.next)).setCell ⟨u20.heap.size, 2, none⟩ (.bool L0.out)).setCell ⟨u20.heap.size, 3, none⟩ (.slice AH0_3 L0.list.length cH0_3)) := putRow_below (lo := u19.heap.size) zg [.int .i64 L0.cap, .int .i64 L0.next, .bool L0.out, .slice AH0_3 L0.list.length cH0_3] _ 0 hS
  have bx8 : Bx ((((u22.setCell ⟨u20.heap.size, 0, none⟩ (.int .i64 L0.cap)).setCell ⟨u20.heap.size, 1, none⟩ (.int .i64 L0.next)).setCell ⟨u20.heap.size, 2, none⟩ (.bool L0.out)).setCell ⟨u20.heap.size, 3, none⟩ (.slice AH0_3 L0.list.length cH0_3)) (u20.heap.size) #[.int .i64 L0.cap, .int .i64 L0.next, .bool L0.out, .slice AH0_3 L0.list.length cH0_3] 32 := putRow_cells (ys := [.int .i64 L0.cap, .int .i64 L0.next, .bool L0.out, .slice AH0_3 L0.list.length cH0_3]) (cs := #[.int .i64 0, .int .i64 0, .bool false, .slice none 0 0]) (o := 0) rfl bx9
  have oH01 : Own _ _ ((((u22.setCell ⟨u20.heap.size, 0, none⟩ (.int .i64 L0.cap)).setCell ⟨u20.heap.size, 1, none⟩ (.int .i64 L0.next)).setCell ⟨u20.heap.size, 2, none⟩ (.bool L0.out)).setCell ⟨u20.heap.size, 3, none⟩ (.slice AH0_3 L0.list.length cH0_3)) _ _ := Own.putRow (g := u20.heap.size) (by omega) [.int .i64 L0.cap, .int .i64 L0.next, .bool L0.out, .slice AH0_3 L0.list.length cH0_3] _ 0 oH00
  have zw : ((((u22.setCell ⟨u20.heap.size, 0, none⟩ (.int .i64 L0.cap)).setCell ⟨u20.heap.size, 1, none⟩ (.int .i64 L0.next)).setCell ⟨u20.heap.size, 2, none⟩ (.bool L0.out)).setCell ⟨u20.heap.size, 3, none⟩ (.slice AH0_3 L0.list.length cH0_3)).heap.size = u22.heap.size := putRow_size _ [.int .i64 L0.cap, .int .i64 L0.next, .bool L0.out, .slice AH0_3 L0.list.length cH0_3] _ 0
  clear hS bx9 oH00
  refine hK.out _ _ hT (fun hS => ?_)
  clear hK K hT
  try simp only [Act.put]
  generalize ((((u22.setCell ⟨u20.heap.size, 0, none⟩ (.int .i64 L0.cap)).setCell ⟨u20.heap.size, 1, none⟩ (.int .i64 L0.next)).setCell ⟨u20.heap.size, 2, none⟩ (.bool L0.out)).setCell ⟨u20.heap.size, 3, none⟩ (.slice AH0_3 L0.list.length cH0_3)) = u23 at oH01 bx8 zw hS ⊢
  refine wpAnyH_done (by kernel_rfl) ?_ _
  have HK23 := hS
  clear hS
  clear o20 o21
  clear YbxA0 YbxA1
  have oW0 := oW0.past HK23
  have oG0 := oG0.past HK23
  have bxA0 := bxA0.past HK23
  have bxA1 := bxA1.past HK23
  have bxW0 := bxW0.past HK23
  have bxX0 := bxX0.past HK23
  have bxX1 := bxX1.past HK23
  have bxG0 := bxG0.past HK23
  have z23 := HK23.size
  have D23 := D19.trans (HK23.mono D19.size)
  obtain ⟨k23, oH0⟩ := oH01.blocks
  have bxH0 := bx8
  clear oH01 bx8
  have ybxH00 : _ = (some (.int .i64 L0.cap) : Option Value) := bxH0.cell (j := 0) rfl
  have ybxH01 : _ = (some (.int .i64 L0.next) : Option Value) := bxH0.cell (j := 1) rfl
  have ybxH02 : _ = (some (.bool L0.out) : Option Value) := bxH0.cell (j := 2) rfl
  have ybxH03 : _ = (some (.slice AH0_3 L0.list.length cH0_3) : Option Value) := bxH0.cell (j := 3) rfl
  have ybxW00 : _ = (some (.int .i64 L0.cap) : Option Value) := bxW0.cell (j := 0) rfl
  have ybxW01 : _ = (some (.int .i64 L0.next) : Option Value) := bxW0.cell (j := 1) rfl
  have ybxW02 : _ = (some (.bool L0.out) : Option Value) := bxW0.cell (j := 2) rfl
  have ybxW03 : _ = (some (.slice AW0_3 L0.list.length cW0_3) : Option Value) := bxW0.cell (j := 3) rfl
  go_wp2_with fail
  clear ybxH00 ybxH01 ybxH02 ybxH03 ybxW00 ybxW01 ybxW02 ybxW03
  refine (eqRi _ _ L0 _ oH0.read oW0.read hs0).mono ?_
  rintro e u24 ⟨rfl, b24⟩
  have oW0 := oW0.past b24
  have oG0 := oG0.past b24
  have oH0 := oH0.past b24
  have bxA0 := bxA0.past b24
  have bxA1 := bxA1.past b24
  have bxW0 := bxW0.past b24
  have bxX0 := bxX0.past b24
  have bxX1 := bxX1.past b24
  have bxG0 := bxG0.past b24
  have bxH0 := bxH0.past b24
  have z24 := b24.size
  have D24 := D23.trans (b24.mono D23.size)
  have ybxG00 : _ = (some (.int .i64 L0.cap) : Option Value) := bxG0.cell (j := 0) rfl
  have ybxG01 : _ = (some (.int .i64 L0.next) : Option Value) := bxG0.cell (j := 1) rfl
  have ybxG02 : _ = (some (.bool L0.out) : Option Value) := bxG0.cell (j := 2) rfl
  have ybxG03 : _ = (some (.slice AG0_3 L0.list.length cG0_3) : Option Value) := bxG0.cell (j := 3) rfl
  go_wp2_with fail
  clear ybxG00 ybxG01 ybxG02 ybxG03
  refine (heldRi _ L0 (1) _ oG0.read (by omega) (by omega) hs0).mono ?_
  rintro e u25 ⟨rfl, b25⟩
  rw [HN0.out]
  have oW0 := oW0.past b25
  have oG0 := oG0.past b25
  have oH0 := oH0.past b25
  have bxA0 := bxA0.past b25
  have bxA1 := bxA1.past b25
  have bxW0 := bxW0.past b25
  have bxX0 := bxX0.past b25
  have bxX1 := bxX1.past b25
  have bxG0 := bxG0.past b25
  have bxH0 := bxH0.past b25
  have z25 := b25.size
  have D25 := D24.trans (b25.mono D24.size)
  go_wp2
  go_ret
  exact ⟨rfl, D25⟩
 refine AllReadyH.cons (o := ⟨some 13, _, _, _, _, _⟩) rfl (fun K hK => ?_) AllReadyH.nil
 go_simp
 have b9 := alloc_below W0 (.cells #[.int .i64 0, .int .i64 0, .bool false, .slice none 0 0] 32)
 have bx9 := Bx.new W0 #[.int .i64 0, .int .i64 0, .bool false, .slice none 0 0] 32
 have zg := hS.size
 have zy : (W0.alloc (.cells #[.int .i64 0, .int .i64 0, .bool false, .slice none 0 0] 32)).heap.size = W0.heap.size + 1 := World.size_alloc _ _
 have hT := hS.trans (b9.mono hS.size)
 clear hS b9
 refine hK.out _ _ hT (fun hS => ?_)
 clear hK K hT
 try simp only [Act.put, pa, pb, pc]
 generalize W0.alloc (.cells #[.int .i64 0, .int .i64 0, .bool false, .slice none 0 0] 32) = W9 at  bx9 zy hS ⊢
 refine low.r1 1 (some 76) rfl (fun K hK => ?_)
 go_simp
 refine (toRi _ x0 _ (R0.past (D19.trans (hS.mono D19.size))) S0).mono ?_
 rintro e u20 ⟨v20, rfl, o20, b20⟩
 obtain ⟨A20_3, c20_3, rfl, _⟩ := aggRi o20.read
 have bx9 := bx9.past b20
 have zz20 := b20.size
 have hT := hS.trans (b20.mono hS.size)
 clear hS b20
 refine hK.out _ _ hT (fun hS => ?_)
 clear hK K hT
 try simp only [Act.put, pa, pb, pc]
 refine low.r1 3 (some 78) rfl (fun K hK => ?_)
 go_simp
 refine (toEn _ x1 _ (R1.past (D19.trans (hS.mono D19.size))) S1).mono ?_
 rintro e u21 ⟨v21, rfl, o21, b21⟩
 obtain ⟨A21_2, c21_2, rfl, _⟩ := aggEn o21.read
 have o20 := o20.past b21
 have bx9 := bx9.past b21
 have zz21 := b21.size
 have hT := hS.trans (b21.mono hS.size)
 clear hS b21
 refine hK.out _ _ hT (fun hS => ?_)
 clear hK K hT
 try simp only [Act.put, pa, pb, pc]
 refine low.r1 4 (some 79) rfl (fun K hK => ?_)
 go_simp
 refine (HAG.out _ _ _ (by exact o20.read) (by exact o21.read)).mono ?_
 rintro e u22 ⟨v22, rfl, oH00, b22⟩
 obtain ⟨AH0_3, cH0_3, rfl, _⟩ := aggRi oH00.read
 have o20 := o20.past b22
 have o21 := o21.past b22
 have bx9 := bx9.past b22
 have zz22 := b22.size
 have hT := hS.trans (b22.mono hS.size)
 clear hS b22
 refine hK.out _ _ hT (fun hS => ?_)
 clear hK K hT
 try simp only [Act.put, pa, pb, pc]
 refine low.r1 6 none rfl (fun K hK => ?_)
 have kq0 := bx9.cell (j := 0) rfl
 have fq0 := bxfree (j := 0) bx9
 have kq1 := bx9.cell (j := 1) rfl
 have fq1 := bxfree (j := 1) bx9
 have kq2 := bx9.cell (j := 2) rfl
 have fq2 := bxfree (j := 2) bx9
 have kq3 := bx9.cell (j := 3) rfl
 have fq3 := bxfree (j := 3) bx9
 go_simp
 clear kq0 fq0 kq1 fq1 kq2 fq2 kq3 fq3
 have hT : Below u19.heap.size u19 ((((u22.setCell ⟨W0.heap.size, 0, none⟩ (.int .i64 L0.cap)).setCell ⟨W0.heap.size, 1, none⟩ (.int .i64 L0.next)).setCell ⟨W0.heap.size, 2, none⟩ (.bool L0.out)).setCell ⟨W0.heap.size, 3, none⟩ (.slice AH0_3 L0.list.length cH0_3)) := putRow_below (lo := u19.heap.size) zg [.int .i64 L0.cap, .int .i64 L0.next, .bool L0.out, .slice AH0_3 L0.list.length cH0_3] _ 0 hS
 have bx8 : Bx ((((u22.setCell ⟨W0.heap.size, 0, none⟩ (.int .i64 L0.cap)).setCell ⟨W0.heap.size, 1, none⟩ (.int .i64 L0.next)).setCell ⟨W0.heap.size, 2, none⟩ (.bool L0.out)).setCell ⟨W0.heap.size, 3, none⟩ (.slice AH0_3 L0.list.length cH0_3)) (W0.heap.size) #[.int .i64 L0.cap, .int .i64 L0.next, .bool L0.out, .slice AH0_3 L0.list.length cH0_3] 32 := putRow_cells (ys := [.int .i64 L0.cap, .int .i64 L0.next, .bool L0.out, .slice AH0_3 L0.list.length cH0_3]) (cs := #[.int .i64 0, .int .i64 0, .bool false, .slice none 0 0]) (o := 0) rfl bx9
 have oH01 : Own _ _ ((((u22.setCell ⟨W0.heap.size, 0, none⟩ (.int .i64 L0.cap)).setCell ⟨W0.heap.size, 1, none⟩ (.int .i64 L0.next)).setCell ⟨W0.heap.size, 2, none⟩ (.bool L0.out)).setCell ⟨W0.heap.size, 3, none⟩ (.slice AH0_3 L0.list.length cH0_3)) _ _ := Own.putRow (g := W0.heap.size) (by omega) [.int .i64 L0.cap, .int .i64 L0.next, .bool L0.out, .slice AH0_3 L0.list.length cH0_3] _ 0 oH00
 have zw : ((((u22.setCell ⟨W0.heap.size, 0, none⟩ (.int .i64 L0.cap)).setCell ⟨W0.heap.size, 1, none⟩ (.int .i64 L0.next)).setCell ⟨W0.heap.size, 2, none⟩ (.bool L0.out)).setCell ⟨W0.heap.size, 3, none⟩ (.slice AH0_3 L0.list.length cH0_3)).heap.size = u22.heap.size := putRow_size _ [.int .i64 L0.cap, .int .i64 L0.next, .bool L0.out, .slice AH0_3 L0.list.length cH0_3] _ 0
 clear hS bx9 oH00
 refine hK.out _ _ hT (fun hS => ?_)
 clear hK K hT
 try simp only [Act.put]
 generalize ((((u22.setCell ⟨W0.heap.size, 0, none⟩ (.int .i64 L0.cap)).setCell ⟨W0.heap.size, 1, none⟩ (.int .i64 L0.next)).setCell ⟨W0.heap.size, 2, none⟩ (.bool L0.out)).setCell ⟨W0.heap.size, 3, none⟩ (.slice AH0_3 L0.list.length cH0_3)) = u23 at oH01 bx8 zw hS ⊢
 refine wpAnyH_done (by kernel_rfl) ?_ _
 have HK23 := hS
 clear hS
 clear o20 o21
 clear YbxA0 YbxA1
 have oW0 := oW0.past HK23
 have oG0 := oG0.past HK23
 have bxA0 := bxA0.past HK23
 have bxA1 := bxA1.past HK23
 have bxW0 := bxW0.past HK23
 have bxX0 := bxX0.past HK23
 have bxX1 := bxX1.past HK23
 have bxG0 := bxG0.past HK23
 have z23 := HK23.size
 have D23 := D19.trans (HK23.mono D19.size)
 obtain ⟨k23, oH0⟩ := oH01.blocks
 have bxH0 := bx8
 clear oH01 bx8
 have ybxH00 : _ = (some (.int .i64 L0.cap) : Option Value) := bxH0.cell (j := 0) rfl
 have ybxH01 : _ = (some (.int .i64 L0.next) : Option Value) := bxH0.cell (j := 1) rfl
 have ybxH02 : _ = (some (.bool L0.out) : Option Value) := bxH0.cell (j := 2) rfl
 have ybxH03 : _ = (some (.slice AH0_3 L0.list.length cH0_3) : Option Value) := bxH0.cell (j := 3) rfl
 have ybxW00 : _ = (some (.int .i64 L0.cap) : Option Value) := bxW0.cell (j := 0) rfl
 have ybxW01 : _ = (some (.int .i64 L0.next) : Option Value) := bxW0.cell (j := 1) rfl
 have ybxW02 : _ = (some (.bool L0.out) : Option Value) := bxW0.cell (j := 2) rfl
 have ybxW03 : _ = (some (.slice AW0_3 L0.list.length cW0_3) : Option Value) := bxW0.cell (j := 3) rfl
 go_wp2_with fail
 clear ybxH00 ybxH01 ybxH02 ybxH03 ybxW00 ybxW01 ybxW02 ybxW03
 refine (eqRi _ _ L0 _ oH0.read oW0.read hs0).mono ?_
 rintro e u24 ⟨rfl, b24⟩
 have oW0 := oW0.past b24
 have oG0 := oG0.past b24
 have oH0 := oH0.past b24
 have bxA0 := bxA0.past b24
 have bxA1 := bxA1.past b24
 have bxW0 := bxW0.past b24
 have bxX0 := bxX0.past b24
 have bxX1 := bxX1.past b24
 have bxG0 := bxG0.past b24
 have bxH0 := bxH0.past b24
 have z24 := b24.size
 have D24 := D23.trans (b24.mono D23.size)
 have ybxG00 : _ = (some (.int .i64 L0.cap) : Option Value) := bxG0.cell (j := 0) rfl
 have ybxG01 : _ = (some (.int .i64 L0.next) : Option Value) := bxG0.cell (j := 1) rfl
 have ybxG02 : _ = (some (.bool L0.out) : Option Value) := bxG0.cell (j := 2) rfl
 have ybxG03 : _ = (some (.slice AG0_3 L0.list.length cG0_3) : Option Value) := bxG0.cell (j := 3) rfl
 go_wp2_with fail
 clear ybxG00 ybxG01 ybxG02 ybxG03
 refine (heldRi _ L0 (1) _ oG0.read (by omega) (by omega) hs0).mono ?_
 rintro e u25 ⟨rfl, b25⟩
 rw [HN0.out]
 have oW0 := oW0.past b25
 have oG0 := oG0.past b25
 have oH0 := oH0.past b25
 have bxA0 := bxA0.past b25
 have bxA1 := bxA1.past b25
 have bxW0 := bxW0.past b25
 have bxX0 := bxX0.past b25
 have bxX1 := bxX1.past b25
 have bxG0 := bxG0.past b25
 have bxH0 := bxH0.past b25
 have z25 := b25.size
 have D25 := D24.trans (b25.mono D24.size)
 go_wp2
 go_ret
 exact ⟨rfl, D25⟩
theorem lifted (os : Os) (started : os.Started) (H : Type) (enc : TypeId × Value → H) :
  ReturnsInHanded {} Tryz.checked os 3 .any (Rows.fnExactRingPushSpec.pre6 enc Tryz.prog Tryz.f3 Rows.fnExactRingPushRow.domain false) (Rows.fnExactRingPushSpec.post enc Tryz.prog Tryz.f3 false true false false) := by
 refine returnsInHanded_of_change (C := Tryz.checked) own started (by kernel_rfl) Tryz.func3
  (ChangeSpec.witness6 (enc := enc) (C := Tryz.checked) false ⟨#[], #[.agg #[.int .i64 0, .int .i64 0, .bool false, .slice none 0 0], .agg #[.int .i64 0, .int .i64 0, .slice none 0 0]], []⟩ 8 (by kernel_rfl) (by kernel_rfl) (by kernel_rfl) (by kernel_rfl)) ?_
 intro W base args ds gs before hval0 hW hcnd _
 have hval : ∀ (j : Nat) t v, Tryz.f3.params[j]? = some t → args[j]? = some v → Value.okWide Tryz.prog W .any base t v := hval0
 have hW' := hW
 obtain ⟨p, q, hA0, hV, rfl, hfz, hnd⟩ := hW
 have hA : DataW.TrodAll enc Tryz.prog W 0 (fun _ => true) true Tryz.f3.params.toList args.toList ds p := hA0
 rw [Tryz.params3] at hA hval
 obtain ⟨v0, vs0, x0, xs0, q0, r0, hargs, rfl, rfl, h0, t0⟩ := trodAll_cons hA
 obtain ⟨v1, vs1, x1, xs1, q1, r1, rfl, rfl, rfl, h1, t1⟩ := trodAll_cons t0
 obtain ⟨rfl, rfl, rfl⟩ := trodAll_nil t1
 obtain rfl : args = #[v0, v1] := by cases args; simp_all
 obtain ⟨rfl, rfl⟩ := trodVars_none hV
 have k0 := h0
 have lt0 : ∀ x ∈ q0, x.block < W.heap.size := by obtain ⟨m, hm⟩ := k0; exact DataW.trod_lt m _ _ _ hm
 have k1 := h1
 have lt1 : ∀ x ∈ q1, x.block < W.heap.size := by obtain ⟨m, hm⟩ := k1; exact DataW.trod_lt m _ _ _ hm
 obtain ⟨cs0, rfl, hsz0⟩ := okWide_struct Tryz.underlying24 (hval 0 24 v0 rfl rfl)
 obtain ⟨f0, hf0⟩ := h0
 obtain ⟨x0, A0_3, c0_3, e0, r0_3, l0⟩ := open_dRi hf0
 obtain rfl : cs0 = #[.int .i64 x0.cap, .int .i64 x0.next, .bool x0.out, .slice A0_3 x0.list.length c0_3] := by cases cs0; simpa [Value.cells] using e0
 obtain ⟨cs1, rfl, hsz1⟩ := okWide_struct Tryz.underlying27 (hval 1 27 v1 rfl rfl)
 obtain ⟨f1, hf1⟩ := h1
 obtain ⟨x1, A1_2, c1_2, e1, r1_2, l1⟩ := open_dEn hf1
 obtain rfl : cs1 = #[.int .i64 x1.client, .int .i64 x1.seq, .slice A1_2 x1.o.length c1_2] := by cases cs1; simpa [Value.cells] using e1
 clear hA0 hval0
 refine (walk x0 _ x1 _ W (rdRi x0 r0_3) l0 (rdEn x1 r1_2) l1).mono fun e W' ⟨he, bel⟩ => ?_
 subst he
 exact ⟨_, rfl, _, _, _, [], _, [], hW', trodAll_mk1 (shut_bool Tryz.underlying4 _), (trodAll_cons_mk (Below.trod laidOut (by kernel_rfl) (of_decide_eq_true (by kernel_rfl)) k0 bel lt0) (trodAll_cons_mk (Below.trod laidOut (by kernel_rfl) (of_decide_eq_true (by kernel_rfl)) k1 bel lt1) trodAll_mk0)), rfl, bel.frame _, fun h => by cases h⟩
theorem over : Rows.fnExactRingPushRow.holds Tryz.pinned (OpenSpec.ofChange Rows.fnExactRingPushSpec) :=
 OpenClaim.holds_of_wide 3 Tryz.f3 rfl rfl rfl rfl rfl rfl rfl ⟨rfl, rfl, rfl, rfl, rfl⟩ rfl rfl rfl rfl rfl (by kernel_rfl) Tryz.func3 (by kernel_rfl)
  (of_decide_eq_true (by kernel_rfl)) (by unfold Func.isWrapper; first | (rw [if_pos (by decide +kernel)]; kernel_rfl) | (rw [if_neg (by decide +kernel)]; exact ⟨rfl, rfl⟩))
  (fun os started H enc _ => lifted os started H enc)
theorem proved : Rows.FnExactRingPushSaid := over
end Go.Proofs.YtglklgnggkenhaaGreat.fnExactRingPush
