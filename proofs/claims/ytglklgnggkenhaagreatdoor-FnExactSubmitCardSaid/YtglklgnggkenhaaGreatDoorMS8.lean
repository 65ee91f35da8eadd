/-
  Texts that the proofs over this seat rest on, one behind the other (8 of 8).
-/
import Derived.Test.YtglklgnggkenhaaGreatDoorMS4
set_option maxHeartbeats 12800000
set_option maxRecDepth 1000000
namespace Go.Proofs.YtglklgnggkenhaaGreatDoor.low
open Go.RowKit
set_option linter.unusedVariables false
theorem specSubmit_go (v v2 : Value) (x : Do) (c s base : Int) (o : List Pt) (w : World) (h : RdC w w.heap.size (datDo x) v) (h2 : RdC w w.heap.size (encPs o) v2) (hs : SmDo x) (hs2 : SmP o) (hgo : SubGo x c s base o) : Calls Tryz.prog 6 #[v, .int .i64 c, .int .i64 s, .int .i64 base, v2] w (RdNN (datDo (subDo x c s base o)) (subRev x c s base o) (subCode x c s base o) w) := by
 have HN := Lib.hid (sub_go hgo)
 obtain ⟨hd, hc, hq, ho, hns, hs7, hreb, hhead⟩ := hgo
 have HREB := Lib.hid hreb
 have HS7 := Lib.hid hs7
 clear hreb hns hs7
 have HR := Lib.hid h
 have HO := Lib.hid h2
 obtain ⟨A2, c2, A3, c3, A4, c4, rfl, -, -, -⟩ := aggDo h
 obtain ⟨Ao, co, rfl⟩ := sliceP h2
 clear h h2
 have hl := hs.list.len
 have HM := Lib.hid (Ms.start w)
 replace HM := Lib.hid (HM.out.new #[.string x.name, .int .i64 x.from_, .slice A2 x.text.length c2, .slice A3 x.list.length c3, .slice A4 x.seen.length c4] 33)
 have hm := HM.out.new #[.string ⟨#[]⟩, .int .i64 0, .slice none 0 0, .slice none 0 0, .slice none 0 0] 33
 simp only [World.size_alloc] at hm
 replace HM := Lib.hid hm
 clear hm
 go_enter Tryz.func6, Tryz.ntmps6
 go_wp2_with fail
 obtain ⟨W1, hW, hm⟩ := HM.out.name
 rw [← hW]
 replace HM := Lib.hid hm
 clear hm hW
 refine (specDocOk_d _ x _ (HM.out.arg HR.out) hs).mono ?_
 rw [hd]
 rintro e' W2 ⟨rfl, b'⟩
 replace HM := Lib.hid (HM.out.past b')
 clear b'
 go_wp2_with fail
 refine (in_any c 1 8 _).mono ?_
 rw [hc]
 rintro e' w' ⟨rfl, rfl⟩
 go_wp2_with fail
 refine (in_any s 1 1000000000 _).mono ?_
 rw [hq]
 rintro e' w' ⟨rfl, rfl⟩
 go_wp2_with fail
 refine (specOpOk_r _ o _ (HM.out.arg HO.out) hs2).mono ?_
 rw [ho]
 rintro e' W3 ⟨rfl, b'⟩
 replace HM := Lib.hid (HM.out.past b')
 clear b'
 obtain ⟨kx0, kx1, kx2, kx3, kx4⟩ := HM.out.c5 1 rfl
 go_wp2_with fail
 clear kx0 kx1 kx2 kx3 kx4
 refine (specSeenOf_d _ x c _ (HM.out.arg HR.out) hs).mono ?_
 rintro e' W4 ⟨v', rfl, o', b'⟩
 obtain rfl := aggSe o'.read
 clear o'
 replace HM := Lib.hid (HM.out.past b')
 clear b'
 have hbd := seenOf_bd c hd
 obtain ⟨hb0, hb1⟩ := hbd
 have g6 : ((seenOfT x c).seq == s) = false := by have hs7 := HS7.out; simpa using (show ¬ (seenOfT x c).seq = s by omega)
 have g7 : (s != (seenOfT x c).seq + 1) = false := by simpa using HS7.out
 have hi := docB_in hd
 have h8 := hi.list
 have hsn := hi.seen
 have hf0 := hi.from0
 have hf1 := hi.from1
 have HH := Lib.hid hi.head
 rw [HH.out] at hhead
 have g9 : decide ((999999000 : Int) ≤ x.from_ + (x.list.length : Int)) = false := decide_eq_false (by omega)
 clear hi hhead
 cases hse : seenOfB x c
 all_goals
  clear hse
  replace HM := Lib.hid (HM.out.new #[.int .i64 (seenOfT x c).client, .int .i64 (seenOfT x c).seq, .int .i64 (seenOfT x c).rev] 54)
  obtain ⟨kx0, kx1, kx2, kx3, kx4⟩ := HM.out.c5 2 rfl
  go_wp2_with fail
  clear kx0 kx1 kx2 kx3 kx4
  obtain ⟨W5, hW, hm⟩ := HM.out.name
  rw [← hW]
  replace HM := Lib.hid hm
  clear hm hW
  refine (specRebase_d _ _ x base o _ (HM.out.arg HR.out) (HM.out.arg HO.out) hs hs2).mono ?_
  rw [HREB.out]
  rintro e' W6 ⟨v', rfl, o', b'⟩
  obtain ⟨Aq, nq, cq, rfl⟩ := sliceV o'.read
  obtain ⟨bq, hm⟩ := HM.out.got o' b'
  clear o' b' g6 g7
  replace HM := Lib.hid hm
  clear hm
  obtain ⟨kx0, kx1, kx2, kx3, kx4⟩ := HM.out.c5 3 rfl
  go_wp2_with fail
  clear kx0 kx1 kx2 kx3 kx4
  refine (specHeadRev_d _ x _ (HM.out.arg HR.out) hs).mono ?_
  rw [HH.out]
  rintro e' W7 ⟨rfl, b'⟩
  replace HM := Lib.hid (HM.out.past b')
  clear b'
  obtain ⟨kx0, kx1, kx2, kx3, kx4⟩ := HM.out.c5 3 rfl
  go_wp2_with fail
  clear g9 kx0 kx1 kx2 kx3 kx4
  refine (specCopyD_d _ x _ (HM.out.arg HR.out) hs).mono ?_
  rintro e' W8 ⟨v', rfl, o', b'⟩
  obtain ⟨A12, c12, A13, c13, A14, c14, rfl, -, -, -⟩ := aggDo o'.read
  obtain ⟨bc, hm⟩ := HM.out.got o' b'
  clear o' b'
  replace HM := Lib.hid hm
  clear hm
  obtain ⟨bt, bl, bs, hm⟩ := HM.out.unDo
  replace HM := Lib.hid hm
  clear hm
  have hm := HM.out.pk [3, 0, 1, 2, 4, 5, 6] (by decide) (by simp)
  simp only [low.pk, low.gz, low.gs] at hm
  replace HM := Lib.hid hm
  clear hm
  replace HM := Lib.hid (show Ms w (.dt (datEn ⟨c, s, (rebOp x base o)⟩) (.agg #[.int .i64 c, .int .i64 s, .slice Aq nq cq]) (bq ++ []) :: _) _ from (HM.out.pk0.pkO.pkF rfl).pkF rfl)
  replace HM := Lib.hid (HM.out.new #[.string x.name, .int .i64 x.from_, .slice A12 x.text.length c12, .slice A13 x.list.length c13, .slice A14 x.seen.length c14] 33)
  have hm := HM.out.new #[.int .i64 c, .int .i64 s, .slice Aq nq cq] 62
  simp only [World.size_alloc] at hm
  replace HM := Lib.hid hm
  clear hm
  have hm := HM.out.pk [4, 2, 0, 1, 3, 5, 6, 7, 8] (by decide) (by simp)
  simp only [low.pk, low.gz, low.gs] at hm
  replace HM := Lib.hid hm
  clear hm
  go_wp2_with (at_builtin; refine wpList_ms1 rfl (.tmp 83) (.tmp 88) 30 rfl eltEn HM.out rfl (by simp; omega) (W8.heap.size + 1) _ rfl (HM.out.at_ (i := 2) rfl) rfl (by simp [Value.oneCell']) ?_; intro A7 c7 W9 b7 hm; obtain ⟨kout0, kout1, kout2, kout3, kout4⟩ := hm.c5 2 rfl; obtain ⟨fout0, fout1, fout2, fout3, fout4⟩ := hm.f5 2 rfl)
  clear kout0 kout1 kout2 kout3 kout4 fout0 fout1 fout2 fout3 fout4
  have e7 : (x.list.map encEn).length = x.list.length := by simp
  rw [e7] at hm
  try rw [e7]
  clear e7
  rw [show x.list.map encEn ++ [encEn ⟨c, s, (rebOp x base o)⟩] = (moreL x c s (rebOp x base o)).map encEn by unfold moreL; simp] at hm
  replace HM := Lib.hid hm
  clear hm
  have hm := HM.out.pk [2, 0, 1, 3, 4, 5, 6, 7] (by decide) (by simp)
  simp only [low.pk, low.gz, low.gs] at hm
  replace HM := Lib.hid hm
  clear hm
  have hm := HM.out.set (j := 3) (.slice A7 (x.list.length + 1) c7)
  simp only [pa, pb, pc] at hm
  replace HM := Lib.hid hm
  clear hm
  obtain ⟨W10, hW, hm⟩ := HM.out.name
  rw [← hW]
  replace HM := Lib.hid hm
  clear hm hW
  refine (specHeadRev_w _ (⟨x.name, x.from_, x.text, (moreL x c s (rebOp x base o)), x.seen⟩ : Do) _ (rdDo (⟨x.name, x.from_, x.text, (moreL x c s (rebOp x base o)), x.seen⟩ : Do) (HM.out.read (i := 3) rfl) (HM.out.read (i := 1) rfl) (HM.out.read (i := 4) rfl))).mono ?_
  rw [headRev_more hd]
  rintro e' W11 ⟨rfl, b'⟩
  replace HM := Lib.hid (HM.out.past b')
  clear b'
  replace HM := Lib.hid (HM.out.empty 54 3)
  obtain ⟨kout0, kout1, kout2, kout3, kout4⟩ := HM.out.c5 1 rfl
  go_wp2
  clear kout0 kout1 kout2 kout3 kout4
  go_loopw [19, 20, 97] (fun ov dv i wr => ∃ (j : Nat) (acc : List Se) (dn : Bool) (A1 : Option Addr) (c1 : Nat) (b1 : List Nat), j ≤ x.seen.length ∧ acc.length ≤ 2 * j ∧ i = .int .i64 (j : Int) ∧ dv = .bool dn ∧ ov = .slice A1 acc.length c1 ∧ acc ++ putGo c s (x.from_ + (x.list.length : Int) + 1) (x.seen.drop j) dn = (putGo c s (x.from_ + (x.list.length : Int) + 1) x.seen false) ∧ Ms w [.dt (.rows 54 3 (acc.map encSe)) (.slice A1 acc.length c1) b1, .bx W8.heap.size (.cells #[.string x.name, .int .i64 x.from_, .slice A12 x.text.length c12, .slice A7 (x.list.length + 1) c7, .slice A14 x.seen.length c14] 33 (0, 0)), .dt (encEns (moreL x c s (rebOp x base o))) (.slice A7 (x.list.length + 1) c7) b7, .bx (W8.heap.size + 1) (.cells #[.int .i64 c, .int .i64 s, .slice Aq nq cq] 62 (0, 0)), .dt (encInts x.text) (.slice A12 x.text.length c12) bt, .dt (encSes x.seen) (.slice A14 x.seen.length c14) bs, .bx W4.heap.size (.cells #[.int .i64 (seenOfT x c).client, .int .i64 (seenOfT x c).seq, .int .i64 (seenOfT x c).rev] 54 (0, 0)), .bx (w.heap.size + 1) (.cells #[.string ⟨#[]⟩, .int .i64 0, .slice none 0 0, .slice none 0 0, .slice none 0 0] 33 (0, 0)), .bx w.heap.size (.cells #[.string x.name, .int .i64 x.from_, .slice A2 x.text.length c2, .slice A3 x.list.length c3, .slice A4 x.seen.length c4] 33 (0, 0))] wr) (fun _ _ i _ => x.seen.length - (intOf i).toNat)
  case atStart => exact ⟨0, [], false, _, _, _, Nat.zero_le _, Nat.zero_le _, rfl, rfl, rfl, rfl, HM.out⟩
  case round =>
   obtain ⟨j, acc, dn, A1, c1, b1, hj, ha, rfl, rfl, rfl, hE, hm⟩ := hrel
   clear HM
   have HM := Lib.hid hm
   have HE := Lib.hid hE
   clear hm hE
   by_cases hlt : j < x.seen.length
   ·obtain ⟨bx_, ox_, e, rfl, hbb, hp, x0, x1, x2⟩ := atSes (HM.out.read (i := 5) rfl) hlt
    replace HM := Lib.hid (HM.out.new #[.int .i64 e.client, .int .i64 e.seq, .int .i64 e.rev] 54)
    by_cases h1 : e.client = c
    ·have g1 : (e.client == c) = true := by simpa using h1
     have HK := Lib.hid (putGo_skip (s := s) (r := (x.from_ + (x.list.length : Int) + 1)) (done := dn) hp h1)
     have HM7 := HM
     clear hp h1
     go_wp2
     go_roundw
     case rel => exact ⟨j + 1, acc, dn, _, _, _, by omega, by omega, by go_num, rfl, rfl, (by rw [← HE.out, HK.out]), HM7.out.pick (ks := [1, 2, 3, 4, 5, 6, 7, 8, 9]) (by decide) rfl⟩
     case measure => simp [intOf]; omega
    have g1 : (e.client == c) = false := by simpa using h1
    by_cases h2 : dn = false ∧ c < e.client
    ·obtain ⟨rfl, h2⟩ := h2
     have g2 : decide (c < e.client) = true := decide_eq_true h2
     have HK := Lib.hid (putGo_two (s := s) (r := (x.from_ + (x.list.length : Int) + 1)) hp h1 h2)
     clear hp h1 h2
     replace HM := Lib.hid (show Ms w (.dt (.agg (encSe (⟨c, s, (x.from_ + (x.list.length : Int) + 1)⟩ : Se))) (.agg ([.int .i64 c, .int .i64 s, .int .i64 (x.from_ + (x.list.length : Int) + 1)] : List Value).toArray) [] :: _) _ from (((HM.out.pk0.pkF rfl).pkF rfl).pkF rfl))
     have hm := HM.out.new #[.int .i64 c, .int .i64 s, .int .i64 (x.from_ + (x.list.length : Int) + 1)] 54
     simp only [World.size_alloc] at hm
     replace HM := Lib.hid hm
     clear hm
     have hm := HM.out.pk [3, 1, 0, 2, 4, 5, 6, 7, 8, 9, 10, 11] (by decide) (by simp)
     simp only [low.pk, low.gz, low.gs] at hm
     replace HM := Lib.hid hm
     clear hm
     go_wp2_with (first | ((at_builtin; refine wpList_ms1 rfl (.tmp 113) (.tmp 118) 31 rfl eltSe HM.out rfl (by simp; omega) (wr.heap.size + 1) _ rfl (HM.out.at_ (i := 2) rfl) rfl (by simp [Value.oneCell']) ?_; intro A5 c5 w5 b5 hm; have e5 : (acc.map encSe).length = acc.length := (by simp); ((rw [e5] at hm)); clear e5; replace HM := Lib.hid hm; clear hm; obtain ⟨ke0, ke1, ke2⟩ := HM.out.c3 2 rfl; replace HM := Lib.hid (show Ms w (.dt (.agg (encSe e)) (.agg ([.int .i64 e.client, .int .i64 e.seq, .int .i64 e.rev] : List Value).toArray) [] :: _) _ from (((HM.out.pk0.pkF rfl).pkF rfl).pkF rfl)); replace HM := Lib.hid (HM.out.new #[.int .i64 e.client, .int .i64 e.seq, .int .i64 e.rev] 54); have hm := HM.out.pk [2, 1, 0, 3, 4, 5, 6, 7, 8, 9, 10, 11, 12] (by decide) (by simp); (simp only [low.pk, low.gz, low.gs] at hm); replace HM := Lib.hid hm; clear hm)) | (at_builtin; refine wpList_ms1 rfl (.tmp 120) (.tmp 122) 31 rfl eltSe HM.out rfl (by simp; omega) (w5.heap.size) _ rfl (HM.out.at_ (i := 2) rfl) rfl (by simp [Value.oneCell']) ?_; intro A6 c6 w6 b6 hm))
     have e6 : (acc.map encSe ++ [encSe (⟨c, s, (x.from_ + (x.list.length : Int) + 1)⟩ : Se)]).length = acc.length + 1 := by simp
     rw [e6] at hm
     try rw [e6]
     clear e6
     have HM7 := Lib.hid (by have h := hm; rw [show acc.map encSe ++ [encSe (⟨c, s, (x.from_ + (x.list.length : Int) + 1)⟩ : Se)] ++ [encSe e] = (acc ++ [(⟨c, s, (x.from_ + (x.list.length : Int) + 1)⟩ : Se), e]).map encSe by simp, show acc.length + 1 + 1 = (acc ++ [(⟨c, s, (x.from_ + (x.list.length : Int) + 1)⟩ : Se), e]).length by simp] at h; exact h)
     clear hm HM
     go_wp2
     go_roundw
     case rel => exact ⟨j + 1, acc ++ [(⟨c, s, (x.from_ + (x.list.length : Int) + 1)⟩ : Se), e], true, A6, c6, b6, by omega, by simp; omega, by go_num, rfl, by simp, (by rw [← HE.out, HK.out]; simp), HM7.out.pick (ks := [0, 4, 5, 6, 7, 8, 9, 10, 11]) (by decide) rfl⟩
     case measure => simp [intOf]; omega
    have g2 : (!dn && decide (c < e.client)) = false := by cases dn <;> simp_all
    have HK := Lib.hid (putGo_one (s := s) (r := (x.from_ + (x.list.length : Int) + 1)) (done := dn) hp h1 h2)
    clear hp h1 h2
    cases dn
    all_goals
     try (have g2 : decide (c < e.client) = false := by simpa using g2)
     replace HM := Lib.hid (show Ms w (.dt (.agg (encSe e)) (.agg ([.int .i64 e.client, .int .i64 e.seq, .int .i64 e.rev] : List Value).toArray) [] :: _) _ from (((HM.out.pk0.pkF rfl).pkF rfl).pkF rfl))
     have hm := HM.out.new #[.int .i64 e.client, .int .i64 e.seq, .int .i64 e.rev] 54
     simp only [World.size_alloc] at hm
     replace HM := Lib.hid hm
     clear hm
     have hm := HM.out.pk [3, 1, 0, 2, 4, 5, 6, 7, 8, 9, 10, 11] (by decide) (by simp)
     simp only [low.pk, low.gz, low.gs] at hm
     replace HM := Lib.hid hm
     clear hm
     go_wp2_with (at_builtin; refine wpList_ms1 rfl (.tmp 120) (.tmp 122) 31 rfl eltSe HM.out rfl (by simp; omega) (wr.heap.size + 1) _ rfl (HM.out.at_ (i := 2) rfl) rfl (by simp [Value.oneCell']) ?_; intro A6 c6 w6 b6 hm)
     have e6 : (acc.map encSe).length = acc.length := by simp
     rw [e6] at hm
     try rw [e6]
     clear e6
     have HM7 := Lib.hid (by have h := hm; rw [show acc.map encSe ++ [encSe e] = (acc ++ [e]).map encSe by simp, show acc.length + 1 = (acc ++ [e]).length by simp] at h; exact h)
     clear hm HM
     go_wp2
     go_roundw
     case rel => exact ⟨j + 1, acc ++ [e], _, A6, c6, b6, by omega, by simp; omega, by go_num, rfl, by simp, (by rw [← HE.out, HK.out]; simp), HM7.out.pick (ks := [0, 3, 4, 5, 6, 7, 8, 9, 10]) (by decide) rfl⟩
     case measure => simp [intOf]; omega
   ·obtain rfl : j = x.seen.length := by omega
    have hE := HE.out
    rw [List.drop_length] at hE
    have hc7 := RdC.cap_le (HM.out.read (i := 2) rfl)
    cases dn
    ·replace HE := Lib.hid (show acc ++ [(⟨c, s, (x.from_ + (x.list.length : Int) + 1)⟩ : Se)] = (putGo c s (x.from_ + (x.list.length : Int) + 1) x.seen false) from hE)
     clear hE
     by_cases hov : 8 < x.list.length + 1
     ·have HCT := Lib.hid (show commitT x c s (rebOp x base o) = ⟨x.name, x.from_ + 1, applyT (firstO (moreL x c s (rebOp x base o))) x.text, (moreL x c s (rebOp x base o)).drop 1, (putGo c s (x.from_ + (x.list.length : Int) + 1) x.seen false)⟩ by unfold commitT; rw [if_pos hov])
      have go1 : decide ((8 : Int) < (x.list.length : Int) + 1) = true := by simp; omega
      have go2 : decide (8 < x.list.length + 1) = true := by simp; omega
      have go3 : decide (8 ≤ x.list.length) = true := by simp; omega
      replace HM := Lib.hid (show Ms w (.dt (.agg (encSe (⟨c, s, (x.from_ + (x.list.length : Int) + 1)⟩ : Se))) (.agg ([.int .i64 c, .int .i64 s, .int .i64 (x.from_ + (x.list.length : Int) + 1)] : List Value).toArray) [] :: _) _ from (((HM.out.pk0.pkF rfl).pkF rfl).pkF rfl))
      replace HM := Lib.hid (HM.out.new #[.int .i64 c, .int .i64 s, .int .i64 (x.from_ + (x.list.length : Int) + 1)] 54)
      have hm := HM.out.pk [2, 1, 0, 3, 4, 5, 6, 7, 8, 9, 10] (by decide) (by simp)
      simp only [low.pk, low.gz, low.gs] at hm
      replace HM := Lib.hid hm
      clear hm
      go_wp2_with (at_builtin; refine wpList_ms1 rfl (.tmp 127) (.tmp 132) 31 rfl eltSe HM.out rfl (by simp; omega) wr.heap.size _ rfl (HM.out.at_ (i := 2) rfl) rfl (by simp [Value.oneCell']) ?_; intro A8 c8 W12 b8 hm; obtain ⟨kout0, kout1, kout2, kout3, kout4⟩ := hm.c5 2 rfl; obtain ⟨fout0, fout1, fout2, fout3, fout4⟩ := hm.f5 2 rfl; obtain ⟨kr0, kr1, kr2, kr3, kr4⟩ := hm.c5 8 rfl; obtain ⟨fr0, fr1, fr2, fr3, fr4⟩ := hm.f5 8 rfl; obtain ⟨noutr, nrout⟩ := hm.ne (i := 2) (j := 8) rfl rfl (by omega))
      clear noutr nrout kr0 kr1 kr2 kr3 kr4 kout0 kout1 kout2 kout3 kout4 fr0 fr1 fr2 fr3 fr4 fout0 fout1 fout2 fout3 fout4
      rw [show acc.map encSe ++ [encSe (⟨c, s, (x.from_ + (x.list.length : Int) + 1)⟩ : Se)] = (putGo c s (x.from_ + (x.list.length : Int) + 1) x.seen false).map encSe by rw [← HE.out]; simp] at hm
      have e8 : (acc.map encSe).length = acc.length := by simp
      rw [e8] at hm
      try rw [e8]
      replace HM := Lib.hid hm
      clear hm
      have hm := HM.out.pk [2, 0, 1, 3, 4, 5, 6, 7, 8, 9] (by decide) (by simp)
      simp only [low.pk, low.gz, low.gs] at hm
      replace HM := Lib.hid hm
      clear hm
      have hm := HM.out.set (j := 4) (.slice A8 (acc.length + 1) c8)
      simp only [pa, pb, pc] at hm
      replace HM := Lib.hid hm
      clear hm
      obtain ⟨W13, hW, hm⟩ := HM.out.name
      rw [← hW]
      replace HM := Lib.hid hm
      clear hm hW
      replace HM := Lib.hid (HM.out.drew)
      obtain ⟨bk, of, e0, A50, c50, eA, hbk, hp0, -, -, x2, q2⟩ := atEns (l := (moreL x c s (rebOp x base o))) (HM.out.read (i := 3) rfl) (i := 0) (by unfold moreL; simp)
      subst eA
      have hne := HM.out.neD (i := 3) (j := 0) rfl rfl (by decide)
      simp only [Nat.zero_mul, Nat.add_zero] at x2
      refine wp_region_held_drew (S := fun W => Ms w [] W ∧ W.cell? ⟨W8.heap.size, 3, none⟩ = some (.slice (some ⟨bk, of, none⟩) (x.list.length + 1) c7) ∧ W.cell? ⟨bk, of + 2, none⟩ = some (.slice A50 e0.o.length c50)) (by kernel_rfl) ⟨HM.out.pick (ks := []) (by decide) rfl, ⟨HM.out.cell (i := 0) (j := 3) rfl rfl, x2⟩⟩ (fun hS => ?_)
      generalize W13.drew = W14 at HM hS x2 q2 hbk ⊢
      refine tk (v := ?_) 0 141 rfl (fun w' hS' => ?_) hS ?_
      rotate_left
      ·go_simp; all_goals (with_reducible rfl)
      try simp only [Act.put, pa, pb, pc]
      refine tk (v := ?_) 1 142 rfl (fun w' hS' => ?_) hS ?_
      rotate_left
      ·(try dsimp only at hS'); obtain ⟨-, q3, q4⟩ := hS'; go_simp; all_goals (with_reducible rfl)
      try simp only [Act.put, pa, pb, pc]
      refine tk (v := ?_) 2 143 rfl (fun w' hS' => ?_) hS ?_
      rotate_left
      ·go_simp; all_goals (with_reducible rfl)
      try simp only [Act.put, pa, pb, pc]
      refine tk (v := ?_) 3 144 rfl (fun w' hS' => ?_) hS ?_
      rotate_left
      ·go_simp; all_goals (with_reducible rfl)
      try simp only [Act.put, pa, pb, pc]
      refine tk (v := ?_) 4 145 rfl (fun w' hS' => ?_) hS ?_
      rotate_left
      ·(try dsimp only at hS'); obtain ⟨-, q3, q4⟩ := hS'; go_simp; all_goals (with_reducible rfl)
      try simp only [Act.put, pa, pb, pc]
      refine tk (v := ?_) 5 146 rfl (fun w' hS' => ?_) hS ?_
      rotate_left
      ·go_simp; all_goals (with_reducible rfl)
      try simp only [Act.put, pa, pb, pc]
      refine r1 6 (some 147) rfl (fun K hK => ?_)
      obtain ⟨kout0, kout1, kout2, kout3, kout4⟩ := HM.out.c5 0 rfl
      go_simp
      clear hS kout0 kout1 kout2 kout3 kout4
      refine hK.out _ _ ⟨HM.out.pick (ks := []) (by decide) rfl, ⟨HM.out.cell (i := 0) (j := 3) rfl rfl, x2⟩⟩ (fun hS => ?_)
      clear hK K
      try simp only [Act.put, pa, pb, pc]
      refine r1 7 (some 148) rfl (fun K hK => ?_)
      go_simp
      refine (specApply_d _ _ e0.o x.text _ q2 (HM.out.read (i := 5) rfl) (hs.list.at_ (more_0 hp0 (by omega))).o hs.text).mono ?_
      rintro e' W15 ⟨v', rfl, o', b'⟩
      obtain ⟨An, nn, cn, rfl⟩ := sliceV o'.read
      obtain ⟨bnt, hm⟩ := HM.out.got o' b'
      have x2 := (b'.cell (p := ⟨bk, of + 2, none⟩) hbk).trans x2
      clear o' b' hS q2
      replace HM := Lib.hid hm
      clear hm
      refine hK.out _ _ ⟨HM.out.pick (ks := []) (by decide) rfl, ⟨HM.out.cell (i := 1) (j := 3) rfl rfl, x2⟩⟩ (fun hS => ?_)
      clear hK K
      try simp only [Act.put, pa, pb, pc]
      refine tk (v := ?_) 8 140 rfl (fun w' hS' => ?_) hS ?_
      rotate_left
      ·go_simp; all_goals (with_reducible rfl)
      try simp only [Act.put, pa, pb, pc]
      refine tk (v := ?_) 9 149 rfl (fun w' hS' => ?_) hS ?_
      rotate_left
      ·go_simp; all_goals (with_reducible rfl)
      try simp only [Act.put, pa, pb, pc]
      refine tk (v := ?_) 10 150 rfl (fun w' hS' => ?_) hS ?_
      rotate_left
      ·go_simp; all_goals (with_reducible rfl)
      try simp only [Act.put, pa, pb, pc]
      refine tk (v := ?_) 11 151 rfl (fun w' hS' => ?_) hS ?_
      rotate_left
      ·go_simp; all_goals (with_reducible rfl)
      try simp only [Act.put, pa, pb, pc]
      refine r1 12 none rfl (fun K hK => ?_)
      obtain ⟨kout0, kout1, kout2, kout3, kout4⟩ := HM.out.c5 1 rfl
      obtain ⟨fout0, fout1, fout2, fout3, fout4⟩ := HM.out.f5 1 rfl
      go_simp
      clear hS kout0 kout1 kout2 kout3 kout4 fout0 fout1 fout2 fout3 fout4
      have x2 := (World.cell?_setCell_far W15 ⟨W8.heap.size, 2, none⟩ ⟨bk, of + 2, none⟩ (.slice An nn cn) (fun e => hne e.symm)).trans x2
      have hm := HM.out.pk [1, 0, 2, 3, 4, 5, 6, 7, 8, 9, 10] (by decide) (by simp)
      simp only [low.pk, low.gz, low.gs] at hm
      replace HM := Lib.hid hm
      clear hm
      have hm := HM.out.set (j := 2) (.slice An nn cn)
      simp only [pa, pb, pc] at hm
      replace HM := Lib.hid hm
      clear hm
      generalize (W15.setCell ⟨W8.heap.size, 2, none⟩ (.slice An nn cn)) = W16 at HM x2 ⊢
      refine hK.out _ _ ⟨HM.out.pick (ks := []) (by decide) rfl, ⟨HM.out.cell (i := 0) (j := 3) rfl rfl, x2⟩⟩ (fun hS => ?_)
      clear hK K
      try simp only [Act.put, pa, pb, pc]
      refine wpAnyH_done (by kernel_rfl) ?_ _
      clear hS
      clear x2
      obtain ⟨kout0, kout1, kout2, kout3, kout4⟩ := HM.out.c5 0 rfl
      obtain ⟨fout0, fout1, fout2, fout3, fout4⟩ := HM.out.f5 0 rfl
      obtain ⟨kr0, kr1, kr2, kr3, kr4⟩ := HM.out.c5 9 rfl
      obtain ⟨fr0, fr1, fr2, fr3, fr4⟩ := HM.out.f5 9 rfl
      obtain ⟨noutr, nrout⟩ := HM.out.ne (i := 0) (j := 9) rfl rfl (by omega)
      go_wp2
      clear noutr nrout kr0 kr1 kr2 kr3 kr4 kout0 kout1 kout2 kout3 kout4 fr0 fr1 fr2 fr3 fr4 fout0 fout1 fout2 fout3 fout4
      have hm := HM.out.set (j := 3) (.slice (some ⟨bk, of + 3, none⟩) x.list.length (c7 - 1))
      simp only [pa, pb, pc] at hm
      replace HM := Lib.hid hm
      clear hm
      have hm := HM.out.set (j := 1) (.int .i64 (x.from_ + 1))
      simp only [pa, pb, pc] at hm
      replace HM := Lib.hid hm
      clear hm
      have hm := HM.out.pk [9, 0, 1, 2, 3, 4, 5, 6, 7, 8, 10] (by decide) (by simp)
      simp only [low.pk, low.gz, low.gs] at hm
      replace HM := Lib.hid hm
      clear hm
      have hm := HM.out.putRow (ys := [.string x.name, .int .i64 (x.from_ + 1), .slice An nn cn, .slice (some ⟨bk, of + 3, none⟩) x.list.length (c7 - 1), .slice A8 (acc.length + 1) c8]) rfl
      simp only [low.putRow, Nat.zero_add, Nat.reduceAdd] at hm
      replace HM := Lib.hid hm
      clear hm
      obtain ⟨W17, hW, hm⟩ := HM.out.name
      rw [← hW]
      replace HM := Lib.hid hm
      clear hm hW
      obtain ⟨kr0, kr1, kr2, kr3, kr4⟩ := HM.out.c5 0 rfl
      have hm := HM.out.pk [2, 0, 1, 3, 4, 5, 6, 7, 8, 9, 10] (by decide) (by simp)
      simp only [low.pk, low.gz, low.gs] at hm
      replace HM := Lib.hid hm
      clear hm
      replace HM := Lib.hid (HM.out.still)
      have hm := HM.out.pk [5, 0, 1, 2, 3, 4, 6, 7, 8, 9, 10] (by decide) (by simp)
      simp only [low.pk, low.gz, low.gs] at hm
      replace HM := Lib.hid hm
      clear hm
      replace HM := Lib.hid (HM.out.still)
      have hm := HM.out.pk [4, 0, 1, 2, 3, 5, 6, 7, 8, 9, 10] (by decide) (by simp)
      simp only [low.pk, low.gz, low.gs] at hm
      replace HM := Lib.hid hm
      clear hm
      replace HM := Lib.hid (HM.out.still)
      have hm := HM.out.pk [1, 0, 2, 3, 4, 5, 6, 7, 8, 9, 10] (by decide) (by simp)
      simp only [low.pk, low.gz, low.gs] at hm
      replace HM := Lib.hid hm
      clear hm
      replace HM := Lib.hid (HM.out.say (d' := encEns ((moreL x c s (rebOp x base o)).drop 1)) (v' := .slice (some ⟨bk, of + 3, none⟩) x.list.length (c7 - 1)) (fun W B hr => by have h := RdC.drop_ 1 (show RdC W B (.rows 62 3 ((moreL x c s (rebOp x base o)).map encEn)) _ from hr); rw [← List.map_drop] at h; exact h))
      have hm := HM.out.pk [1, 0, 2, 3, 4, 5, 6, 7, 8, 9, 10] (by decide) (by simp)
      simp only [low.pk, low.gz, low.gs] at hm
      replace HM := Lib.hid hm
      clear hm
      rw [HN.out.1, HN.out.2.1, HN.out.2.2, HCT.out, firstO_at hp0]
      exact bodyPost_ret (v := .tuple #[.agg #[.string x.name, .int .i64 (x.from_ + 1), .slice An nn cn, .slice (some ⟨bk, of + 3, none⟩) x.list.length (c7 - 1), .slice A8 (acc.length + 1) c8], .int .i64 (x.from_ + (x.list.length : Int) + 1), .int .i64 0]) (by simp [results, Tryz.results6, go_sem, kr0, kr1, kr2, kr3, kr4]) rfl ((show Ms w (.rd (datDo (⟨x.name, x.from_ + 1, (applyT e0.o x.text), (moreL x c s (rebOp x base o)).drop 1, (putGo c s (x.from_ + (x.list.length : Int) + 1) x.seen false)⟩ : Do)) (.agg #[.string x.name, .int .i64 (x.from_ + 1), .slice An nn cn, .slice (some ⟨bk, of + 3, none⟩) x.list.length (c7 - 1), .slice A8 (acc.length + 1) c8]) _ :: _) _ from (HM.out.rk0.rkO.rkO.rkO.rkF (fun _ _ => by exact rfl)).rkF (fun _ _ => by exact rfl)).rdNN _ 0)
     have HCT := Lib.hid (show commitT x c s (rebOp x base o) = ⟨x.name, x.from_, x.text, (moreL x c s (rebOp x base o)), (putGo c s (x.from_ + (x.list.length : Int) + 1) x.seen false)⟩ by unfold commitT; rw [if_neg hov])
     have go1 : decide ((8 : Int) < (x.list.length : Int) + 1) = false := by simp; omega
     have go2 : decide (8 < x.list.length + 1) = false := by simp; omega
     have go3 : decide (8 ≤ x.list.length) = false := by simp; omega
     replace HM := Lib.hid (show Ms w (.dt (.agg (encSe (⟨c, s, (x.from_ + (x.list.length : Int) + 1)⟩ : Se))) (.agg ([.int .i64 c, .int .i64 s, .int .i64 (x.from_ + (x.list.length : Int) + 1)] : List Value).toArray) [] :: _) _ from (((HM.out.pk0.pkF rfl).pkF rfl).pkF rfl))
     replace HM := Lib.hid (HM.out.new #[.int .i64 c, .int .i64 s, .int .i64 (x.from_ + (x.list.length : Int) + 1)] 54)
     have hm := HM.out.pk [2, 1, 0, 3, 4, 5, 6, 7, 8, 9, 10] (by decide) (by simp)
     simp only [low.pk, low.gz, low.gs] at hm
     replace HM := Lib.hid hm
     clear hm
     go_wp2_with (at_builtin; refine wpList_ms1 rfl (.tmp 127) (.tmp 132) 31 rfl eltSe HM.out rfl (by simp; omega) wr.heap.size _ rfl (HM.out.at_ (i := 2) rfl) rfl (by simp [Value.oneCell']) ?_; intro A8 c8 W18 b8 hm; obtain ⟨kout0, kout1, kout2, kout3, kout4⟩ := hm.c5 2 rfl; obtain ⟨fout0, fout1, fout2, fout3, fout4⟩ := hm.f5 2 rfl; obtain ⟨kr0, kr1, kr2, kr3, kr4⟩ := hm.c5 8 rfl; obtain ⟨fr0, fr1, fr2, fr3, fr4⟩ := hm.f5 8 rfl; obtain ⟨noutr, nrout⟩ := hm.ne (i := 2) (j := 8) rfl rfl (by omega))
     clear noutr nrout kr0 kr1 kr2 kr3 kr4 kout0 kout1 kout2 kout3 kout4 fr0 fr1 fr2 fr3 fr4 fout0 fout1 fout2 fout3 fout4
     rw [show acc.map encSe ++ [encSe (⟨c, s, (x.from_ + (x.list.length : Int) + 1)⟩ : Se)] = (putGo c s (x.from_ + (x.list.length : Int) + 1) x.seen false).map encSe by rw [← HE.out]; simp] at hm
     have e8 : (acc.map encSe).length = acc.length := by simp
     rw [e8] at hm
     try rw [e8]
     replace HM := Lib.hid hm
     clear hm
     have hm := HM.out.pk [2, 0, 1, 3, 4, 5, 6, 7, 8, 9] (by decide) (by simp)
     simp only [low.pk, low.gz, low.gs] at hm
     replace HM := Lib.hid hm
     clear hm
     have hm := HM.out.set (j := 4) (.slice A8 (acc.length + 1) c8)
     simp only [pa, pb, pc] at hm
     replace HM := Lib.hid hm
     clear hm
     have hm := HM.out.pk [8, 0, 1, 2, 3, 4, 5, 6, 7, 9] (by decide) (by simp)
     simp only [low.pk, low.gz, low.gs] at hm
     replace HM := Lib.hid hm
     clear hm
     have hm := HM.out.putRow (ys := [.string x.name, .int .i64 x.from_, .slice A12 x.text.length c12, .slice A7 (x.list.length + 1) c7, .slice A8 (acc.length + 1) c8]) rfl
     simp only [low.putRow, Nat.zero_add, Nat.reduceAdd] at hm
     replace HM := Lib.hid hm
     clear hm
     obtain ⟨W19, hW, hm⟩ := HM.out.name
     rw [← hW]
     replace HM := Lib.hid hm
     clear hm hW
     obtain ⟨kr0, kr1, kr2, kr3, kr4⟩ := HM.out.c5 0 rfl
     have hm := HM.out.pk [2, 4, 6, 0, 1, 3, 5, 7, 8, 9] (by decide) (by simp)
     simp only [low.pk, low.gz, low.gs] at hm
     replace HM := Lib.hid hm
     clear hm
     rw [HN.out.1, HN.out.2.1, HN.out.2.2, HCT.out]
     exact bodyPost_ret (v := .tuple #[.agg #[.string x.name, .int .i64 x.from_, .slice A12 x.text.length c12, .slice A7 (x.list.length + 1) c7, .slice A8 (acc.length + 1) c8], .int .i64 (x.from_ + (x.list.length : Int) + 1), .int .i64 0]) (by simp [results, Tryz.results6, go_sem, kr0, kr1, kr2, kr3, kr4]) rfl ((show Ms w (.dt (datDo (⟨x.name, x.from_, x.text, (moreL x c s (rebOp x base o)), (putGo c s (x.from_ + (x.list.length : Int) + 1) x.seen false)⟩ : Do)) (.agg #[.string x.name, .int .i64 x.from_, .slice A12 x.text.length c12, .slice A7 (x.list.length + 1) c7, .slice A8 (acc.length + 1) c8]) _ :: _) _ from (HM.out.pk0.pkO.pkO.pkO.pkF rfl).pkF rfl).still.rdNN _ 0)
    ·replace HE := Lib.hid (show acc = (putGo c s (x.from_ + (x.list.length : Int) + 1) x.seen false) by rw [← hE]; simp [putGo])
     clear hE
     by_cases hov : 8 < x.list.length + 1
     ·have HCT := Lib.hid (show commitT x c s (rebOp x base o) = ⟨x.name, x.from_ + 1, applyT (firstO (moreL x c s (rebOp x base o))) x.text, (moreL x c s (rebOp x base o)).drop 1, (putGo c s (x.from_ + (x.list.length : Int) + 1) x.seen false)⟩ by unfold commitT; rw [if_pos hov])
      have go1 : decide ((8 : Int) < (x.list.length : Int) + 1) = true := by simp; omega
      have go2 : decide (8 < x.list.length + 1) = true := by simp; omega
      have go3 : decide (8 ≤ x.list.length) = true := by simp; omega
      have hm := HM.out
      rw [show acc.map encSe = (putGo c s (x.from_ + (x.list.length : Int) + 1) x.seen false).map encSe by rw [← HE.out]] at hm
      replace HM := Lib.hid hm
      clear hm
      obtain ⟨kout0, kout1, kout2, kout3, kout4⟩ := HM.out.c5 1 rfl
      obtain ⟨fout0, fout1, fout2, fout3, fout4⟩ := HM.out.f5 1 rfl
      obtain ⟨kr0, kr1, kr2, kr3, kr4⟩ := HM.out.c5 7 rfl
      obtain ⟨fr0, fr1, fr2, fr3, fr4⟩ := HM.out.f5 7 rfl
      obtain ⟨noutr, nrout⟩ := HM.out.ne (i := 1) (j := 7) rfl rfl (by omega)
      go_wp2_with fail
      clear noutr nrout kr0 kr1 kr2 kr3 kr4 kout0 kout1 kout2 kout3 kout4 fr0 fr1 fr2 fr3 fr4 fout0 fout1 fout2 fout3 fout4
      have hm := HM.out.pk [1, 0, 2, 3, 4, 5, 6, 7, 8] (by decide) (by simp)
      simp only [low.pk, low.gz, low.gs] at hm
      replace HM := Lib.hid hm
      clear hm
      have hm := HM.out.set (j := 4) (.slice A1 acc.length c1)
      simp only [pa, pb, pc] at hm
      replace HM := Lib.hid hm
      clear hm
      obtain ⟨W20, hW, hm⟩ := HM.out.name
      rw [← hW]
      replace HM := Lib.hid hm
      clear hm hW
      replace HM := Lib.hid (HM.out.drew)
      obtain ⟨bk, of, e0, A50, c50, eA, hbk, hp0, -, -, x2, q2⟩ := atEns (l := (moreL x c s (rebOp x base o))) (HM.out.read (i := 2) rfl) (i := 0) (by unfold moreL; simp)
      subst eA
      have hne := HM.out.neD (i := 2) (j := 0) rfl rfl (by decide)
      simp only [Nat.zero_mul, Nat.add_zero] at x2
      refine wp_region_held_drew (S := fun W => Ms w [] W ∧ W.cell? ⟨W8.heap.size, 3, none⟩ = some (.slice (some ⟨bk, of, none⟩) (x.list.length + 1) c7) ∧ W.cell? ⟨bk, of + 2, none⟩ = some (.slice A50 e0.o.length c50)) (by kernel_rfl) ⟨HM.out.pick (ks := []) (by decide) rfl, ⟨HM.out.cell (i := 0) (j := 3) rfl rfl, x2⟩⟩ (fun hS => ?_)
      generalize W20.drew = W21 at HM hS x2 q2 hbk ⊢
      refine tk (v := ?_) 0 141 rfl (fun w' hS' => ?_) hS ?_
      rotate_left
      ·go_simp; all_goals (with_reducible rfl)
      try simp only [Act.put, pa, pb, pc]
      refine tk (v := ?_) 1 142 rfl (fun w' hS' => ?_) hS ?_
      rotate_left
      ·(try dsimp only at hS'); obtain ⟨-, q3, q4⟩ := hS'; go_simp; all_goals (with_reducible rfl)
      try simp only [Act.put, pa, pb, pc]
      refine tk (v := ?_) 2 143 rfl (fun w' hS' => ?_) hS ?_
      rotate_left
      ·go_simp; all_goals (with_reducible rfl)
      try simp only [Act.put, pa, pb, pc]
      refine tk (v := ?_) 3 144 rfl (fun w' hS' => ?_) hS ?_
      rotate_left
      ·go_simp; all_goals (with_reducible rfl)
      try simp only [Act.put, pa, pb, pc]
      refine tk (v := ?_) 4 145 rfl (fun w' hS' => ?_) hS ?_
      rotate_left
      ·(try dsimp only at hS'); obtain ⟨-, q3, q4⟩ := hS'; go_simp; all_goals (with_reducible rfl)
      try simp only [Act.put, pa, pb, pc]
      refine tk (v := ?_) 5 146 rfl (fun w' hS' => ?_) hS ?_
      rotate_left
      ·go_simp; all_goals (with_reducible rfl)
      try simp only [Act.put, pa, pb, pc]
      refine r1 6 (some 147) rfl (fun K hK => ?_)
      obtain ⟨kout0, kout1, kout2, kout3, kout4⟩ := HM.out.c5 0 rfl
      go_simp
      clear hS kout0 kout1 kout2 kout3 kout4
      refine hK.out _ _ ⟨HM.out.pick (ks := []) (by decide) rfl, ⟨HM.out.cell (i := 0) (j := 3) rfl rfl, x2⟩⟩ (fun hS => ?_)
      clear hK K
      try simp only [Act.put, pa, pb, pc]
      refine r1 7 (some 148) rfl (fun K hK => ?_)
      go_simp
      refine (specApply_d _ _ e0.o x.text _ q2 (HM.out.read (i := 4) rfl) (hs.list.at_ (more_0 hp0 (by omega))).o hs.text).mono ?_
      rintro e' W22 ⟨v', rfl, o', b'⟩
      obtain ⟨An, nn, cn, rfl⟩ := sliceV o'.read
      obtain ⟨bnt, hm⟩ := HM.out.got o' b'
      have x2 := (b'.cell (p := ⟨bk, of + 2, none⟩) hbk).trans x2
      clear o' b' hS q2
      replace HM := Lib.hid hm
      clear hm
      refine hK.out _ _ ⟨HM.out.pick (ks := []) (by decide) rfl, ⟨HM.out.cell (i := 1) (j := 3) rfl rfl, x2⟩⟩ (fun hS => ?_)
      clear hK K
      try simp only [Act.put, pa, pb, pc]
      refine tk (v := ?_) 8 140 rfl (fun w' hS' => ?_) hS ?_
      rotate_left
      ·go_simp; all_goals (with_reducible rfl)
      try simp only [Act.put, pa, pb, pc]
      refine tk (v := ?_) 9 149 rfl (fun w' hS' => ?_) hS ?_
      rotate_left
      ·go_simp; all_goals (with_reducible rfl)
      try simp only [Act.put, pa, pb, pc]
      refine tk (v := ?_) 10 150 rfl (fun w' hS' => ?_) hS ?_
      rotate_left
      ·go_simp; all_goals (with_reducible rfl)
      try simp only [Act.put, pa, pb, pc]
      refine tk (v := ?_) 11 151 rfl (fun w' hS' => ?_) hS ?_
      rotate_left
      ·go_simp; all_goals (with_reducible rfl)
      try simp only [Act.put, pa, pb, pc]
      refine r1 12 none rfl (fun K hK => ?_)
      obtain ⟨kout0, kout1, kout2, kout3, kout4⟩ := HM.out.c5 1 rfl
      obtain ⟨fout0, fout1, fout2, fout3, fout4⟩ := HM.out.f5 1 rfl
      go_simp
      clear hS kout0 kout1 kout2 kout3 kout4 fout0 fout1 fout2 fout3 fout4
      have x2 := (World.cell?_setCell_far W22 ⟨W8.heap.size, 2, none⟩ ⟨bk, of + 2, none⟩ (.slice An nn cn) (fun e => hne e.symm)).trans x2
      have hm := HM.out.pk [1, 0, 2, 3, 4, 5, 6, 7, 8, 9] (by decide) (by simp)
      simp only [low.pk, low.gz, low.gs] at hm
      replace HM := Lib.hid hm
      clear hm
      have hm := HM.out.set (j := 2) (.slice An nn cn)
      simp only [pa, pb, pc] at hm
      replace HM := Lib.hid hm
      clear hm
      generalize (W22.setCell ⟨W8.heap.size, 2, none⟩ (.slice An nn cn)) = W23 at HM x2 ⊢
      refine hK.out _ _ ⟨HM.out.pick (ks := []) (by decide) rfl, ⟨HM.out.cell (i := 0) (j := 3) rfl rfl, x2⟩⟩ (fun hS => ?_)
      clear hK K
      try simp only [Act.put, pa, pb, pc]
      refine wpAnyH_done (by kernel_rfl) ?_ _
      clear hS
      clear x2
      obtain ⟨kout0, kout1, kout2, kout3, kout4⟩ := HM.out.c5 0 rfl
      obtain ⟨fout0, fout1, fout2, fout3, fout4⟩ := HM.out.f5 0 rfl
      obtain ⟨kr0, kr1, kr2, kr3, kr4⟩ := HM.out.c5 8 rfl
      obtain ⟨fr0, fr1, fr2, fr3, fr4⟩ := HM.out.f5 8 rfl
      obtain ⟨noutr, nrout⟩ := HM.out.ne (i := 0) (j := 8) rfl rfl (by omega)
      go_wp2
      clear noutr nrout kr0 kr1 kr2 kr3 kr4 kout0 kout1 kout2 kout3 kout4 fr0 fr1 fr2 fr3 fr4 fout0 fout1 fout2 fout3 fout4
      have hm := HM.out.set (j := 3) (.slice (some ⟨bk, of + 3, none⟩) x.list.length (c7 - 1))
      simp only [pa, pb, pc] at hm
      replace HM := Lib.hid hm
      clear hm
      have hm := HM.out.set (j := 1) (.int .i64 (x.from_ + 1))
      simp only [pa, pb, pc] at hm
      replace HM := Lib.hid hm
      clear hm
      have hm := HM.out.pk [8, 0, 1, 2, 3, 4, 5, 6, 7, 9] (by decide) (by simp)
      simp only [low.pk, low.gz, low.gs] at hm
      replace HM := Lib.hid hm
      clear hm
      have hm := HM.out.putRow (ys := [.string x.name, .int .i64 (x.from_ + 1), .slice An nn cn, .slice (some ⟨bk, of + 3, none⟩) x.list.length (c7 - 1), .slice A1 acc.length c1]) rfl
      simp only [low.putRow, Nat.zero_add, Nat.reduceAdd] at hm
      replace HM := Lib.hid hm
      clear hm
      obtain ⟨W24, hW, hm⟩ := HM.out.name
      rw [← hW]
      replace HM := Lib.hid hm
      clear hm hW
      obtain ⟨kr0, kr1, kr2, kr3, kr4⟩ := HM.out.c5 0 rfl
      have hm := HM.out.pk [2, 0, 1, 3, 4, 5, 6, 7, 8, 9] (by decide) (by simp)
      simp only [low.pk, low.gz, low.gs] at hm
      replace HM := Lib.hid hm
      clear hm
      replace HM := Lib.hid (HM.out.still)
      have hm := HM.out.pk [4, 0, 1, 2, 3, 5, 6, 7, 8, 9] (by decide) (by simp)
      simp only [low.pk, low.gz, low.gs] at hm
      replace HM := Lib.hid hm
      clear hm
      replace HM := Lib.hid (HM.out.still)
      have hm := HM.out.pk [4, 0, 1, 2, 3, 5, 6, 7, 8, 9] (by decide) (by simp)
      simp only [low.pk, low.gz, low.gs] at hm
      replace HM := Lib.hid hm
      clear hm
      replace HM := Lib.hid (HM.out.still)
      have hm := HM.out.pk [1, 0, 2, 3, 4, 5, 6, 7, 8, 9] (by decide) (by simp)
      simp only [low.pk, low.gz, low.gs] at hm
      replace HM := Lib.hid hm
      clear hm
      replace HM := Lib.hid (HM.out.say (d' := encEns ((moreL x c s (rebOp x base o)).drop 1)) (v' := .slice (some ⟨bk, of + 3, none⟩) x.list.length (c7 - 1)) (fun W B hr => by have h := RdC.drop_ 1 (show RdC W B (.rows 62 3 ((moreL x c s (rebOp x base o)).map encEn)) _ from hr); rw [← List.map_drop] at h; exact h))
      have hm := HM.out.pk [1, 0, 2, 3, 4, 5, 6, 7, 8, 9] (by decide) (by simp)
      simp only [low.pk, low.gz, low.gs] at hm
      replace HM := Lib.hid hm
      clear hm
      rw [HN.out.1, HN.out.2.1, HN.out.2.2, HCT.out, firstO_at hp0]
      exact bodyPost_ret (v := .tuple #[.agg #[.string x.name, .int .i64 (x.from_ + 1), .slice An nn cn, .slice (some ⟨bk, of + 3, none⟩) x.list.length (c7 - 1), .slice A1 acc.length c1], .int .i64 (x.from_ + (x.list.length : Int) + 1), .int .i64 0]) (by simp [results, Tryz.results6, go_sem, kr0, kr1, kr2, kr3, kr4]) rfl ((show Ms w (.rd (datDo (⟨x.name, x.from_ + 1, (applyT e0.o x.text), (moreL x c s (rebOp x base o)).drop 1, (putGo c s (x.from_ + (x.list.length : Int) + 1) x.seen false)⟩ : Do)) (.agg #[.string x.name, .int .i64 (x.from_ + 1), .slice An nn cn, .slice (some ⟨bk, of + 3, none⟩) x.list.length (c7 - 1), .slice A1 acc.length c1]) _ :: _) _ from (HM.out.rk0.rkO.rkO.rkO.rkF (fun _ _ => by exact rfl)).rkF (fun _ _ => by exact rfl)).rdNN _ 0)
     have HCT := Lib.hid (show commitT x c s (rebOp x base o) = ⟨x.name, x.from_, x.text, (moreL x c s (rebOp x base o)), (putGo c s (x.from_ + (x.list.length : Int) + 1) x.seen false)⟩ by unfold commitT; rw [if_neg hov])
     have go1 : decide ((8 : Int) < (x.list.length : Int) + 1) = false := by simp; omega
     have go2 : decide (8 < x.list.length + 1) = false := by simp; omega
     have go3 : decide (8 ≤ x.list.length) = false := by simp; omega
     have hm := HM.out
     rw [show acc.map encSe = (putGo c s (x.from_ + (x.list.length : Int) + 1) x.seen false).map encSe by rw [← HE.out]] at hm
     replace HM := Lib.hid hm
     clear hm
     obtain ⟨kout0, kout1, kout2, kout3, kout4⟩ := HM.out.c5 1 rfl
     obtain ⟨fout0, fout1, fout2, fout3, fout4⟩ := HM.out.f5 1 rfl
     obtain ⟨kr0, kr1, kr2, kr3, kr4⟩ := HM.out.c5 7 rfl
     obtain ⟨fr0, fr1, fr2, fr3, fr4⟩ := HM.out.f5 7 rfl
     obtain ⟨noutr, nrout⟩ := HM.out.ne (i := 1) (j := 7) rfl rfl (by omega)
     go_wp2
     clear noutr nrout kr0 kr1 kr2 kr3 kr4 kout0 kout1 kout2 kout3 kout4 fr0 fr1 fr2 fr3 fr4 fout0 fout1 fout2 fout3 fout4
     have hm := HM.out.pk [1, 0, 2, 3, 4, 5, 6, 7, 8] (by decide) (by simp)
     simp only [low.pk, low.gz, low.gs] at hm
     replace HM := Lib.hid hm
     clear hm
     have hm := HM.out.set (j := 4) (.slice A1 acc.length c1)
     simp only [pa, pb, pc] at hm
     replace HM := Lib.hid hm
     clear hm
     have hm := HM.out.pk [7, 0, 1, 2, 3, 4, 5, 6, 8] (by decide) (by simp)
     simp only [low.pk, low.gz, low.gs] at hm
     replace HM := Lib.hid hm
     clear hm
     have hm := HM.out.putRow (ys := [.string x.name, .int .i64 x.from_, .slice A12 x.text.length c12, .slice A7 (x.list.length + 1) c7, .slice A1 acc.length c1]) rfl
     simp only [low.putRow, Nat.zero_add, Nat.reduceAdd] at hm
     replace HM := Lib.hid hm
     clear hm
     obtain ⟨W25, hW, hm⟩ := HM.out.name
     rw [← hW]
     replace HM := Lib.hid hm
     clear hm hW
     obtain ⟨kr0, kr1, kr2, kr3, kr4⟩ := HM.out.c5 0 rfl
     have hm := HM.out.pk [2, 3, 5, 0, 1, 4, 6, 7, 8] (by decide) (by simp)
     simp only [low.pk, low.gz, low.gs] at hm
     replace HM := Lib.hid hm
     clear hm
     rw [HN.out.1, HN.out.2.1, HN.out.2.2, HCT.out]
     exact bodyPost_ret (v := .tuple #[.agg #[.string x.name, .int .i64 x.from_, .slice A12 x.text.length c12, .slice A7 (x.list.length + 1) c7, .slice A1 acc.length c1], .int .i64 (x.from_ + (x.list.length : Int) + 1), .int .i64 0]) (by simp [results, Tryz.results6, go_sem, kr0, kr1, kr2, kr3, kr4]) rfl ((show Ms w (.dt (datDo (⟨x.name, x.from_, x.text, (moreL x c s (rebOp x base o)), (putGo c s (x.from_ + (x.list.length : Int) + 1) x.seen false)⟩ : Do)) (.agg #[.string x.name, .int .i64 x.from_, .slice A12 x.text.length c12, .slice A7 (x.list.length + 1) c7, .slice A1 acc.length c1]) _ :: _) _ from (HM.out.pk0.pkO.pkO.pkO.pkF rfl).pkF rfl).still.rdNN _ 0)
theorem specSubmit_d (v v2 : Value) (x : Do) (c s base : Int) (o : List Pt) (w : World) (h : RdC w w.heap.size (datDo x) v) (h2 : RdC w w.heap.size (encPs o) v2) (hs : SmDo x) (hs2 : SmP o) : Calls Tryz.prog 6 #[v, .int .i64 c, .int .i64 s, .int .i64 base, v2] w (RdNN (datDo (subDo x c s base o)) (subRev x c s base o) (subCode x c s base o) w) := by
 by_cases hgo : SubGo x c s base o
 ·exact specSubmit_go v v2 x c s base o w h h2 hs hs2 hgo
 ·exact specSubmit_no v v2 x c s base o w h h2 hs hs2 hgo
end Go.Proofs.YtglklgnggkenhaaGreatDoor.low
