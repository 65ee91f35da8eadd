/-
  Texts that the proofs over this seat rest on, one behind the other (4 of 8).
-/
import Derived.Test.YtglklgnggkenhaaGreatDoorMS3
import Derived.Test.YtglklgnggkenhaaGreatDoorMS2
import Derived.Maps.RangeWalk
set_option maxHeartbeats 12800000
set_option maxRecDepth 1000000
namespace Go.Proofs.YtglklgnggkenhaaGreatDoor.low
open Go.RowKit
set_option linter.unusedVariables false
def goodU (us : List U) : Prop := ∀ x, U.p x ∈ us → signB x = true
def part1 : U → Pt
 | .k => ⟨1, 1, []⟩
 | .p x => ⟨2, 0, [x]⟩
 | .d => ⟨3, 1, []⟩
def made (us : List U) : List Pt := doneN (foldU us)
theorem units_part1 : ∀ us : List U, units (us.map part1) = us
 | [] => rfl
 | u :: us => by
  rw [List.map_cons, units_cons, units_part1 us]
  cases u <;> rfl
theorem part1_sz (us : List U) : ∀ p ∈ us.map part1, szP_ p := fun p hp => by
 obtain ⟨u, _, rfl⟩ := List.mem_map.1 hp
 cases u
 ·exact ⟨.inl rfl, by simp [part1], by simp [part1], by simp [part1]⟩
 ·exact ⟨.inr (.inl rfl), by simp [part1], by simp [part1], by simp [part1]⟩
 ·exact ⟨.inr (.inr rfl), by simp [part1], by simp [part1], by simp [part1]⟩
theorem made_eq (us : List U) : made us = doneN (foldN (us.map part1)) := by unfold made; rw [foldN_units (part1_sz us), units_part1]
theorem units_made (us : List U) : units (made us) = nfU us := units_norm us
theorem len_st : ∀ us : List U, us.length ≤ src us + tgt us
 | [] => by simp
 | u :: us => by
  have := len_st us
  cases u <;> simp [src, tgt] <;> omega
theorem made_ok {us : List U} (hs : src us ≤ 200) (ht : tgt us ≤ 200) (hz : goodU us) : okOp (made us) = true ∧ normal (made us) ∧ sumK (made us) + sumD (made us) = (src us : Int) ∧ sumK (made us) + sumP (made us) = (tgt us : Int) := by
 have hsz := part1_sz us
 have hn : normal (made us) := by rw [made_eq]; exact normal_fold hsz
 obtain ⟨s1, s2, s3⟩ := sum_norm hsz
 rw [← made_eq] at s1 s2 s3
 obtain ⟨u1, u2⟩ := src_units hsz
 rw [units_part1] at u1 u2
 have hall : ∀ p ∈ made us, allB p.signs = true := by
  rw [made_eq]
  refine norm_allB (fun p hp => ?_)
  obtain ⟨u, hu, rfl⟩ := List.mem_map.1 hp
  cases u
  ·rfl
  ·rename_i x
   simp [part1, allB, hz x hu]
  ·rfl
 have n1 : ∀ f : Pt → Int, (∀ p, tidy p → 0 ≤ f p) → 0 ≤ sumOf f (made us) := fun f hf => by
  unfold sumOf
  have : ∀ (L : List Pt), (∀ p ∈ L, tidy p) → 0 ≤ (L.map f).sum := by
   intro L
   induction L with
   | nil => simp
   | cons p L ih =>
    intro h
    have a := hf p (h p (by simp))
    have b := ih (fun q hq => h q (by simp [hq]))
    simp
    omega
  exact this _ hn.1
 have k1 := n1 keepOf (fun p h => (tidy_nonneg h).1)
 have k2 := n1 putOf (fun p h => (tidy_nonneg h).2.1)
 have k3 := n1 dropOf (fun p h => (tidy_nonneg h).2.2)
 have hok : okPs (made us) = true := tidy_ok hn.1 hall (by omega) (by omega) (by omega)
 have hlen : (made us).length ≤ 600 := by
  have h1 := norm_length hsz
  rw [← made_eq, List.length_map] at h1
  have := len_st us
  omega
 have hop : okOp (made us) = true := of_okOp hok hlen (by omega) (by omega)
 obtain ⟨t1, t2, t3⟩ := sum_t (okOp_partsB hop)
 exact ⟨hop, hn, by rw [t1, t3]; omega, by rw [t1, t2]; omega⟩
theorem norm_made {a : List Pt} (h : okOp a = true) : normL a = made (units a) := by
 unfold normL made
 rw [if_pos h, foldN_units (okOp_units h).2.1]
theorem op_units {a : List Pt} (h : okOp a = true) : (src (units a) : Int) = sumK a + sumD a ∧ (tgt (units a) : Int) = sumK a + sumP a ∧ src (units a) ≤ 200 ∧ tgt (units a) ≤ 200 ∧ goodU (units a) := by
 obtain ⟨h1, h2, h3, h4, h5, h6, h7⟩ := okOp_of h
 obtain ⟨t1, t2, t3⟩ := sum_t (okOp_partsB h)
 obtain ⟨s1, s2⟩ := src_units (okPs_sz h1)
 refine ⟨by rw [t1, t3]; exact s1, by rw [t1, t2]; exact s2, by omega, by omega, fun x hx => ?_⟩
 unfold units at hx
 obtain ⟨p, hp, hx⟩ := List.mem_flatMap.1 hx
 have ha := okPs_allB h1 p hp
 unfold unitsP at hx
 split at hx
 ·have := List.eq_of_mem_replicate hx; cases this
 ·split at hx
  ·obtain ⟨z, hz, e⟩ := List.mem_map.1 hx
   injection e with e
   subst e
   unfold allB at ha
   exact List.all_eq_true.1 ha z hz
  ·have := List.eq_of_mem_replicate hx; cases this
theorem apply_mem : ∀ (us : List U) (t : List Int) (x : Int), x ∈ applyU us t → x ∈ t ∨ U.p x ∈ us
 | [], t, x, h => by simp [applyU] at h
 | .k :: us, t, x, h => by
  rw [applyU] at h
  rcases List.mem_append.1 h with h | h
  ·exact .inl (List.mem_of_mem_take h)
  ·rcases apply_mem us _ x h with h | h
   ·exact .inl (List.mem_of_mem_drop h)
   ·exact .inr (by simp [h])
 | .p y :: us, t, x, h => by
  rw [applyU] at h
  rcases List.mem_cons.1 h with rfl | h
  ·exact .inr (by simp)
  ·rcases apply_mem us _ x h with h | h
   ·exact .inl h
   ·exact .inr (by simp [h])
 | .d :: us, t, x, h => by
  rw [applyU] at h
  rcases apply_mem us _ x h with h | h
  ·exact .inl (List.mem_of_mem_drop h)
  ·exact .inr (by simp [h])
theorem okText_mem {t : List Int} (h : okText t = true) : ∀ x ∈ t, signB x = true := fun x hx => by
 unfold okText at h
 rw [Bool.and_eq_true] at h
 exact List.all_eq_true.1 h.1 x hx
theorem okText_mk {t : List Int} (h : ∀ x ∈ t, signB x = true) (hl : t.length ≤ 200) : okText t = true := by
 unfold okText allB
 rw [decide_eq_true hl, List.all_eq_true.2 h]
 rfl
theorem fits_mk {a : List Pt} {t : List Int} (ha : okOp a = true) (ht : okText t = true) (hs : sumK a + sumD a = (t.length : Int)) : fitsB a t = true := by
 unfold fitsB
 rw [ha, ht, decide_eq_true hs]
 rfl
theorem apply_ok {a : List Pt} {t : List Int} (ha : okOp a = true) (ht : okText t = true) (hs : sumK a + sumD a = (t.length : Int)) : fitsB a t = true ∧ applyT a t = applyU (units a) t ∧ okText (applyT a t) = true ∧ ((applyT a t).length : Int) = sumK a + sumP a ∧ src (units a) = t.length := by
 have hf := fits_mk ha ht hs
 obtain ⟨u1, u2, u3, u4, u5⟩ := op_units ha
 have hsrc : src (units a) = t.length := by omega
 have he := applyT_units hf
 have hl := apply_len_u (units a) t hsrc
 refine ⟨hf, he, ?_, by rw [he, hl]; exact u2, hsrc⟩
 rw [he]
 refine okText_mk (fun x hx => ?_) (by omega)
 rcases apply_mem _ _ _ hx with h | h
 ·exact okText_mem ht x h
 ·exact u5 x h
theorem signs_put : ∀ {ps : List Pt}, okPs ps = true → (signsIn ps : Int) = sumOf putOf ps
 | [], _ => by simp [signsIn, sumOf]
 | p :: ps, h => by
  unfold okPs at h
  rw [List.all_cons, Bool.and_eq_true] at h
  have ih := signs_put (ps := ps) h.2
  have e1 : signsIn (p :: ps) = p.signs.length + signsIn ps := by simp [signsIn]
  have e2 : sumOf putOf (p :: ps) = putOf p + sumOf putOf ps := by simp [sumOf]
  rw [e1, e2, ← ih]
  have := of_okPt h.1
  unfold putOf
  split <;> omega
theorem op_800 {o : List Pt} (h : okOp o = true) : o.length + signsIn o ≤ 800 := by
 have hh := h
 unfold okOp at h
 rw [Bool.and_eq_true, Bool.and_eq_true] at h
 obtain ⟨⟨h1, _⟩, h3⟩ := h
 have h3 := of_decide_eq_true h3
 obtain ⟨t1, t2, _⟩ := sum_t h1
 unfold partsB at h1
 rw [Bool.and_eq_true] at h1
 have h4 := of_decide_eq_true h1.2
 have hb := sums_bd h1.1 h4
 have hs := signs_put h1.1
 rw [t1, t2] at h3
 omega
theorem isNorm_800 {o : List Pt} (h : isNormL o = true) : o.length + signsIn o ≤ 800 := by
 unfold isNormL at h
 rw [Bool.and_eq_true] at h
 exact op_800 h.1
theorem chain_tot : ∀ {l : List En} {t : List Int}, chainGo l t = true → sumN totEn l ≤ 800 * l.length
 | [], _, _ => by simp [sumN]
 | e :: l, t, h => by
  unfold chainGo at h
  simp only [Bool.and_eq_true] at h
  have ih := chain_tot h.2
  have he : entryB e = true := h.1.1.2
  unfold entryB at he
  rw [Bool.and_eq_true] at he
  have := isNorm_800 he.2
  have e1 : totEn e = e.o.length + signsIn e.o := rfl
  rw [sumN_cons, List.length_cons, e1]
  omega
theorem seen_le : ∀ {l : List Se} {h : Int} {p : Int}, seenAllB h (some p) l = true → 0 ≤ p → p ≤ 8 → (l.length : Int) + p ≤ 8
 | [], _, _, _, _, _ => by simp; omega
 | s :: l, hh, p, h, h0, h8 => by
  unfold seenAllB seenOneB at h
  simp only [Bool.and_eq_true] at h
  have h1 := h.1.1.1.1
  have h2 := h.1.2
  unfold inB at h1
  have h1 := of_decide_eq_true h1
  have h2 : p < s.client := of_decide_eq_true h2
  have ih := seen_le h.2 (by omega) (by omega)
  rw [List.length_cons]
  omega
theorem seen_8 {l : List Se} {h : Int} (hs : seenAllB h none l = true) : l.length ≤ 8 := by
 cases l with
 | nil => simp
 | cons s l =>
  unfold seenAllB seenOneB at hs
  simp only [Bool.and_eq_true] at hs
  have h1 := hs.1.1.1.1
  unfold inB at h1
  have h1 := of_decide_eq_true h1
  have ih := seen_le hs.2 (by omega) (by omega)
  rw [List.length_cons]
  omega
structure DocIn (x : Do) : Prop where
 name : x.name.size ≤ 8
 from0 : 0 ≤ x.from_
 from1 : x.from_ ≤ 999999000
 text : x.text.length ≤ 200
 list : x.list.length ≤ 8
 ops : sumN totEn x.list ≤ 6400
 seen : x.seen.length ≤ 8
 head : headRevT x = x.from_ + (x.list.length : Int)
theorem docB_in {x : Do} (h : docB x = true) : DocIn x := by
 have hh := docB_of h
 unfold docB at h
 simp only [Bool.and_eq_true] at h
 obtain ⟨⟨⟨⟨⟨h1, h2⟩, h3⟩, h4⟩, h5⟩, h6⟩ := h
 unfold nameB inB at h1
 rw [Bool.and_eq_true] at h1
 have h1 := of_decide_eq_true h1.2
 unfold okText at h3
 rw [Bool.and_eq_true] at h3
 have h3 := of_decide_eq_true h3.2
 have h4 := of_decide_eq_true h4
 have h5 := chain_tot h5
 exact ⟨by omega, hh.1, hh.2.1, h3, h4, by omega, seen_8 h6, hh.2.2.2⟩
theorem sumSe (l : List Se) : sumN totSe l = 0 := by
 induction l with
 | nil => rfl
 | cons s l ih => rw [sumN_cons, ih]; rfl
theorem do_tot {x : Do} (h1 : x.name.size ≤ 8) (h2 : x.text.length ≤ 200) (h3 : x.list.length ≤ 9) (h4 : sumN totEn x.list ≤ 100000) (h5 : x.seen.length ≤ 9) : totDo x ≤ 100300 := by
 unfold totDo totI totEns totSes
 rw [sumSe]
 omega
theorem sumN_drop {α : Type} (f : α → Nat) : ∀ (l : List α) (k : Nat), sumN f (l.drop k) ≤ sumN f l
 | _, 0 => by simp
 | [], k + 1 => by simp
 | x :: l, k + 1 => by
  have := sumN_drop f l k
  rw [List.drop_succ_cons, sumN_cons]
  omega
theorem docB_chain {x : Do} (h : docB x = true) : chainGo x.list x.text = true := by
 unfold docB at h
 simp only [Bool.and_eq_true] at h
 exact h.1.2
theorem smEns_drop {l : List En} (h : SmEns l) (m : Nat) : SmEns (l.drop m) := by
 unfold SmEns totEns at *
 have := sumN_drop totEn l m
 rw [List.length_drop]
 omega
theorem elt_of {t e : TypeId} {z : Value} {sz bytes : Nat} (hu : Tryz.prog.underlying t = some (.slice e)) (hi : (Tryz.prog.info? e).map (fun i => (i.zero, i.size, i.bytes)) = some (some z, sz, bytes)) (h1 : z.cells.size = sz) (h2 : 0 < sz) (h3 : bytes ≤ 100000) : Elt t e z sz bytes := by
 obtain ⟨i, k1, k2⟩ := Option.map_eq_some_iff.1 hi
 simp only [Prod.mk.injEq] at k2
 exact ⟨i, hu, k1, k2.1, k2.2.1, k2.2.2, h1, h2, h3⟩
theorem eltInt : Elt 22 3 (.int .i64 0) 1 8 := elt_of (by kernel_rfl) (by kernel_rfl) rfl (by omega) (by omega)
theorem eltEn : Elt 30 62 (.agg #[.int .i64 0, .int .i64 0, .slice none 0 0]) 3 40 := elt_of (by kernel_rfl) (by kernel_rfl) rfl (by omega) (by omega)
theorem eltSe : Elt 31 54 (.agg #[.int .i64 0, .int .i64 0, .int .i64 0]) 3 24 := elt_of (by kernel_rfl) (by kernel_rfl) rfl (by omega) (by omega)
theorem flatI (zs : List Int) : FlatR (zs.map fun z => [.int z]) 1 := fun r hr => by
 obtain ⟨z, _, rfl⟩ := List.mem_map.1 hr
 exact ⟨rfl, fun d hd => by rw [List.mem_singleton] at hd; subst hd; exact ⟨_, rfl, rfl⟩⟩
theorem flatSe (l : List Se) : FlatR (l.map encSe) 3 := fun r hr => by
 obtain ⟨z, _, rfl⟩ := List.mem_map.1 hr
 refine ⟨rfl, fun d hd => ?_⟩
 unfold encSe at hd
 simp only [List.mem_cons, List.not_mem_nil, or_false] at hd
 rcases hd with rfl | rfl | rfl <;> exact ⟨_, rfl, rfl⟩
theorem specEntryC_d (v : Value) (x : En) (w : World) (h : RdC w w.heap.size (datEn x) v) (hs : SmEn x) : Calls Tryz.prog 75 #[v] w (OwnPost (datEn x) w) := by
 obtain ⟨A2, c2, rfl, r2⟩ := aggEn h
 have HR := Lib.hid r2
 clear h r2
 have HM := Lib.hid (Ms.start w)
 replace HM := Lib.hid (HM.out.new #[.int .i64 x.client, .int .i64 x.seq, .slice A2 x.o.length c2] 62)
 have hm := HM.out.new #[.int .i64 0, .int .i64 0, .slice none 0 0] 62
 simp only [World.size_alloc] at hm
 replace HM := Lib.hid hm
 clear hm
 go_enter Tryz.func75, Tryz.ntmps75
 go_wp2
 obtain ⟨W1, hW, hm⟩ := HM.out.name
 rw [← hW]
 replace HM := Lib.hid hm
 clear hm hW
 replace HM := Lib.hid (HM.out.drew)
 refine wp_region_held_drew (S := fun W => Ms w [.bx w.heap.size (.cells #[.int .i64 x.client, .int .i64 x.seq, .slice A2 x.o.length c2] 62 (0, 0))] W) (by kernel_rfl) (HM.out.pick (ks := [1]) (by decide) rfl) (fun hS => ?_)
 generalize W1.drew = W2 at HM hS  ⊢
 refine tk (v := ?_) 0 3 rfl (fun w' hS' => ?_) hS ?_
 rotate_left
 ·go_simp; all_goals (with_reducible rfl)
 try simp only [Act.put, pa, pb, pc]
 refine tk (v := ?_) 1 4 rfl (fun w' hS' => ?_) hS ?_
 rotate_left
 ·(try dsimp only at hS'); obtain ⟨q0, q1, q2⟩ := hS'.c3 0 rfl; go_simp; all_goals (with_reducible rfl)
 try simp only [Act.put, pa, pb, pc]
 refine tk (v := ?_) 2 5 rfl (fun w' hS' => ?_) hS ?_
 rotate_left
 ·go_simp; all_goals (with_reducible rfl)
 try simp only [Act.put, pa, pb, pc]
 refine tk (v := ?_) 3 6 rfl (fun w' hS' => ?_) hS ?_
 rotate_left
 ·(try dsimp only at hS'); obtain ⟨q0, q1, q2⟩ := hS'.c3 0 rfl; go_simp; all_goals (with_reducible rfl)
 try simp only [Act.put, pa, pb, pc]
 refine tk (v := ?_) 4 7 rfl (fun w' hS' => ?_) hS ?_
 rotate_left
 ·go_simp; all_goals (with_reducible rfl)
 try simp only [Act.put, pa, pb, pc]
 refine tk (v := ?_) 5 8 rfl (fun w' hS' => ?_) hS ?_
 rotate_left
 ·(try dsimp only at hS'); obtain ⟨q0, q1, q2⟩ := hS'.c3 0 rfl; go_simp; all_goals (with_reducible rfl)
 try simp only [Act.put, pa, pb, pc]
 refine r1 6 (some 9) rfl (fun K hK => ?_)
 go_simp
 refine (specCopy_d _ x.o _ (HM.out.arg HR.out) hs.o).mono ?_
 rintro e' W3 ⟨v', rfl, o', b'⟩
 obtain ⟨An, cn, rfl⟩ := sliceP o'.read
 obtain ⟨bo, hm⟩ := HM.out.got o' b'
 clear o' b'
 replace HM := Lib.hid hm
 clear hm
 clear hS
 refine hK.out _ _ (HM.out.pick (ks := [2]) (by decide) rfl) (fun hS => ?_)
 clear hK K
 try simp only [Act.put, pa, pb, pc]
 refine tk (v := ?_) 7 10 rfl (fun w' hS' => ?_) hS ?_
 rotate_left
 ·go_simp; all_goals (with_reducible rfl)
 try simp only [Act.put, pa, pb, pc]
 refine r1 8 none rfl (fun K hK => ?_)
 obtain ⟨kr0, kr1, kr2⟩ := HM.out.c3 1 rfl
 obtain ⟨fr0, fr1, fr2⟩ := HM.out.f3 1 rfl
 go_simp
 clear hS kr0 kr1 kr2 fr0 fr1 fr2
 have hm := HM.out.pk [1, 0, 2] (by decide) (by simp)
 simp only [low.pk, low.gz, low.gs] at hm
 replace HM := Lib.hid hm
 clear hm
 have hm := HM.out.putRow (ys := [.int .i64 x.client, .int .i64 x.seq, .slice An x.o.length cn]) rfl
 simp only [low.putRow, Nat.zero_add, Nat.reduceAdd] at hm
 replace HM := Lib.hid hm
 clear hm
 obtain ⟨W4, hW, hm⟩ := HM.out.name
 rw [← hW]
 replace HM := Lib.hid hm
 clear hm hW
 refine hK.out _ _ (HM.out.pick (ks := [2]) (by decide) rfl) (fun hS => ?_)
 clear hK K
 try simp only [Act.put]
 refine wpAnyH_done (by kernel_rfl) ?_ _
 clear hS
 go_wp2
 obtain ⟨kr0, kr1, kr2⟩ := HM.out.c3 0 rfl
 have hm := HM.out.pk [1, 0, 2] (by decide) (by simp)
 simp only [low.pk, low.gz, low.gs] at hm
 replace HM := Lib.hid hm
 clear hm
 exact bodyPost_ret (v := .agg #[.int .i64 x.client, .int .i64 x.seq, .slice An x.o.length cn]) (by simp [results, Tryz.results75, go_sem, kr0, kr1, kr2]) rfl (show Ms w (.dt (datEn x) (.agg #[.int .i64 x.client, .int .i64 x.seq, .slice An x.o.length cn]) (bo ++ []) :: _) _ from (HM.out.pk0.pkO.pkF rfl).pkF rfl).post
theorem specEntriesC_d (v : Value) (l : List En) (w : World) (h : RdC w w.heap.size (encEns l) v) (hs : SmEns l) : Calls Tryz.prog 50 #[v] w (OwnPost (encEns l) w) := by
 obtain ⟨A, c, rfl⟩ := sliceEns h
 have hl := hs.len
 have HR := Lib.hid h
 clear h
 have HM := Lib.hid (Ms.start w)
 replace HM := Lib.hid (HM.out.empty 62 3)
 go_enter Tryz.func50, Tryz.ntmps50
 go_wp2
 go_loopw [3, 9] (fun ov i wr => ∃ (j : Nat) (A1 : Option Addr) (c1 : Nat) (bs : List Nat), j ≤ l.length ∧ i = .int .i64 (j : Int) ∧ ov = .slice A1 j c1 ∧ Ms w [.dt (.rows 62 3 ((l.take j).map encEn)) (.slice A1 j c1) bs] wr) (fun _ i _ => l.length - (intOf i).toNat)
 case atStart => exact ⟨0, _, _, _, Nat.zero_le _, rfl, rfl, HM.out⟩
 case round =>
  obtain ⟨j, A1, c1, bs, hj, rfl, rfl, hm⟩ := hrel
  clear HM
  have HM := Lib.hid hm
  clear hm
  by_cases hlt : j < l.length
  ·obtain ⟨b, off, e, A5, c5, rfl, hbb, hp, y0, y1, y2, q2⟩ := atEns HR.out hlt
   have x0 := (HM.out.bl.cell (p := ⟨b, off + j * 3, none⟩) hbb).trans y0
   have x1 := (HM.out.bl.cell (p := ⟨b, off + j * 3 + 1, none⟩) hbb).trans y1
   have x2 := (HM.out.bl.cell (p := ⟨b, off + j * 3 + 2, none⟩) hbb).trans y2
   clear y0 y1 y2
   have hse := hs.at_ (List.mem_of_getElem? hp)
   have HT := Lib.hid (show (l.take (j + 1)).map encEn = (l.take j).map encEn ++ [encEn e] by rw [List.take_add_one, hp]; simp)
   clear hp
   replace HM := Lib.hid (HM.out.new #[.int .i64 e.client, .int .i64 e.seq, .slice A5 e.o.length c5] 62)
   go_wp2_with fail
   obtain ⟨W1, hW, hm⟩ := HM.out.name
   rw [← hW]
   replace HM := Lib.hid hm
   clear hm hW
   refine (specEntryC_d _ e _ (rdEn e (HM.out.arg q2)) hse).mono ?_
   rintro e' W2 ⟨v', rfl, o', b'⟩
   obtain ⟨A6, c6, rfl, -⟩ := aggEn o'.read
   obtain ⟨bn, hm⟩ := HM.out.got o' b'
   clear o' b'
   replace HM := Lib.hid hm
   clear hm
   clear x0 x1 x2
   replace HM := Lib.hid (HM.out.new #[.int .i64 e.client, .int .i64 e.seq, .slice A6 e.o.length c6] 62)
   have hm := HM.out.pk [3, 1, 0, 2] (by decide) (by simp)
   simp only [low.pk, low.gz, low.gs] at hm
   replace HM := Lib.hid hm
   clear hm
   go_wp2_with (at_builtin; refine wpList_ms1 rfl (.tmp 13) (.tmp 16) 30 rfl eltEn HM.out rfl (by simp; omega) W2.heap.size _ rfl (HM.out.at_ (i := 2) rfl) rfl (by simp [Value.oneCell']) ?_; intro A7 c7 w7 b7 hm)
   have e1 : ((l.take j).map encEn).length = j := by simp; omega
   rw [e1] at hm
   try rw [e1]
   rw [HT.out.symm] at hm
   have HM7 := Lib.hid hm
   clear hm e1 HM
   go_wp2
   go_roundw
   case rel => exact ⟨j + 1, A7, c7, b7, by omega, by go_num, rfl, HM7.out.pick (ks := [0]) (by decide) rfl⟩
   case measure => simp [intOf]; omega
  ·obtain rfl : j = l.length := by omega
   have hm := HM.out
   rw [List.take_length] at hm
   have HM7 := Lib.hid hm
   clear hm HM
   go_wp2
   go_ret
   exact (show Ms w [.dt (encEns l) _ _] _ from HM7.out).post
theorem specCopyD_d (v : Value) (x : Do) (w : World) (h : RdC w w.heap.size (datDo x) v) (hs : SmDo x) : Calls Tryz.prog 23 #[v] w (OwnPost (datDo x) w) := by
 obtain ⟨A2, c2, A3, c3, A4, c4, rfl, r2, r3, r4⟩ := aggDo h
 have ht : x.text.length ≤ 1048576 := hs.text
 have hl := hs.list.len
 have hl4 := hs.seen.len
 have R2 := Lib.hid r2
 have R3 := Lib.hid r3
 have R4 := Lib.hid r4
 clear h r2 r3 r4
 have HM := Lib.hid (Ms.start w)
 replace HM := Lib.hid (HM.out.new #[.string x.name, .int .i64 x.from_, .slice A2 x.text.length c2, .slice A3 x.list.length c3, .slice A4 x.seen.length c4] 33)
 have hm := HM.out.new #[.string ⟨#[]⟩, .int .i64 0, .slice none 0 0, .slice none 0 0, .slice none 0 0] 33
 simp only [World.size_alloc] at hm
 replace HM := Lib.hid hm
 clear hm
 go_enter Tryz.func23, Tryz.ntmps23
 go_wp2
 obtain ⟨W1, hW, hm⟩ := HM.out.name
 rw [← hW]
 replace HM := Lib.hid hm
 clear hm hW
 replace HM := Lib.hid (HM.out.drew)
 refine wp_region_held_drew (S := fun W => Ms w [.bx w.heap.size (.cells #[.string x.name, .int .i64 x.from_, .slice A2 x.text.length c2, .slice A3 x.list.length c3, .slice A4 x.seen.length c4] 33 (0, 0))] W) (by kernel_rfl) (HM.out.pick (ks := [1]) (by decide) rfl) (fun hS => ?_)
 generalize W1.drew = W2 at HM hS  ⊢
 refine tk (v := ?_) 0 3 rfl (fun w' hS' => ?_) hS ?_
 rotate_left
 ·go_simp; all_goals (with_reducible rfl)
 try simp only [Act.put, pa, pb, pc]
 refine tk (v := ?_) 1 4 rfl (fun w' hS' => ?_) hS ?_
 rotate_left
 ·(try dsimp only at hS'); obtain ⟨q0, q1, q2, q3, q4⟩ := hS'.c5 0 rfl; go_simp; all_goals (with_reducible rfl)
 try simp only [Act.put, pa, pb, pc]
 refine tk (v := ?_) 2 5 rfl (fun w' hS' => ?_) hS ?_
 rotate_left
 ·go_simp; all_goals (with_reducible rfl)
 try simp only [Act.put, pa, pb, pc]
 refine tk (v := ?_) 3 6 rfl (fun w' hS' => ?_) hS ?_
 rotate_left
 ·(try dsimp only at hS'); obtain ⟨q0, q1, q2, q3, q4⟩ := hS'.c5 0 rfl; go_simp; all_goals (with_reducible rfl)
 try simp only [Act.put, pa, pb, pc]
 refine tk (v := ?_) 5 8 rfl (fun w' hS' => ?_) hS ?_
 rotate_left
 ·go_simp; all_goals (with_reducible rfl)
 try simp only [Act.put, pa, pb, pc]
 refine tk (v := ?_) 6 9 rfl (fun w' hS' => ?_) hS ?_
 rotate_left
 ·(try dsimp only at hS'); obtain ⟨q0, q1, q2, q3, q4⟩ := hS'.c5 0 rfl; go_simp; all_goals (with_reducible rfl)
 try simp only [Act.put, pa, pb, pc]
 refine tk (v := ?_) 8 11 rfl (fun w' hS' => ?_) hS ?_
 rotate_left
 ·go_simp; all_goals (with_reducible rfl)
 try simp only [Act.put, pa, pb, pc]
 refine tk (v := ?_) 9 12 rfl (fun w' hS' => ?_) hS ?_
 rotate_left
 ·(try dsimp only at hS'); obtain ⟨q0, q1, q2, q3, q4⟩ := hS'.c5 0 rfl; go_simp; all_goals (with_reducible rfl)
 try simp only [Act.put, pa, pb, pc]
 refine tk (v := ?_) 12 15 rfl (fun w' hS' => ?_) hS ?_
 rotate_left
 ·go_simp; all_goals (with_reducible rfl)
 try simp only [Act.put, pa, pb, pc]
 refine tk (v := ?_) 13 16 rfl (fun w' hS' => ?_) hS ?_
 rotate_left
 ·(try dsimp only at hS'); obtain ⟨q0, q1, q2, q3, q4⟩ := hS'.c5 0 rfl; go_simp; all_goals (with_reducible rfl)
 try simp only [Act.put, pa, pb, pc]
 refine wpAnyH_ready (rs := [4, 11]) (by kernel_rfl) (by simp) ?_
 refine AllReadyH.cons (o := ⟨some 7, _, _, _, _, _⟩) rfl (fun K hK => ?_) ?_
 ·go_simp
  replace HM := Lib.hid (HM.out.empty 3 1)
  obtain ⟨W3, hW, hm⟩ := HM.out.name
  rw [← hW]
  replace HM := Lib.hid hm
  clear hm hW
  clear hS
  refine hK.out _ _ (HM.out.pick (ks := [2]) (by decide) rfl) (fun hS => ?_)
  clear hK K
  try simp only [Act.put, pa, pb, pc]
  refine wpAnyH_ready (rs := [7, 11]) (by kernel_rfl) (by simp) ?_
  refine AllReadyH.cons (o := ⟨some 10, _, _, _, _, _⟩) rfl (fun K hK => ?_) ?_
  ·refine step_msAll (by rfl) (.tmp 7) (.tmp 9) 22 (by rfl) eltInt HM.out (by rfl) A2 x.text.length c2 (by rfl) (HM.out.arg R2.out) (flatI _) (by simp; omega) ?_
   intro Ant cnt W4 bnt hm
   simp only [List.nil_append, List.length_nil, Nat.zero_add] at hm ⊢
   replace HM := Lib.hid hm
   clear hm
   clear hS
   refine hK.out _ _ (HM.out.pick (ks := [2]) (by decide) rfl) (fun hS => ?_)
   clear hK K
   try simp only [Act.put, pa, pb, pc]
   refine wpAnyH_ready (rs := [10, 11]) (by kernel_rfl) (by simp) ?_
   refine AllReadyH.cons (o := ⟨some 13, _, _, _, _, _⟩) rfl (fun K hK => ?_) ?_
   ·go_simp
    refine (specEntriesC_d _ x.list _ (HM.out.arg R3.out) hs.list).mono ?_
    rintro e' W5 ⟨v', rfl, o', b'⟩
    obtain ⟨Anl, cnl, rfl⟩ := sliceEns o'.read
    obtain ⟨bl, hm⟩ := HM.out.got o' b'
    clear o' b'
    replace HM := Lib.hid hm
    clear hm
    clear hS
    refine hK.out _ _ (HM.out.pick (ks := [3]) (by decide) rfl) (fun hS => ?_)
    clear hK K
    try simp only [Act.put, pa, pb, pc]
    refine r1 11 (some 14) rfl (fun K hK => ?_)
    go_simp
    replace HM := Lib.hid (HM.out.empty 54 3)
    obtain ⟨W6, hW, hm⟩ := HM.out.name
    rw [← hW]
    replace HM := Lib.hid hm
    clear hm hW
    clear hS
    refine hK.out _ _ (HM.out.pick (ks := [4]) (by decide) rfl) (fun hS => ?_)
    clear hK K
    try simp only [Act.put, pa, pb, pc]
    refine r1 14 (some 17) rfl (fun K hK => ?_)
    refine step_msAll (by rfl) (.tmp 14) (.tmp 16) 31 (by rfl) eltSe HM.out (by rfl) A4 x.seen.length c4 (by rfl) (HM.out.arg R4.out) (flatSe _) (by simp; omega) ?_
    intro Ans cns W7 bns hm
    simp only [List.nil_append, List.length_nil, Nat.zero_add] at hm ⊢
    replace HM := Lib.hid hm
    clear hm
    clear hS
    refine hK.out _ _ (HM.out.pick (ks := [4]) (by decide) rfl) (fun hS => ?_)
    clear hK K
    try simp only [Act.put, pa, pb, pc]
    refine tk (v := ?_) 15 18 rfl (fun w' hS' => ?_) hS ?_
    rotate_left
    ·go_simp; all_goals (with_reducible rfl)
    try simp only [Act.put, pa, pb, pc]
    refine r1 16 none rfl (fun K hK => ?_)
    obtain ⟨kr0, kr1, kr2, kr3, kr4⟩ := HM.out.c5 3 rfl
    obtain ⟨fr0, fr1, fr2, fr3, fr4⟩ := HM.out.f5 3 rfl
    go_simp
    clear hS kr0 kr1 kr2 kr3 kr4 fr0 fr1 fr2 fr3 fr4
    have hm := HM.out.pk [3, 0, 1, 2, 4] (by decide) (by simp)
    simp only [low.pk, low.gz, low.gs] at hm
    replace HM := Lib.hid hm
    clear hm
    have hm := HM.out.putRow (ys := [.string x.name, .int .i64 x.from_, .slice Ant x.text.length cnt, .slice Anl x.list.length cnl, .slice Ans x.seen.length cns]) rfl
    simp only [low.putRow, Nat.zero_add, Nat.reduceAdd] at hm
    replace HM := Lib.hid hm
    clear hm
    obtain ⟨W8, hW, hm⟩ := HM.out.name
    rw [← hW]
    replace HM := Lib.hid hm
    clear hm hW
    refine hK.out _ _ (HM.out.pick (ks := [4]) (by decide) rfl) (fun hS => ?_)
    clear hK K
    try simp only [Act.put]
    refine wpAnyH_done (by kernel_rfl) ?_ _
    clear hS
    go_wp2
    obtain ⟨kr0, kr1, kr2, kr3, kr4⟩ := HM.out.c5 0 rfl
    have hm := HM.out.pk [1, 2, 3, 0, 4] (by decide) (by simp)
    simp only [low.pk, low.gz, low.gs] at hm
    replace HM := Lib.hid hm
    clear hm
    exact bodyPost_ret (v := .agg #[.string x.name, .int .i64 x.from_, .slice Ant x.text.length cnt, .slice Anl x.list.length cnl, .slice Ans x.seen.length cns]) (by simp [results, Tryz.results23, go_sem, kr0, kr1, kr2, kr3, kr4]) rfl (show Ms w (.dt (datDo x) (.agg #[.string x.name, .int .i64 x.from_, .slice Ant x.text.length cnt, .slice Anl x.list.length cnl, .slice Ans x.seen.length cns]) _ :: _) _ from (HM.out.pk0.pkO.pkO.pkO.pkF rfl).pkF rfl).post
   refine AllReadyH.cons (o := ⟨some 14, _, _, _, _, _⟩) rfl (fun K hK => ?_) AllReadyH.nil
   go_simp
   replace HM := Lib.hid (HM.out.empty 54 3)
   obtain ⟨W9, hW, hm⟩ := HM.out.name
   rw [← hW]
   replace HM := Lib.hid hm
   clear hm hW
   clear hS
   refine hK.out _ _ (HM.out.pick (ks := [3]) (by decide) rfl) (fun hS => ?_)
   clear hK K
   try simp only [Act.put, pa, pb, pc]
   refine r1 10 (some 13) rfl (fun K hK => ?_)
   go_simp
   refine (specEntriesC_d _ x.list _ (HM.out.arg R3.out) hs.list).mono ?_
   rintro e' W10 ⟨v', rfl, o', b'⟩
   obtain ⟨Anl, cnl, rfl⟩ := sliceEns o'.read
   obtain ⟨bl, hm⟩ := HM.out.got o' b'
   clear o' b'
   replace HM := Lib.hid hm
   clear hm
   clear hS
   refine hK.out _ _ (HM.out.pick (ks := [4]) (by decide) rfl) (fun hS => ?_)
   clear hK K
   try simp only [Act.put, pa, pb, pc]
   refine r1 14 (some 17) rfl (fun K hK => ?_)
   have hm := HM.out.pk [1, 0, 2, 3, 4] (by decide) (by simp)
   simp only [low.pk, low.gz, low.gs] at hm
   replace HM := Lib.hid hm
   clear hm
   refine step_msAll (by rfl) (.tmp 14) (.tmp 16) 31 (by rfl) eltSe HM.out (by rfl) A4 x.seen.length c4 (by rfl) (HM.out.arg R4.out) (flatSe _) (by simp; omega) ?_
   intro Ans cns W11 bns hm
   simp only [List.nil_append, List.length_nil, Nat.zero_add] at hm ⊢
   replace HM := Lib.hid hm
   clear hm
   clear hS
   refine hK.out _ _ (HM.out.pick (ks := [4]) (by decide) rfl) (fun hS => ?_)
   clear hK K
   try simp only [Act.put, pa, pb, pc]
   refine tk (v := ?_) 15 18 rfl (fun w' hS' => ?_) hS ?_
   rotate_left
   ·go_simp; all_goals (with_reducible rfl)
   try simp only [Act.put, pa, pb, pc]
   refine r1 16 none rfl (fun K hK => ?_)
   obtain ⟨kr0, kr1, kr2, kr3, kr4⟩ := HM.out.c5 3 rfl
   obtain ⟨fr0, fr1, fr2, fr3, fr4⟩ := HM.out.f5 3 rfl
   go_simp
   clear hS kr0 kr1 kr2 kr3 kr4 fr0 fr1 fr2 fr3 fr4
   have hm := HM.out.pk [3, 0, 1, 2, 4] (by decide) (by simp)
   simp only [low.pk, low.gz, low.gs] at hm
   replace HM := Lib.hid hm
   clear hm
   have hm := HM.out.putRow (ys := [.string x.name, .int .i64 x.from_, .slice Ant x.text.length cnt, .slice Anl x.list.length cnl, .slice Ans x.seen.length cns]) rfl
   simp only [low.putRow, Nat.zero_add, Nat.reduceAdd] at hm
   replace HM := Lib.hid hm
   clear hm
   obtain ⟨W12, hW, hm⟩ := HM.out.name
   rw [← hW]
   replace HM := Lib.hid hm
   clear hm hW
   refine hK.out _ _ (HM.out.pick (ks := [4]) (by decide) rfl) (fun hS => ?_)
   clear hK K
   try simp only [Act.put]
   refine wpAnyH_done (by kernel_rfl) ?_ _
   clear hS
   go_wp2
   obtain ⟨kr0, kr1, kr2, kr3, kr4⟩ := HM.out.c5 0 rfl
   have hm := HM.out.pk [1, 2, 3, 0, 4] (by decide) (by simp)
   simp only [low.pk, low.gz, low.gs] at hm
   replace HM := Lib.hid hm
   clear hm
   exact bodyPost_ret (v := .agg #[.string x.name, .int .i64 x.from_, .slice Ant x.text.length cnt, .slice Anl x.list.length cnl, .slice Ans x.seen.length cns]) (by simp [results, Tryz.results23, go_sem, kr0, kr1, kr2, kr3, kr4]) rfl (show Ms w (.dt (datDo x) (.agg #[.string x.name, .int .i64 x.from_, .slice Ant x.text.length cnt, .slice Anl x.list.length cnl, .slice Ans x.seen.length cns]) _ :: _) _ from (HM.out.pk0.pkO.pkO.pkO.pkF rfl).pkF rfl).post
  refine AllReadyH.cons (o := ⟨some 14, _, _, _, _, _⟩) rfl (fun K hK => ?_) AllReadyH.nil
  go_simp
  replace HM := Lib.hid (HM.out.empty 54 3)
  obtain ⟨W13, hW, hm⟩ := HM.out.name
  rw [← hW]
  replace HM := Lib.hid hm
  clear hm hW
  clear hS
  refine hK.out _ _ (HM.out.pick (ks := [3]) (by decide) rfl) (fun hS => ?_)
  clear hK K
  try simp only [Act.put, pa, pb, pc]
  refine r1 7 (some 10) rfl (fun K hK => ?_)
  have hm := HM.out.pk [1, 0, 2, 3] (by decide) (by simp)
  simp only [low.pk, low.gz, low.gs] at hm
  replace HM := Lib.hid hm
  clear hm
  refine step_msAll (by rfl) (.tmp 7) (.tmp 9) 22 (by rfl) eltInt HM.out (by rfl) A2 x.text.length c2 (by rfl) (HM.out.arg R2.out) (flatI _) (by simp; omega) ?_
  intro Ant cnt W14 bnt hm
  simp only [List.nil_append, List.length_nil, Nat.zero_add] at hm ⊢
  replace HM := Lib.hid hm
  clear hm
  clear hS
  refine hK.out _ _ (HM.out.pick (ks := [3]) (by decide) rfl) (fun hS => ?_)
  clear hK K
  try simp only [Act.put, pa, pb, pc]
  refine r1 10 (some 13) rfl (fun K hK => ?_)
  go_simp
  refine (specEntriesC_d _ x.list _ (HM.out.arg R3.out) hs.list).mono ?_
  rintro e' W15 ⟨v', rfl, o', b'⟩
  obtain ⟨Anl, cnl, rfl⟩ := sliceEns o'.read
  obtain ⟨bl, hm⟩ := HM.out.got o' b'
  clear o' b'
  replace HM := Lib.hid hm
  clear hm
  clear hS
  refine hK.out _ _ (HM.out.pick (ks := [4]) (by decide) rfl) (fun hS => ?_)
  clear hK K
  try simp only [Act.put, pa, pb, pc]
  refine r1 14 (some 17) rfl (fun K hK => ?_)
  have hm := HM.out.pk [2, 0, 1, 3, 4] (by decide) (by simp)
  simp only [low.pk, low.gz, low.gs] at hm
  replace HM := Lib.hid hm
  clear hm
  refine step_msAll (by rfl) (.tmp 14) (.tmp 16) 31 (by rfl) eltSe HM.out (by rfl) A4 x.seen.length c4 (by rfl) (HM.out.arg R4.out) (flatSe _) (by simp; omega) ?_
  intro Ans cns W16 bns hm
  simp only [List.nil_append, List.length_nil, Nat.zero_add] at hm ⊢
  replace HM := Lib.hid hm
  clear hm
  clear hS
  refine hK.out _ _ (HM.out.pick (ks := [4]) (by decide) rfl) (fun hS => ?_)
  clear hK K
  try simp only [Act.put, pa, pb, pc]
  refine tk (v := ?_) 15 18 rfl (fun w' hS' => ?_) hS ?_
  rotate_left
  ·go_simp; all_goals (with_reducible rfl)
  try simp only [Act.put, pa, pb, pc]
  refine r1 16 none rfl (fun K hK => ?_)
  obtain ⟨kr0, kr1, kr2, kr3, kr4⟩ := HM.out.c5 3 rfl
  obtain ⟨fr0, fr1, fr2, fr3, fr4⟩ := HM.out.f5 3 rfl
  go_simp
  clear hS kr0 kr1 kr2 kr3 kr4 fr0 fr1 fr2 fr3 fr4
  have hm := HM.out.pk [3, 0, 1, 2, 4] (by decide) (by simp)
  simp only [low.pk, low.gz, low.gs] at hm
  replace HM := Lib.hid hm
  clear hm
  have hm := HM.out.putRow (ys := [.string x.name, .int .i64 x.from_, .slice Ant x.text.length cnt, .slice Anl x.list.length cnl, .slice Ans x.seen.length cns]) rfl
  simp only [low.putRow, Nat.zero_add, Nat.reduceAdd] at hm
  replace HM := Lib.hid hm
  clear hm
  obtain ⟨W17, hW, hm⟩ := HM.out.name
  rw [← hW]
  replace HM := Lib.hid hm
  clear hm hW
  refine hK.out _ _ (HM.out.pick (ks := [4]) (by decide) rfl) (fun hS => ?_)
  clear hK K
  try simp only [Act.put]
  refine wpAnyH_done (by kernel_rfl) ?_ _
  clear hS
  go_wp2
  obtain ⟨kr0, kr1, kr2, kr3, kr4⟩ := HM.out.c5 0 rfl
  have hm := HM.out.pk [1, 2, 3, 0, 4] (by decide) (by simp)
  simp only [low.pk, low.gz, low.gs] at hm
  replace HM := Lib.hid hm
  clear hm
  exact bodyPost_ret (v := .agg #[.string x.name, .int .i64 x.from_, .slice Ant x.text.length cnt, .slice Anl x.list.length cnl, .slice Ans x.seen.length cns]) (by simp [results, Tryz.results23, go_sem, kr0, kr1, kr2, kr3, kr4]) rfl (show Ms w (.dt (datDo x) (.agg #[.string x.name, .int .i64 x.from_, .slice Ant x.text.length cnt, .slice Anl x.list.length cnl, .slice Ans x.seen.length cns]) _ :: _) _ from (HM.out.pk0.pkO.pkO.pkO.pkF rfl).pkF rfl).post
 refine AllReadyH.cons (o := ⟨some 14, _, _, _, _, _⟩) rfl (fun K hK => ?_) AllReadyH.nil
 go_simp
 replace HM := Lib.hid (HM.out.empty 54 3)
 obtain ⟨W18, hW, hm⟩ := HM.out.name
 rw [← hW]
 replace HM := Lib.hid hm
 clear hm hW
 clear hS
 refine hK.out _ _ (HM.out.pick (ks := [2]) (by decide) rfl) (fun hS => ?_)
 clear hK K
 try simp only [Act.put, pa, pb, pc]
 refine r1 4 (some 7) rfl (fun K hK => ?_)
 go_simp
 replace HM := Lib.hid (HM.out.empty 3 1)
 obtain ⟨W19, hW, hm⟩ := HM.out.name
 rw [← hW]
 replace HM := Lib.hid hm
 clear hm hW
 clear hS
 refine hK.out _ _ (HM.out.pick (ks := [3]) (by decide) rfl) (fun hS => ?_)
 clear hK K
 try simp only [Act.put, pa, pb, pc]
 refine r1 7 (some 10) rfl (fun K hK => ?_)
 refine step_msAll (by rfl) (.tmp 7) (.tmp 9) 22 (by rfl) eltInt HM.out (by rfl) A2 x.text.length c2 (by rfl) (HM.out.arg R2.out) (flatI _) (by simp; omega) ?_
 intro Ant cnt W20 bnt hm
 simp only [List.nil_append, List.length_nil, Nat.zero_add] at hm ⊢
 replace HM := Lib.hid hm
 clear hm
 clear hS
 refine hK.out _ _ (HM.out.pick (ks := [3]) (by decide) rfl) (fun hS => ?_)
 clear hK K
 try simp only [Act.put, pa, pb, pc]
 refine r1 10 (some 13) rfl (fun K hK => ?_)
 go_simp
 refine (specEntriesC_d _ x.list _ (HM.out.arg R3.out) hs.list).mono ?_
 rintro e' W21 ⟨v', rfl, o', b'⟩
 obtain ⟨Anl, cnl, rfl⟩ := sliceEns o'.read
 obtain ⟨bl, hm⟩ := HM.out.got o' b'
 clear o' b'
 replace HM := Lib.hid hm
 clear hm
 clear hS
 refine hK.out _ _ (HM.out.pick (ks := [4]) (by decide) rfl) (fun hS => ?_)
 clear hK K
 try simp only [Act.put, pa, pb, pc]
 refine r1 14 (some 17) rfl (fun K hK => ?_)
 have hm := HM.out.pk [2, 0, 1, 3, 4] (by decide) (by simp)
 simp only [low.pk, low.gz, low.gs] at hm
 replace HM := Lib.hid hm
 clear hm
 refine step_msAll (by rfl) (.tmp 14) (.tmp 16) 31 (by rfl) eltSe HM.out (by rfl) A4 x.seen.length c4 (by rfl) (HM.out.arg R4.out) (flatSe _) (by simp; omega) ?_
 intro Ans cns W22 bns hm
 simp only [List.nil_append, List.length_nil, Nat.zero_add] at hm ⊢
 replace HM := Lib.hid hm
 clear hm
 clear hS
 refine hK.out _ _ (HM.out.pick (ks := [4]) (by decide) rfl) (fun hS => ?_)
 clear hK K
 try simp only [Act.put, pa, pb, pc]
 refine tk (v := ?_) 15 18 rfl (fun w' hS' => ?_) hS ?_
 rotate_left
 ·go_simp; all_goals (with_reducible rfl)
 try simp only [Act.put, pa, pb, pc]
 refine r1 16 none rfl (fun K hK => ?_)
 obtain ⟨kr0, kr1, kr2, kr3, kr4⟩ := HM.out.c5 3 rfl
 obtain ⟨fr0, fr1, fr2, fr3, fr4⟩ := HM.out.f5 3 rfl
 go_simp
 clear hS kr0 kr1 kr2 kr3 kr4 fr0 fr1 fr2 fr3 fr4
 have hm := HM.out.pk [3, 0, 1, 2, 4] (by decide) (by simp)
 simp only [low.pk, low.gz, low.gs] at hm
 replace HM := Lib.hid hm
 clear hm
 have hm := HM.out.putRow (ys := [.string x.name, .int .i64 x.from_, .slice Ant x.text.length cnt, .slice Anl x.list.length cnl, .slice Ans x.seen.length cns]) rfl
 simp only [low.putRow, Nat.zero_add, Nat.reduceAdd] at hm
 replace HM := Lib.hid hm
 clear hm
 obtain ⟨W23, hW, hm⟩ := HM.out.name
 rw [← hW]
 replace HM := Lib.hid hm
 clear hm hW
 refine hK.out _ _ (HM.out.pick (ks := [4]) (by decide) rfl) (fun hS => ?_)
 clear hK K
 try simp only [Act.put]
 refine wpAnyH_done (by kernel_rfl) ?_ _
 clear hS
 go_wp2
 obtain ⟨kr0, kr1, kr2, kr3, kr4⟩ := HM.out.c5 0 rfl
 have hm := HM.out.pk [1, 2, 3, 0, 4] (by decide) (by simp)
 simp only [low.pk, low.gz, low.gs] at hm
 replace HM := Lib.hid hm
 clear hm
 exact bodyPost_ret (v := .agg #[.string x.name, .int .i64 x.from_, .slice Ant x.text.length cnt, .slice Anl x.list.length cnl, .slice Ans x.seen.length cns]) (by simp [results, Tryz.results23, go_sem, kr0, kr1, kr2, kr3, kr4]) rfl (show Ms w (.dt (datDo x) (.agg #[.string x.name, .int .i64 x.from_, .slice Ant x.text.length cnt, .slice Anl x.list.length cnl, .slice Ans x.seen.length cns]) _ :: _) _ from (HM.out.pk0.pkO.pkO.pkO.pkF rfl).pkF rfl).post
def forgetB (x : Do) (n : Int) : Bool := docB x && !decide (n < 0)
def forgetT (x : Do) (n : Int) : Do := if forgetB x n = true then (if (x.list.length : Int) - n ≤ 0 then x else ⟨x.name, x.from_ + ((x.list.length : Int) - n), textAtT x (x.from_ + ((x.list.length : Int) - n)), x.list.drop ((x.list.length : Int) - n).toNat, x.seen⟩) else noDo
def capOf : Value → Nat
 | .agg a => match (a[3]? : Option Value) with | some (Value.slice _ _ c) => c | _ => 0
 | _ => 0
theorem rdEns_drop0 {w : World} {B c m : Nat} {A : Option Addr} {l : List En} (h : l.length - m = 0) : RdC w B (encEns (l.drop m)) (.slice A 0 c) := by
 rw [List.drop_eq_nil_of_le (by omega)]
 exact ⟨A, c, rfl, Nat.zero_le _, fun h => absurd h (by simp)⟩
theorem forget_f {x : Do} {n : Int} (h : forgetB x n = false) : forgetB x n = false ∧ forgetT x n = noDo := ⟨h, by unfold forgetT; rw [h]; rfl⟩
theorem Ms.noDo {w0 W : World} {L : List It} (h : Ms w0 L W) : Ms w0 (.dt (datDo noDo) (.agg #[.string ⟨#[]⟩, .int .i64 0, .slice none 0 0, .slice none 0 0, .slice none 0 0]) [] :: L) W := (((h.nil 3 1).nil 62 3).nil 54 3).pk0.pkO.pkO.pkO.pkF rfl |>.pkF rfl
def ResN (d : Dat) (n : Int) (w : World) (e : Ending) (w' : World) : Prop := ∃ v, e = .returned (.tuple #[v, .int .i64 n]) ∧ Own w.heap.size w'.heap.size w' d v ∧ Below w.heap.size w w'
def ResNN (d : Dat) (n m : Int) (w : World) (e : Ending) (w' : World) : Prop := ∃ v, e = .returned (.tuple #[v, .int .i64 n, .int .i64 m]) ∧ Own w.heap.size w'.heap.size w' d v ∧ Below w.heap.size w w'
structure RdB (lo hi : Nat) (w : World) (d : Dat) (v : Value) (b : List Nat) : Prop where
 rd : ∀ W' : World, (∀ q ∈ b, W'.heap[q]? = w.heap[q]?) → ∀ B, (∀ q ∈ b, q < B) → RdC W' B d v
 rng : ∀ q ∈ b, lo ≤ q ∧ q < hi
 top : hi ≤ w.heap.size
 le : lo ≤ hi
def RdOwn (lo hi : Nat) (w : World) (d : Dat) (v : Value) : Prop := ∃ b, RdB lo hi w d v b
theorem RdOwn.blocks {lo hi : Nat} {w : World} {d : Dat} {v : Value} (h : RdOwn lo hi w d v) : ∃ b, RdB lo hi w d v b := h
theorem RdB.read {lo hi : Nat} {w : World} {d : Dat} {v : Value} {b : List Nat} (h : RdB lo hi w d v b) : RdC w w.heap.size d v := h.rd w (fun _ _ => rfl) _ (fun q hq => Nat.lt_of_lt_of_le (h.rng q hq).2 h.top)
theorem RdOwn.read {lo hi : Nat} {w : World} {d : Dat} {v : Value} (h : RdOwn lo hi w d v) : RdC w w.heap.size d v := by obtain ⟨b, h⟩ := h; exact h.read
theorem RdB.keep {lo hi : Nat} {w w' : World} {d : Dat} {v : Value} {b : List Nat} (h : RdB lo hi w d v b) (hk : ∀ q ∈ b, w'.heap[q]? = w.heap[q]?) (hs : w.heap.size ≤ w'.heap.size) : RdB lo hi w' d v b :=
 ⟨fun W2 h2 => h.rd W2 (fun q hq => (h2 q hq).trans (hk q hq)), h.rng, Nat.le_trans h.top hs, h.le⟩
theorem RdB.past {lo hi : Nat} {w w' : World} {d : Dat} {v : Value} {b : List Nat} (h : RdB lo hi w d v b) (hb : Below w.heap.size w w') : RdB lo hi w' d v b := h.keep (fun q hq => hb.block q (Nat.lt_of_lt_of_le (h.rng q hq).2 h.top)) hb.size
theorem RdB.touch {lo hi : Nat} {w w' : World} {d : Dat} {v : Value} {b : List Nat} {T : Nat → Prop} (h : RdB lo hi w d v b) (ht : Touch T w w') (hn : ∀ x ∈ b, ¬ T x) : RdB lo hi w' d v b := h.keep (fun q hq => ht.block q (hn q hq)) (Nat.le_of_eq ht.size.symm)
theorem RdB.apart {lo hi lo' hi' : Nat} {w w' : World} {d d' : Dat} {v v' : Value} {b b' : List Nat} {w0 : World} (h : RdB lo hi w d v b) (h' : OwB lo' hi' w0 d' v' b') (ht : Touch (fun x => x ∈ b') w w') (hd : hi ≤ lo' ∨ hi' ≤ lo) : RdB lo hi w' d v b :=
 h.touch ht (fun x hx hx' => by have h1 := h.rng x hx; have h2 := h'.rng x hx'; omega)
def RdNN (d : Dat) (n m : Int) (w : World) (e : Ending) (w' : World) : Prop := ∃ v, e = .returned (.tuple #[v, .int .i64 n, .int .i64 m]) ∧ RdOwn w.heap.size w'.heap.size w' d v ∧ Below w.heap.size w w'
section
variable {w0 W W' : World} {L L' : List It} {x y : It}
theorem Ms.resN {d : Dat} {v : Value} {b : List Nat} (n : Int) (h : Ms w0 (.dt d v b :: L) W) : ResN d n w0 (.returned (.tuple #[v, .int .i64 n])) W := ⟨v, rfl, h.own (i := 0) rfl, h.bl⟩
theorem Ms.resNN {d : Dat} {v : Value} {b : List Nat} (n m : Int) (h : Ms w0 (.dt d v b :: L) W) : ResNN d n m w0 (.returned (.tuple #[v, .int .i64 n, .int .i64 m])) W := ⟨v, rfl, h.own (i := 0) rfl, h.bl⟩
theorem Ms.rdown {d : Dat} {v : Value} {b : List Nat} (h : Ms w0 (.rd d v b :: L) W) : RdOwn w0.heap.size W.heap.size W d v :=
 ⟨b, (h.at_ (i := 0) (x := .rd d v b) rfl).2, h.bsAt (i := 0) (x := .rd d v b) rfl, Nat.le_refl _, h.size⟩
theorem Ms.rdNN {d : Dat} {v : Value} {b : List Nat} (n m : Int) (h : Ms w0 (.rd d v b :: L) W) : RdNN d n m w0 (.returned (.tuple #[v, .int .i64 n, .int .i64 m])) W := ⟨v, rfl, h.rdown, h.bl⟩
theorem Ms.say {d d' : Dat} {v v' : Value} {b : List Nat} (h : Ms w0 (.rd d v b :: L) W) (hf : ∀ (W : World) (B : Nat), RdC W B d v → RdC W B d' v') : Ms w0 (.rd d' v' b :: L) W :=
 h.turn (Nat.le_refl _) (fun _ _ _ => rfl) h.bl ⟨(h.at_ (i := 0) (x := .rd d v b) rfl).1, fun W2 h2 B hB => hf _ _ ((h.at_ (i := 0) (x := .rd d v b) rfl).2 W2 h2 B hB)⟩ (show b.Nodup from h.ndAt (i := 0) (x := .rd d v b) rfl) (fun q hq => .inl hq)
theorem Ms.rk0 (h : Ms w0 L W) : Ms w0 (.rd (.agg []) (.agg #[]) [] :: L) W := h.cons (Below.refl _ _) ⟨fun q hq => by simp at hq, fun W' _ B _ => ⟨[], rfl, rfl⟩⟩ (by simp [It.bs]) (fun q hq => by simp [It.bs] at hq)
theorem rdagg {W : World} {B : Nat} {ds : List Dat} {vs : List Value} (h : RdC W B (.agg ds) (.agg vs.toArray)) : RdV W B ds vs := by
 obtain ⟨xs, hx, h⟩ := h
 have e := agg_inj hx
 subst e
 exact h
theorem Ms.rkF {ds : List Dat} {vs : List Value} {b : List Nat} {d : Dat} {u : Value} (h : Ms w0 (.rd (.agg ds) (.agg vs.toArray) b :: L) W) (hf : ∀ (W : World) (B : Nat), RdC W B d u) : Ms w0 (.rd (.agg (d :: ds)) (.agg (u :: vs).toArray) b :: L) W :=
 h.say (fun W B hr => ⟨u :: vs, rfl, u, vs, rfl, hf W B, rdagg hr⟩)
theorem Ms.rkO {ds : List Dat} {vs : List Value} {b c : List Nat} {d : Dat} {v : Value} (h : Ms w0 (.rd (.agg ds) (.agg vs.toArray) b :: .rd d v c :: L) W) : Ms w0 (.rd (.agg (d :: ds)) (.agg (v :: vs).toArray) (c ++ b) :: L) W := by
 have hnd := h.nd
 have hrg := h.rg
 rw [List.flatMap_cons, List.flatMap_cons, ← List.append_assoc] at hnd hrg
 have h1 := h.at_ (i := 0) (x := .rd (.agg ds) (.agg vs.toArray) b) rfl
 have h2 := h.at_ (i := 1) (x := .rd d v c) rfl
 have e : ∀ q, q ∈ c ++ b ↔ q ∈ b ++ c := fun q => by simp only [List.mem_append]; exact Or.comm
 refine ⟨fun z hz => ?_, ?_, fun q hq => ?_, h.bl⟩
 ·rcases List.mem_cons.1 hz with rfl | hz
  ·refine ⟨fun q hq => ?_, fun W2 k B hB => ⟨v :: vs, rfl, v, vs, rfl, h2.2 W2 (fun q hq => k q (List.mem_append_left _ hq)) B (fun q hq => hB q (List.mem_append_left _ hq)), rdagg (h1.2 W2 (fun q hq => k q (List.mem_append_right _ hq)) B (fun q hq => hB q (List.mem_append_right _ hq)))⟩⟩
   rcases List.mem_append.1 hq with hq | hq
   ·exact h2.1 q hq
   ·exact h1.1 q hq
  ·exact h.ok z (by simp [hz])
 ·rw [List.flatMap_cons]
  exact ((List.perm_append_comm (l₁ := b) (l₂ := c)).append_right _).nodup_iff.1 hnd
 ·refine hrg q ?_
  rw [List.flatMap_cons] at hq
  rcases List.mem_append.1 hq with hq | hq
  ·exact List.mem_append_left _ ((e q).1 hq)
  ·exact List.mem_append_right _ hq
end
noncomputable def trBody : Code := (((Tryz.f102.body.map loopsOf).getD []).headD .skip)
def TrR (K : Fx) (g1 g2 : Nat) (w0 w' : World) : Prop := ∃ O P L M RX RY, TT K g1 g2 164 O P L M w' none none RX RY ∧ XInv K.a K.b RX RY L M ∧ Below K.lo w0 w'
theorem TrR.mk {K : Fx} {g1 g2 : Nat} {w0 w' : World} {O P : Nat → Prop} {L M : List Pt} {RX RY : List U} (h : TT K g1 g2 164 O P L M w' none none RX RY) (hi : XInv K.a K.b RX RY L M) (D : Below K.lo w0 w') : TrR K g1 g2 w0 w' := ⟨O, P, L, M, RX, RY, h, hi, D⟩
def TrI (K : Fx) (g1 g2 : Nat) (w0 : World) (c0 c1 c2 c3 c4 c5 c6 c16 c17 c18 c19 c20 c21 c22 c23 c24 c25 c26 c27 c28 c29 c30 c31 c32 c33 c34 c35 c36 c37 c38 c39 c40 c41 c42 c127 c128 c129 c130 c131 c132 c133 c134 c135 c136 c137 c138 c139 c140 : Value) (a : Act) (w' : World) : Prop := ∃ u11 u12 u13 u14 u15 u43 u44 u45 u46 u47 u48 u49 u50 u51 u52 u53 u54 u55 u56 u57 u58 u59 u60 u61 u62 u63 u64 u65 u66 u67 u68 u69 u70 u71 u72 u73 u74 u75 u76 u77 u78 u79 u80 u81 u82 u83 u84 u85 u86 u87 u88 u89 u90 u91 u92 u93 u94 u95 u96 u97 u98 u99 u100 u101 u102 u103 u104 u105 u106 u107 u108 u109 u110 u111 u112 u113 u114 u115 u116 u117 u118 u119 u120 u121 u122 u123 u124 u125 u126 : Value, TrR K g1 g2 w0 w' ∧ a = ⟨#[c0, c1, c2, c3, c4, c5, c6, .pointer (some ⟨K.gx, 0, none⟩), .pointer (some ⟨K.gy, 0, none⟩), .pointer (some ⟨g1, 0, none⟩), .pointer (some ⟨g2, 0, none⟩), u11, u12, u13, u14, u15, c16, c17, c18, c19, c20, c21, c22, c23, c24, c25, c26, c27, c28, c29, c30, c31, c32, c33, c34, c35, c36, c37, c38, c39, c40, c41, c42, u43, u44, u45, u46, u47, u48, u49, u50, u51, u52, u53, u54, u55, u56, u57, u58, u59, u60, u61, u62, u63, u64, u65, u66, u67, u68, u69, u70, u71, u72, u73, u74, u75, u76, u77, u78, u79, u80, u81, u82, u83, u84, u85, u86, u87, u88, u89, u90, u91, u92, u93, u94, u95, u96, u97, u98, u99, u100, u101, u102, u103, u104, u105, u106, u107, u108, u109, u110, u111, u112, u113, u114, u115, u116, u117, u118, u119, u120, u121, u122, u123, u124, u125, u126, c127, c128, c129, c130, c131, c132, c133, c134, c135, c136, c137, c138, c139, c140], []⟩
def TrX (K : Fx) (g1 g2 : Nat) (w0 w' : World) : Prop := ∃ O P L M, TT K g1 g2 164 O P L M w' none none [] [] ∧ XInv K.a K.b [] [] L M ∧ Below K.lo w0 w'
def TrE (K : Fx) (g1 g2 : Nat) (w0 : World) (c0 c1 c2 c3 c4 c5 c6 c16 c17 c18 c19 c20 c21 c22 c23 c24 c25 c26 c27 c28 c29 c30 c31 c32 c33 c34 c35 c36 c37 c38 c39 c40 c41 c42 c127 c128 c129 c130 c131 c132 c133 c134 c135 c136 c137 c138 c139 c140 : Value) (a : Act) (w' : World) : Prop := ∃ u11 u12 u13 u14 u15 u43 u44 u45 u46 u47 u48 u49 u50 u51 u52 u53 u54 u55 u56 u57 u58 u59 u60 u61 u62 u63 u64 u65 u66 u67 u68 u69 u70 u71 u72 u73 u74 u75 u76 u77 u78 u79 u80 u81 u82 u83 u84 u85 u86 u87 u88 u89 u90 u91 u92 u93 u94 u95 u96 u97 u98 u99 u100 u101 u102 u103 u104 u105 u106 u107 u108 u109 u110 u111 u112 u113 u114 u115 u116 u117 u118 u119 u120 u121 u122 u123 u124 u125 u126 : Value, TrX K g1 g2 w0 w' ∧ a = ⟨#[c0, c1, c2, c3, c4, c5, c6, .pointer (some ⟨K.gx, 0, none⟩), .pointer (some ⟨K.gy, 0, none⟩), .pointer (some ⟨g1, 0, none⟩), .pointer (some ⟨g2, 0, none⟩), u11, u12, u13, u14, u15, c16, c17, c18, c19, c20, c21, c22, c23, c24, c25, c26, c27, c28, c29, c30, c31, c32, c33, c34, c35, c36, c37, c38, c39, c40, c41, c42, u43, u44, u45, u46, u47, u48, u49, u50, u51, u52, u53, u54, u55, u56, u57, u58, u59, u60, u61, u62, u63, u64, u65, u66, u67, u68, u69, u70, u71, u72, u73, u74, u75, u76, u77, u78, u79, u80, u81, u82, u83, u84, u85, u86, u87, u88, u89, u90, u91, u92, u93, u94, u95, u96, u97, u98, u99, u100, u101, u102, u103, u104, u105, u106, u107, u108, u109, u110, u111, u112, u113, u114, u115, u116, u117, u118, u119, u120, u121, u122, u123, u124, u125, u126, c127, c128, c129, c130, c131, c132, c133, c134, c135, c136, c137, c138, c139, c140], []⟩
theorem trE (K : Fx) (hT : K.TC = 170) (g1 g2 : Nat) (w0 wr : World) (c0 c1 c2 c3 c4 c5 c6 c16 c17 c18 c19 c20 c21 c22 c23 c24 c25 c26 c27 c28 c29 c30 c31 c32 c33 c34 c35 c36 c37 c38 c39 c40 c41 c42 c127 c128 c129 c130 c131 c132 c133 c134 c135 c136 c137 c138 c139 c140 u11 u12 u13 u14 u15 u43 u44 u45 u46 u47 u48 u49 u50 u51 u52 u53 u54 u55 u56 u57 u58 u59 u60 u61 u62 u63 u64 u65 u66 u67 u68 u69 u70 u71 u72 u73 u74 u75 u76 u77 u78 u79 u80 u81 u82 u83 u84 u85 u86 u87 u88 u89 u90 u91 u92 u93 u94 u95 u96 u97 u98 u99 u100 u101 u102 u103 u104 u105 u106 u107 u108 u109 u110 u111 u112 u113 u114 u115 u116 u117 u118 u119 u120 u121 u122 u123 u124 u125 u126 : Value) (Q0 : Exit → Act → World → Prop) (O P : Nat → Prop) (L M : List Pt) (RX RY : List U) (hs : TT K g1 g2 164 O P L M wr none none RX RY) (hi : XInv K.a K.b RX RY L M) (D : Below K.lo w0 wr) (hx : RX = []) (hy : RY = []) (hexit : ∀ a w, TrE K g1 g2 w0 c0 c1 c2 c3 c4 c5 c6 c16 c17 c18 c19 c20 c21 c22 c23 c24 c25 c26 c27 c28 c29 c30 c31 c32 c33 c34 c35 c36 c37 c38 c39 c40 c41 c42 c127 c128 c129 c130 c131 c132 c133 c134 c135 c136 c137 c138 c139 c140 a w → Q0 (.exit 0) a w) :
  Code.wp Tryz.prog trBody (Exit.then (fun a' w'' => TrI K g1 g2 w0 c0 c1 c2 c3 c4 c5 c6 c16 c17 c18 c19 c20 c21 c22 c23 c24 c25 c26 c27 c28 c29 c30 c31 c32 c33 c34 c35 c36 c37 c38 c39 c40 c41 c42 c127 c128 c129 c130 c131 c132 c133 c134 c135 c136 c137 c138 c139 c140 a' w'' ∧ muC K w'' < muC K wr) Q0) ⟨#[c0, c1, c2, c3, c4, c5, c6, .pointer (some ⟨K.gx, 0, none⟩), .pointer (some ⟨K.gy, 0, none⟩), .pointer (some ⟨g1, 0, none⟩), .pointer (some ⟨g2, 0, none⟩), u11, u12, u13, u14, u15, c16, c17, c18, c19, c20, c21, c22, c23, c24, c25, c26, c27, c28, c29, c30, c31, c32, c33, c34, c35, c36, c37, c38, c39, c40, c41, c42, u43, u44, u45, u46, u47, u48, u49, u50, u51, u52, u53, u54, u55, u56, u57, u58, u59, u60, u61, u62, u63, u64, u65, u66, u67, u68, u69, u70, u71, u72, u73, u74, u75, u76, u77, u78, u79, u80, u81, u82, u83, u84, u85, u86, u87, u88, u89, u90, u91, u92, u93, u94, u95, u96, u97, u98, u99, u100, u101, u102, u103, u104, u105, u106, u107, u108, u109, u110, u111, u112, u113, u114, u115, u116, u117, u118, u119, u120, u121, u122, u123, u124, u125, u126, c127, c128, c129, c130, c131, c132, c133, c134, c135, c136, c137, c138, c139, c140], []⟩ wr := by
 have HMU := Lib.hid hs.cs.mu
 have hLb : L.length < 100000 := by have := hi.len; omega
 have hMb : M.length < 100000 := by have := hi.len; omega
 have HS := Lib.hid hs
 have HI := Lib.hid hi
 clear hs hi
 conv => arg 2; whnf
 subst hx
 subst hy
 have hk0 : kindOf [] = 0 := rfl
 go_wp2_with fail
 refine (HS.out.kindx hT).mono ?_
 rintro e w1 ⟨rfl, m1, q1, h1, b1⟩
 simp only at h1
 replace HS := Lib.hid h1
 replace D := D.trans b1
 clear h1 b1
 clear q1
 rw [hk0]
 have hmx := HS.out.cs.lead
 go_wp2_with fail
 refine (HS.out.kindy hT).mono ?_
 rintro e w2 ⟨rfl, m2, q2, h2, b2⟩
 simp only at h2
 replace HS := Lib.hid h2
 replace D := D.trans b2
 clear h2 b2
 clear q2
 rw [hk0]
 have hmy := HS.out.cs.swap.lead
 clear hmx hmy
 go_wp2
 have HR : TrX K g1 g2 w0 _ := ⟨_, _, _, _, HS.out.weak, HI.out, D⟩
 unfold TrE
 iterate 89 apply Exists.intro
 exact ⟨HR, rfl⟩
theorem trA (K : Fx) (hT : K.TC = 170) (g1 g2 : Nat) (w0 wr : World) (c0 c1 c2 c3 c4 c5 c6 c16 c17 c18 c19 c20 c21 c22 c23 c24 c25 c26 c27 c28 c29 c30 c31 c32 c33 c34 c35 c36 c37 c38 c39 c40 c41 c42 c127 c128 c129 c130 c131 c132 c133 c134 c135 c136 c137 c138 c139 c140 u11 u12 u13 u14 u15 u43 u44 u45 u46 u47 u48 u49 u50 u51 u52 u53 u54 u55 u56 u57 u58 u59 u60 u61 u62 u63 u64 u65 u66 u67 u68 u69 u70 u71 u72 u73 u74 u75 u76 u77 u78 u79 u80 u81 u82 u83 u84 u85 u86 u87 u88 u89 u90 u91 u92 u93 u94 u95 u96 u97 u98 u99 u100 u101 u102 u103 u104 u105 u106 u107 u108 u109 u110 u111 u112 u113 u114 u115 u116 u117 u118 u119 u120 u121 u122 u123 u124 u125 u126 : Value) (Q0 : Exit → Act → World → Prop) (O P : Nat → Prop) (L M : List Pt) (RX RY : List U) (hs : TT K g1 g2 164 O P L M wr none none RX RY) (hi : XInv K.a K.b RX RY L M) (D : Below K.lo w0 wr) (hkx : kindOf RX = 2) :
  Code.wp Tryz.prog trBody (Exit.then (fun a' w'' => TrI K g1 g2 w0 c0 c1 c2 c3 c4 c5 c6 c16 c17 c18 c19 c20 c21 c22 c23 c24 c25 c26 c27 c28 c29 c30 c31 c32 c33 c34 c35 c36 c37 c38 c39 c40 c41 c42 c127 c128 c129 c130 c131 c132 c133 c134 c135 c136 c137 c138 c139 c140 a' w'' ∧ muC K w'' < muC K wr) Q0) ⟨#[c0, c1, c2, c3, c4, c5, c6, .pointer (some ⟨K.gx, 0, none⟩), .pointer (some ⟨K.gy, 0, none⟩), .pointer (some ⟨g1, 0, none⟩), .pointer (some ⟨g2, 0, none⟩), u11, u12, u13, u14, u15, c16, c17, c18, c19, c20, c21, c22, c23, c24, c25, c26, c27, c28, c29, c30, c31, c32, c33, c34, c35, c36, c37, c38, c39, c40, c41, c42, u43, u44, u45, u46, u47, u48, u49, u50, u51, u52, u53, u54, u55, u56, u57, u58, u59, u60, u61, u62, u63, u64, u65, u66, u67, u68, u69, u70, u71, u72, u73, u74, u75, u76, u77, u78, u79, u80, u81, u82, u83, u84, u85, u86, u87, u88, u89, u90, u91, u92, u93, u94, u95, u96, u97, u98, u99, u100, u101, u102, u103, u104, u105, u106, u107, u108, u109, u110, u111, u112, u113, u114, u115, u116, u117, u118, u119, u120, u121, u122, u123, u124, u125, u126, c127, c128, c129, c130, c131, c132, c133, c134, c135, c136, c137, c138, c139, c140], []⟩ wr := by
 have HMU := Lib.hid hs.cs.mu
 have hLb : L.length < 100000 := by have := hi.len; omega
 have hMb : M.length < 100000 := by have := hi.len; omega
 have HS := Lib.hid hs
 have HI := Lib.hid hi
 clear hs hi
 conv => arg 2; whnf
 go_wp2_with fail
 refine (HS.out.kindx hT).mono ?_
 rintro e w1 ⟨rfl, m1, q1, h1, b1⟩
 simp only at h1
 replace HS := Lib.hid h1
 replace D := D.trans b1
 clear h1 b1
 clear q1
 rw [hkx]
 have hmx := HS.out.cs.lead
 go_wp2_with fail
 refine (HS.out.kindx hT).mono ?_
 rintro e w2 ⟨rfl, m2, q2, h2, b2⟩
 rw [q2 _ rfl] at h2
 simp only at h2
 replace HS := Lib.hid h2
 replace D := D.trans b2
 clear h2 b2
 clear q2 m2
 rw [hkx]
 have hpx := hmx.pos (by rw [hkx]; decide)
 have HMx := Lib.hid hmx
 clear hmx
 go_wp2_with fail
 refine (HS.out.leftx hT (by rw [hkx]; decide)).mono ?_
 rintro e w3 ⟨rfl, h3, b3⟩
 replace HS := Lib.hid h3
 replace D := D.trans b3
 clear h3 b3
 go_wp2_with fail
 refine (HS.out.takex hT hkx (Nat.le_refl _ : m1 ≤ m1) hpx.1).mono ?_
 rintro e w4 ⟨A4, c4, z4, rfl, hl4, hz4, row4, h4, b4⟩
 have HZ4 := Lib.hid hz4
 have HL4 := Lib.hid hl4
 have HR4 := Lib.hid row4
 clear hz4 hl4 row4
 replace HS := Lib.hid h4
 replace D := D.trans b4
 clear h4 b4
 go_wp2_with fail
 refine (HS.out.put1 HR4.out HL4.out (by omega) hLb).mono ?_
 rintro e w5 ⟨rfl, O5, h5, b5⟩
 replace HS := Lib.hid h5
 replace D := D.trans b5
 clear h5 b5
 go_wp2_with fail
 refine (HS.out.keep2 (n := (m1 : Int)) (by omega) (by omega) hMb).mono ?_
 rintro e w6 ⟨rfl, O6, h6, b6⟩
 replace HS := Lib.hid h6
 replace D := D.trans b6
 clear h6 b6
 go_wp2
 have hz := HZ4.out
 have hl := HL4.out
 have HR := TrR.mk HS.out.weak (show XInv K.a K.b (RX.drop m1) RY _ (M ++ [⟨1, (m1 : Int), []⟩]) by rw [← hl] at hz ⊢; exact (by rw [← hz]; exact HI.out : XInv K.a K.b (z4.map .p ++ RX.drop z4.length) RY L M).px (by omega)) D
 refine ⟨?_, ?_⟩
 ·unfold TrI
  iterate 89 apply Exists.intro
  exact ⟨HR, rfl⟩
 rw [HS.out.weak.cs.mu, HMU.out]
 rw [List.length_drop]
 omega
theorem trB0 (K : Fx) (hT : K.TC = 170) (g1 g2 : Nat) (w0 wr : World) (c0 c1 c2 c3 c4 c5 c6 c16 c17 c18 c19 c20 c21 c22 c23 c24 c25 c26 c27 c28 c29 c30 c31 c32 c33 c34 c35 c36 c37 c38 c39 c40 c41 c42 c127 c128 c129 c130 c131 c132 c133 c134 c135 c136 c137 c138 c139 c140 u11 u12 u13 u14 u15 u43 u44 u45 u46 u47 u48 u49 u50 u51 u52 u53 u54 u55 u56 u57 u58 u59 u60 u61 u62 u63 u64 u65 u66 u67 u68 u69 u70 u71 u72 u73 u74 u75 u76 u77 u78 u79 u80 u81 u82 u83 u84 u85 u86 u87 u88 u89 u90 u91 u92 u93 u94 u95 u96 u97 u98 u99 u100 u101 u102 u103 u104 u105 u106 u107 u108 u109 u110 u111 u112 u113 u114 u115 u116 u117 u118 u119 u120 u121 u122 u123 u124 u125 u126 : Value) (Q0 : Exit → Act → World → Prop) (O P : Nat → Prop) (L M : List Pt) (RX RY : List U) (hs : TT K g1 g2 164 O P L M wr none none RX RY) (hi : XInv K.a K.b RX RY L M) (D : Below K.lo w0 wr) (hnp : noP RX) (hkx : kindOf RX = 0) (hky : kindOf RY = 2) :
  Code.wp Tryz.prog trBody (Exit.then (fun a' w'' => TrI K g1 g2 w0 c0 c1 c2 c3 c4 c5 c6 c16 c17 c18 c19 c20 c21 c22 c23 c24 c25 c26 c27 c28 c29 c30 c31 c32 c33 c34 c35 c36 c37 c38 c39 c40 c41 c42 c127 c128 c129 c130 c131 c132 c133 c134 c135 c136 c137 c138 c139 c140 a' w'' ∧ muC K w'' < muC K wr) Q0) ⟨#[c0, c1, c2, c3, c4, c5, c6, .pointer (some ⟨K.gx, 0, none⟩), .pointer (some ⟨K.gy, 0, none⟩), .pointer (some ⟨g1, 0, none⟩), .pointer (some ⟨g2, 0, none⟩), u11, u12, u13, u14, u15, c16, c17, c18, c19, c20, c21, c22, c23, c24, c25, c26, c27, c28, c29, c30, c31, c32, c33, c34, c35, c36, c37, c38, c39, c40, c41, c42, u43, u44, u45, u46, u47, u48, u49, u50, u51, u52, u53, u54, u55, u56, u57, u58, u59, u60, u61, u62, u63, u64, u65, u66, u67, u68, u69, u70, u71, u72, u73, u74, u75, u76, u77, u78, u79, u80, u81, u82, u83, u84, u85, u86, u87, u88, u89, u90, u91, u92, u93, u94, u95, u96, u97, u98, u99, u100, u101, u102, u103, u104, u105, u106, u107, u108, u109, u110, u111, u112, u113, u114, u115, u116, u117, u118, u119, u120, u121, u122, u123, u124, u125, u126, c127, c128, c129, c130, c131, c132, c133, c134, c135, c136, c137, c138, c139, c140], []⟩ wr := by
 have HMU := Lib.hid hs.cs.mu
 have hLb : L.length < 100000 := by have := hi.len; omega
 have hMb : M.length < 100000 := by have := hi.len; omega
 have HS := Lib.hid hs
 have HI := Lib.hid hi
 clear hs hi
 conv => arg 2; whnf
 go_wp2_with fail
 refine (HS.out.kindx hT).mono ?_
 rintro e w1 ⟨rfl, m1, q1, h1, b1⟩
 simp only at h1
 replace HS := Lib.hid h1
 replace D := D.trans b1
 clear h1 b1
 clear q1
 rw [hkx]
 have hmx := HS.out.cs.lead
 go_wp2_with fail
 refine (HS.out.kindy hT).mono ?_
 rintro e w2 ⟨rfl, m2, q2, h2, b2⟩
 simp only at h2
 replace HS := Lib.hid h2
 replace D := D.trans b2
 clear h2 b2
 clear q2
 rw [hky]
 have hmy := HS.out.cs.swap.lead
 go_wp2_with fail
 refine (HS.out.kindx hT).mono ?_
 rintro e w3 ⟨rfl, m3, q3, h3, b3⟩
 rw [q3 _ rfl] at h3
 simp only at h3
 replace HS := Lib.hid h3
 replace D := D.trans b3
 clear h3 b3
 clear q3 m3
 rw [hkx]
 go_wp2_with fail
 refine (HS.out.kindy hT).mono ?_
 rintro e w4 ⟨rfl, m4, q4, h4, b4⟩
 rw [q4 _ rfl] at h4
 simp only at h4
 replace HS := Lib.hid h4
 replace D := D.trans b4
 clear h4 b4
 clear q4 m4
 rw [hky]
 have hpy := hmy.pos (by rw [hky]; decide)
 have HMy := Lib.hid hmy
 clear hmy
 clear hmx
 go_wp2_with fail
 refine (HS.out.lefty hT (by rw [hky]; decide)).mono ?_
 rintro e w5 ⟨rfl, h5, b5⟩
 replace HS := Lib.hid h5
 replace D := D.trans b5
 clear h5 b5
 go_wp2_with fail
 refine (HS.out.takey hT hky (Nat.le_refl _ : m2 ≤ m2) hpy.1).mono ?_
 rintro e w6 ⟨A6, c6, z6, rfl, hl6, hz6, row6, h6, b6⟩
 have HZ6 := Lib.hid hz6
 have HL6 := Lib.hid hl6
 have HR6 := Lib.hid row6
 clear hz6 hl6 row6
 replace HS := Lib.hid h6
 replace D := D.trans b6
 clear h6 b6
 go_wp2_with fail
 refine (HS.out.put2 HR6.out HL6.out (by omega) hMb).mono ?_
 rintro e w7 ⟨rfl, O7, h7, b7⟩
 replace HS := Lib.hid h7
 replace D := D.trans b7
 clear h7 b7
 go_wp2_with fail
 refine (HS.out.keep1 (n := (m2 : Int)) (by omega) (by omega) hLb).mono ?_
 rintro e w8 ⟨rfl, O8, h8, b8⟩
 replace HS := Lib.hid h8
 replace D := D.trans b8
 clear h8 b8
 go_wp2
 have hz := HZ6.out
 have hl := HL6.out
 have HR := TrR.mk HS.out.weak (show XInv K.a K.b RX (RY.drop m2) (L ++ [⟨1, (m2 : Int), []⟩]) _ by rw [← hl] at hz ⊢; exact (by rw [← hz]; exact HI.out : XInv K.a K.b RX (z6.map .p ++ RY.drop z6.length) L M).py hnp (by omega)) D
 refine ⟨?_, ?_⟩
 ·unfold TrI
  iterate 89 apply Exists.intro
  exact ⟨HR, rfl⟩
 rw [HS.out.weak.cs.mu, HMU.out]
 rw [List.length_drop]
 omega
theorem trB1 (K : Fx) (hT : K.TC = 170) (g1 g2 : Nat) (w0 wr : World) (c0 c1 c2 c3 c4 c5 c6 c16 c17 c18 c19 c20 c21 c22 c23 c24 c25 c26 c27 c28 c29 c30 c31 c32 c33 c34 c35 c36 c37 c38 c39 c40 c41 c42 c127 c128 c129 c130 c131 c132 c133 c134 c135 c136 c137 c138 c139 c140 u11 u12 u13 u14 u15 u43 u44 u45 u46 u47 u48 u49 u50 u51 u52 u53 u54 u55 u56 u57 u58 u59 u60 u61 u62 u63 u64 u65 u66 u67 u68 u69 u70 u71 u72 u73 u74 u75 u76 u77 u78 u79 u80 u81 u82 u83 u84 u85 u86 u87 u88 u89 u90 u91 u92 u93 u94 u95 u96 u97 u98 u99 u100 u101 u102 u103 u104 u105 u106 u107 u108 u109 u110 u111 u112 u113 u114 u115 u116 u117 u118 u119 u120 u121 u122 u123 u124 u125 u126 : Value) (Q0 : Exit → Act → World → Prop) (O P : Nat → Prop) (L M : List Pt) (RX RY : List U) (hs : TT K g1 g2 164 O P L M wr none none RX RY) (hi : XInv K.a K.b RX RY L M) (D : Below K.lo w0 wr) (hnp : noP RX) (hkx : kindOf RX = 1) (hky : kindOf RY = 2) :
  Code.wp Tryz.prog trBody (Exit.then (fun a' w'' => TrI K g1 g2 w0 c0 c1 c2 c3 c4 c5 c6 c16 c17 c18 c19 c20 c21 c22 c23 c24 c25 c26 c27 c28 c29 c30 c31 c32 c33 c34 c35 c36 c37 c38 c39 c40 c41 c42 c127 c128 c129 c130 c131 c132 c133 c134 c135 c136 c137 c138 c139 c140 a' w'' ∧ muC K w'' < muC K wr) Q0) ⟨#[c0, c1, c2, c3, c4, c5, c6, .pointer (some ⟨K.gx, 0, none⟩), .pointer (some ⟨K.gy, 0, none⟩), .pointer (some ⟨g1, 0, none⟩), .pointer (some ⟨g2, 0, none⟩), u11, u12, u13, u14, u15, c16, c17, c18, c19, c20, c21, c22, c23, c24, c25, c26, c27, c28, c29, c30, c31, c32, c33, c34, c35, c36, c37, c38, c39, c40, c41, c42, u43, u44, u45, u46, u47, u48, u49, u50, u51, u52, u53, u54, u55, u56, u57, u58, u59, u60, u61, u62, u63, u64, u65, u66, u67, u68, u69, u70, u71, u72, u73, u74, u75, u76, u77, u78, u79, u80, u81, u82, u83, u84, u85, u86, u87, u88, u89, u90, u91, u92, u93, u94, u95, u96, u97, u98, u99, u100, u101, u102, u103, u104, u105, u106, u107, u108, u109, u110, u111, u112, u113, u114, u115, u116, u117, u118, u119, u120, u121, u122, u123, u124, u125, u126, c127, c128, c129, c130, c131, c132, c133, c134, c135, c136, c137, c138, c139, c140], []⟩ wr := by
 have HMU := Lib.hid hs.cs.mu
 have hLb : L.length < 100000 := by have := hi.len; omega
 have hMb : M.length < 100000 := by have := hi.len; omega
 have HS := Lib.hid hs
 have HI := Lib.hid hi
 clear hs hi
 conv => arg 2; whnf
 go_wp2_with fail
 refine (HS.out.kindx hT).mono ?_
 rintro e w1 ⟨rfl, m1, q1, h1, b1⟩
 simp only at h1
 replace HS := Lib.hid h1
 replace D := D.trans b1
 clear h1 b1
 clear q1
 rw [hkx]
 have hmx := HS.out.cs.lead
 go_wp2_with fail
 refine (HS.out.kindx hT).mono ?_
 rintro e w2 ⟨rfl, m2, q2, h2, b2⟩
 rw [q2 _ rfl] at h2
 simp only at h2
 replace HS := Lib.hid h2
 replace D := D.trans b2
 clear h2 b2
 clear q2 m2
 rw [hkx]
 go_wp2_with fail
 refine (HS.out.kindy hT).mono ?_
 rintro e w3 ⟨rfl, m3, q3, h3, b3⟩
 simp only at h3
 replace HS := Lib.hid h3
 replace D := D.trans b3
 clear h3 b3
 clear q3
 rw [hky]
 have hmy := HS.out.cs.swap.lead
 have hpy := hmy.pos (by rw [hky]; decide)
 have HMy := Lib.hid hmy
 clear hmy
 clear hmx
 go_wp2_with fail
 refine (HS.out.lefty hT (by rw [hky]; decide)).mono ?_
 rintro e w4 ⟨rfl, h4, b4⟩
 replace HS := Lib.hid h4
 replace D := D.trans b4
 clear h4 b4
 go_wp2_with fail
 refine (HS.out.takey hT hky (Nat.le_refl _ : m3 ≤ m3) hpy.1).mono ?_
 rintro e w5 ⟨A5, c5, z5, rfl, hl5, hz5, row5, h5, b5⟩
 have HZ5 := Lib.hid hz5
 have HL5 := Lib.hid hl5
 have HR5 := Lib.hid row5
 clear hz5 hl5 row5
 replace HS := Lib.hid h5
 replace D := D.trans b5
 clear h5 b5
 go_wp2_with fail
 refine (HS.out.put2 HR5.out HL5.out (by omega) hMb).mono ?_
 rintro e w6 ⟨rfl, O6, h6, b6⟩
 replace HS := Lib.hid h6
 replace D := D.trans b6
 clear h6 b6
 go_wp2_with fail
 refine (HS.out.keep1 (n := (m3 : Int)) (by omega) (by omega) hLb).mono ?_
 rintro e w7 ⟨rfl, O7, h7, b7⟩
 replace HS := Lib.hid h7
 replace D := D.trans b7
 clear h7 b7
 go_wp2
 have hz := HZ5.out
 have hl := HL5.out
 have HR := TrR.mk HS.out.weak (show XInv K.a K.b RX (RY.drop m3) (L ++ [⟨1, (m3 : Int), []⟩]) _ by rw [← hl] at hz ⊢; exact (by rw [← hz]; exact HI.out : XInv K.a K.b RX (z5.map .p ++ RY.drop z5.length) L M).py hnp (by omega)) D
 refine ⟨?_, ?_⟩
 ·unfold TrI
  iterate 89 apply Exists.intro
  exact ⟨HR, rfl⟩
 rw [HS.out.weak.cs.mu, HMU.out]
 rw [List.length_drop]
 omega
theorem trB3 (K : Fx) (hT : K.TC = 170) (g1 g2 : Nat) (w0 wr : World) (c0 c1 c2 c3 c4 c5 c6 c16 c17 c18 c19 c20 c21 c22 c23 c24 c25 c26 c27 c28 c29 c30 c31 c32 c33 c34 c35 c36 c37 c38 c39 c40 c41 c42 c127 c128 c129 c130 c131 c132 c133 c134 c135 c136 c137 c138 c139 c140 u11 u12 u13 u14 u15 u43 u44 u45 u46 u47 u48 u49 u50 u51 u52 u53 u54 u55 u56 u57 u58 u59 u60 u61 u62 u63 u64 u65 u66 u67 u68 u69 u70 u71 u72 u73 u74 u75 u76 u77 u78 u79 u80 u81 u82 u83 u84 u85 u86 u87 u88 u89 u90 u91 u92 u93 u94 u95 u96 u97 u98 u99 u100 u101 u102 u103 u104 u105 u106 u107 u108 u109 u110 u111 u112 u113 u114 u115 u116 u117 u118 u119 u120 u121 u122 u123 u124 u125 u126 : Value) (Q0 : Exit → Act → World → Prop) (O P : Nat → Prop) (L M : List Pt) (RX RY : List U) (hs : TT K g1 g2 164 O P L M wr none none RX RY) (hi : XInv K.a K.b RX RY L M) (D : Below K.lo w0 wr) (hnp : noP RX) (hkx : kindOf RX = 3) (hky : kindOf RY = 2) :
  Code.wp Tryz.prog trBody (Exit.then (fun a' w'' => TrI K g1 g2 w0 c0 c1 c2 c3 c4 c5 c6 c16 c17 c18 c19 c20 c21 c22 c23 c24 c25 c26 c27 c28 c29 c30 c31 c32 c33 c34 c35 c36 c37 c38 c39 c40 c41 c42 c127 c128 c129 c130 c131 c132 c133 c134 c135 c136 c137 c138 c139 c140 a' w'' ∧ muC K w'' < muC K wr) Q0) ⟨#[c0, c1, c2, c3, c4, c5, c6, .pointer (some ⟨K.gx, 0, none⟩), .pointer (some ⟨K.gy, 0, none⟩), .pointer (some ⟨g1, 0, none⟩), .pointer (some ⟨g2, 0, none⟩), u11, u12, u13, u14, u15, c16, c17, c18, c19, c20, c21, c22, c23, c24, c25, c26, c27, c28, c29, c30, c31, c32, c33, c34, c35, c36, c37, c38, c39, c40, c41, c42, u43, u44, u45, u46, u47, u48, u49, u50, u51, u52, u53, u54, u55, u56, u57, u58, u59, u60, u61, u62, u63, u64, u65, u66, u67, u68, u69, u70, u71, u72, u73, u74, u75, u76, u77, u78, u79, u80, u81, u82, u83, u84, u85, u86, u87, u88, u89, u90, u91, u92, u93, u94, u95, u96, u97, u98, u99, u100, u101, u102, u103, u104, u105, u106, u107, u108, u109, u110, u111, u112, u113, u114, u115, u116, u117, u118, u119, u120, u121, u122, u123, u124, u125, u126, c127, c128, c129, c130, c131, c132, c133, c134, c135, c136, c137, c138, c139, c140], []⟩ wr := by
 have HMU := Lib.hid hs.cs.mu
 have hLb : L.length < 100000 := by have := hi.len; omega
 have hMb : M.length < 100000 := by have := hi.len; omega
 have HS := Lib.hid hs
 have HI := Lib.hid hi
 clear hs hi
 conv => arg 2; whnf
 go_wp2_with fail
 refine (HS.out.kindx hT).mono ?_
 rintro e w1 ⟨rfl, m1, q1, h1, b1⟩
 simp only at h1
 replace HS := Lib.hid h1
 replace D := D.trans b1
 clear h1 b1
 clear q1
 rw [hkx]
 have hmx := HS.out.cs.lead
 go_wp2_with fail
 refine (HS.out.kindx hT).mono ?_
 rintro e w2 ⟨rfl, m2, q2, h2, b2⟩
 rw [q2 _ rfl] at h2
 simp only at h2
 replace HS := Lib.hid h2
 replace D := D.trans b2
 clear h2 b2
 clear q2 m2
 rw [hkx]
 go_wp2_with fail
 refine (HS.out.kindy hT).mono ?_
 rintro e w3 ⟨rfl, m3, q3, h3, b3⟩
 simp only at h3
 replace HS := Lib.hid h3
 replace D := D.trans b3
 clear h3 b3
 clear q3
 rw [hky]
 have hmy := HS.out.cs.swap.lead
 have hpy := hmy.pos (by rw [hky]; decide)
 have HMy := Lib.hid hmy
 clear hmy
 clear hmx
 go_wp2_with fail
 refine (HS.out.lefty hT (by rw [hky]; decide)).mono ?_
 rintro e w4 ⟨rfl, h4, b4⟩
 replace HS := Lib.hid h4
 replace D := D.trans b4
 clear h4 b4
 go_wp2_with fail
 refine (HS.out.takey hT hky (Nat.le_refl _ : m3 ≤ m3) hpy.1).mono ?_
 rintro e w5 ⟨A5, c5, z5, rfl, hl5, hz5, row5, h5, b5⟩
 have HZ5 := Lib.hid hz5
 have HL5 := Lib.hid hl5
 have HR5 := Lib.hid row5
 clear hz5 hl5 row5
 replace HS := Lib.hid h5
 replace D := D.trans b5
 clear h5 b5
 go_wp2_with fail
 refine (HS.out.put2 HR5.out HL5.out (by omega) hMb).mono ?_
 rintro e w6 ⟨rfl, O6, h6, b6⟩
 replace HS := Lib.hid h6
 replace D := D.trans b6
 clear h6 b6
 go_wp2_with fail
 refine (HS.out.keep1 (n := (m3 : Int)) (by omega) (by omega) hLb).mono ?_
 rintro e w7 ⟨rfl, O7, h7, b7⟩
 replace HS := Lib.hid h7
 replace D := D.trans b7
 clear h7 b7
 go_wp2
 have hz := HZ5.out
 have hl := HL5.out
 have HR := TrR.mk HS.out.weak (show XInv K.a K.b RX (RY.drop m3) (L ++ [⟨1, (m3 : Int), []⟩]) _ by rw [← hl] at hz ⊢; exact (by rw [← hz]; exact HI.out : XInv K.a K.b RX (z5.map .p ++ RY.drop z5.length) L M).py hnp (by omega)) D
 refine ⟨?_, ?_⟩
 ·unfold TrI
  iterate 89 apply Exists.intro
  exact ⟨HR, rfl⟩
 rw [HS.out.weak.cs.mu, HMU.out]
 rw [List.length_drop]
 omega
theorem trM11 (K : Fx) (hT : K.TC = 170) (g1 g2 : Nat) (w0 wr : World) (c0 c1 c2 c3 c4 c5 c6 c16 c17 c18 c19 c20 c21 c22 c23 c24 c25 c26 c27 c28 c29 c30 c31 c32 c33 c34 c35 c36 c37 c38 c39 c40 c41 c42 c127 c128 c129 c130 c131 c132 c133 c134 c135 c136 c137 c138 c139 c140 u11 u12 u13 u14 u15 u43 u44 u45 u46 u47 u48 u49 u50 u51 u52 u53 u54 u55 u56 u57 u58 u59 u60 u61 u62 u63 u64 u65 u66 u67 u68 u69 u70 u71 u72 u73 u74 u75 u76 u77 u78 u79 u80 u81 u82 u83 u84 u85 u86 u87 u88 u89 u90 u91 u92 u93 u94 u95 u96 u97 u98 u99 u100 u101 u102 u103 u104 u105 u106 u107 u108 u109 u110 u111 u112 u113 u114 u115 u116 u117 u118 u119 u120 u121 u122 u123 u124 u125 u126 : Value) (Q0 : Exit → Act → World → Prop) (O P : Nat → Prop) (L M : List Pt) (RX RY : List U) (hs : TT K g1 g2 164 O P L M wr none none RX RY) (hi : XInv K.a K.b RX RY L M) (D : Below K.lo w0 wr) (hkx : kindOf RX = 1) (hky : kindOf RY = 1) :
  Code.wp Tryz.prog trBody (Exit.then (fun a' w'' => TrI K g1 g2 w0 c0 c1 c2 c3 c4 c5 c6 c16 c17 c18 c19 c20 c21 c22 c23 c24 c25 c26 c27 c28 c29 c30 c31 c32 c33 c34 c35 c36 c37 c38 c39 c40 c41 c42 c127 c128 c129 c130 c131 c132 c133 c134 c135 c136 c137 c138 c139 c140 a' w'' ∧ muC K w'' < muC K wr) Q0) ⟨#[c0, c1, c2, c3, c4, c5, c6, .pointer (some ⟨K.gx, 0, none⟩), .pointer (some ⟨K.gy, 0, none⟩), .pointer (some ⟨g1, 0, none⟩), .pointer (some ⟨g2, 0, none⟩), u11, u12, u13, u14, u15, c16, c17, c18, c19, c20, c21, c22, c23, c24, c25, c26, c27, c28, c29, c30, c31, c32, c33, c34, c35, c36, c37, c38, c39, c40, c41, c42, u43, u44, u45, u46, u47, u48, u49, u50, u51, u52, u53, u54, u55, u56, u57, u58, u59, u60, u61, u62, u63, u64, u65, u66, u67, u68, u69, u70, u71, u72, u73, u74, u75, u76, u77, u78, u79, u80, u81, u82, u83, u84, u85, u86, u87, u88, u89, u90, u91, u92, u93, u94, u95, u96, u97, u98, u99, u100, u101, u102, u103, u104, u105, u106, u107, u108, u109, u110, u111, u112, u113, u114, u115, u116, u117, u118, u119, u120, u121, u122, u123, u124, u125, u126, c127, c128, c129, c130, c131, c132, c133, c134, c135, c136, c137, c138, c139, c140], []⟩ wr := by
 have HMU := Lib.hid hs.cs.mu
 have hLb : L.length < 100000 := by have := hi.len; omega
 have hMb : M.length < 100000 := by have := hi.len; omega
 have HS := Lib.hid hs
 have HI := Lib.hid hi
 clear hs hi
 conv => arg 2; whnf
 go_wp2_with fail
 refine (HS.out.kindx hT).mono ?_
 rintro e w1 ⟨rfl, m1, q1, h1, b1⟩
 simp only at h1
 replace HS := Lib.hid h1
 replace D := D.trans b1
 clear h1 b1
 clear q1
 rw [hkx]
 have hmx := HS.out.cs.lead
 go_wp2_with fail
 refine (HS.out.kindx hT).mono ?_
 rintro e w2 ⟨rfl, m2, q2, h2, b2⟩
 rw [q2 _ rfl] at h2
 simp only at h2
 replace HS := Lib.hid h2
 replace D := D.trans b2
 clear h2 b2
 clear q2 m2
 rw [hkx]
 go_wp2_with fail
 refine (HS.out.kindy hT).mono ?_
 rintro e w3 ⟨rfl, m3, q3, h3, b3⟩
 simp only at h3
 replace HS := Lib.hid h3
 replace D := D.trans b3
 clear h3 b3
 clear q3
 rw [hky]
 have hmy := HS.out.cs.swap.lead
 have hpx := hmx.pos (by rw [hkx]; decide)
 have HMx := Lib.hid hmx
 clear hmx
 have hpy := hmy.pos (by rw [hky]; decide)
 have HMy := Lib.hid hmy
 clear hmy
 go_wp2_with fail
 refine (HS.out.leftx hT (by rw [hkx]; decide)).mono ?_
 rintro e w4 ⟨rfl, h4, b4⟩
 replace HS := Lib.hid h4
 replace D := D.trans b4
 clear h4 b4
 go_wp2_with fail
 refine (HS.out.lefty hT (by rw [hky]; decide)).mono ?_
 rintro e w5 ⟨rfl, h5, b5⟩
 replace HS := Lib.hid h5
 replace D := D.trans b5
 clear h5 b5
 go_wp2_with fail
 refine (specMin_d _ _ _).mono ?_
 rintro e w'_ ⟨rfl, rfl⟩
 rw [show (if (m1 : Int) < (m3 : Int) then (m1 : Int) else (m3 : Int)) = ((min m1 m3 : Nat) : Int) by split <;> omega]
 have hn1 : min m1 m3 ≤ m1 := Nat.min_le_left _ _
 have hn2 : min m1 m3 ≤ m3 := Nat.min_le_right _ _
 have hn3 : 0 < min m1 m3 := by omega
 generalize min m1 m3 = n at *
 go_wp2_with fail
 refine (HS.out.kindx hT).mono ?_
 rintro e w6 ⟨rfl, m6, q6, h6, b6⟩
 rw [q6 _ rfl] at h6
 simp only at h6
 replace HS := Lib.hid h6
 replace D := D.trans b6
 clear h6 b6
 clear q6 m6
 rw [hkx]
 go_wp2_with fail
 refine (HS.out.kindy hT).mono ?_
 rintro e w7 ⟨rfl, m7, q7, h7, b7⟩
 rw [q7 _ rfl] at h7
 simp only at h7
 replace HS := Lib.hid h7
 replace D := D.trans b7
 clear h7 b7
 clear q7 m7
 rw [hky]
 have hne := HS.out.cs.ne
 have hne2 : ¬ K.gy = K.gx := fun h => hne h.symm
 go_wp2_with fail
 refine (HS.out.keep1 (n := (n : Int)) (by omega) (by omega) hLb).mono ?_
 rintro e w8 ⟨rfl, O8, h8, b8⟩
 replace HS := Lib.hid h8
 replace D := D.trans b8
 clear h8 b8
 go_wp2_with fail
 refine (HS.out.keep2 (n := (n : Int)) (by omega) (by omega) hMb).mono ?_
 rintro e w9 ⟨rfl, O9, h9, b9⟩
 replace HS := Lib.hid h9
 replace D := D.trans b9
 clear h9 b9
 obtain ⟨d10, f10, hd10, hf10, hc10, hg10, hu10, hv10, ha10⟩ := HS.out.adv2 (by rw [hkx]; decide) (by rw [hky]; decide)
 have HA10 := Lib.hid (ha10 n hn1 hn2)
 clear ha10
 go_wp2
 have ex := HMx.out.k hkx hn1
 have ey := HMy.out.k hky hn2
 have HR := TrR.mk HA10.out.weak ((by rw [← ex, ← ey]; exact HI.out : XInv K.a K.b (List.replicate n .k ++ RX.drop n) (List.replicate n .k ++ RY.drop n) L M).kk hn3) ((D.setCell HS.out.cs.lx _).setCell HS.out.cs.ly _)
 refine ⟨?_, ?_⟩
 ·unfold TrI
  iterate 89 apply Exists.intro
  exact ⟨HR, rfl⟩
 rw [HA10.out.weak.cs.mu, HMU.out]
 rw [List.length_drop, List.length_drop]
 omega
theorem trM13 (K : Fx) (hT : K.TC = 170) (g1 g2 : Nat) (w0 wr : World) (c0 c1 c2 c3 c4 c5 c6 c16 c17 c18 c19 c20 c21 c22 c23 c24 c25 c26 c27 c28 c29 c30 c31 c32 c33 c34 c35 c36 c37 c38 c39 c40 c41 c42 c127 c128 c129 c130 c131 c132 c133 c134 c135 c136 c137 c138 c139 c140 u11 u12 u13 u14 u15 u43 u44 u45 u46 u47 u48 u49 u50 u51 u52 u53 u54 u55 u56 u57 u58 u59 u60 u61 u62 u63 u64 u65 u66 u67 u68 u69 u70 u71 u72 u73 u74 u75 u76 u77 u78 u79 u80 u81 u82 u83 u84 u85 u86 u87 u88 u89 u90 u91 u92 u93 u94 u95 u96 u97 u98 u99 u100 u101 u102 u103 u104 u105 u106 u107 u108 u109 u110 u111 u112 u113 u114 u115 u116 u117 u118 u119 u120 u121 u122 u123 u124 u125 u126 : Value) (Q0 : Exit → Act → World → Prop) (O P : Nat → Prop) (L M : List Pt) (RX RY : List U) (hs : TT K g1 g2 164 O P L M wr none none RX RY) (hi : XInv K.a K.b RX RY L M) (D : Below K.lo w0 wr) (hkx : kindOf RX = 1) (hky : kindOf RY = 3) :
  Code.wp Tryz.prog trBody (Exit.then (fun a' w'' => TrI K g1 g2 w0 c0 c1 c2 c3 c4 c5 c6 c16 c17 c18 c19 c20 c21 c22 c23 c24 c25 c26 c27 c28 c29 c30 c31 c32 c33 c34 c35 c36 c37 c38 c39 c40 c41 c42 c127 c128 c129 c130 c131 c132 c133 c134 c135 c136 c137 c138 c139 c140 a' w'' ∧ muC K w'' < muC K wr) Q0) ⟨#[c0, c1, c2, c3, c4, c5, c6, .pointer (some ⟨K.gx, 0, none⟩), .pointer (some ⟨K.gy, 0, none⟩), .pointer (some ⟨g1, 0, none⟩), .pointer (some ⟨g2, 0, none⟩), u11, u12, u13, u14, u15, c16, c17, c18, c19, c20, c21, c22, c23, c24, c25, c26, c27, c28, c29, c30, c31, c32, c33, c34, c35, c36, c37, c38, c39, c40, c41, c42, u43, u44, u45, u46, u47, u48, u49, u50, u51, u52, u53, u54, u55, u56, u57, u58, u59, u60, u61, u62, u63, u64, u65, u66, u67, u68, u69, u70, u71, u72, u73, u74, u75, u76, u77, u78, u79, u80, u81, u82, u83, u84, u85, u86, u87, u88, u89, u90, u91, u92, u93, u94, u95, u96, u97, u98, u99, u100, u101, u102, u103, u104, u105, u106, u107, u108, u109, u110, u111, u112, u113, u114, u115, u116, u117, u118, u119, u120, u121, u122, u123, u124, u125, u126, c127, c128, c129, c130, c131, c132, c133, c134, c135, c136, c137, c138, c139, c140], []⟩ wr := by
 have HMU := Lib.hid hs.cs.mu
 have hLb : L.length < 100000 := by have := hi.len; omega
 have hMb : M.length < 100000 := by have := hi.len; omega
 have HS := Lib.hid hs
 have HI := Lib.hid hi
 clear hs hi
 conv => arg 2; whnf
 go_wp2_with fail
 refine (HS.out.kindx hT).mono ?_
 rintro e w1 ⟨rfl, m1, q1, h1, b1⟩
 simp only at h1
 replace HS := Lib.hid h1
 replace D := D.trans b1
 clear h1 b1
 clear q1
 rw [hkx]
 have hmx := HS.out.cs.lead
 go_wp2_with fail
 refine (HS.out.kindx hT).mono ?_
 rintro e w2 ⟨rfl, m2, q2, h2, b2⟩
 rw [q2 _ rfl] at h2
 simp only at h2
 replace HS := Lib.hid h2
 replace D := D.trans b2
 clear h2 b2
 clear q2 m2
 rw [hkx]
 go_wp2_with fail
 refine (HS.out.kindy hT).mono ?_
 rintro e w3 ⟨rfl, m3, q3, h3, b3⟩
 simp only at h3
 replace HS := Lib.hid h3
 replace D := D.trans b3
 clear h3 b3
 clear q3
 rw [hky]
 have hmy := HS.out.cs.swap.lead
 have hpx := hmx.pos (by rw [hkx]; decide)
 have HMx := Lib.hid hmx
 clear hmx
 have hpy := hmy.pos (by rw [hky]; decide)
 have HMy := Lib.hid hmy
 clear hmy
 go_wp2_with fail
 refine (HS.out.leftx hT (by rw [hkx]; decide)).mono ?_
 rintro e w4 ⟨rfl, h4, b4⟩
 replace HS := Lib.hid h4
 replace D := D.trans b4
 clear h4 b4
 go_wp2_with fail
 refine (HS.out.lefty hT (by rw [hky]; decide)).mono ?_
 rintro e w5 ⟨rfl, h5, b5⟩
 replace HS := Lib.hid h5
 replace D := D.trans b5
 clear h5 b5
 go_wp2_with fail
 refine (specMin_d _ _ _).mono ?_
 rintro e w'_ ⟨rfl, rfl⟩
 rw [show (if (m1 : Int) < (m3 : Int) then (m1 : Int) else (m3 : Int)) = ((min m1 m3 : Nat) : Int) by split <;> omega]
 have hn1 : min m1 m3 ≤ m1 := Nat.min_le_left _ _
 have hn2 : min m1 m3 ≤ m3 := Nat.min_le_right _ _
 have hn3 : 0 < min m1 m3 := by omega
 generalize min m1 m3 = n at *
 go_wp2_with fail
 refine (HS.out.kindx hT).mono ?_
 rintro e w6 ⟨rfl, m6, q6, h6, b6⟩
 rw [q6 _ rfl] at h6
 simp only at h6
 replace HS := Lib.hid h6
 replace D := D.trans b6
 clear h6 b6
 clear q6 m6
 rw [hkx]
 go_wp2_with fail
 refine (HS.out.kindy hT).mono ?_
 rintro e w7 ⟨rfl, m7, q7, h7, b7⟩
 rw [q7 _ rfl] at h7
 simp only at h7
 replace HS := Lib.hid h7
 replace D := D.trans b7
 clear h7 b7
 clear q7 m7
 rw [hky]
 have hne := HS.out.cs.ne
 have hne2 : ¬ K.gy = K.gx := fun h => hne h.symm
 go_wp2_with fail
 refine (HS.out.drop2 (n := (n : Int)) (by omega) (by omega) hMb).mono ?_
 rintro e w8 ⟨rfl, O8, h8, b8⟩
 replace HS := Lib.hid h8
 replace D := D.trans b8
 clear h8 b8
 obtain ⟨d9, f9, hd9, hf9, hc9, hg9, hu9, hv9, ha9⟩ := HS.out.adv2 (by rw [hkx]; decide) (by rw [hky]; decide)
 have HA9 := Lib.hid (ha9 n hn1 hn2)
 clear ha9
 go_wp2
 have ex := HMx.out.k hkx hn1
 have ey := HMy.out.d hky hn2
 have HR := TrR.mk HA9.out.weak ((by rw [← ex, ← ey]; exact HI.out : XInv K.a K.b (List.replicate n .k ++ RX.drop n) (List.replicate n .d ++ RY.drop n) L M).kd hn3) ((D.setCell HS.out.cs.lx _).setCell HS.out.cs.ly _)
 refine ⟨?_, ?_⟩
 ·unfold TrI
  iterate 89 apply Exists.intro
  exact ⟨HR, rfl⟩
 rw [HA9.out.weak.cs.mu, HMU.out]
 rw [List.length_drop, List.length_drop]
 omega
theorem trM31 (K : Fx) (hT : K.TC = 170) (g1 g2 : Nat) (w0 wr : World) (c0 c1 c2 c3 c4 c5 c6 c16 c17 c18 c19 c20 c21 c22 c23 c24 c25 c26 c27 c28 c29 c30 c31 c32 c33 c34 c35 c36 c37 c38 c39 c40 c41 c42 c127 c128 c129 c130 c131 c132 c133 c134 c135 c136 c137 c138 c139 c140 u11 u12 u13 u14 u15 u43 u44 u45 u46 u47 u48 u49 u50 u51 u52 u53 u54 u55 u56 u57 u58 u59 u60 u61 u62 u63 u64 u65 u66 u67 u68 u69 u70 u71 u72 u73 u74 u75 u76 u77 u78 u79 u80 u81 u82 u83 u84 u85 u86 u87 u88 u89 u90 u91 u92 u93 u94 u95 u96 u97 u98 u99 u100 u101 u102 u103 u104 u105 u106 u107 u108 u109 u110 u111 u112 u113 u114 u115 u116 u117 u118 u119 u120 u121 u122 u123 u124 u125 u126 : Value) (Q0 : Exit → Act → World → Prop) (O P : Nat → Prop) (L M : List Pt) (RX RY : List U) (hs : TT K g1 g2 164 O P L M wr none none RX RY) (hi : XInv K.a K.b RX RY L M) (D : Below K.lo w0 wr) (hkx : kindOf RX = 3) (hky : kindOf RY = 1) :
  Code.wp Tryz.prog trBody (Exit.then (fun a' w'' => TrI K g1 g2 w0 c0 c1 c2 c3 c4 c5 c6 c16 c17 c18 c19 c20 c21 c22 c23 c24 c25 c26 c27 c28 c29 c30 c31 c32 c33 c34 c35 c36 c37 c38 c39 c40 c41 c42 c127 c128 c129 c130 c131 c132 c133 c134 c135 c136 c137 c138 c139 c140 a' w'' ∧ muC K w'' < muC K wr) Q0) ⟨#[c0, c1, c2, c3, c4, c5, c6, .pointer (some ⟨K.gx, 0, none⟩), .pointer (some ⟨K.gy, 0, none⟩), .pointer (some ⟨g1, 0, none⟩), .pointer (some ⟨g2, 0, none⟩), u11, u12, u13, u14, u15, c16, c17, c18, c19, c20, c21, c22, c23, c24, c25, c26, c27, c28, c29, c30, c31, c32, c33, c34, c35, c36, c37, c38, c39, c40, c41, c42, u43, u44, u45, u46, u47, u48, u49, u50, u51, u52, u53, u54, u55, u56, u57, u58, u59, u60, u61, u62, u63, u64, u65, u66, u67, u68, u69, u70, u71, u72, u73, u74, u75, u76, u77, u78, u79, u80, u81, u82, u83, u84, u85, u86, u87, u88, u89, u90, u91, u92, u93, u94, u95, u96, u97, u98, u99, u100, u101, u102, u103, u104, u105, u106, u107, u108, u109, u110, u111, u112, u113, u114, u115, u116, u117, u118, u119, u120, u121, u122, u123, u124, u125, u126, c127, c128, c129, c130, c131, c132, c133, c134, c135, c136, c137, c138, c139, c140], []⟩ wr := by
 have HMU := Lib.hid hs.cs.mu
 have hLb : L.length < 100000 := by have := hi.len; omega
 have hMb : M.length < 100000 := by have := hi.len; omega
 have HS := Lib.hid hs
 have HI := Lib.hid hi
 clear hs hi
 conv => arg 2; whnf
 go_wp2_with fail
 refine (HS.out.kindx hT).mono ?_
 rintro e w1 ⟨rfl, m1, q1, h1, b1⟩
 simp only at h1
 replace HS := Lib.hid h1
 replace D := D.trans b1
 clear h1 b1
 clear q1
 rw [hkx]
 have hmx := HS.out.cs.lead
 go_wp2_with fail
 refine (HS.out.kindx hT).mono ?_
 rintro e w2 ⟨rfl, m2, q2, h2, b2⟩
 rw [q2 _ rfl] at h2
 simp only at h2
 replace HS := Lib.hid h2
 replace D := D.trans b2
 clear h2 b2
 clear q2 m2
 rw [hkx]
 go_wp2_with fail
 refine (HS.out.kindy hT).mono ?_
 rintro e w3 ⟨rfl, m3, q3, h3, b3⟩
 simp only at h3
 replace HS := Lib.hid h3
 replace D := D.trans b3
 clear h3 b3
 clear q3
 rw [hky]
 have hmy := HS.out.cs.swap.lead
 have hpx := hmx.pos (by rw [hkx]; decide)
 have HMx := Lib.hid hmx
 clear hmx
 have hpy := hmy.pos (by rw [hky]; decide)
 have HMy := Lib.hid hmy
 clear hmy
 go_wp2_with fail
 refine (HS.out.leftx hT (by rw [hkx]; decide)).mono ?_
 rintro e w4 ⟨rfl, h4, b4⟩
 replace HS := Lib.hid h4
 replace D := D.trans b4
 clear h4 b4
 go_wp2_with fail
 refine (HS.out.lefty hT (by rw [hky]; decide)).mono ?_
 rintro e w5 ⟨rfl, h5, b5⟩
 replace HS := Lib.hid h5
 replace D := D.trans b5
 clear h5 b5
 go_wp2_with fail
 refine (specMin_d _ _ _).mono ?_
 rintro e w'_ ⟨rfl, rfl⟩
 rw [show (if (m1 : Int) < (m3 : Int) then (m1 : Int) else (m3 : Int)) = ((min m1 m3 : Nat) : Int) by split <;> omega]
 have hn1 : min m1 m3 ≤ m1 := Nat.min_le_left _ _
 have hn2 : min m1 m3 ≤ m3 := Nat.min_le_right _ _
 have hn3 : 0 < min m1 m3 := by omega
 generalize min m1 m3 = n at *
 go_wp2_with fail
 refine (HS.out.kindx hT).mono ?_
 rintro e w6 ⟨rfl, m6, q6, h6, b6⟩
 rw [q6 _ rfl] at h6
 simp only at h6
 replace HS := Lib.hid h6
 replace D := D.trans b6
 clear h6 b6
 clear q6 m6
 rw [hkx]
 go_wp2_with fail
 refine (HS.out.kindy hT).mono ?_
 rintro e w7 ⟨rfl, m7, q7, h7, b7⟩
 rw [q7 _ rfl] at h7
 simp only at h7
 replace HS := Lib.hid h7
 replace D := D.trans b7
 clear h7 b7
 clear q7 m7
 rw [hky]
 have hne := HS.out.cs.ne
 have hne2 : ¬ K.gy = K.gx := fun h => hne h.symm
 go_wp2_with fail
 refine (HS.out.drop1 (n := (n : Int)) (by omega) (by omega) hLb).mono ?_
 rintro e w8 ⟨rfl, O8, h8, b8⟩
 replace HS := Lib.hid h8
 replace D := D.trans b8
 clear h8 b8
 obtain ⟨d9, f9, hd9, hf9, hc9, hg9, hu9, hv9, ha9⟩ := HS.out.adv2 (by rw [hkx]; decide) (by rw [hky]; decide)
 have HA9 := Lib.hid (ha9 n hn1 hn2)
 clear ha9
 go_wp2
 have ex := HMx.out.d hkx hn1
 have ey := HMy.out.k hky hn2
 have HR := TrR.mk HA9.out.weak ((by rw [← ex, ← ey]; exact HI.out : XInv K.a K.b (List.replicate n .d ++ RX.drop n) (List.replicate n .k ++ RY.drop n) L M).dk hn3) ((D.setCell HS.out.cs.lx _).setCell HS.out.cs.ly _)
 refine ⟨?_, ?_⟩
 ·unfold TrI
  iterate 89 apply Exists.intro
  exact ⟨HR, rfl⟩
 rw [HA9.out.weak.cs.mu, HMU.out]
 rw [List.length_drop, List.length_drop]
 omega
theorem trM33 (K : Fx) (hT : K.TC = 170) (g1 g2 : Nat) (w0 wr : World) (c0 c1 c2 c3 c4 c5 c6 c16 c17 c18 c19 c20 c21 c22 c23 c24 c25 c26 c27 c28 c29 c30 c31 c32 c33 c34 c35 c36 c37 c38 c39 c40 c41 c42 c127 c128 c129 c130 c131 c132 c133 c134 c135 c136 c137 c138 c139 c140 u11 u12 u13 u14 u15 u43 u44 u45 u46 u47 u48 u49 u50 u51 u52 u53 u54 u55 u56 u57 u58 u59 u60 u61 u62 u63 u64 u65 u66 u67 u68 u69 u70 u71 u72 u73 u74 u75 u76 u77 u78 u79 u80 u81 u82 u83 u84 u85 u86 u87 u88 u89 u90 u91 u92 u93 u94 u95 u96 u97 u98 u99 u100 u101 u102 u103 u104 u105 u106 u107 u108 u109 u110 u111 u112 u113 u114 u115 u116 u117 u118 u119 u120 u121 u122 u123 u124 u125 u126 : Value) (Q0 : Exit → Act → World → Prop) (O P : Nat → Prop) (L M : List Pt) (RX RY : List U) (hs : TT K g1 g2 164 O P L M wr none none RX RY) (hi : XInv K.a K.b RX RY L M) (D : Below K.lo w0 wr) (hkx : kindOf RX = 3) (hky : kindOf RY = 3) :
  Code.wp Tryz.prog trBody (Exit.then (fun a' w'' => TrI K g1 g2 w0 c0 c1 c2 c3 c4 c5 c6 c16 c17 c18 c19 c20 c21 c22 c23 c24 c25 c26 c27 c28 c29 c30 c31 c32 c33 c34 c35 c36 c37 c38 c39 c40 c41 c42 c127 c128 c129 c130 c131 c132 c133 c134 c135 c136 c137 c138 c139 c140 a' w'' ∧ muC K w'' < muC K wr) Q0) ⟨#[c0, c1, c2, c3, c4, c5, c6, .pointer (some ⟨K.gx, 0, none⟩), .pointer (some ⟨K.gy, 0, none⟩), .pointer (some ⟨g1, 0, none⟩), .pointer (some ⟨g2, 0, none⟩), u11, u12, u13, u14, u15, c16, c17, c18, c19, c20, c21, c22, c23, c24, c25, c26, c27, c28, c29, c30, c31, c32, c33, c34, c35, c36, c37, c38, c39, c40, c41, c42, u43, u44, u45, u46, u47, u48, u49, u50, u51, u52, u53, u54, u55, u56, u57, u58, u59, u60, u61, u62, u63, u64, u65, u66, u67, u68, u69, u70, u71, u72, u73, u74, u75, u76, u77, u78, u79, u80, u81, u82, u83, u84, u85, u86, u87, u88, u89, u90, u91, u92, u93, u94, u95, u96, u97, u98, u99, u100, u101, u102, u103, u104, u105, u106, u107, u108, u109, u110, u111, u112, u113, u114, u115, u116, u117, u118, u119, u120, u121, u122, u123, u124, u125, u126, c127, c128, c129, c130, c131, c132, c133, c134, c135, c136, c137, c138, c139, c140], []⟩ wr := by
 have HMU := Lib.hid hs.cs.mu
 have hLb : L.length < 100000 := by have := hi.len; omega
 have hMb : M.length < 100000 := by have := hi.len; omega
 have HS := Lib.hid hs
 have HI := Lib.hid hi
 clear hs hi
 conv => arg 2; whnf
 go_wp2_with fail
 refine (HS.out.kindx hT).mono ?_
 rintro e w1 ⟨rfl, m1, q1, h1, b1⟩
 simp only at h1
 replace HS := Lib.hid h1
 replace D := D.trans b1
 clear h1 b1
 clear q1
 rw [hkx]
 have hmx := HS.out.cs.lead
 go_wp2_with fail
 refine (HS.out.kindx hT).mono ?_
 rintro e w2 ⟨rfl, m2, q2, h2, b2⟩
 rw [q2 _ rfl] at h2
 simp only at h2
 replace HS := Lib.hid h2
 replace D := D.trans b2
 clear h2 b2
 clear q2 m2
 rw [hkx]
 go_wp2_with fail
 refine (HS.out.kindy hT).mono ?_
 rintro e w3 ⟨rfl, m3, q3, h3, b3⟩
 simp only at h3
 replace HS := Lib.hid h3
 replace D := D.trans b3
 clear h3 b3
 clear q3
 rw [hky]
 have hmy := HS.out.cs.swap.lead
 have hpx := hmx.pos (by rw [hkx]; decide)
 have HMx := Lib.hid hmx
 clear hmx
 have hpy := hmy.pos (by rw [hky]; decide)
 have HMy := Lib.hid hmy
 clear hmy
 go_wp2_with fail
 refine (HS.out.leftx hT (by rw [hkx]; decide)).mono ?_
 rintro e w4 ⟨rfl, h4, b4⟩
 replace HS := Lib.hid h4
 replace D := D.trans b4
 clear h4 b4
 go_wp2_with fail
 refine (HS.out.lefty hT (by rw [hky]; decide)).mono ?_
 rintro e w5 ⟨rfl, h5, b5⟩
 replace HS := Lib.hid h5
 replace D := D.trans b5
 clear h5 b5
 go_wp2_with fail
 refine (specMin_d _ _ _).mono ?_
 rintro e w'_ ⟨rfl, rfl⟩
 rw [show (if (m1 : Int) < (m3 : Int) then (m1 : Int) else (m3 : Int)) = ((min m1 m3 : Nat) : Int) by split <;> omega]
 have hn1 : min m1 m3 ≤ m1 := Nat.min_le_left _ _
 have hn2 : min m1 m3 ≤ m3 := Nat.min_le_right _ _
 have hn3 : 0 < min m1 m3 := by omega
 generalize min m1 m3 = n at *
 go_wp2_with fail
 refine (HS.out.kindx hT).mono ?_
 rintro e w6 ⟨rfl, m6, q6, h6, b6⟩
 rw [q6 _ rfl] at h6
 simp only at h6
 replace HS := Lib.hid h6
 replace D := D.trans b6
 clear h6 b6
 clear q6 m6
 rw [hkx]
 go_wp2_with fail
 refine (HS.out.kindy hT).mono ?_
 rintro e w7 ⟨rfl, m7, q7, h7, b7⟩
 rw [q7 _ rfl] at h7
 simp only at h7
 replace HS := Lib.hid h7
 replace D := D.trans b7
 clear h7 b7
 clear q7 m7
 rw [hky]
 have hne := HS.out.cs.ne
 have hne2 : ¬ K.gy = K.gx := fun h => hne h.symm
 obtain ⟨d8, f8, hd8, hf8, hc8, hg8, hu8, hv8, ha8⟩ := HS.out.adv2 (by rw [hkx]; decide) (by rw [hky]; decide)
 have HA8 := Lib.hid (ha8 n hn1 hn2)
 clear ha8
 go_wp2
 have ex := HMx.out.d hkx hn1
 have ey := HMy.out.d hky hn2
 have HR := TrR.mk HA8.out.weak ((by rw [← ex, ← ey]; exact HI.out : XInv K.a K.b (List.replicate n .d ++ RX.drop n) (List.replicate n .d ++ RY.drop n) L M).dd) ((D.setCell HS.out.cs.lx _).setCell HS.out.cs.ly _)
 refine ⟨?_, ?_⟩
 ·unfold TrI
  iterate 89 apply Exists.intro
  exact ⟨HR, rfl⟩
 rw [HA8.out.weak.cs.mu, HMU.out]
 rw [List.length_drop, List.length_drop]
 omega
theorem trRound (K : Fx) (hT : K.TC = 170) (g1 g2 : Nat) (w0 : World) (c0 c1 c2 c3 c4 c5 c6 c16 c17 c18 c19 c20 c21 c22 c23 c24 c25 c26 c27 c28 c29 c30 c31 c32 c33 c34 c35 c36 c37 c38 c39 c40 c41 c42 c127 c128 c129 c130 c131 c132 c133 c134 c135 c136 c137 c138 c139 c140 : Value) (Q0 : Exit → Act → World → Prop) (hexit : ∀ a w, TrE K g1 g2 w0 c0 c1 c2 c3 c4 c5 c6 c16 c17 c18 c19 c20 c21 c22 c23 c24 c25 c26 c27 c28 c29 c30 c31 c32 c33 c34 c35 c36 c37 c38 c39 c40 c41 c42 c127 c128 c129 c130 c131 c132 c133 c134 c135 c136 c137 c138 c139 c140 a w → Q0 (.exit 0) a w) (a : Act) (w' : World) (hI : TrI K g1 g2 w0 c0 c1 c2 c3 c4 c5 c6 c16 c17 c18 c19 c20 c21 c22 c23 c24 c25 c26 c27 c28 c29 c30 c31 c32 c33 c34 c35 c36 c37 c38 c39 c40 c41 c42 c127 c128 c129 c130 c131 c132 c133 c134 c135 c136 c137 c138 c139 c140 a w') :
  Code.wp Tryz.prog trBody (Exit.then (fun a' w'' => TrI K g1 g2 w0 c0 c1 c2 c3 c4 c5 c6 c16 c17 c18 c19 c20 c21 c22 c23 c24 c25 c26 c27 c28 c29 c30 c31 c32 c33 c34 c35 c36 c37 c38 c39 c40 c41 c42 c127 c128 c129 c130 c131 c132 c133 c134 c135 c136 c137 c138 c139 c140 a' w'' ∧ muC K w'' < muC K w') Q0) a w' := by
 unfold TrI at hI
 obtain ⟨u11, hI⟩ := hI
 obtain ⟨u12, hI⟩ := hI
 obtain ⟨u13, hI⟩ := hI
 obtain ⟨u14, hI⟩ := hI
 obtain ⟨u15, hI⟩ := hI
 obtain ⟨u43, hI⟩ := hI
 obtain ⟨u44, hI⟩ := hI
 obtain ⟨u45, hI⟩ := hI
 obtain ⟨u46, hI⟩ := hI
 obtain ⟨u47, hI⟩ := hI
 obtain ⟨u48, hI⟩ := hI
 obtain ⟨u49, hI⟩ := hI
 obtain ⟨u50, hI⟩ := hI
 obtain ⟨u51, hI⟩ := hI
 obtain ⟨u52, hI⟩ := hI
 obtain ⟨u53, hI⟩ := hI
 obtain ⟨u54, hI⟩ := hI
 obtain ⟨u55, hI⟩ := hI
 obtain ⟨u56, hI⟩ := hI
 obtain ⟨u57, hI⟩ := hI
 obtain ⟨u58, hI⟩ := hI
 obtain ⟨u59, hI⟩ := hI
 obtain ⟨u60, hI⟩ := hI
 obtain ⟨u61, hI⟩ := hI
 obtain ⟨u62, hI⟩ := hI
 obtain ⟨u63, hI⟩ := hI
 obtain ⟨u64, hI⟩ := hI
 obtain ⟨u65, hI⟩ := hI
 obtain ⟨u66, hI⟩ := hI
 obtain ⟨u67, hI⟩ := hI
 obtain ⟨u68, hI⟩ := hI
 obtain ⟨u69, hI⟩ := hI
 obtain ⟨u70, hI⟩ := hI
 obtain ⟨u71, hI⟩ := hI
 obtain ⟨u72, hI⟩ := hI
 obtain ⟨u73, hI⟩ := hI
 obtain ⟨u74, hI⟩ := hI
 obtain ⟨u75, hI⟩ := hI
 obtain ⟨u76, hI⟩ := hI
 obtain ⟨u77, hI⟩ := hI
 obtain ⟨u78, hI⟩ := hI
 obtain ⟨u79, hI⟩ := hI
 obtain ⟨u80, hI⟩ := hI
 obtain ⟨u81, hI⟩ := hI
 obtain ⟨u82, hI⟩ := hI
 obtain ⟨u83, hI⟩ := hI
 obtain ⟨u84, hI⟩ := hI
 obtain ⟨u85, hI⟩ := hI
 obtain ⟨u86, hI⟩ := hI
 obtain ⟨u87, hI⟩ := hI
 obtain ⟨u88, hI⟩ := hI
 obtain ⟨u89, hI⟩ := hI
 obtain ⟨u90, hI⟩ := hI
 obtain ⟨u91, hI⟩ := hI
 obtain ⟨u92, hI⟩ := hI
 obtain ⟨u93, hI⟩ := hI
 obtain ⟨u94, hI⟩ := hI
 obtain ⟨u95, hI⟩ := hI
 obtain ⟨u96, hI⟩ := hI
 obtain ⟨u97, hI⟩ := hI
 obtain ⟨u98, hI⟩ := hI
 obtain ⟨u99, hI⟩ := hI
 obtain ⟨u100, hI⟩ := hI
 obtain ⟨u101, hI⟩ := hI
 obtain ⟨u102, hI⟩ := hI
 obtain ⟨u103, hI⟩ := hI
 obtain ⟨u104, hI⟩ := hI
 obtain ⟨u105, hI⟩ := hI
 obtain ⟨u106, hI⟩ := hI
 obtain ⟨u107, hI⟩ := hI
 obtain ⟨u108, hI⟩ := hI
 obtain ⟨u109, hI⟩ := hI
 obtain ⟨u110, hI⟩ := hI
 obtain ⟨u111, hI⟩ := hI
 obtain ⟨u112, hI⟩ := hI
 obtain ⟨u113, hI⟩ := hI
 obtain ⟨u114, hI⟩ := hI
 obtain ⟨u115, hI⟩ := hI
 obtain ⟨u116, hI⟩ := hI
 obtain ⟨u117, hI⟩ := hI
 obtain ⟨u118, hI⟩ := hI
 obtain ⟨u119, hI⟩ := hI
 obtain ⟨u120, hI⟩ := hI
 obtain ⟨u121, hI⟩ := hI
 obtain ⟨u122, hI⟩ := hI
 obtain ⟨u123, hI⟩ := hI
 obtain ⟨u124, hI⟩ := hI
 obtain ⟨u125, hI⟩ := hI
 obtain ⟨u126, hI⟩ := hI
 obtain ⟨⟨O, P, L, M, RX, RY, hs, hi, D⟩, rfl⟩ := hI
 rcases xf_cases hi.bal with ⟨hx, hy⟩ | hkx | ⟨hnp, hkx | hkx | hkx, hky⟩ | ⟨hkx | hkx, hky | hky⟩
 ·exact trE K hT g1 g2 w0 w' c0 c1 c2 c3 c4 c5 c6 c16 c17 c18 c19 c20 c21 c22 c23 c24 c25 c26 c27 c28 c29 c30 c31 c32 c33 c34 c35 c36 c37 c38 c39 c40 c41 c42 c127 c128 c129 c130 c131 c132 c133 c134 c135 c136 c137 c138 c139 c140 u11 u12 u13 u14 u15 u43 u44 u45 u46 u47 u48 u49 u50 u51 u52 u53 u54 u55 u56 u57 u58 u59 u60 u61 u62 u63 u64 u65 u66 u67 u68 u69 u70 u71 u72 u73 u74 u75 u76 u77 u78 u79 u80 u81 u82 u83 u84 u85 u86 u87 u88 u89 u90 u91 u92 u93 u94 u95 u96 u97 u98 u99 u100 u101 u102 u103 u104 u105 u106 u107 u108 u109 u110 u111 u112 u113 u114 u115 u116 u117 u118 u119 u120 u121 u122 u123 u124 u125 u126 Q0 O P L M RX RY hs hi D hx hy hexit
 ·exact trA K hT g1 g2 w0 w' c0 c1 c2 c3 c4 c5 c6 c16 c17 c18 c19 c20 c21 c22 c23 c24 c25 c26 c27 c28 c29 c30 c31 c32 c33 c34 c35 c36 c37 c38 c39 c40 c41 c42 c127 c128 c129 c130 c131 c132 c133 c134 c135 c136 c137 c138 c139 c140 u11 u12 u13 u14 u15 u43 u44 u45 u46 u47 u48 u49 u50 u51 u52 u53 u54 u55 u56 u57 u58 u59 u60 u61 u62 u63 u64 u65 u66 u67 u68 u69 u70 u71 u72 u73 u74 u75 u76 u77 u78 u79 u80 u81 u82 u83 u84 u85 u86 u87 u88 u89 u90 u91 u92 u93 u94 u95 u96 u97 u98 u99 u100 u101 u102 u103 u104 u105 u106 u107 u108 u109 u110 u111 u112 u113 u114 u115 u116 u117 u118 u119 u120 u121 u122 u123 u124 u125 u126 Q0 O P L M RX RY hs hi D hkx
 ·exact trB0 K hT g1 g2 w0 w' c0 c1 c2 c3 c4 c5 c6 c16 c17 c18 c19 c20 c21 c22 c23 c24 c25 c26 c27 c28 c29 c30 c31 c32 c33 c34 c35 c36 c37 c38 c39 c40 c41 c42 c127 c128 c129 c130 c131 c132 c133 c134 c135 c136 c137 c138 c139 c140 u11 u12 u13 u14 u15 u43 u44 u45 u46 u47 u48 u49 u50 u51 u52 u53 u54 u55 u56 u57 u58 u59 u60 u61 u62 u63 u64 u65 u66 u67 u68 u69 u70 u71 u72 u73 u74 u75 u76 u77 u78 u79 u80 u81 u82 u83 u84 u85 u86 u87 u88 u89 u90 u91 u92 u93 u94 u95 u96 u97 u98 u99 u100 u101 u102 u103 u104 u105 u106 u107 u108 u109 u110 u111 u112 u113 u114 u115 u116 u117 u118 u119 u120 u121 u122 u123 u124 u125 u126 Q0 O P L M RX RY hs hi D hnp hkx hky
 ·exact trB1 K hT g1 g2 w0 w' c0 c1 c2 c3 c4 c5 c6 c16 c17 c18 c19 c20 c21 c22 c23 c24 c25 c26 c27 c28 c29 c30 c31 c32 c33 c34 c35 c36 c37 c38 c39 c40 c41 c42 c127 c128 c129 c130 c131 c132 c133 c134 c135 c136 c137 c138 c139 c140 u11 u12 u13 u14 u15 u43 u44 u45 u46 u47 u48 u49 u50 u51 u52 u53 u54 u55 u56 u57 u58 u59 u60 u61 u62 u63 u64 u65 u66 u67 u68 u69 u70 u71 u72 u73 u74 u75 u76 u77 u78 u79 u80 u81 u82 u83 u84 u85 u86 u87 u88 u89 u90 u91 u92 u93 u94 u95 u96 u97 u98 u99 u100 u101 u102 u103 u104 u105 u106 u107 u108 u109 u110 u111 u112 u113 u114 u115 u116 u117 u118 u119 u120 u121 u122 u123 u124 u125 u126 Q0 O P L M RX RY hs hi D hnp hkx hky
 ·exact trB3 K hT g1 g2 w0 w' c0 c1 c2 c3 c4 c5 c6 c16 c17 c18 c19 c20 c21 c22 c23 c24 c25 c26 c27 c28 c29 c30 c31 c32 c33 c34 c35 c36 c37 c38 c39 c40 c41 c42 c127 c128 c129 c130 c131 c132 c133 c134 c135 c136 c137 c138 c139 c140 u11 u12 u13 u14 u15 u43 u44 u45 u46 u47 u48 u49 u50 u51 u52 u53 u54 u55 u56 u57 u58 u59 u60 u61 u62 u63 u64 u65 u66 u67 u68 u69 u70 u71 u72 u73 u74 u75 u76 u77 u78 u79 u80 u81 u82 u83 u84 u85 u86 u87 u88 u89 u90 u91 u92 u93 u94 u95 u96 u97 u98 u99 u100 u101 u102 u103 u104 u105 u106 u107 u108 u109 u110 u111 u112 u113 u114 u115 u116 u117 u118 u119 u120 u121 u122 u123 u124 u125 u126 Q0 O P L M RX RY hs hi D hnp hkx hky
 ·exact trM11 K hT g1 g2 w0 w' c0 c1 c2 c3 c4 c5 c6 c16 c17 c18 c19 c20 c21 c22 c23 c24 c25 c26 c27 c28 c29 c30 c31 c32 c33 c34 c35 c36 c37 c38 c39 c40 c41 c42 c127 c128 c129 c130 c131 c132 c133 c134 c135 c136 c137 c138 c139 c140 u11 u12 u13 u14 u15 u43 u44 u45 u46 u47 u48 u49 u50 u51 u52 u53 u54 u55 u56 u57 u58 u59 u60 u61 u62 u63 u64 u65 u66 u67 u68 u69 u70 u71 u72 u73 u74 u75 u76 u77 u78 u79 u80 u81 u82 u83 u84 u85 u86 u87 u88 u89 u90 u91 u92 u93 u94 u95 u96 u97 u98 u99 u100 u101 u102 u103 u104 u105 u106 u107 u108 u109 u110 u111 u112 u113 u114 u115 u116 u117 u118 u119 u120 u121 u122 u123 u124 u125 u126 Q0 O P L M RX RY hs hi D hkx hky
 ·exact trM13 K hT g1 g2 w0 w' c0 c1 c2 c3 c4 c5 c6 c16 c17 c18 c19 c20 c21 c22 c23 c24 c25 c26 c27 c28 c29 c30 c31 c32 c33 c34 c35 c36 c37 c38 c39 c40 c41 c42 c127 c128 c129 c130 c131 c132 c133 c134 c135 c136 c137 c138 c139 c140 u11 u12 u13 u14 u15 u43 u44 u45 u46 u47 u48 u49 u50 u51 u52 u53 u54 u55 u56 u57 u58 u59 u60 u61 u62 u63 u64 u65 u66 u67 u68 u69 u70 u71 u72 u73 u74 u75 u76 u77 u78 u79 u80 u81 u82 u83 u84 u85 u86 u87 u88 u89 u90 u91 u92 u93 u94 u95 u96 u97 u98 u99 u100 u101 u102 u103 u104 u105 u106 u107 u108 u109 u110 u111 u112 u113 u114 u115 u116 u117 u118 u119 u120 u121 u122 u123 u124 u125 u126 Q0 O P L M RX RY hs hi D hkx hky
 ·exact trM31 K hT g1 g2 w0 w' c0 c1 c2 c3 c4 c5 c6 c16 c17 c18 c19 c20 c21 c22 c23 c24 c25 c26 c27 c28 c29 c30 c31 c32 c33 c34 c35 c36 c37 c38 c39 c40 c41 c42 c127 c128 c129 c130 c131 c132 c133 c134 c135 c136 c137 c138 c139 c140 u11 u12 u13 u14 u15 u43 u44 u45 u46 u47 u48 u49 u50 u51 u52 u53 u54 u55 u56 u57 u58 u59 u60 u61 u62 u63 u64 u65 u66 u67 u68 u69 u70 u71 u72 u73 u74 u75 u76 u77 u78 u79 u80 u81 u82 u83 u84 u85 u86 u87 u88 u89 u90 u91 u92 u93 u94 u95 u96 u97 u98 u99 u100 u101 u102 u103 u104 u105 u106 u107 u108 u109 u110 u111 u112 u113 u114 u115 u116 u117 u118 u119 u120 u121 u122 u123 u124 u125 u126 Q0 O P L M RX RY hs hi D hkx hky
 ·exact trM33 K hT g1 g2 w0 w' c0 c1 c2 c3 c4 c5 c6 c16 c17 c18 c19 c20 c21 c22 c23 c24 c25 c26 c27 c28 c29 c30 c31 c32 c33 c34 c35 c36 c37 c38 c39 c40 c41 c42 c127 c128 c129 c130 c131 c132 c133 c134 c135 c136 c137 c138 c139 c140 u11 u12 u13 u14 u15 u43 u44 u45 u46 u47 u48 u49 u50 u51 u52 u53 u54 u55 u56 u57 u58 u59 u60 u61 u62 u63 u64 u65 u66 u67 u68 u69 u70 u71 u72 u73 u74 u75 u76 u77 u78 u79 u80 u81 u82 u83 u84 u85 u86 u87 u88 u89 u90 u91 u92 u93 u94 u95 u96 u97 u98 u99 u100 u101 u102 u103 u104 u105 u106 u107 u108 u109 u110 u111 u112 u113 u114 u115 u116 u117 u118 u119 u120 u121 u122 u123 u124 u125 u126 Q0 O P L M RX RY hs hi D hkx hky
theorem trLoop (K : Fx) (hT : K.TC = 170) (g1 g2 : Nat) (w0 : World) (c0 c1 c2 c3 c4 c5 c6 c16 c17 c18 c19 c20 c21 c22 c23 c24 c25 c26 c27 c28 c29 c30 c31 c32 c33 c34 c35 c36 c37 c38 c39 c40 c41 c42 c127 c128 c129 c130 c131 c132 c133 c134 c135 c136 c137 c138 c139 c140 u11 u12 u13 u14 u15 u43 u44 u45 u46 u47 u48 u49 u50 u51 u52 u53 u54 u55 u56 u57 u58 u59 u60 u61 u62 u63 u64 u65 u66 u67 u68 u69 u70 u71 u72 u73 u74 u75 u76 u77 u78 u79 u80 u81 u82 u83 u84 u85 u86 u87 u88 u89 u90 u91 u92 u93 u94 u95 u96 u97 u98 u99 u100 u101 u102 u103 u104 u105 u106 u107 u108 u109 u110 u111 u112 u113 u114 u115 u116 u117 u118 u119 u120 u121 u122 u123 u124 u125 u126 : Value) (Q0 : Exit → Act → World → Prop) (w' : World) (hR : TrR K g1 g2 w0 w') (hexit : ∀ a w, TrE K g1 g2 w0 c0 c1 c2 c3 c4 c5 c6 c16 c17 c18 c19 c20 c21 c22 c23 c24 c25 c26 c27 c28 c29 c30 c31 c32 c33 c34 c35 c36 c37 c38 c39 c40 c41 c42 c127 c128 c129 c130 c131 c132 c133 c134 c135 c136 c137 c138 c139 c140 a w → Q0 (.exit 0) a w) :
  Code.wp Tryz.prog (Code.loop trBody) Q0 ⟨#[c0, c1, c2, c3, c4, c5, c6, .pointer (some ⟨K.gx, 0, none⟩), .pointer (some ⟨K.gy, 0, none⟩), .pointer (some ⟨g1, 0, none⟩), .pointer (some ⟨g2, 0, none⟩), u11, u12, u13, u14, u15, c16, c17, c18, c19, c20, c21, c22, c23, c24, c25, c26, c27, c28, c29, c30, c31, c32, c33, c34, c35, c36, c37, c38, c39, c40, c41, c42, u43, u44, u45, u46, u47, u48, u49, u50, u51, u52, u53, u54, u55, u56, u57, u58, u59, u60, u61, u62, u63, u64, u65, u66, u67, u68, u69, u70, u71, u72, u73, u74, u75, u76, u77, u78, u79, u80, u81, u82, u83, u84, u85, u86, u87, u88, u89, u90, u91, u92, u93, u94, u95, u96, u97, u98, u99, u100, u101, u102, u103, u104, u105, u106, u107, u108, u109, u110, u111, u112, u113, u114, u115, u116, u117, u118, u119, u120, u121, u122, u123, u124, u125, u126, c127, c128, c129, c130, c131, c132, c133, c134, c135, c136, c137, c138, c139, c140], []⟩ w' := by
 refine wp_loop (TrI K g1 g2 w0 c0 c1 c2 c3 c4 c5 c6 c16 c17 c18 c19 c20 c21 c22 c23 c24 c25 c26 c27 c28 c29 c30 c31 c32 c33 c34 c35 c36 c37 c38 c39 c40 c41 c42 c127 c128 c129 c130 c131 c132 c133 c134 c135 c136 c137 c138 c139 c140) (fun _ w => muC K w) ?_ (fun a w'' hI => trRound K hT g1 g2 w0 c0 c1 c2 c3 c4 c5 c6 c16 c17 c18 c19 c20 c21 c22 c23 c24 c25 c26 c27 c28 c29 c30 c31 c32 c33 c34 c35 c36 c37 c38 c39 c40 c41 c42 c127 c128 c129 c130 c131 c132 c133 c134 c135 c136 c137 c138 c139 c140 Q0 hexit a w'' hI)
 unfold TrI
 iterate 89 apply Exists.intro
 exact ⟨hR, rfl⟩
theorem nil2 {w w' : World} (hb : Below w.heap.size w w') : Res2B (encPs []) (encPs []) false w (.returned (.tuple #[.slice none 0 0, .slice none 0 0, .bool false])) w' := by
 obtain ⟨b1, o1⟩ := (nilOwn (encPs []) w' rfl hb.size).blocks
 have e : b1 = [] := by obtain ⟨_, _, ho, hr, he⟩ := o1.ow; obtain ⟨_, hc⟩ := hr; rw [he, hc]; rfl
 subst e
 exact ⟨_, _, [], [], rfl, o1, o1, by simp, hb⟩
theorem xform_f {a b : List Pt} (h : xformOk a b = false) : xformOk a b = false ∧ xformA a b = [] ∧ xformB a b = [] := ⟨h, by unfold xformA; rw [h]; rfl, by unfold xformB; rw [h]; rfl⟩
theorem TT.new {w : World} {A B : Option Addr} {ca cb lo : Nat} {a b : List Pt} {TC TB : TypeId} (hlo : lo ≤ w.heap.size) (ra : RdC w lo (encPs a) (.slice A a.length ca)) (rb : RdC w lo (encPs b) (.slice B b.length cb)) (sa : ∀ p ∈ a, szP_ p) (sb : ∀ p ∈ b, szP_ p) (na : a.length ≤ 1048576) (nb : b.length ≤ 1048576) :
  TT ⟨lo, w.heap.size, w.heap.size + 1, TC, A, ca, a, B, cb, b⟩ (w.heap.size + 1 + 1) (w.heap.size + 1 + 1 + 1) TB (fun q => q = w.heap.size + 1 + 1) (fun q => q = w.heap.size + 1 + 1 + 1) [] [] ((((w.alloc (.cells #[.slice A a.length ca, .int .i64 0, .int .i64 0] TC)).alloc (.cells #[.slice B b.length cb, .int .i64 0, .int .i64 0] TC)).alloc (.cells #[.slice none 0 0, .slice none 0 0, .int .i64 0] TB)).alloc (.cells #[.slice none 0 0, .slice none 0 0, .int .i64 0] TB)) none none (units a) (units b) ∧
  Below lo w ((((w.alloc (.cells #[.slice A a.length ca, .int .i64 0, .int .i64 0] TC)).alloc (.cells #[.slice B b.length cb, .int .i64 0, .int .i64 0] TC)).alloc (.cells #[.slice none 0 0, .slice none 0 0, .int .i64 0] TB)).alloc (.cells #[.slice none 0 0, .slice none 0 0, .int .i64 0] TB)) := by
 obtain ⟨h1, b1⟩ := CB.new (TC := TC) (TB := TB) hlo ra rb sa sb na nb
 have s3 : (((w.alloc (.cells #[.slice A a.length ca, .int .i64 0, .int .i64 0] TC)).alloc (.cells #[.slice B b.length cb, .int .i64 0, .int .i64 0] TC)).alloc (.cells #[.slice none 0 0, .slice none 0 0, .int .i64 0] TB)).heap.size = w.heap.size + 1 + 1 + 1 := by simp
 generalize (((w.alloc (.cells #[.slice A a.length ca, .int .i64 0, .int .i64 0] TC)).alloc (.cells #[.slice B b.length cb, .int .i64 0, .int .i64 0] TC)).alloc (.cells #[.slice none 0 0, .slice none 0 0, .int .i64 0] TB)) = w3 at *
 have hb := Bld.new lo TB w3 (by omega)
 have ba := alloc_below w3 (.cells #[.slice none 0 0, .slice none 0 0, .int .i64 0] TB)
 rw [s3] at hb
 have h2 := h1.past ba
 exact ⟨⟨h2.cs, h2.bd, hb, h2.ox, h2.oy, by show ¬ w.heap.size = _; omega, by show ¬ w.heap.size + 1 = _; omega, fun q e1 e2 => by have e1' : q = w.heap.size + 1 + 1 := e1; have e2' : q = w.heap.size + 1 + 1 + 1 := e2; omega⟩, b1.trans (ba.mono (by omega))⟩
theorem specTransform_t (A B : Option Addr) (ca cb : Nat) (a b : List Pt) (w : World) (h : RdC w w.heap.size (encPs a) (.slice A a.length ca)) (h' : RdC w w.heap.size (encPs b) (.slice B b.length cb)) (hs : SmP a) (hs' : SmP b) (hoa : okOp a = true) (hob : okOp b = true) (hbal : sumK a + sumD a = sumK b + sumD b) :
  Calls Tryz.prog 102 #[.slice A a.length ca, .slice B b.length cb] w (Res2B (encPs (xformA a b)) (encPs (xformB a b)) (xformOk a b) w) := by
 obtain ⟨A_, ca_, eA, hra, _⟩ := parts_rd h
 obtain ⟨rfl, rfl⟩ : A = A_ ∧ ca = ca_ := by injection eA with e1 _ e3; exact ⟨e1, e3⟩
 obtain ⟨B_, cb_, eB, hrb, _⟩ := parts_rd h'
 obtain ⟨rfl, rfl⟩ : B = B_ ∧ cb = cb_ := by injection eB with e1 _ e3; exact ⟨e1, e3⟩
 clear eA eB
 have hlA := hs.1
 have hlB := hs'.1
 have hne : ((sumK a + sumD a) != (sumK b + sumD b)) = false := by simp [hbal]
 have HI := Lib.hid (xinv0 hoa hob hbal)
 have HOA := Lib.hid hoa
 have HOB := Lib.hid hob
 have HBAL := Lib.hid hbal
 clear hbal
 go_enter Tryz.func102, Tryz.ntmps102
 go_wp2_with fail
 refine (specOpOk_any A ca a _ hra (by omega) hs.all4).mono ?_
 rintro e w1 ⟨rfl, b1⟩
 rw [hoa]
 go_wp2_with fail
 refine (specOpOk_any B cb b _ (hrb.past b1) (by omega) hs'.all4).mono ?_
 rintro e w2 ⟨rfl, b2⟩
 rw [hob]
 have d2 := b1.trans (b2.mono b1.size)
 go_wp2_with fail
 refine (specOpFrom_any A ca a _ (hra.past d2) (by omega) hs.all4).mono ?_
 rintro e w3 ⟨rfl, b3⟩
 have d3 := d2.trans (b3.mono d2.size)
 go_wp2_with fail
 refine (specOpFrom_any B cb b _ (hrb.past d3) (by omega) hs'.all4).mono ?_
 rintro e w4 ⟨rfl, b4⟩
 have d4 := d3.trans (b4.mono d3.size)
 clear hoa hob b1 b2 d2 b3 d3 b4
 go_wp2
 obtain ⟨htt, bN⟩ := TT.new (TC := 170) (TB := 164) d4.size (h.below d4) (h'.below d4) (okOp_units HOA.out).2.1 (okOp_units HOB.out).2.1 hlA hlB
 have D := d4.trans bN
 have HTT := Lib.hid htt
 clear htt bN hne
 refine trLoop ⟨w.heap.size, w4.heap.size, w4.heap.size + 1, 170, A, ca, a, B, cb, b⟩ rfl (w4.heap.size + 1 + 1) (w4.heap.size + 1 + 1 + 1) w _ _ _ _ _ _ _ _ _ _ _ _ _ _ _ _ _ _ _ _ _ _ _ _ _ _ _ _ _ _ _ _ _ _ _ _ _ _ _ _ _ _ _ _ _ _ _ _ _ _ _ _ _ _ _ _ _ _ _ _ _ _ _ _ _ _ _ _ _ _ _ _ _ _ _ _ _ _ _ _ _ _ _ _ _ _ _ _ _ _ _ _ _ _ _ _ _ _ _ _ _ _ _ _ _ _ _ _ _ _ _ _ _ _ _ _ _ _ _ _ _ _ _ _ _ _ _ _ _ _ _ _ _ _ _ _ _ _ _ ⟨_, _, _, _, _, _, HTT.out, HI.out, D⟩ ?_
 intro act w8 hE
 clear HTT D HI
 unfold TrE at hE
 obtain ⟨u11, hE⟩ := hE
 obtain ⟨u12, hE⟩ := hE
 obtain ⟨u13, hE⟩ := hE
 obtain ⟨u14, hE⟩ := hE
 obtain ⟨u15, hE⟩ := hE
 obtain ⟨u43, hE⟩ := hE
 obtain ⟨u44, hE⟩ := hE
 obtain ⟨u45, hE⟩ := hE
 obtain ⟨u46, hE⟩ := hE
 obtain ⟨u47, hE⟩ := hE
 obtain ⟨u48, hE⟩ := hE
 obtain ⟨u49, hE⟩ := hE
 obtain ⟨u50, hE⟩ := hE
 obtain ⟨u51, hE⟩ := hE
 obtain ⟨u52, hE⟩ := hE
 obtain ⟨u53, hE⟩ := hE
 obtain ⟨u54, hE⟩ := hE
 obtain ⟨u55, hE⟩ := hE
 obtain ⟨u56, hE⟩ := hE
 obtain ⟨u57, hE⟩ := hE
 obtain ⟨u58, hE⟩ := hE
 obtain ⟨u59, hE⟩ := hE
 obtain ⟨u60, hE⟩ := hE
 obtain ⟨u61, hE⟩ := hE
 obtain ⟨u62, hE⟩ := hE
 obtain ⟨u63, hE⟩ := hE
 obtain ⟨u64, hE⟩ := hE
 obtain ⟨u65, hE⟩ := hE
 obtain ⟨u66, hE⟩ := hE
 obtain ⟨u67, hE⟩ := hE
 obtain ⟨u68, hE⟩ := hE
 obtain ⟨u69, hE⟩ := hE
 obtain ⟨u70, hE⟩ := hE
 obtain ⟨u71, hE⟩ := hE
 obtain ⟨u72, hE⟩ := hE
 obtain ⟨u73, hE⟩ := hE
 obtain ⟨u74, hE⟩ := hE
 obtain ⟨u75, hE⟩ := hE
 obtain ⟨u76, hE⟩ := hE
 obtain ⟨u77, hE⟩ := hE
 obtain ⟨u78, hE⟩ := hE
 obtain ⟨u79, hE⟩ := hE
 obtain ⟨u80, hE⟩ := hE
 obtain ⟨u81, hE⟩ := hE
 obtain ⟨u82, hE⟩ := hE
 obtain ⟨u83, hE⟩ := hE
 obtain ⟨u84, hE⟩ := hE
 obtain ⟨u85, hE⟩ := hE
 obtain ⟨u86, hE⟩ := hE
 obtain ⟨u87, hE⟩ := hE
 obtain ⟨u88, hE⟩ := hE
 obtain ⟨u89, hE⟩ := hE
 obtain ⟨u90, hE⟩ := hE
 obtain ⟨u91, hE⟩ := hE
 obtain ⟨u92, hE⟩ := hE
 obtain ⟨u93, hE⟩ := hE
 obtain ⟨u94, hE⟩ := hE
 obtain ⟨u95, hE⟩ := hE
 obtain ⟨u96, hE⟩ := hE
 obtain ⟨u97, hE⟩ := hE
 obtain ⟨u98, hE⟩ := hE
 obtain ⟨u99, hE⟩ := hE
 obtain ⟨u100, hE⟩ := hE
 obtain ⟨u101, hE⟩ := hE
 obtain ⟨u102, hE⟩ := hE
 obtain ⟨u103, hE⟩ := hE
 obtain ⟨u104, hE⟩ := hE
 obtain ⟨u105, hE⟩ := hE
 obtain ⟨u106, hE⟩ := hE
 obtain ⟨u107, hE⟩ := hE
 obtain ⟨u108, hE⟩ := hE
 obtain ⟨u109, hE⟩ := hE
 obtain ⟨u110, hE⟩ := hE
 obtain ⟨u111, hE⟩ := hE
 obtain ⟨u112, hE⟩ := hE
 obtain ⟨u113, hE⟩ := hE
 obtain ⟨u114, hE⟩ := hE
 obtain ⟨u115, hE⟩ := hE
 obtain ⟨u116, hE⟩ := hE
 obtain ⟨u117, hE⟩ := hE
 obtain ⟨u118, hE⟩ := hE
 obtain ⟨u119, hE⟩ := hE
 obtain ⟨u120, hE⟩ := hE
 obtain ⟨u121, hE⟩ := hE
 obtain ⟨u122, hE⟩ := hE
 obtain ⟨u123, hE⟩ := hE
 obtain ⟨u124, hE⟩ := hE
 obtain ⟨u125, hE⟩ := hE
 obtain ⟨u126, hE⟩ := hE
 obtain ⟨⟨O, P, L, M, ht, hi, D⟩, rfl⟩ := hE
 have HT := Lib.hid ht
 have e1 : doneN (foldN L) = xfA a b := by
  have h1 := hi.eq1
  rw [xf_nil, List.append_nil] at h1
  unfold xfA
  rw [foldN_units ht.b1.sz, h1]
 have e2 : doneN (foldN M) = xfB a b := by
  have h1 := hi.eq2
  rw [xf_nil, List.append_nil] at h1
  unfold xfB
  rw [foldN_units ht.b2.sz, h1]
 have hs1 : SmP (xfA a b) := by rw [← e1]; exact built_small ht.b1.sz (by have := hi.len; omega)
 have hs2 : SmP (xfB a b) := by rw [← e2]; exact built_small ht.b2.sz (by have := hi.len; omega)
 have HE1 := Lib.hid e1
 have HE2 := Lib.hid e2
 have HB2 := Lib.hid (show xformOk a b = (okOp (xfA a b) && okOp (xfB a b)) by unfold xformOk; rw [HOA.out, HOB.out, HBAL.out]; simp)
 clear ht hi e1 e2
 go_wp2_with fail
 refine (specDoneB O _ _ L _ HT.out.b1).mono ?_
 rintro e w9 ⟨v9, k9, rfl, o9, _, bl9, gr9⟩
 obtain ⟨b2', ap⟩ := HT.out.b2.apart gr9 (fun q hq ho => HT.out.dis q ho hq)
 rw [HE1.out] at o9
 replace D := D.trans bl9
 have HB9 := Lib.hid b2'
 have HAP := Lib.hid ap
 obtain ⟨A9, c9, rfl⟩ := sliceP o9.read
 have H9 := Lib.hid o9
 clear o9 bl9 gr9 b2' ap HE1
 have l1 := hs1.1
 have l2 := hs2.1
 generalize hUA : xfA a b = UA at *
 generalize hUB : xfB a b = UB at *
 have HUA := Lib.hid hUA
 have HUB := Lib.hid hUB
 clear hUA hUB
 go_wp2_with fail
 refine (specDoneB P _ _ M _ HB9.out).mono ?_
 rintro e w10 ⟨v10, k10, rfl, o10, in10, bl10, gr10⟩
 rw [HE2.out] at o10
 replace D := D.trans bl10
 have H9' := Lib.hid (H9.out.grew2 gr10 (fun x hx hp => HAP.out x hp hx))
 have HDS := Lib.hid (show ∀ x ∈ k9, x ∉ k10 from fun x hx hx' => by
  rcases in10 x hx' with h1 | h1
  ·exact HAP.out x h1 hx
  ·have := OwC.lt _ _ _ H9.out.ow x hx; omega)
 obtain ⟨A10, c10, rfl, r10, _⟩ := parts_rd o10.read
 have H10 := Lib.hid o10
 have hz10 := gr10.size
 obtain ⟨A9_, c9_, e9, r9, _⟩ := parts_rd H9'.out.read
 obtain ⟨rfl, rfl⟩ : A9 = A9_ ∧ c9 = c9_ := by injection e9 with q1 _ q3; exact ⟨q1, q3⟩
 clear o10 bl10 gr10 in10 H9 HAP HB9 HE2 e9 HT
 go_wp2_with fail
 refine (specOpOk_any A9 c9 UA _ r9 (by omega) hs1.all4).mono ?_
 rintro e w11 ⟨rfl, b11⟩
 replace D := D.trans (b11.mono D.size)
 cases ho1 : okOp UA
 ·have HN := Lib.hid (xform_f (a := a) (b := b) (by rw [HB2.out, ho1]; rfl))
  clear HB2
  go_wp2
  go_ret3
  rw [HN.out.1, HN.out.2.1, HN.out.2.2]
  exact nil2 D
 ·go_wp2_with fail
  refine (specOpOk_any A10 c10 UB _ (r10.past b11) (by omega) hs2.all4).mono ?_
  rintro e w12 ⟨rfl, b12⟩
  replace D := D.trans (b12.mono D.size)
  have HP9 := Lib.hid ((H9'.out.past b11).past b12)
  have HP10 := Lib.hid ((H10.out.past b11).past b12)
  have hzz := Nat.le_trans b11.size b12.size
  clear H9' H10 r9 r10 b11 b12
  cases ho2 : okOp UB
  ·have HN := Lib.hid (xform_f (a := a) (b := b) (by rw [HB2.out, ho1, ho2]; rfl))
   clear HB2
   go_wp2
   go_ret3
   rw [HN.out.1, HN.out.2.1, HN.out.2.2]
   exact nil2 D
  ·have HN := Lib.hid (show xformOk a b = true ∧ xformA a b = UA ∧ xformB a b = UB by
    have e : xformOk a b = true := by rw [HB2.out, ho1, ho2]; rfl
    exact ⟨e, by unfold xformA; rw [if_pos e, HUA.out], by unfold xformB; rw [if_pos e, HUB.out]⟩)
   clear HB2
   go_wp2
   go_ret3
   rw [HN.out.1, HN.out.2.1, HN.out.2.2]
   exact ⟨_, _, k9, k10, rfl, HP9.out.upto (Nat.le_trans hz10 hzz) (Nat.le_refl _), HP10.out.upto hzz (Nat.le_refl _), HDS.out, D⟩
theorem specTransform_d (v v' : Value) (a b : List Pt) (w : World) (h : RdC w w.heap.size (encPs a) v) (h' : RdC w w.heap.size (encPs b) v') (hs : SmP a) (hs' : SmP b) : Calls Tryz.prog 102 #[v, v'] w (Res2B (encPs (xformA a b)) (encPs (xformB a b)) (xformOk a b) w) := by
 obtain ⟨A, ca, rfl, hra, _⟩ := parts_rd h
 obtain ⟨B, cb, rfl, hrb, _⟩ := parts_rd h'
 have hlA := hs.1
 have hlB := hs'.1
 cases hoa : okOp a
 ·have HN := Lib.hid (xform_f (a := a) (b := b) (by unfold xformOk; rw [hoa]; rfl))
  go_enter Tryz.func102, Tryz.ntmps102
  go_wp2_with fail
  refine (specOpOk_any A ca a _ hra (by omega) hs.all4).mono ?_
  rintro e w1 ⟨rfl, b1⟩
  rw [hoa]
  go_wp2
  go_ret3
  rw [HN.out.1, HN.out.2.1, HN.out.2.2]
  exact nil2 b1
 cases hob : okOp b
 ·have HN := Lib.hid (xform_f (a := a) (b := b) (by unfold xformOk; rw [hoa, hob]; rfl))
  go_enter Tryz.func102, Tryz.ntmps102
  go_wp2_with fail
  refine (specOpOk_any A ca a _ hra (by omega) hs.all4).mono ?_
  rintro e w1 ⟨rfl, b1⟩
  rw [hoa]
  go_wp2_with fail
  refine (specOpOk_any B cb b _ (hrb.past b1) (by omega) hs'.all4).mono ?_
  rintro e w2 ⟨rfl, b2⟩
  rw [hob]
  have d2 := b1.trans (b2.mono b1.size)
  go_wp2
  go_ret3
  rw [HN.out.1, HN.out.2.1, HN.out.2.2]
  exact nil2 d2
 by_cases hbal : sumK a + sumD a = sumK b + sumD b
 ·exact specTransform_t A B ca cb a b w h h' hs hs' hoa hob hbal
 ·have hne : ((sumK a + sumD a) != (sumK b + sumD b)) = true := by simp [hbal]
  have HN := Lib.hid (xform_f (a := a) (b := b) (by unfold xformOk; rw [hoa, hob]; simp [hbal]))
  clear hbal
  go_enter Tryz.func102, Tryz.ntmps102
  go_wp2_with fail
  refine (specOpOk_any A ca a _ hra (by omega) hs.all4).mono ?_
  rintro e w1 ⟨rfl, b1⟩
  rw [hoa]
  go_wp2_with fail
  refine (specOpOk_any B cb b _ (hrb.past b1) (by omega) hs'.all4).mono ?_
  rintro e w2 ⟨rfl, b2⟩
  rw [hob]
  have d2 := b1.trans (b2.mono b1.size)
  go_wp2_with fail
  refine (specOpFrom_any A ca a _ (hra.past d2) (by omega) hs.all4).mono ?_
  rintro e w3 ⟨rfl, b3⟩
  have d3 := d2.trans (b3.mono d2.size)
  go_wp2_with fail
  refine (specOpFrom_any B cb b _ (hrb.past d3) (by omega) hs'.all4).mono ?_
  rintro e w4 ⟨rfl, b4⟩
  have d4 := d3.trans (b4.mono d3.size)
  go_wp2
  go_ret3
  rw [HN.out.1, HN.out.2.1, HN.out.2.2]
  exact nil2 d4
def stepPast (s : Option (List (List Pt) × List Pt)) (o : List Pt) : Option (List (List Pt) × List Pt) := match s with
 | none => none
 | some (xs, q) => if xformOk o q = true then some (xs ++ [xformA o q], xformB o q) else none
def foldPast (l : List (List Pt)) (b : List Pt) : Option (List (List Pt) × List Pt) := l.foldl stepPast (some ([], normL b))
def pastS (l : List (List Pt)) (b : List Pt) : Option (List (List Pt) × List Pt) := if okOp b = true then foldPast l b else none
def pastB (l : List (List Pt)) (b : List Pt) : Bool := (pastS l b).isSome
def pastAllT (l : List (List Pt)) (b : List Pt) : List (List Pt) := ((pastS l b).map (·.1)).getD []
def pastT (l : List (List Pt)) (b : List Pt) : List Pt := ((pastS l b).map (·.2)).getD []
theorem foldPast_snoc {l : List (List Pt)} {b : List Pt} {k : Nat} {ps : List Pt} (h : l[k]? = some ps) : foldPast (l.take (k + 1)) b = stepPast (foldPast (l.take k) b) ps := by
 unfold foldPast
 rw [List.take_add_one, h]
 simp
theorem foldlPast_none (l : List (List Pt)) : l.foldl stepPast none = none := by
 induction l with
 | nil => rfl
 | cons p l ih => exact ih
theorem foldPast_none {l : List (List Pt)} {b : List Pt} {k : Nat} (h : foldPast (l.take k) b = none) : foldPast l b = none := by
 have e : foldPast l b = (l.drop k).foldl stepPast (foldPast (l.take k) b) := by
  unfold foldPast
  rw [← List.foldl_append, List.take_append_drop]
 rw [e, h, foldlPast_none]
theorem normL_small {ps : List Pt} (h : okOp ps = true) : SmP (normL ps) := by
 obtain ⟨n1, _, _⟩ := norm_ok h
 obtain ⟨_, h1, h2⟩ := okOp_units n1
 have := signsIn_le h1
 exact ⟨by omega, by omega⟩
theorem foldPast_small {l : List (List Pt)} {b : List Pt} (hb : okOp b = true) : ∀ {k : Nat} {xs : List (List Pt)} {q : List Pt}, k ≤ l.length → foldPast (l.take k) b = some (xs, q) → SmP q ∧ xs.length = k ∧ ∀ x ∈ xs, x.length ≤ 600 ∧ signsIn x ≤ 120000
 | 0, xs, q, _, h => by
  have : xs = [] ∧ q = normL b := by simpa [foldPast, and_comm, eq_comm] using h
  obtain ⟨rfl, rfl⟩ := this
  exact ⟨normL_small hb, rfl, by simp⟩
 | k + 1, xs, q, hk, h => by
  obtain ⟨ps, hp⟩ := idx_some (l := l) (i := k) (by omega)
  rw [foldPast_snoc hp] at h
  cases hq : foldPast (l.take k) b with
  | none => rw [hq] at h; cases h
  | some u =>
   obtain ⟨ys, r⟩ := u
   obtain ⟨i1, i2, i3⟩ := foldPast_small hb (by omega) hq
   rw [hq] at h
   unfold stepPast at h
   simp only at h
   split at h
   ·rename_i hx
    injection h with h
    injection h with h1 h2
    subst h1
    subst h2
    refine ⟨xformB_sm _ _, by simp [i2], fun x hx' => ?_⟩
    rcases List.mem_append.1 hx' with hx' | hx'
    ·exact i3 x hx'
    ·simp at hx'
     subst hx'
     unfold xformA
     rw [if_pos hx]
     unfold xformOk at hx
     rw [Bool.and_eq_true, Bool.and_eq_true] at hx
     obtain ⟨_, h1, h2⟩ := okOp_units hx.1.2
     have := signsIn_le h1
     exact ⟨by omega, by omega⟩
   ·cases h
theorem past_f {l : List (List Pt)} {b : List Pt} (h : pastS l b = none) : pastB l b = false ∧ pastAllT l b = [] ∧ pastT l b = [] := by
 unfold pastB pastAllT pastT
 rw [h]
 exact ⟨rfl, rfl, rfl⟩
theorem past_t {l : List (List Pt)} {b : List Pt} {xs : List (List Pt)} {q : List Pt} (h : pastS l b = some (xs, q)) : pastB l b = true ∧ pastAllT l b = xs ∧ pastT l b = q := by
 unfold pastB pastAllT pastT
 rw [h]
 exact ⟨rfl, rfl, rfl⟩
theorem pastT_sm (l : List (List Pt)) (b : List Pt) : SmP (pastT l b) := by
 cases h : pastS l b with
 | none => rw [(past_f h).2.2]; exact smP_nil
 | some u =>
  obtain ⟨xs, q⟩ := u
  rw [(past_t h).2.2]
  unfold pastS at h
  split at h
  ·rename_i hb
   exact (foldPast_small hb (Nat.le_refl l.length) (by rw [List.take_length]; exact h)).1
  ·cases h
theorem nilPP {w w' : World} (hb : Below w.heap.size w w') : Res2B (encPss []) (encPs []) false w (.returned (.tuple #[.slice none 0 0, .slice none 0 0, .bool false])) w' := by
 obtain ⟨b1, o1⟩ := (nilOwn (encPss []) w' rfl hb.size).blocks
 obtain ⟨b2, o2⟩ := (nilOwn (encPs []) w' rfl hb.size).blocks
 have e : b1 = [] := by obtain ⟨_, _, ho, hr, he⟩ := o1.ow; obtain ⟨_, hc⟩ := hr; rw [he, hc]; rfl
 subst e
 exact ⟨_, _, [], b2, rfl, o1, o2, by simp, hb⟩
def PastR (lo : Nat) (w : World) (o q : Value) (xs : List (List Pt)) (cur : List Pt) : Prop := ∃ b1 b2, OwB lo w.heap.size w (encPss xs) o b1 ∧ OwB lo w.heap.size w (encPs cur) q b2 ∧ ∀ x ∈ b1, x ∉ b2
theorem specPast5_d (v v' : Value) (l : List (List Pt)) (b : List Pt) (w : World) (h : RdC w w.heap.size (encPss l) v) (h' : RdC w w.heap.size (encPs b) v') (hs : SmPP l) (hs' : SmP b) : Calls Tryz.prog 77 #[v, v'] w (Res2B (encPss (pastAllT l b)) (encPs (pastT l b)) (pastB l b) w) := by
 obtain ⟨A, c, rfl⟩ := pss_len h
 obtain ⟨B, cb, rfl, hrb, _⟩ := parts_rd h'
 obtain ⟨i0, hi0, hz0, hz1, hz2⟩ := info_parts pss_info
 have hl := hs.1
 have hlb := hs'.1
 cases hob : okOp b
 ·have HN := Lib.hid (past_f (l := l) (b := b) (by unfold pastS; rw [hob]; rfl))
  go_enter Tryz.func77, Tryz.ntmps77
  go_wp2_with fail
  refine (specOpOk_any B cb b _ hrb (by omega) hs'.all4).mono ?_
  rintro e w1 ⟨rfl, b1⟩
  rw [hob]
  go_wp2
  go_ret3
  rw [HN.out.1, HN.out.2.1, HN.out.2.2]
  exact nilPP b1
 ·have HOB := Lib.hid hob
  go_enter Tryz.func77, Tryz.ntmps77
  go_wp2_with fail
  refine (specOpOk_any B cb b _ hrb (by omega) hs'.all4).mono ?_
  rintro e w1 ⟨rfl, b1⟩
  rw [hob]
  clear hob
  go_wp2_with fail
  have hbn := b1.trans ((alloc_below w1 (.cells #[] 37)).mono b1.size)
  have hib : OwB w.heap.size (w1.alloc (.cells #[] 37)).heap.size (w1.alloc (.cells #[] 37)) (encPss []) (.slice (some ⟨w1.heap.size, 0, none⟩) 0 0) [w1.heap.size] :=
   ⟨⟨[], [], ⟨rfl, .inr ⟨w1.heap.size, 0, #[], rfl, Nat.zero_le _, heap_alloc_new w1 _, Nat.le_refl _, by unfold maxLen; omega, rfl, rfl⟩⟩, ⟨rfl, rfl⟩, rfl⟩, by simp, fun x hx => by obtain rfl : x = w1.heap.size := (by simpa using hx); exact ⟨b1.size, lt_of_some (heap_alloc_new w1 _)⟩, Nat.le_refl _, hbn.size⟩
  generalize w1.alloc (.cells #[] 37) = w2 at *
  generalize (Value.slice (some ⟨w1.heap.size, 0, none⟩) 0 0) = v0 at *
  refine (specOpNorm_d _ b w2 (h'.past hbn) hs').mono ?_
  rintro e w3 ⟨v3, rfl, o3, b3⟩
  obtain ⟨k3, o3⟩ := o3.blocks
  have HR0 := Lib.hid (show PastR w.heap.size w3 v0 v3 [] (normL b) from ⟨_, _, (hib.past b3).upto b3.size (Nat.le_refl _), ⟨o3.ow, o3.nd, fun x hx => ⟨Nat.le_trans hbn.size (o3.rng x hx).1, (o3.rng x hx).2⟩, o3.top, Nat.le_trans hbn.size o3.le⟩, fun x hx hx' => by have q1 := (hib.rng x hx).2; have q2 := (o3.rng x hx').1; omega⟩)
  have D := hbn.trans (b3.mono hbn.size)
  clear o3 b3 hib hbn b1
  obtain ⟨A0, c0, rfl⟩ : ∃ A0 c0, v0 = .slice A0 0 c0 := by obtain ⟨_, _, h1, _⟩ := HR0.out; exact pss_len h1.read
  obtain ⟨A3, c3, rfl⟩ : ∃ A3 c3, v3 = .slice A3 (normL b).length c3 := by obtain ⟨_, _, _, h1, _⟩ := HR0.out; exact sliceP h1.read
  go_wp2
  go_loopw [7, 8, 22] (fun o q i wr => ∃ (k : Nat) (xs : List (List Pt)) (cur : List Pt), k ≤ l.length ∧ i = .int .i64 k ∧ foldPast (l.take k) b = some (xs, cur) ∧ PastR w.heap.size wr o q xs cur ∧ Below w.heap.size w wr) (fun _ _ i _ => l.length - (intOf i).toNat)
  case atStart => exact ⟨0, [], normL b, Nat.zero_le _, rfl, rfl, HR0.out, D⟩
  case round =>
   obtain ⟨k, xs, cur, hk, rfl, hf, hpr, hbel⟩ := hrel
   clear HR0 D
   have HF := Lib.hid hf
   obtain ⟨hsc, hxl, hxs⟩ := foldPast_small HOB.out hk hf
   have HXL := Lib.hid hxl
   clear hf hxs hxl
   obtain ⟨b1, b2, o1, o2, dis⟩ := hpr
   obtain ⟨A1, c1, rfl⟩ := pss_len o1.read
   obtain ⟨A2, c2, rfl⟩ := sliceP o2.read
   have HO1 := Lib.hid o1
   have HO2 := Lib.hid o2
   have HDS := Lib.hid dis
   clear o1 o2 dis
   by_cases hlt : k < l.length
   ·obtain ⟨ad, ps, A4, c4, rfl, hb, hp, hc, hprd⟩ := pss_at (h.below hbel) hlt
    have K1 := Lib.hid (foldPast_snoc (b := b) hp)
    rw [HF.out] at K1
    have hsp := hs.all ps (List.mem_of_getElem? hp)
    clear hp
    have HPR := Lib.hid (RdC.more hbel.size _ _ hprd)
    clear hprd
    have hxl2 : xs.length ≤ 1048576 := by rw [HXL.out]; omega
    go_wp2_with fail
    refine (specTransform_d _ _ ps cur _ HPR.out HO2.out.read hsp hsc).mono ?_
    rintro e w4 ⟨x4, y4, kx, ky, rfl, ox, oy, ds4, b4⟩
    obtain ⟨A5, c5, rfl⟩ := sliceP ox.read
    obtain ⟨A6, c6, rfl⟩ := sliceP oy.read
    have hz4 := b4.size
    have HX := Lib.hid ox
    have HY := Lib.hid oy
    have HDS4 := Lib.hid ds4
    have D4 := hbel.trans (b4.mono hbel.size)
    clear ox oy ds4
    cases hfit : xformOk ps cur
    ·have HN := Lib.hid (past_f (l := l) (b := b) (by
      have : foldPast l b = none := foldPast_none (k := k + 1) (by rw [K1.out]; simp [stepPast, hfit])
      unfold pastS; rw [this]; simp))
     go_wp2
     go_ret3
     rw [HN.out.1, HN.out.2.1, HN.out.2.2]
     exact nilPP D4
    ·have K2 := Lib.hid (show foldPast (l.take (k + 1)) b = some (xs ++ [xformA ps cur], xformB ps cur) by rw [K1.out]; simp [stepPast, hfit])
     have bA := alloc_below w4 (.cells #[.slice A5 (xformA ps cur).length c5] 37)
     have HO1' := Lib.hid ((HO1.out.past b4).past bA)
     have HX' := Lib.hid (HX.out.past bA)
     have HY' := Lib.hid (HY.out.past bA)
     have hnews : ∀ (j : Nat) (u : Value), [Value.slice A5 (xformA ps cur).length c5][j]? = some u → (w4.alloc (.cells #[.slice A5 (xformA ps cur).length c5] 37)).cell? ((⟨w4.heap.size, 0, none⟩ : Addr).add j) = some u := fun j u hu => by
      cases j with
      | zero =>
       simp at hu
       subst hu
       exact cell_of_row _ _ 0 _ _ _ (heap_alloc_new w4 _)
      | succ j => simp at hu
     have HNW := Lib.hid hnews
     have hlx : (xs.map fun ps => [encPs ps]).length ≤ 2000000 := by rw [List.length_map]; omega
     have DA := D4.trans (bA.mono D4.size)
     have hlo := hbel.size
     clear hnews bA
     go_wp2_with (at_builtin; refine wpList_append_row rfl (.tmp 35) (.tmp 37) 90 rfl 37 i0 (.slice none 0 0) 1 24 Tryz.underlying90 hi0 hz0 hz1 hz2 rfl (by decide) (by decide) w.heap.size _ (.slice A1 xs.length c1) (xs.map fun ps => [encPs ps]) b1 HO1'.out rfl hlx ⟨w4.heap.size, 0, none⟩ _ [.slice A5 (xformA ps cur).length c5] rfl rfl HNW.out (by simp [Value.oneCell']) [encPs (xformA ps cur)] kx HX'.out.ow.row1 HX.out.nd (fun q hq hq' => by have q1 := (HO1.out.rng q hq).2; have q2 := (HX.out.rng q hq').1; omega) (fun q hq => by have q2 := (HX.out.rng q hq).1; omega) ?_; intro A7 c7 w7 b7 o7 in7 g7 bl7)
     have o7' : OwB w.heap.size w7.heap.size w7 (encPss (xs ++ [xformA ps cur])) (.slice A7 (xs.length + 1) c7) b7 := by
      have e : encPss (xs ++ [xformA ps cur]) = .rows 37 1 ((xs.map fun ps => [encPs ps]) ++ [[encPs (xformA ps cur)]]) := by unfold encPss; rw [List.map_append]; rfl
      rw [e]
      simpa using o7
     have HPR7 := Lib.hid (show PastR w.heap.size w7 (.slice A7 (xs.length + 1) c7) (.slice A6 (xformB ps cur).length c6) (xs ++ [xformA ps cur]) (xformB ps cur) from by
      have oy7 := HY'.out.grew2 g7 (fun q hq hq' => by have q1 := (HO1.out.rng q hq').2; have q2 := (HY.out.rng q hq).1; omega)
      refine ⟨b7, ky, o7', ⟨oy7.ow, oy7.nd, fun q hq => ⟨by have q2 := (HY.out.rng q hq).1; omega, ?_⟩, Nat.le_refl _, (DA.trans bl7).size⟩, fun q hq hq' => ?_⟩
      ·exact OwC.lt _ _ _ oy7.ow q hq
      ·rcases in7 q hq with h1 | h1 | h1
       ·have q1 := (HO1.out.rng q h1).2; have q2 := (HY.out.rng q hq').1; omega
       ·exact HDS4.out q h1 hq'
       ·have q1 := (HY.out.rng q hq').2
        have q3 : w4.heap.size ≤ q := by simp at h1; omega
        omega)
     have D7 := DA.trans bl7
     clear o7 o7' in7 g7 bl7 HO1' HX' HY' HNW
     go_wp2
     go_roundw
     case rel => exact ⟨k + 1, _, _, by omega, by go_num, K2.out, by simpa using HPR7.out, D7⟩
     case measure => simp [intOf]; omega
   ·have hke : l.take k = l := List.take_of_length_le (by omega)
    have HN := Lib.hid (past_t (l := l) (b := b) (xs := xs) (q := cur) (by unfold pastS; rw [if_pos HOB.out, ← HF.out, hke]))
    go_wp2
    go_ret3
    rw [HN.out.1, HN.out.2.1, HN.out.2.2]
    exact ⟨_, _, b1, b2, rfl, HO1.out, HO2.out, HDS.out, hbel⟩
theorem specPast_d (v v' : Value) (l : List (List Pt)) (b : List Pt) (w : World) (h : RdC w w.heap.size (encPss l) v) (h' : RdC w w.heap.size (encPs b) v') (hs : SmPP l) (hs' : SmP b) : Calls Tryz.prog 53 #[v, v'] w (ResB (encPs (pastT l b)) (pastB l b) w) := by
 obtain ⟨A, c, rfl⟩ := pss_len h
 obtain ⟨B, cb, rfl⟩ := sliceP h'
 go_enter Tryz.func53, Tryz.ntmps53
 go_wp2_with fail
 refine (specPast5_d _ _ l b _ h h' hs hs').mono ?_
 rintro e w1 ⟨x, y, kx, ky, rfl, ox, oy, ds, b1⟩
 obtain ⟨A1, c1, rfl⟩ := pss_len ox.read
 obtain ⟨A2, c2, rfl⟩ := sliceP oy.read
 have HY := Lib.hid oy
 clear ox oy ds
 generalize pastB l b = q at *
 go_wp2
 go_ret2
 exact ⟨_, rfl, ⟨ky, HY.out.ow, HY.out.nd, HY.out.rng, HY.out.top, HY.out.le⟩, b1⟩
theorem specOpOk_r (v : Value) (ps : List Pt) (w : World) (h : RdC w w.heap.size (encPs ps) v) (hs : SmP ps) : Calls Tryz.prog 21 #[v] w (Tells (okOp ps) w) := by
 obtain ⟨A, c, rfl, hr, _⟩ := parts_rd h
 exact specOpOk_any A c ps w hr (by have := hs.1; omega) (fun p hp => by have := hs.all p hp; omega)
theorem specOpFrom_r (v : Value) (ps : List Pt) (w : World) (h : RdC w w.heap.size (encPs ps) v) (hs : SmP ps) : Calls Tryz.prog 48 #[v] w (Nums1 (sumK ps + sumD ps) w) := by
 obtain ⟨A, c, rfl, hr, _⟩ := parts_rd h
 exact specOpFrom_any A c ps w hr (by have := hs.1; omega) (fun p hp => by have := hs.all p hp; omega)
def rebCode (x : Do) (base : Int) (o : List Pt) : Int :=
 if docB x = false then 1 else if okOp o = false then 1 else if headRevT x < base then 2 else if base < x.from_ then 3 else if ¬ sumK o + sumD o = ((textAtT x base).length : Int) then 1 else if pastB (opsSinceT x base) o = false then 5 else if fitsB (pastT (opsSinceT x base) o) (headTextT x) = false then 5 else 0
def rebOp (x : Do) (base : Int) (o : List Pt) : List Pt := if rebCode x base o = 0 then pastT (opsSinceT x base) o else []
theorem reb_no {x : Do} {base : Int} {o : List Pt} {k : Int} (hk : ¬ k = 0) (h : rebCode x base o = k) : rebCode x base o = k ∧ rebOp x base o = [] := ⟨h, by unfold rebOp; rw [h, if_neg hk]⟩
theorem reb_yes {x : Do} {base : Int} {o : List Pt} (h : rebCode x base o = 0) : rebCode x base o = 0 ∧ rebOp x base o = pastT (opsSinceT x base) o := ⟨h, by unfold rebOp; rw [h, if_pos rfl]⟩
theorem bulk_map : ∀ l : List En, bulk (l.map En.o) = sumN totEn l
 | [] => rfl
 | e :: l => by
  have ih := bulk_map l
  rw [sumN_cons, ← ih]
  simp [bulk, totEn, totP]
theorem opsSince_pp {x : Do} {r : Int} (hd : docB x = true) : SmPP (opsSinceT x r) := by
 have hi := docB_in hd
 have h1 := sumN_drop totEn x.list (r - x.from_).toNat
 have h2 := hi.ops
 have h3 := hi.list
 unfold opsSinceT
 split
 ·refine ⟨by simp; omega, ?_⟩
  rw [bulk_map]
  omega
 ·exact ⟨by simp, by simp [bulk]⟩
theorem specRebase_d (v v2 : Value) (x : Do) (base : Int) (o : List Pt) (w : World) (h : RdC w w.heap.size (datDo x) v) (h2 : RdC w w.heap.size (encPs o) v2) (hs : SmDo x) (hs2 : SmP o) : Calls Tryz.prog 24 #[v, .int .i64 base, v2] w (ResN (encPs (rebOp x base o)) (rebCode x base o) w) := by
 have HR := Lib.hid h
 have HO := Lib.hid h2
 obtain ⟨A2, c2, A3, c3, A4, c4, rfl, -, -, -⟩ := aggDo h
 obtain ⟨Ao, co, rfl⟩ := sliceP h2
 clear h h2
 have hl := hs.list.len
 have HM := Lib.hid (Ms.start w)
 replace HM := Lib.hid (HM.out.new #[.string x.name, .int .i64 x.from_, .slice A2 x.text.length c2, .slice A3 x.list.length c3, .slice A4 x.seen.length c4] 33)
 go_enter Tryz.func24, Tryz.ntmps24
 go_wp2_with fail
 obtain ⟨W1, hW, hm⟩ := HM.out.name
 rw [← hW]
 replace HM := Lib.hid hm
 clear hm hW
 refine (specDocOk_d _ x _ (HM.out.arg HR.out) hs).mono ?_
 rintro e' W2 ⟨rfl, b'⟩
 replace HM := Lib.hid (HM.out.past b')
 clear b'
 cases hd : docB x
 ·have HN := Lib.hid (reb_no (k := 1) (by decide) (show rebCode x base o = 1 by unfold rebCode; simp [hd]))
  go_wp2
  go_ret2
  rw [HN.out.1, HN.out.2]
  exact (HM.out.nil 68 3).resN 1
 go_wp2_with fail
 refine (specOpOk_r _ o _ (HM.out.arg HO.out) hs2).mono ?_
 rintro e' W3 ⟨rfl, b'⟩
 replace HM := Lib.hid (HM.out.past b')
 clear b'
 cases ho : okOp o
 ·have HN := Lib.hid (reb_no (k := 1) (by decide) (show rebCode x base o = 1 by unfold rebCode; simp [hd, ho]))
  go_wp2
  go_ret2
  rw [HN.out.1, HN.out.2]
  exact (HM.out.nil 68 3).resN 1
 obtain ⟨kx0, kx1, kx2, kx3, kx4⟩ := HM.out.c5 0 rfl
 go_wp2_with fail
 clear kx0 kx1 kx2 kx3 kx4
 refine (specHeadRev_d _ x _ (HM.out.arg HR.out) hs).mono ?_
 rintro e' W4 ⟨rfl, b'⟩
 replace HM := Lib.hid (HM.out.past b')
 clear b'
 by_cases h3 : headRevT x < base
 ·have HN := Lib.hid (reb_no (k := 2) (by decide) (show rebCode x base o = 2 by unfold rebCode; simp [hd, ho, h3]))
  have g3 : decide (headRevT x < base) = true := decide_eq_true h3
  go_wp2
  go_ret2
  rw [HN.out.1, HN.out.2]
  exact (HM.out.nil 68 3).resN 2
 have g3 : decide (headRevT x < base) = false := decide_eq_false h3
 by_cases h4 : base < x.from_
 ·have HN := Lib.hid (reb_no (k := 3) (by decide) (show rebCode x base o = 3 by have e3 : ¬ headRevT x < base := (by omega); unfold rebCode; simp [hd, ho, e3, h4]))
  have g4 : decide (base < x.from_) = true := decide_eq_true h4
  obtain ⟨kx0, kx1, kx2, kx3, kx4⟩ := HM.out.c5 0 rfl
  go_wp2
  go_ret2
  rw [HN.out.1, HN.out.2]
  exact (HM.out.nil 68 3).resN 3
 have g4 : decide (base < x.from_) = false := decide_eq_false h4
 obtain ⟨kx0, kx1, kx2, kx3, kx4⟩ := HM.out.c5 0 rfl
 go_wp2_with fail
 clear kx0 kx1 kx2 kx3 kx4
 refine (specTextAt_d _ x _ _ (HM.out.arg HR.out) hs).mono ?_
 rintro e' W5 ⟨v', rfl, o', b'⟩
 obtain ⟨At, ct, rfl⟩ := sliceI o'.read
 obtain ⟨bt, hm⟩ := HM.out.got o' b'
 clear o' b' g3 g4
 replace HM := Lib.hid hm
 clear hm
 go_wp2_with fail
 refine (specOpFrom_r _ o _ (HM.out.arg HO.out) hs2).mono ?_
 rintro e' W6 ⟨rfl, b'⟩
 replace HM := Lib.hid (HM.out.past b')
 clear b'
 by_cases h5 : sumK o + sumD o = ((textAtT x base).length : Int)
 rotate_left
 ·have HN := Lib.hid (reb_no (k := 1) (by decide) (show rebCode x base o = 1 by have e3 : ¬ headRevT x < base := (by omega); have e4 : ¬ base < x.from_ := (by omega); unfold rebCode; simp [hd, ho, e3, e4, h5]))
  have g5 : ((sumK o + sumD o) != ((textAtT x base).length : Int)) = true := by simpa using h5
  go_wp2
  go_ret2
  rw [HN.out.1, HN.out.2]
  exact (HM.out.nil 68 3).resN 1
 have g5 : ((sumK o + sumD o) != ((textAtT x base).length : Int)) = false := by simpa using h5
 obtain ⟨kx0, kx1, kx2, kx3, kx4⟩ := HM.out.c5 1 rfl
 go_wp2_with fail
 clear kx0 kx1 kx2 kx3 kx4
 refine (specOpsSince_d _ x _ _ (HM.out.arg HR.out) hs).mono ?_
 rintro e' W7 ⟨v', rfl, o', b'⟩
 obtain ⟨Al, nl, cl, rfl⟩ := sliceV o'.read
 obtain ⟨bl, hm⟩ := HM.out.got o' b'
 clear o' b' g5
 replace HM := Lib.hid hm
 clear hm
 go_wp2_with fail
 refine (specPast_d _ _ (opsSinceT x base) o _ (HM.out.read (i := 0) rfl) (HM.out.arg HO.out) (opsSince_pp hd) hs2).mono ?_
 rintro e' W8 ⟨v', rfl, o', b'⟩
 obtain ⟨Aq, nq, cq, rfl⟩ := sliceV o'.read
 obtain ⟨bq, hm⟩ := HM.out.got o' b'
 clear o' b'
 replace HM := Lib.hid hm
 clear hm
 cases hp : pastB (opsSinceT x base) o
 ·have HN := Lib.hid (reb_no (k := 5) (by decide) (show rebCode x base o = 5 by have e3 : ¬ headRevT x < base := (by omega); have e4 : ¬ base < x.from_ := (by omega); unfold rebCode; simp [hd, ho, e3, e4, h5, hp]))
  go_wp2
  go_ret2
  rw [HN.out.1, HN.out.2]
  exact (HM.out.nil 68 3).resN 5
 obtain ⟨kx0, kx1, kx2, kx3, kx4⟩ := HM.out.c5 3 rfl
 go_wp2_with fail
 clear kx0 kx1 kx2 kx3 kx4
 refine (specHeadText_d _ x _ (HM.out.arg HR.out) hs).mono ?_
 rintro e' W9 ⟨v', rfl, o', b'⟩
 obtain ⟨Ah, nh, ch, rfl⟩ := sliceV o'.read
 obtain ⟨bh, hm⟩ := HM.out.got o' b'
 clear o' b'
 replace HM := Lib.hid hm
 clear hm
 go_wp2_with fail
 refine (specApply_d _ _ (pastT (opsSinceT x base) o) (headTextT x) _ (HM.out.read (i := 1) rfl) (HM.out.read (i := 0) rfl) (pastT_sm _ _) (headText_small hs)).mono ?_
 rintro e' W10 ⟨v', rfl, o', b'⟩
 obtain ⟨Ay, ny, cy, rfl⟩ := sliceV o'.read
 clear o'
 replace HM := Lib.hid (HM.out.past b')
 clear b'
 cases hf : fitsB (pastT (opsSinceT x base) o) (headTextT x)
 ·have HN := Lib.hid (reb_no (k := 5) (by decide) (show rebCode x base o = 5 by have e3 : ¬ headRevT x < base := (by omega); have e4 : ¬ base < x.from_ := (by omega); unfold rebCode; simp [hd, ho, e3, e4, h5, hp, hf]))
  go_wp2
  go_ret2
  rw [HN.out.1, HN.out.2]
  exact (HM.out.nil 68 3).resN 5
 have HN := Lib.hid (reb_yes (show rebCode x base o = 0 by have e3 : ¬ headRevT x < base := (by omega); have e4 : ¬ base < x.from_ := (by omega); unfold rebCode; simp [hd, ho, e3, e4, h5, hp, hf]))
 go_wp2
 go_ret2
 have hm := HM.out.pk [1, 0, 2, 3, 4] (by decide) (by simp)
 simp only [low.pk, low.gz, low.gs] at hm
 replace HM := Lib.hid hm
 clear hm
 rw [HN.out.1, HN.out.2]
 exact HM.out.resN 0
def putGo (c s r : Int) : List Se → Bool → List Se
 | [], done => if done = true then [] else [⟨c, s, r⟩]
 | e :: l, done => if e.client = c then putGo c s r l done else if done = false ∧ c < e.client then ⟨c, s, r⟩ :: e :: putGo c s r l true else e :: putGo c s r l done
theorem putGo_skip {c s r : Int} {l : List Se} {j : Nat} {e : Se} {done : Bool} (h : l[j]? = some e) (hc : e.client = c) : putGo c s r (l.drop j) done = putGo c s r (l.drop (j + 1)) done := by
 obtain ⟨hlt, e'⟩ := List.getElem?_eq_some_iff.1 h
 rw [List.drop_eq_getElem_cons hlt, e', putGo, if_pos hc]
theorem putGo_two {c s r : Int} {l : List Se} {j : Nat} {e : Se} (h : l[j]? = some e) (hc : ¬ e.client = c) (h2 : c < e.client) : putGo c s r (l.drop j) false = ⟨c, s, r⟩ :: e :: putGo c s r (l.drop (j + 1)) true := by
 obtain ⟨hlt, e'⟩ := List.getElem?_eq_some_iff.1 h
 rw [List.drop_eq_getElem_cons hlt, e', putGo, if_neg hc, if_pos ⟨rfl, h2⟩]
theorem putGo_one {c s r : Int} {l : List Se} {j : Nat} {e : Se} {done : Bool} (h : l[j]? = some e) (hc : ¬ e.client = c) (h2 : ¬ (done = false ∧ c < e.client)) : putGo c s r (l.drop j) done = e :: putGo c s r (l.drop (j + 1)) done := by
 obtain ⟨hlt, e'⟩ := List.getElem?_eq_some_iff.1 h
 rw [List.drop_eq_getElem_cons hlt, e', putGo, if_neg hc, if_neg h2]
theorem putGo_len (c s r : Int) : ∀ (l : List Se) (done : Bool), (putGo c s r l done).length ≤ l.length + 1
 | [], done => by unfold putGo; split <;> simp
 | e :: l, done => by
  have h1 := putGo_len c s r l done
  have h2 := putGo_true c s r l
  unfold putGo
  split
  ·simp; omega
  ·split
   ·simp; omega
   ·simp; omega
where putGo_true (c s r : Int) : ∀ l : List Se, (putGo c s r l true).length ≤ l.length
 | [] => by simp [putGo]
 | e :: l => by
  have := putGo_true c s r l
  unfold putGo
  split
  ·simp; omega
  ·simp; omega
def firstO (l : List En) : List Pt := match l with | [] => [] | e :: _ => e.o
def moreL (x : Do) (c s : Int) (q : List Pt) : List En := x.list ++ [⟨c, s, q⟩]
def commitT (x : Do) (c s : Int) (q : List Pt) : Do :=
 if 8 < x.list.length + 1 then ⟨x.name, x.from_ + 1, applyT (firstO (moreL x c s q)) x.text, (moreL x c s q).drop 1, putGo c s (x.from_ + (x.list.length : Int) + 1) x.seen false⟩
 else ⟨x.name, x.from_, x.text, moreL x c s q, putGo c s (x.from_ + (x.list.length : Int) + 1) x.seen false⟩
def subCode (x : Do) (c s base : Int) (o : List Pt) : Int :=
 if docB x = false then 1 else if inB c 1 8 = false then 1 else if inB s 1 1000000000 = false then 1 else if okOp o = false then 1 else
 if seenOfB x c = true ∧ (seenOfT x c).seq = s then 0 else if ¬ s = (seenOfT x c).seq + 1 then 4 else if ¬ rebCode x base o = 0 then rebCode x base o else if 999999000 ≤ headRevT x then 5 else 0
def subDo (x : Do) (c s base : Int) (o : List Pt) : Do := if subCode x c s base o = 0 then (if seenOfB x c = true ∧ (seenOfT x c).seq = s then x else commitT x c s (rebOp x base o)) else noDo
def subRev (x : Do) (c s base : Int) (o : List Pt) : Int := if subCode x c s base o = 0 then (if seenOfB x c = true ∧ (seenOfT x c).seq = s then (seenOfT x c).rev else x.from_ + (x.list.length : Int) + 1) else 0
theorem sub_no {x : Do} {c s base : Int} {o : List Pt} {k : Int} (hk : ¬ k = 0) (h : subCode x c s base o = k) : subCode x c s base o = k ∧ subDo x c s base o = noDo ∧ subRev x c s base o = 0 := ⟨h, by unfold subDo; rw [h, if_neg hk], by unfold subRev; rw [h, if_neg hk]⟩
theorem seenGo_bd {c h : Int} : ∀ {l : List Se} {p : Option Int} {s : Se}, seenAllB h p l = true → seenGo c l = some s → 1 ≤ s.seq ∧ s.seq ≤ 1000000000
 | [], _, _, _, hg => by simp [seenGo] at hg
 | e :: l, p, s, ha, hg => by
  unfold seenAllB seenOneB at ha
  simp only [Bool.and_eq_true] at ha
  unfold seenGo at hg
  split at hg
  ·injection hg with hg
   subst hg
   have := ha.1.1.1.2
   unfold inB at this
   exact of_decide_eq_true this
  ·exact seenGo_bd ha.2 hg
theorem seenOf_bd {x : Do} (c : Int) (hd : docB x = true) : 0 ≤ (seenOfT x c).seq ∧ (seenOfT x c).seq ≤ 1000000000 := by
 unfold docB at hd
 simp only [Bool.and_eq_true] at hd
 unfold seenOfT
 cases h : seenGo c x.seen with
 | none => simp
 | some s => have := seenGo_bd hd.2 h; simp; omega
theorem sub_again {x : Do} {c s base : Int} {o : List Pt} (hd : docB x = true) (hc : inB c 1 8 = true) (hq : inB s 1 1000000000 = true) (ho : okOp o = true) (hse : seenOfB x c = true) (h6 : (seenOfT x c).seq = s) : subCode x c s base o = 0 ∧ subDo x c s base o = x ∧ subRev x c s base o = (seenOfT x c).rev := by
 have e : subCode x c s base o = 0 := by unfold subCode; simp [hd, hc, hq, ho, hse, h6]
 exact ⟨e, by unfold subDo; simp [e, hse, h6], by unfold subRev; simp [e, hse, h6]⟩
def SubGo (x : Do) (c s base : Int) (o : List Pt) : Prop := docB x = true ∧ inB c 1 8 = true ∧ inB s 1 1000000000 = true ∧ okOp o = true ∧ ¬ (seenOfB x c = true ∧ (seenOfT x c).seq = s) ∧ s = (seenOfT x c).seq + 1 ∧ rebCode x base o = 0 ∧ ¬ (999999000 : Int) ≤ headRevT x
theorem specSubmit_no (v v2 : Value) (x : Do) (c s base : Int) (o : List Pt) (w : World) (h : RdC w w.heap.size (datDo x) v) (h2 : RdC w w.heap.size (encPs o) v2) (hs : SmDo x) (hs2 : SmP o) (hgo : ¬ SubGo x c s base o) : Calls Tryz.prog 6 #[v, .int .i64 c, .int .i64 s, .int .i64 base, v2] w (RdNN (datDo (subDo x c s base o)) (subRev x c s base o) (subCode x c s base o) w) := by
 have HR := Lib.hid h
 have HO := Lib.hid h2
 obtain ⟨A2, c2, A3, c3, A4, c4, rfl, -, -, -⟩ := aggDo h
 obtain ⟨Ao, co, rfl⟩ := sliceP h2
 clear h h2
 have hl := hs.list.len
 have HM := Lib.hid (Ms.start w)
 replace HM := Lib.hid (HM.out.new #[.string x.name, .int .i64 x.from_, .slice A2 x.text.length c2, .slice A3 x.list.length c3, .slice A4 x.seen.length c4] 33)
 have hm := HM.out.new #[.string ⟨#[]⟩, .int .i64 0, .slice none 0 0, .slice none 0 0, .slice none 0 0] 33
 simp only [World.size_alloc] at hm
 replace HM := Lib.hid hm
 clear hm
 go_enter Tryz.func6, Tryz.ntmps6
 go_wp2_with fail
 obtain ⟨W1, hW, hm⟩ := HM.out.name
 rw [← hW]
 replace HM := Lib.hid hm
 clear hm hW
 refine (specDocOk_d _ x _ (HM.out.arg HR.out) hs).mono ?_
 rintro e' W2 ⟨rfl, b'⟩
 replace HM := Lib.hid (HM.out.past b')
 clear b'
 cases hd : docB x
 ·have HN := Lib.hid (sub_no (k := 1) (by decide) (show subCode x c s base o = 1 by unfold subCode; simp [hd]))
  obtain ⟨kr0, kr1, kr2, kr3, kr4⟩ := HM.out.c5 0 rfl
  obtain ⟨fr0, fr1, fr2, fr3, fr4⟩ := HM.out.f5 0 rfl
  go_wp2
  clear kr0 kr1 kr2 kr3 kr4 fr0 fr1 fr2 fr3 fr4
  have hm := HM.out.putRow (ys := [.string ⟨#[]⟩, .int .i64 0, .slice none 0 0, .slice none 0 0, .slice none 0 0]) rfl
  simp only [low.putRow, Nat.zero_add, Nat.reduceAdd] at hm
  replace HM := Lib.hid hm
  clear hm
  obtain ⟨W3, hW, hm⟩ := HM.out.name
  rw [← hW]
  replace HM := Lib.hid hm
  clear hm hW
  obtain ⟨kr0, kr1, kr2, kr3, kr4⟩ := HM.out.c5 0 rfl
  rw [HN.out.1, HN.out.2.1, HN.out.2.2]
  exact bodyPost_ret (v := .tuple #[.agg #[.string ⟨#[]⟩, .int .i64 0, .slice none 0 0, .slice none 0 0, .slice none 0 0], .int .i64 0, .int .i64 (1)]) (by simp [results, Tryz.results6, go_sem, kr0, kr1, kr2, kr3, kr4]) rfl (HM.out.noDo.still.rdNN 0 (1))
 go_wp2_with fail
 refine (in_any c 1 8 _).mono ?_
 rintro e' w' ⟨rfl, rfl⟩
 cases hc : inB c 1 8
 ·have HN := Lib.hid (sub_no (k := 1) (by decide) (show subCode x c s base o = 1 by unfold subCode; simp [hd, hc]))
  obtain ⟨kr0, kr1, kr2, kr3, kr4⟩ := HM.out.c5 0 rfl
  obtain ⟨fr0, fr1, fr2, fr3, fr4⟩ := HM.out.f5 0 rfl
  go_wp2
  clear kr0 kr1 kr2 kr3 kr4 fr0 fr1 fr2 fr3 fr4
  have hm := HM.out.putRow (ys := [.string ⟨#[]⟩, .int .i64 0, .slice none 0 0, .slice none 0 0, .slice none 0 0]) rfl
  simp only [low.putRow, Nat.zero_add, Nat.reduceAdd] at hm
  replace HM := Lib.hid hm
  clear hm
  obtain ⟨W4, hW, hm⟩ := HM.out.name
  rw [← hW]
  replace HM := Lib.hid hm
  clear hm hW
  obtain ⟨kr0, kr1, kr2, kr3, kr4⟩ := HM.out.c5 0 rfl
  rw [HN.out.1, HN.out.2.1, HN.out.2.2]
  exact bodyPost_ret (v := .tuple #[.agg #[.string ⟨#[]⟩, .int .i64 0, .slice none 0 0, .slice none 0 0, .slice none 0 0], .int .i64 0, .int .i64 (1)]) (by simp [results, Tryz.results6, go_sem, kr0, kr1, kr2, kr3, kr4]) rfl (HM.out.noDo.still.rdNN 0 (1))
 go_wp2_with fail
 refine (in_any s 1 1000000000 _).mono ?_
 rintro e' w' ⟨rfl, rfl⟩
 cases hq : inB s 1 1000000000
 ·have HN := Lib.hid (sub_no (k := 1) (by decide) (show subCode x c s base o = 1 by unfold subCode; simp [hd, hc, hq]))
  obtain ⟨kr0, kr1, kr2, kr3, kr4⟩ := HM.out.c5 0 rfl
  obtain ⟨fr0, fr1, fr2, fr3, fr4⟩ := HM.out.f5 0 rfl
  go_wp2
  clear kr0 kr1 kr2 kr3 kr4 fr0 fr1 fr2 fr3 fr4
  have hm := HM.out.putRow (ys := [.string ⟨#[]⟩, .int .i64 0, .slice none 0 0, .slice none 0 0, .slice none 0 0]) rfl
  simp only [low.putRow, Nat.zero_add, Nat.reduceAdd] at hm
  replace HM := Lib.hid hm
  clear hm
  obtain ⟨W5, hW, hm⟩ := HM.out.name
  rw [← hW]
  replace HM := Lib.hid hm
  clear hm hW
  obtain ⟨kr0, kr1, kr2, kr3, kr4⟩ := HM.out.c5 0 rfl
  rw [HN.out.1, HN.out.2.1, HN.out.2.2]
  exact bodyPost_ret (v := .tuple #[.agg #[.string ⟨#[]⟩, .int .i64 0, .slice none 0 0, .slice none 0 0, .slice none 0 0], .int .i64 0, .int .i64 (1)]) (by simp [results, Tryz.results6, go_sem, kr0, kr1, kr2, kr3, kr4]) rfl (HM.out.noDo.still.rdNN 0 (1))
 go_wp2_with fail
 refine (specOpOk_r _ o _ (HM.out.arg HO.out) hs2).mono ?_
 rintro e' W6 ⟨rfl, b'⟩
 replace HM := Lib.hid (HM.out.past b')
 clear b'
 cases ho : okOp o
 ·have HN := Lib.hid (sub_no (k := 1) (by decide) (show subCode x c s base o = 1 by unfold subCode; simp [hd, hc, hq, ho]))
  obtain ⟨kr0, kr1, kr2, kr3, kr4⟩ := HM.out.c5 0 rfl
  obtain ⟨fr0, fr1, fr2, fr3, fr4⟩ := HM.out.f5 0 rfl
  go_wp2
  clear kr0 kr1 kr2 kr3 kr4 fr0 fr1 fr2 fr3 fr4
  have hm := HM.out.putRow (ys := [.string ⟨#[]⟩, .int .i64 0, .slice none 0 0, .slice none 0 0, .slice none 0 0]) rfl
  simp only [low.putRow, Nat.zero_add, Nat.reduceAdd] at hm
  replace HM := Lib.hid hm
  clear hm
  obtain ⟨W7, hW, hm⟩ := HM.out.name
  rw [← hW]
  replace HM := Lib.hid hm
  clear hm hW
  obtain ⟨kr0, kr1, kr2, kr3, kr4⟩ := HM.out.c5 0 rfl
  rw [HN.out.1, HN.out.2.1, HN.out.2.2]
  exact bodyPost_ret (v := .tuple #[.agg #[.string ⟨#[]⟩, .int .i64 0, .slice none 0 0, .slice none 0 0, .slice none 0 0], .int .i64 0, .int .i64 (1)]) (by simp [results, Tryz.results6, go_sem, kr0, kr1, kr2, kr3, kr4]) rfl (HM.out.noDo.still.rdNN 0 (1))
 obtain ⟨kx0, kx1, kx2, kx3, kx4⟩ := HM.out.c5 1 rfl
 go_wp2_with fail
 clear kx0 kx1 kx2 kx3 kx4
 refine (specSeenOf_d _ x c _ (HM.out.arg HR.out) hs).mono ?_
 rintro e' W8 ⟨v', rfl, o', b'⟩
 obtain rfl := aggSe o'.read
 clear o'
 replace HM := Lib.hid (HM.out.past b')
 clear b'
 have hbd := seenOf_bd c hd
 obtain ⟨hb0, hb1⟩ := hbd
 cases hse : seenOfB x c
 ·replace HM := Lib.hid (HM.out.new #[.int .i64 (seenOfT x c).client, .int .i64 (seenOfT x c).seq, .int .i64 (seenOfT x c).rev] 54)
  by_cases h7 : ¬ s = (seenOfT x c).seq + 1
  ·have HN := Lib.hid (sub_no (k := 4) (by decide) (show subCode x c s base o = 4 by unfold subCode; simp [hd, hc, hq, ho, hse, h7]))
   have g7 : (s != (seenOfT x c).seq + 1) = true := by simpa using h7
   obtain ⟨ksb0, ksb1, ksb2⟩ := HM.out.c3 0 rfl
   obtain ⟨kr0, kr1, kr2, kr3, kr4⟩ := HM.out.c5 1 rfl
   obtain ⟨fr0, fr1, fr2, fr3, fr4⟩ := HM.out.f5 1 rfl
   go_wp2
   clear kr0 kr1 kr2 kr3 kr4 fr0 fr1 fr2 fr3 fr4
   clear ksb0 ksb1 ksb2
   have hm := HM.out.pk [1, 0, 2] (by decide) (by simp)
   simp only [low.pk, low.gz, low.gs] at hm
   replace HM := Lib.hid hm
   clear hm
   have hm := HM.out.putRow (ys := [.string ⟨#[]⟩, .int .i64 0, .slice none 0 0, .slice none 0 0, .slice none 0 0]) rfl
   simp only [low.putRow, Nat.zero_add, Nat.reduceAdd] at hm
   replace HM := Lib.hid hm
   clear hm
   obtain ⟨W9, hW, hm⟩ := HM.out.name
   rw [← hW]
   replace HM := Lib.hid hm
   clear hm hW
   obtain ⟨kr0, kr1, kr2, kr3, kr4⟩ := HM.out.c5 0 rfl
   rw [HN.out.1, HN.out.2.1, HN.out.2.2]
   exact bodyPost_ret (v := .tuple #[.agg #[.string ⟨#[]⟩, .int .i64 0, .slice none 0 0, .slice none 0 0, .slice none 0 0], .int .i64 0, .int .i64 (4)]) (by simp [results, Tryz.results6, go_sem, kr0, kr1, kr2, kr3, kr4]) rfl (HM.out.noDo.still.rdNN 0 (4))
  have g7 : (s != (seenOfT x c).seq + 1) = false := by simpa using h7
  have e7 : s = (seenOfT x c).seq + 1 := Classical.not_not.1 h7
  have E7 := Lib.hid e7
  clear e7 h7
  obtain ⟨kx0, kx1, kx2, kx3, kx4⟩ := HM.out.c5 2 rfl
  go_wp2_with fail
  clear kx0 kx1 kx2 kx3 kx4
  obtain ⟨W10, hW, hm⟩ := HM.out.name
  rw [← hW]
  replace HM := Lib.hid hm
  clear hm hW
  refine (specRebase_d _ _ x base o _ (HM.out.arg HR.out) (HM.out.arg HO.out) hs hs2).mono ?_
  rintro e' W11 ⟨v', rfl, o', b'⟩
  obtain ⟨Aq, nq, cq, rfl⟩ := sliceV o'.read
  clear o'
  replace HM := Lib.hid (HM.out.past b')
  clear b'
  by_cases h8 : ¬ rebCode x base o = 0
  ·have HN := Lib.hid (sub_no (k := (rebCode x base o)) (by assumption) (show subCode x c s base o = (rebCode x base o) by have e7 := eq_true E7.out; unfold subCode; simp [hd, hc, hq, ho, hse, h8, e7]))
   have g8 : (rebCode x base o != 0) = true := by simpa using h8
   obtain ⟨ksb0, ksb1, ksb2⟩ := HM.out.c3 0 rfl
   obtain ⟨kr0, kr1, kr2, kr3, kr4⟩ := HM.out.c5 1 rfl
   obtain ⟨fr0, fr1, fr2, fr3, fr4⟩ := HM.out.f5 1 rfl
   go_wp2
   clear kr0 kr1 kr2 kr3 kr4 fr0 fr1 fr2 fr3 fr4
   clear ksb0 ksb1 ksb2
   have hm := HM.out.pk [1, 0, 2] (by decide) (by simp)
   simp only [low.pk, low.gz, low.gs] at hm
   replace HM := Lib.hid hm
   clear hm
   have hm := HM.out.putRow (ys := [.string ⟨#[]⟩, .int .i64 0, .slice none 0 0, .slice none 0 0, .slice none 0 0]) rfl
   simp only [low.putRow, Nat.zero_add, Nat.reduceAdd] at hm
   replace HM := Lib.hid hm
   clear hm
   obtain ⟨W12, hW, hm⟩ := HM.out.name
   rw [← hW]
   replace HM := Lib.hid hm
   clear hm hW
   obtain ⟨kr0, kr1, kr2, kr3, kr4⟩ := HM.out.c5 0 rfl
   rw [HN.out.1, HN.out.2.1, HN.out.2.2]
   exact bodyPost_ret (v := .tuple #[.agg #[.string ⟨#[]⟩, .int .i64 0, .slice none 0 0, .slice none 0 0, .slice none 0 0], .int .i64 0, .int .i64 ((rebCode x base o))]) (by simp [results, Tryz.results6, go_sem, kr0, kr1, kr2, kr3, kr4]) rfl (HM.out.noDo.still.rdNN 0 ((rebCode x base o)))
  have g8 : (rebCode x base o != 0) = false := by simpa using h8
  obtain ⟨kx0, kx1, kx2, kx3, kx4⟩ := HM.out.c5 2 rfl
  go_wp2_with fail
  clear kx0 kx1 kx2 kx3 kx4
  refine (specHeadRev_d _ x _ (HM.out.arg HR.out) hs).mono ?_
  rintro e' W13 ⟨rfl, b'⟩
  replace HM := Lib.hid (HM.out.past b')
  clear b'
  by_cases h9 : (999999000 : Int) ≤ headRevT x
  ·have HN := Lib.hid (sub_no (k := 5) (by decide) (show subCode x c s base o = 5 by have e7 := eq_true E7.out; unfold subCode; simp [hd, hc, hq, ho, hse, h8, h9, e7]))
   have g9 : decide ((999999000 : Int) ≤ headRevT x) = true := decide_eq_true h9
   obtain ⟨ksb0, ksb1, ksb2⟩ := HM.out.c3 0 rfl
   obtain ⟨kr0, kr1, kr2, kr3, kr4⟩ := HM.out.c5 1 rfl
   obtain ⟨fr0, fr1, fr2, fr3, fr4⟩ := HM.out.f5 1 rfl
   go_wp2
   clear kr0 kr1 kr2 kr3 kr4 fr0 fr1 fr2 fr3 fr4
   clear ksb0 ksb1 ksb2
   have hm := HM.out.pk [1, 0, 2] (by decide) (by simp)
   simp only [low.pk, low.gz, low.gs] at hm
   replace HM := Lib.hid hm
   clear hm
   have hm := HM.out.putRow (ys := [.string ⟨#[]⟩, .int .i64 0, .slice none 0 0, .slice none 0 0, .slice none 0 0]) rfl
   simp only [low.putRow, Nat.zero_add, Nat.reduceAdd] at hm
   replace HM := Lib.hid hm
   clear hm
   obtain ⟨W14, hW, hm⟩ := HM.out.name
   rw [← hW]
   replace HM := Lib.hid hm
   clear hm hW
   obtain ⟨kr0, kr1, kr2, kr3, kr4⟩ := HM.out.c5 0 rfl
   rw [HN.out.1, HN.out.2.1, HN.out.2.2]
   exact bodyPost_ret (v := .tuple #[.agg #[.string ⟨#[]⟩, .int .i64 0, .slice none 0 0, .slice none 0 0, .slice none 0 0], .int .i64 0, .int .i64 (5)]) (by simp [results, Tryz.results6, go_sem, kr0, kr1, kr2, kr3, kr4]) rfl (HM.out.noDo.still.rdNN 0 (5))
  exact absurd ⟨hd, hc, hq, ho, fun h => by rw [hse] at h; exact absurd h.1 (by decide), E7.out, Classical.not_not.1 h8, h9⟩ hgo
 by_cases h6 : (seenOfT x c).seq = s
 ·have HN := Lib.hid (show subCode x c s base o = 0 ∧ subDo x c s base o = x ∧ subRev x c s base o = (seenOfT x c).rev from sub_again hd hc hq ho hse h6)
  have g6 : ((seenOfT x c).seq == s) = true := by simpa using h6
  clear h6
  replace HM := Lib.hid (HM.out.new #[.int .i64 (seenOfT x c).client, .int .i64 (seenOfT x c).seq, .int .i64 (seenOfT x c).rev] 54)
  go_wp2
  obtain ⟨W15, hW, hm⟩ := HM.out.name
  rw [← hW]
  replace HM := Lib.hid hm
  clear hm hW
  replace HM := Lib.hid (HM.out.drew)
  refine wp_region_held_drew (S := fun W => Ms w [.bx w.heap.size (.cells #[.string x.name, .int .i64 x.from_, .slice A2 x.text.length c2, .slice A3 x.list.length c3, .slice A4 x.seen.length c4] 33 (0, 0)), .bx W8.heap.size (.cells #[.int .i64 (seenOfT x c).client, .int .i64 (seenOfT x c).seq, .int .i64 (seenOfT x c).rev] 54 (0, 0))] W) (by kernel_rfl) (HM.out.pick (ks := [2, 0]) (by decide) rfl) (fun hS => ?_)
  generalize W15.drew = W16 at HM hS  ⊢
  refine tk (v := ?_) 0 55 rfl (fun w' hS' => ?_) hS ?_
  rotate_left
  ·(try dsimp only at hS'); obtain ⟨q0, q1, q2, q3, q4⟩ := hS'.c5 0 rfl; obtain ⟨p0, p1, p2⟩ := hS'.c3 1 rfl; go_simp; all_goals (with_reducible rfl)
  try simp only [Act.put, pa, pb, pc]
  refine tk (v := ?_) 2 57 rfl (fun w' hS' => ?_) hS ?_
  rotate_left
  ·go_simp; all_goals (with_reducible rfl)
  try simp only [Act.put, pa, pb, pc]
  refine tk (v := ?_) 3 58 rfl (fun w' hS' => ?_) hS ?_
  rotate_left
  ·(try dsimp only at hS'); obtain ⟨q0, q1, q2, q3, q4⟩ := hS'.c5 0 rfl; obtain ⟨p0, p1, p2⟩ := hS'.c3 1 rfl; go_simp; all_goals (with_reducible rfl)
  try simp only [Act.put, pa, pb, pc]
  refine r1 1 (some 56) rfl (fun K hK => ?_)
  go_simp
  refine (specCopyD_d _ x _ (HM.out.arg HR.out) hs).mono ?_
  rintro e' W17 ⟨v', rfl, o', b'⟩
  obtain ⟨A12, c12, A13, c13, A14, c14, rfl, -, -, -⟩ := aggDo o'.read
  obtain ⟨b6, hm⟩ := HM.out.got o' b'
  clear o' b' hS
  replace HM := Lib.hid hm
  clear hm
  refine hK.out _ _ (HM.out.pick (ks := [3, 1]) (by decide) rfl) (fun hS => ?_)
  clear hK K
  try simp only [Act.put, pa, pb, pc]
  refine r1 4 none rfl (fun K hK => ?_)
  obtain ⟨kr0, kr1, kr2, kr3, kr4⟩ := HM.out.c5 2 rfl
  obtain ⟨fr0, fr1, fr2, fr3, fr4⟩ := HM.out.f5 2 rfl
  go_simp
  clear hS kr0 kr1 kr2 kr3 kr4 fr0 fr1 fr2 fr3 fr4
  have hm := HM.out.pk [2, 0, 1, 3] (by decide) (by simp)
  simp only [low.pk, low.gz, low.gs] at hm
  replace HM := Lib.hid hm
  clear hm
  have hm := HM.out.putRow (ys := [.string x.name, .int .i64 x.from_, .slice A12 x.text.length c12, .slice A13 x.list.length c13, .slice A14 x.seen.length c14]) rfl
  simp only [low.putRow, Nat.zero_add, Nat.reduceAdd] at hm
  replace HM := Lib.hid hm
  clear hm
  obtain ⟨W18, hW, hm⟩ := HM.out.name
  rw [← hW]
  replace HM := Lib.hid hm
  clear hm hW
  refine hK.out _ _ (HM.out.pick (ks := [3, 2]) (by decide) rfl) (fun hS => ?_)
  clear hK K
  try simp only [Act.put, pa, pb, pc]
  refine tk (v := ?_) 5 11 rfl (fun w' hS' => ?_) hS ?_
  rotate_left
  ·go_simp; all_goals (with_reducible rfl)
  try simp only [Act.put, pa, pb, pc]
  refine tk (v := ?_) 6 12 rfl (fun w' hS' => ?_) hS ?_
  rotate_left
  ·go_simp; all_goals (with_reducible rfl)
  try simp only [Act.put, pa, pb, pc]
  refine wpAnyH_done (by kernel_rfl) ?_ _
  clear hS
  go_wp2
  obtain ⟨kr0, kr1, kr2, kr3, kr4⟩ := HM.out.c5 0 rfl
  have hm := HM.out.pk [1, 0, 2, 3] (by decide) (by simp)
  simp only [low.pk, low.gz, low.gs] at hm
  replace HM := Lib.hid hm
  clear hm
  rw [HN.out.1, HN.out.2.1, HN.out.2.2]
  exact bodyPost_ret (v := .tuple #[.agg #[.string x.name, .int .i64 x.from_, .slice A12 x.text.length c12, .slice A13 x.list.length c13, .slice A14 x.seen.length c14], .int .i64 (seenOfT x c).rev, .int .i64 0]) (by simp [results, Tryz.results6, go_sem, kr0, kr1, kr2, kr3, kr4]) rfl (HM.out.still.rdNN _ 0)
 ·have g6 : ((seenOfT x c).seq == s) = false := by simpa using h6
  replace HM := Lib.hid (HM.out.new #[.int .i64 (seenOfT x c).client, .int .i64 (seenOfT x c).seq, .int .i64 (seenOfT x c).rev] 54)
  by_cases h7 : ¬ s = (seenOfT x c).seq + 1
  ·have HN := Lib.hid (sub_no (k := 4) (by decide) (show subCode x c s base o = 4 by unfold subCode; simp [hd, hc, hq, ho, hse, h6, h7]))
   have g7 : (s != (seenOfT x c).seq + 1) = true := by simpa using h7
   obtain ⟨ksb0, ksb1, ksb2⟩ := HM.out.c3 0 rfl
   obtain ⟨kr0, kr1, kr2, kr3, kr4⟩ := HM.out.c5 1 rfl
   obtain ⟨fr0, fr1, fr2, fr3, fr4⟩ := HM.out.f5 1 rfl
   go_wp2
   clear kr0 kr1 kr2 kr3 kr4 fr0 fr1 fr2 fr3 fr4
   clear ksb0 ksb1 ksb2
   have hm := HM.out.pk [1, 0, 2] (by decide) (by simp)
   simp only [low.pk, low.gz, low.gs] at hm
   replace HM := Lib.hid hm
   clear hm
   have hm := HM.out.putRow (ys := [.string ⟨#[]⟩, .int .i64 0, .slice none 0 0, .slice none 0 0, .slice none 0 0]) rfl
   simp only [low.putRow, Nat.zero_add, Nat.reduceAdd] at hm
   replace HM := Lib.hid hm
   clear hm
   obtain ⟨W19, hW, hm⟩ := HM.out.name
   rw [← hW]
   replace HM := Lib.hid hm
   clear hm hW
   obtain ⟨kr0, kr1, kr2, kr3, kr4⟩ := HM.out.c5 0 rfl
   rw [HN.out.1, HN.out.2.1, HN.out.2.2]
   exact bodyPost_ret (v := .tuple #[.agg #[.string ⟨#[]⟩, .int .i64 0, .slice none 0 0, .slice none 0 0, .slice none 0 0], .int .i64 0, .int .i64 (4)]) (by simp [results, Tryz.results6, go_sem, kr0, kr1, kr2, kr3, kr4]) rfl (HM.out.noDo.still.rdNN 0 (4))
  have g7 : (s != (seenOfT x c).seq + 1) = false := by simpa using h7
  have e7 : s = (seenOfT x c).seq + 1 := Classical.not_not.1 h7
  have E7 := Lib.hid e7
  clear e7 h7
  obtain ⟨kx0, kx1, kx2, kx3, kx4⟩ := HM.out.c5 2 rfl
  go_wp2_with fail
  clear kx0 kx1 kx2 kx3 kx4
  obtain ⟨W20, hW, hm⟩ := HM.out.name
  rw [← hW]
  replace HM := Lib.hid hm
  clear hm hW
  refine (specRebase_d _ _ x base o _ (HM.out.arg HR.out) (HM.out.arg HO.out) hs hs2).mono ?_
  rintro e' W21 ⟨v', rfl, o', b'⟩
  obtain ⟨Aq, nq, cq, rfl⟩ := sliceV o'.read
  clear o'
  replace HM := Lib.hid (HM.out.past b')
  clear b'
  by_cases h8 : ¬ rebCode x base o = 0
  ·have HN := Lib.hid (sub_no (k := (rebCode x base o)) (by assumption) (show subCode x c s base o = (rebCode x base o) by have e7 := eq_true E7.out; unfold subCode; simp [hd, hc, hq, ho, hse, h6, h8, e7]))
   have g8 : (rebCode x base o != 0) = true := by simpa using h8
   obtain ⟨ksb0, ksb1, ksb2⟩ := HM.out.c3 0 rfl
   obtain ⟨kr0, kr1, kr2, kr3, kr4⟩ := HM.out.c5 1 rfl
   obtain ⟨fr0, fr1, fr2, fr3, fr4⟩ := HM.out.f5 1 rfl
   go_wp2
   clear kr0 kr1 kr2 kr3 kr4 fr0 fr1 fr2 fr3 fr4
   clear ksb0 ksb1 ksb2
   have hm := HM.out.pk [1, 0, 2] (by decide) (by simp)
   simp only [low.pk, low.gz, low.gs] at hm
   replace HM := Lib.hid hm
   clear hm
   have hm := HM.out.putRow (ys := [.string ⟨#[]⟩, .int .i64 0, .slice none 0 0, .slice none 0 0, .slice none 0 0]) rfl
   simp only [low.putRow, Nat.zero_add, Nat.reduceAdd] at hm
   replace HM := Lib.hid hm
   clear hm
   obtain ⟨W22, hW, hm⟩ := HM.out.name
   rw [← hW]
   replace HM := Lib.hid hm
   clear hm hW
   obtain ⟨kr0, kr1, kr2, kr3, kr4⟩ := HM.out.c5 0 rfl
   rw [HN.out.1, HN.out.2.1, HN.out.2.2]
   exact bodyPost_ret (v := .tuple #[.agg #[.string ⟨#[]⟩, .int .i64 0, .slice none 0 0, .slice none 0 0, .slice none 0 0], .int .i64 0, .int .i64 ((rebCode x base o))]) (by simp [results, Tryz.results6, go_sem, kr0, kr1, kr2, kr3, kr4]) rfl (HM.out.noDo.still.rdNN 0 ((rebCode x base o)))
  have g8 : (rebCode x base o != 0) = false := by simpa using h8
  obtain ⟨kx0, kx1, kx2, kx3, kx4⟩ := HM.out.c5 2 rfl
  go_wp2_with fail
  clear kx0 kx1 kx2 kx3 kx4
  refine (specHeadRev_d _ x _ (HM.out.arg HR.out) hs).mono ?_
  rintro e' W23 ⟨rfl, b'⟩
  replace HM := Lib.hid (HM.out.past b')
  clear b'
  by_cases h9 : (999999000 : Int) ≤ headRevT x
  ·have HN := Lib.hid (sub_no (k := 5) (by decide) (show subCode x c s base o = 5 by have e7 := eq_true E7.out; unfold subCode; simp [hd, hc, hq, ho, hse, h6, h8, h9, e7]))
   have g9 : decide ((999999000 : Int) ≤ headRevT x) = true := decide_eq_true h9
   obtain ⟨ksb0, ksb1, ksb2⟩ := HM.out.c3 0 rfl
   obtain ⟨kr0, kr1, kr2, kr3, kr4⟩ := HM.out.c5 1 rfl
   obtain ⟨fr0, fr1, fr2, fr3, fr4⟩ := HM.out.f5 1 rfl
   go_wp2
   clear kr0 kr1 kr2 kr3 kr4 fr0 fr1 fr2 fr3 fr4
   clear ksb0 ksb1 ksb2
   have hm := HM.out.pk [1, 0, 2] (by decide) (by simp)
   simp only [low.pk, low.gz, low.gs] at hm
   replace HM := Lib.hid hm
   clear hm
   have hm := HM.out.putRow (ys := [.string ⟨#[]⟩, .int .i64 0, .slice none 0 0, .slice none 0 0, .slice none 0 0]) rfl
   simp only [low.putRow, Nat.zero_add, Nat.reduceAdd] at hm
   replace HM := Lib.hid hm
   clear hm
   obtain ⟨W24, hW, hm⟩ := HM.out.name
   rw [← hW]
   replace HM := Lib.hid hm
   clear hm hW
   obtain ⟨kr0, kr1, kr2, kr3, kr4⟩ := HM.out.c5 0 rfl
   rw [HN.out.1, HN.out.2.1, HN.out.2.2]
   exact bodyPost_ret (v := .tuple #[.agg #[.string ⟨#[]⟩, .int .i64 0, .slice none 0 0, .slice none 0 0, .slice none 0 0], .int .i64 0, .int .i64 (5)]) (by simp [results, Tryz.results6, go_sem, kr0, kr1, kr2, kr3, kr4]) rfl (HM.out.noDo.still.rdNN 0 (5))
  exact absurd ⟨hd, hc, hq, ho, fun h => h6 h.2, E7.out, Classical.not_not.1 h8, h9⟩ hgo
theorem Ms.unDo {w0 W : World} {L : List It} {x : Do} {b : List Nat} {u0 u1 u2 u3 u4 : Value} (h : Ms w0 (.dt (datDo x) (.agg #[u0, u1, u2, u3, u4]) b :: L) W) : ∃ b2 b3 b4, Ms w0 (.dt (encInts x.text) u2 b2 :: .dt (encEns x.list) u3 b3 :: .dt (encSes x.seen) u4 b4 :: L) W := by
 obtain ⟨d1, d2, h1⟩ := (show Ms w0 (.dt (.agg (encDo x)) (.agg ([u0, u1, u2, u3, u4] : List Value).toArray) b :: L) W from h).un
 obtain ⟨d3, d4, h2⟩ := h1.tail.un
 obtain ⟨d5, d6, h3⟩ := h2.tail.un
 obtain ⟨d7, d8, h4⟩ := (h3.pull (i := 1) (L' := .dt (.agg [encEns x.list, encSes x.seen]) (.agg ([u3, u4] : List Value).toArray) d6 :: .dt (encInts x.text) u2 d5 :: L) rfl rfl).un
 obtain ⟨d9, d0, h5⟩ := (h4.pull (i := 1) (L' := .dt (.agg [encSes x.seen]) (.agg ([u4] : List Value).toArray) d8 :: .dt (encEns x.list) u3 d7 :: .dt (encInts x.text) u2 d5 :: L) rfl rfl).un
 have h6 := (h5.pull (i := 1) (L' := .dt (.agg []) (.agg ([] : List Value).toArray) d0 :: .dt (encSes x.seen) u4 d9 :: .dt (encEns x.list) u3 d7 :: .dt (encInts x.text) u2 d5 :: L) rfl rfl).tail
 have h7 := h6.pull (i := 2) (L' := .dt (encInts x.text) u2 d5 :: .dt (encSes x.seen) u4 d9 :: .dt (encEns x.list) u3 d7 :: L) rfl rfl
 exact ⟨_, _, _, (h7.perm (.cons _ (.swap _ _ _)))⟩
theorem headRev_more {x : Do} {c s : Int} {q : List Pt} (hd : docB x = true) : headRevT (⟨x.name, x.from_, x.text, moreL x c s q, x.seen⟩ : Do) = x.from_ + (x.list.length : Int) + 1 := by
 have hi := docB_in hd
 have h1 := hi.from0
 have h2 := hi.from1
 have h3 := hi.list
 have e : headRevT (⟨x.name, x.from_, x.text, moreL x c s q, x.seen⟩ : Do) = wrap64 (x.from_ + ((x.list.length + 1 : Nat) : Int)) := by unfold headRevT moreL; simp
 rw [e]
 rw [IntWalk.wrap64_in _ (by omega)]
 omega
theorem sub_go {x : Do} {c s base : Int} {o : List Pt} (h : SubGo x c s base o) : subCode x c s base o = 0 ∧ subDo x c s base o = commitT x c s (rebOp x base o) ∧ subRev x c s base o = x.from_ + (x.list.length : Int) + 1 := by
 obtain ⟨hd, hc, hq, ho, hn, h7, h8, h9⟩ := h
 have h7 := eq_true h7
 have e : subCode x c s base o = 0 := by unfold subCode; simp [hd, hc, hq, ho, hn, h7, h8, h9]
 exact ⟨e, by unfold subDo; rw [if_pos e, if_neg hn], by unfold subRev; rw [if_pos e, if_neg hn]⟩
theorem firstO_at {l : List En} {e : En} (h : l[0]? = some e) : firstO l = e.o := by
 cases l with
 | nil => simp at h
 | cons y l => simp at h; subst h; rfl
theorem more_0 {x : Do} {c s : Int} {q : List Pt} {e : En} (h : (moreL x c s q)[0]? = some e) (h8 : 8 < x.list.length + 1) : e ∈ x.list := by
 unfold moreL at h
 rw [List.getElem?_append_left (by omega)] at h
 exact List.mem_of_getElem? h
def putSe : List Se → Se → List Se
 | [], s => [s]
 | t :: l, s => if t.client = s.client then s :: l else t :: putSe l s
def OneSe (l : List Se) : Prop := (l.map (·.client)).Nodup
theorem seenGo_none {k : Int} : ∀ {l : List Se}, seenGo k l = none ↔ ∀ s ∈ l, ¬ s.client = k
 | [] => by simp [seenGo]
 | t :: l => by
  unfold seenGo
  by_cases h : t.client = k
  ·simp [h]
  ·rw [if_neg h, seenGo_none (l := l)]
   simp [h]
theorem seenGo_at {k : Int} {s : Se} : ∀ {l : List Se} {j : Nat}, OneSe l → l[j]? = some s → s.client = k → seenGo k l = some s ∧ ∀ s', s'.client = k → putSe l s' = l.set j s'
 | [], j, _, h, _ => by simp at h
 | t :: l, 0, hn, h, e => by
  obtain rfl : t = s := by simpa using h
  refine ⟨by unfold seenGo; rw [if_pos e], fun s' h' => ?_⟩
  unfold putSe
  rw [if_pos (by rw [e, h'])]
  rfl
 | t :: l, j + 1, hn, h, e => by
  unfold OneSe at hn
  rw [List.map_cons, List.nodup_cons] at hn
  have h1 : l[j]? = some s := by simpa using h
  have hne : ¬ t.client = k := fun h2 => hn.1 (by rw [h2, ← e]; exact List.mem_map.2 ⟨s, List.mem_of_getElem? h1, rfl⟩)
  have ih := seenGo_at (l := l) hn.2 h1 e
  refine ⟨by unfold seenGo; rw [if_neg hne]; exact ih.1, fun s' h' => ?_⟩
  unfold putSe
  rw [if_neg (by rw [h']; exact hne), ih.2 s' h']
  rfl
theorem putSe_new {s : Se} : ∀ {l : List Se}, (∀ t ∈ l, ¬ t.client = s.client) → putSe l s = l ++ [s]
 | [], _ => rfl
 | t :: l, h => by
  unfold putSe
  rw [if_neg (h t (by simp)), putSe_new (fun u hu => h u (by simp [hu]))]
  rfl
theorem putSe_clients {s : Se} : ∀ {l : List Se}, (putSe l s).map (·.client) = if s.client ∈ l.map (·.client) then l.map (·.client) else l.map (·.client) ++ [s.client]
 | [] => by simp [putSe]
 | u :: l => by
  unfold putSe
  by_cases e : u.client = s.client
  ·rw [if_pos e]
   simp [e]
  ·rw [if_neg e, List.map_cons, putSe_clients (l := l), List.map_cons]
   have e' : ¬ s.client = u.client := fun h => e h.symm
   by_cases h : s.client ∈ l.map (·.client)
   ·rw [if_pos h, if_pos (List.mem_cons_of_mem _ h)]
   ·rw [if_neg h, if_neg (by simp only [List.mem_cons, not_or]; exact ⟨e', h⟩)]
    rfl
theorem OneSe.put {l : List Se} (h : OneSe l) (s : Se) : OneSe (putSe l s) := by
 unfold OneSe at *
 rw [putSe_clients]
 split
 ·exact h
 ·rename_i hn
  rw [List.nodup_append]
  refine ⟨h, by simp, fun a ha b hb e => ?_⟩
  obtain rfl : b = s.client := by simpa using hb
  exact hn (e ▸ ha)
theorem putSe_len {l : List Se} {s : Se} : (putSe l s).length ≤ l.length + 1 := by
 have h := congrArg List.length (putSe_clients (l := l) (s := s))
 rw [List.length_map] at h
 rw [h]
 split <;> simp
def firstSe (m : List Se) (s : Se) : List Se := if (seenGo s.client m).isSome then m else putSe m s
def dedSe (l : List Se) : List Se := l.foldl firstSe []
theorem OneSe.nil : OneSe [] := by simp [OneSe]
theorem OneSe.first {l : List Se} (h : OneSe l) (s : Se) : OneSe (firstSe l s) := by
 unfold firstSe
 split
 ·exact h
 ·exact h.put s
theorem ded_snoc {l : List Se} {j : Nat} {s : Se} (h : l[j]? = some s) : dedSe (l.take (j + 1)) = firstSe (dedSe (l.take j)) s := by
 obtain ⟨hlt, e⟩ := List.getElem?_eq_some_iff.1 h
 rw [List.take_succ_eq_append_getElem hlt, e, dedSe, List.foldl_append]
 rfl
theorem foldFirst_one : ∀ {l m : List Se}, OneSe m → OneSe (l.foldl firstSe m)
 | [], m, h => h
 | s :: l, m, h => foldFirst_one (l := l) (h.first s)
theorem one_ded (l : List Se) : OneSe (dedSe l) := foldFirst_one OneSe.nil
theorem seenGo_append {k : Int} : ∀ {l m : List Se}, seenGo k (l ++ m) = (seenGo k l).or (seenGo k m)
 | [], m => rfl
 | t :: l, m => by
  show (if t.client = k then some t else seenGo k (l ++ m)) = ((if t.client = k then some t else seenGo k l).or (seenGo k m))
  by_cases e : t.client = k
  ·simp [e]
  ·rw [if_neg e, if_neg e, seenGo_append]
theorem seenGo_first {k : Int} (m : List Se) (s : Se) : seenGo k (firstSe m s) = (seenGo k m).or (seenGo k [s]) := by
 unfold firstSe
 cases h : seenGo s.client m with
 | some t =>
  rw [if_pos (by simp)]
  by_cases e : s.client = k
  ·subst e
   rw [h]
   rfl
  ·have : seenGo k [s] = none := by simp [seenGo, e]
   rw [this]
   cases seenGo k m <;> rfl
 | none =>
  rw [if_neg (by simp), putSe_new (seenGo_none.1 h), seenGo_append]
theorem seenGo_fold {k : Int} : ∀ {l m : List Se}, seenGo k (l.foldl firstSe m) = (seenGo k m).or (seenGo k l)
 | [], m => by cases h : seenGo k m <;> simp [seenGo, h]
 | s :: l, m => by
  rw [List.foldl_cons, seenGo_fold (l := l), seenGo_first, show s :: l = [s] ++ l from rfl, seenGo_append]
  cases seenGo k m <;> simp
theorem seenGo_ded {k : Int} {l : List Se} : seenGo k (dedSe l) = seenGo k l := by
 rw [dedSe, seenGo_fold]
 rfl
theorem ded_len : ∀ {l m : List Se}, (l.foldl firstSe m).length ≤ m.length + l.length
 | [], m => by simp
 | s :: l, m => by
  have := ded_len (l := l) (m := firstSe m s)
  have h2 : (firstSe m s).length ≤ m.length + 1 := by
   unfold firstSe
   split
   ·omega
   ·exact putSe_len
  rw [List.foldl_cons, List.length_cons]
  omega
def AscSe (l : List Se) : Prop := l.Pairwise (fun a b => a.client < b.client)
def insSe (s : Se) : List Se → List Se
 | [] => [s]
 | t :: l => if s.client < t.client then s :: t :: l else t :: insSe s l
def ordSe : List Se → List Se
 | [] => []
 | s :: l => insSe s (ordSe l)
theorem insSe_perm {s : Se} : ∀ {l : List Se}, (insSe s l).Perm (s :: l)
 | [] => List.Perm.refl _
 | t :: l => by
  unfold insSe
  split
  ·exact List.Perm.refl _
  ·exact ((insSe_perm (l := l)).cons t).trans (List.Perm.swap s t l)
theorem ordSe_perm : ∀ {l : List Se}, (ordSe l).Perm l
 | [] => List.Perm.refl _
 | s :: l => insSe_perm.trans ((ordSe_perm (l := l)).cons s)
theorem insSe_asc {s : Se} : ∀ {l : List Se}, AscSe l → (∀ t ∈ l, ¬ t.client = s.client) → AscSe (insSe s l)
 | [], _, _ => by simp [insSe, AscSe]
 | t :: l, h, hn => by
  unfold insSe
  have ht := hn t (by simp)
  unfold AscSe at h
  rw [List.pairwise_cons] at h
  split
  ·rename_i hlt
   refine List.pairwise_cons.2 ⟨fun u hu => ?_, List.pairwise_cons.2 h⟩
   rcases List.mem_cons.1 hu with rfl | hu
   ·exact hlt
   ·have := h.1 u hu; omega
  ·rename_i hlt
   refine List.pairwise_cons.2 ⟨fun u hu => ?_, insSe_asc h.2 (fun u hu => hn u (by simp [hu]))⟩
   rcases List.mem_cons.1 (insSe_perm.mem_iff.1 hu) with rfl | hu
   ·omega
   ·exact h.1 u hu
theorem ordSe_asc : ∀ {l : List Se}, OneSe l → AscSe (ordSe l)
 | [], _ => List.Pairwise.nil
 | s :: l, h => by
  unfold OneSe at h
  rw [List.map_cons, List.nodup_cons] at h
  refine insSe_asc (ordSe_asc (l := l) h.2) (fun t ht e => h.1 ?_)
  rw [← e]
  exact List.mem_map.2 ⟨t, ordSe_perm.mem_iff.1 ht, rfl⟩
theorem asc_eq : ∀ {l m : List Se}, AscSe l → AscSe m → l.Perm m → l = m
 | [], m, _, _, h => (List.Perm.nil_eq h)
 | s :: l, m, h1, h2, h => by
  cases m with
  | nil => exact absurd h.symm.nil_eq (by simp)
  | cons t m =>
   have hs : s ∈ t :: m := h.mem_iff.1 (by simp)
   have ht : t ∈ s :: l := h.mem_iff.2 (by simp)
   unfold AscSe at h1 h2
   rw [List.pairwise_cons] at h1 h2
   obtain rfl : s = t := by
    rcases List.mem_cons.1 hs with e | hs
    ·exact e
    ·rcases List.mem_cons.1 ht with e | ht
     ·exact e.symm
     ·have := h1.1 t ht
      have := h2.1 s hs
      omega
   rw [asc_eq h1.2 h2.2 ((List.perm_cons s).1 h)]
theorem AscSe.one {l : List Se} (h : AscSe l) : OneSe l := by
 unfold OneSe List.Nodup
 rw [List.pairwise_map]
 exact List.Pairwise.imp (fun h => by omega) h
theorem one_ordered {l c : List Se} (h : OneSe l) (hp : c.Perm l) (ha : AscSe c) : c = ordSe l := asc_eq ha (ordSe_asc h) (hp.trans ordSe_perm.symm)
theorem foldFirst_new : ∀ {l m : List Se}, OneSe (m ++ l) → l.foldl firstSe m = m ++ l
 | [], m, _ => by simp
 | s :: l, m, h => by
  have h1 : firstSe m s = m ++ [s] := by
   have hn : ∀ t ∈ m, ¬ t.client = s.client := fun t ht e => by
    unfold OneSe at h
    rw [List.map_append, List.nodup_append] at h
    exact h.2.2 t.client (List.mem_map.2 ⟨t, ht, rfl⟩) s.client (by simp) e
   unfold firstSe
   rw [seenGo_none.2 hn, if_neg (by simp), putSe_new hn]
  rw [List.foldl_cons, h1, foldFirst_new (l := l) (m := m ++ [s]) (by rw [List.append_assoc]; exact h), List.append_assoc]
  rfl
theorem ded_one {l : List Se} (h : OneSe l) : dedSe l = l := foldFirst_new (m := []) h
theorem ord_ded {l : List Se} : l = ordSe (dedSe l) ↔ AscSe l :=
 ⟨fun h => by rw [h]; exact ordSe_asc (one_ded l), fun h => by rw [ded_one h.one]; exact one_ordered h.one (List.Perm.refl _) h⟩
def okSe (h : Int) (s : Se) : Bool := inB s.client 1 8 && inB s.seq 1 1000000000 && inB s.rev 1 h
def seenIB (h : Int) (l : List Se) : Bool := l.all (okSe h) && seensB l (ordSe (dedSe l))
def entriesIB (l : List En) : Bool := decide (l.length ≤ 8) && l.all entryB
theorem seSame_eq {a b : Se} : seSameB a b = true ↔ a = b := by
 obtain ⟨a1, a2, a3⟩ := a
 obtain ⟨b1, b2, b3⟩ := b
 simp [seSameB, and_assoc]
theorem seens_eq : ∀ {l m : List Se}, seensB l m = true ↔ l = m
 | [], [] => by simp [seensB]
 | [], _ :: _ => by simp [seensB]
 | _ :: _, [] => by simp [seensB]
 | a :: l, b :: m => by simp [seensB, seSame_eq, seens_eq (l := l) (m := m)]
theorem seenAll_some {h : Int} : ∀ {l : List Se} {p : Int}, seenAllB h (some p) l = true ↔ (l.all (okSe h) = true ∧ (∀ s ∈ l, p < s.client) ∧ AscSe l)
 | [], p => by simp [seenAllB, AscSe]
 | s :: l, p => by
  have ih := seenAll_some (h := h) (l := l) (p := s.client)
  rw [seenAllB, Bool.and_eq_true, ih, List.all_cons, Bool.and_eq_true]
  have e : seenOneB h (some p) s = (okSe h s && decide (p < s.client)) := rfl
  rw [e, Bool.and_eq_true, decide_eq_true_eq]
  unfold AscSe
  rw [List.pairwise_cons]
  constructor
  ·rintro ⟨⟨h1, h2⟩, h3, h4, h5⟩
   refine ⟨⟨h1, h3⟩, fun t ht => ?_, h4, h5⟩
   rcases List.mem_cons.1 ht with rfl | ht
   ·exact h2
   ·have := h4 t ht; omega
  ·rintro ⟨⟨h1, h3⟩, h4, h5, h6⟩
   exact ⟨⟨h1, h4 s (by simp)⟩, h3, h5, h6⟩
theorem seenAll_none {h : Int} {l : List Se} : seenAllB h none l = true ↔ (l.all (okSe h) = true ∧ AscSe l) := by
 cases l with
 | nil => simp [seenAllB, AscSe]
 | cons s l =>
  rw [seenAllB, Bool.and_eq_true, seenAll_some, List.all_cons, Bool.and_eq_true]
  have e : seenOneB h none s = okSe h s := by simp [seenOneB, okSe]
  rw [e]
  unfold AscSe
  rw [List.pairwise_cons]
  constructor
  ·rintro ⟨h1, h3, h4, h5⟩
   exact ⟨⟨h1, h3⟩, h4, h5⟩
  ·rintro ⟨⟨h1, h3⟩, h5, h6⟩
   exact ⟨h1, h3, h5, h6⟩
theorem seen_eq (h : Int) (l : List Se) : seenAllB h none l = seenIB h l := by
 rw [Bool.eq_iff_iff, seenAll_none]
 unfold seenIB
 rw [Bool.and_eq_true, seens_eq, ord_ded]
theorem foldAll_cons (o : List Pt) (l : List (List Pt)) (t : List Int) : foldAll (o :: l) t = if fitsB o t = true then foldAll l (applyT o t) else none := by
 show l.foldl stepAll (if fitsB o t = true then some (applyT o t) else none) = _
 by_cases h : fitsB o t = true
 ·rw [if_pos h, if_pos h]
  rfl
 ·rw [if_neg h, if_neg h]
  exact fold_none l
theorem fits_len {o : List Pt} {t : List Int} (h : fitsB o t = true) : okOp o = true ∧ okText t = true ∧ sumK o + sumD o = (t.length : Int) := by
 unfold fitsB at h
 rw [Bool.and_eq_true, Bool.and_eq_true, decide_eq_true_eq] at h
 exact ⟨h.1.1, h.1.2, h.2⟩
theorem fits_next {o : List Pt} {t : List Int} (h : fitsB o t = true) : okText (applyT o t) = true := by
 obtain ⟨h1, h2, h3⟩ := fits_len h
 exact (apply_ok h1 h2 h3).2.2.1
theorem chain_eq : ∀ {l : List En} {t : List Int}, chainGo l t = (l.all entryB && (foldAll (l.map En.o) t).isSome)
 | [], t => by simp [chainGo, foldAll]
 | e :: l, t => by
  rw [chainGo, chain_eq (l := l), List.map_cons, foldAll_cons, List.all_cons]
  cases h1 : fitsB e.o t
  ·simp
  ·rw [fits_next h1]
   cases entryB e <;> simp
theorem doc_eq (x : Do) : docB x = (nameB x.name && inB x.from_ 0 999999000 && entriesIB x.list && seenIB (headRevT x) x.seen && applyAllB (x.list.map En.o) x.text) := by
 unfold docB entriesIB applyAllB
 rw [seen_eq, chain_eq]
 cases nameB x.name <;> cases inB x.from_ 0 999999000 <;> cases okText x.text <;> cases decide (x.list.length ≤ 8) <;> cases x.list.all entryB <;> cases seenIB (headRevT x) x.seen <;> cases (foldAll (x.list.map En.o) x.text).isSome <;> rfl
theorem foldAll_end : ∀ {l : List En} {t : List Int}, (foldAll (l.map En.o) t).isSome = true → foldAll (l.map En.o) t = some (endT l t)
 | [], t, _ => rfl
 | e :: l, t, h => by
  rw [List.map_cons, foldAll_cons] at h ⊢
  cases h1 : fitsB e.o t
  ·rw [h1] at h
   cases h
  ·rw [h1, if_pos rfl] at h
   rw [if_pos rfl]
   exact foldAll_end h
theorem foldAll_take : ∀ {l : List En} {t : List Int} (k : Nat), (foldAll (l.map En.o) t).isSome = true → (foldAll ((l.take k).map En.o) t).isSome = true
 | [], t, k, h => by simpa using h
 | e :: l, t, 0, h => rfl
 | e :: l, t, k + 1, h => by
  rw [List.take_succ_cons]
  rw [List.map_cons, foldAll_cons] at h ⊢
  cases h1 : fitsB e.o t
  ·rw [h1] at h
   cases h
  ·rw [h1, if_pos rfl] at h
   rw [if_pos rfl]
   exact foldAll_take k h
theorem doc_apply {x : Do} (h : docB x = true) : applyAllB (x.list.map En.o) x.text = true := by
 rw [doc_eq, Bool.and_eq_true] at h
 exact h.2
theorem doc_text {x : Do} (h : docB x = true) (k : Nat) : applyAllB ((x.list.take k).map En.o) x.text = true ∧ applyAllT ((x.list.take k).map En.o) x.text = endT (x.list.take k) x.text := by
 have h1 := doc_apply h
 unfold applyAllB at h1
 rw [Bool.and_eq_true] at h1
 have h2 := foldAll_take k h1.1
 have h3 : applyAllB ((x.list.take k).map En.o) x.text = true := by
  unfold applyAllB
  rw [h2, h1.2]
  rfl
 refine ⟨h3, ?_⟩
 unfold applyAllT
 rw [if_pos h3, foldAll_end h2]
 rfl
theorem sumN_one {α : Type} (f : α → Nat) (y : α) : ∀ l : List α, sumN f (l ++ [y]) = sumN f l + f y
 | [] => by simp [sumN]
 | x :: l => by rw [List.cons_append, sumN_cons, sumN_cons, sumN_one f y l]; omega
theorem reb_800 {x : Do} {base : Int} {o : List Pt} (h : rebCode x base o = 0) : totP (rebOp x base o) ≤ 800 := by
 rw [(reb_yes h).2]
 cases hf : fitsB (pastT (opsSinceT x base) o) (headTextT x) with
 | true => exact op_800 (fits_len hf).1
 | false =>
  unfold rebCode at h
  rw [if_pos hf] at h
  repeat' split at h
  all_goals exact absurd h (by decide)
theorem sub_reb {x : Do} {c s base : Int} {o : List Pt} (hk : subCode x c s base o = 0) (hn : ¬ (seenOfB x c = true ∧ (seenOfT x c).seq = s)) : docB x = true ∧ rebCode x base o = 0 := by
 unfold subCode at hk
 rw [if_neg hn] at hk
 split at hk
 ·exact absurd hk (by decide)
 ·rename_i h0
  refine ⟨by simpa using h0, ?_⟩
  split at hk
  ·exact absurd hk (by decide)
  ·split at hk
   ·exact absurd hk (by decide)
   ·split at hk
    ·exact absurd hk (by decide)
    ·split at hk
     ·exact absurd hk (by decide)
     ·split at hk
      ·exact hk
      ·rename_i h8
       exact Classical.not_not.1 h8
theorem commit_small {x : Do} {c s base : Int} {o : List Pt} (hd : docB x = true) (h : rebCode x base o = 0) : SmDo (commitT x c s (rebOp x base o)) := by
 have hi := docB_in hd
 have h1 := hi.name
 have h2 := hi.text
 have h3 := hi.list
 have h4 := hi.ops
 have h5 := hi.seen
 have h6 := reb_800 h
 have h7 : sumN totEn (moreL x c s (rebOp x base o)) ≤ 100000 := by
  unfold moreL
  rw [sumN_one]
  have e : totEn ⟨c, s, rebOp x base o⟩ = totP (rebOp x base o) := rfl
  rw [e]
  omega
 have h8 : (moreL x c s (rebOp x base o)).length = x.list.length + 1 := by simp [moreL]
 have h9 := putGo_len c s (x.from_ + (x.list.length : Int) + 1) x.seen false
 have hb : ∀ d : Do, d.name.size ≤ 8 → d.text.length ≤ 200 → d.list.length ≤ 9 → sumN totEn d.list ≤ 100000 → d.seen.length ≤ 9 → SmDo d := fun d q1 q2 q3 q4 q5 => by
  have := do_tot q1 q2 q3 q4 q5
  unfold SmDo
  omega
 unfold commitT
 split
 ·rename_i hov
  refine hb _ h1 ?_ ?_ ?_ ?_
  ·have hc := docB_chain hd
   cases hx : x.list with
   | nil => rw [hx] at hov; simp at hov
   | cons e l =>
    rw [hx] at hc
    unfold chainGo at hc
    simp only [Bool.and_eq_true] at hc
    have h10 : okText (applyT e.o x.text) = true := hc.1.2
    unfold okText at h10
    rw [Bool.and_eq_true] at h10
    have h10 := of_decide_eq_true h10.2
    have e9 : firstO (moreL x c s (rebOp x base o)) = e.o := by unfold moreL firstO; rw [hx]; rfl
    show (applyT (firstO (moreL x c s (rebOp x base o))) x.text).length ≤ 200
    rw [e9]
    omega
  ·show ((moreL x c s (rebOp x base o)).drop 1).length ≤ 9
   rw [List.length_drop]
   omega
  ·exact Nat.le_trans (sumN_drop _ _ _) h7
  ·show (putGo c s (x.from_ + (x.list.length : Int) + 1) x.seen false).length ≤ 9
   omega
 ·refine hb _ h1 h2 ?_ h7 ?_
  ·show (moreL x c s (rebOp x base o)).length ≤ 9
   omega
  ·show (putGo c s (x.from_ + (x.list.length : Int) + 1) x.seen false).length ≤ 9
   omega
theorem submit_small {x : Do} {c s base : Int} {o : List Pt} (hs : SmDo x) (hs2 : SmP o) : SmDo (subDo x c s base o) := by
 by_cases hk : subCode x c s base o = 0
 ·unfold subDo
  rw [if_pos hk]
  split
  ·exact hs
  ·rename_i hn
   obtain ⟨h1, h2⟩ := sub_reb hk hn
   exact commit_small h1 h2
 ·rw [(sub_no hk rfl).2.1]
  unfold SmDo totDo
  decide
end Go.Proofs.YtglklgnggkenhaaGreatDoor.low
namespace Go.Proofs.YtglklgnggkenhaaGreatDoor.low
open Go.RowKit
open Go.ChangeMaps (setBlock)
set_option linter.unusedVariables false
def valSe (s : Se) : Value := .agg #[.int .i64 s.client, .int .i64 s.seq, .int .i64 s.rev]
def entSe (s : Se) : Value × Value := (.int .i64 s.client, valSe s)
def decSe : Value × Value → Se
 | (_, .agg ⟨[.int _ a, .int _ b, .int _ c]⟩) => ⟨a, b, c⟩
 | _ => ⟨0, 0, 0⟩
theorem dec_ent (s : Se) : decSe (entSe s) = s := rfl
structure MapO (l : List Se) (es : Array MapEntry) (clock : Nat) : Prop where
 ents : es.toList.map (fun e => (e.key, e.val)) = l.map entSe
 old : ∀ x ∈ es.toList, x.born < clock
 nd : (es.toList.map (·.born)).Nodup
 one : OneSe l
theorem MapO.new : MapO [] #[] 0 := ⟨rfl, by simp, by simp, OneSe.nil⟩
section
variable {P : Program} {T K E : TypeId} {w : World} {b c0 : Nat} {es : Array MapEntry} {l : List Se}
theorem MapO.at_ (h : MapO l es c0) {j : Nat} {e : MapEntry} (he : es.toList[j]? = some e) : ∃ s, l[j]? = some s ∧ e.key = .int .i64 s.client ∧ e.val = valSe s := by
 have h1 := congrArg (fun x => x[j]?) h.ents
 simp only [List.getElem?_map, he, Option.map_some] at h1
 cases hl : l[j]? with
 | none => rw [hl] at h1; cases h1
 | some s =>
  rw [hl] at h1
  simp only [Option.map_some, Option.some.injEq, entSe, Prod.mk.injEq] at h1
  exact ⟨s, rfl, h1.1, h1.2⟩
theorem MapO.find (h : MapO l es c0) (hk : P.underlying K = some (.int .i64)) (k : Int) :
  ((Instr.findKey K (.int .i64 k) es.toList).run P w = .ok none w ∧ seenGo k l = none ∧ ∀ s', s'.client = k → putSe l s' = l ++ [s']) ∨
  ∃ j s, (Instr.findKey K (.int .i64 k) es.toList).run P w = .ok (some (j, valSe s)) w ∧ l[j]? = some s ∧ s.client = k ∧ seenGo k l = some s ∧ ∀ s', s'.client = k → putSe l s' = l.set j s' := by
 have hkeys : ∀ x ∈ es.toList, MapKept.IsKey (.int .i64) x.key := fun x hx => by
  obtain ⟨j, hj⟩ := List.getElem?_of_mem hx
  obtain ⟨s, _, e, _⟩ := h.at_ hj
  rw [e]
  rfl
 rcases MapKept.findNow_spec (d := .int .i64) (k := .int .i64 k) rfl es.toList 0 hkeys with ⟨h1, h2⟩ | ⟨j, e, h1, h2, h3⟩
 ·have hn : ∀ s ∈ l, ¬ s.client = k := fun s hs e => by
   obtain ⟨j, hj⟩ := List.getElem?_of_mem hs
   have h4 := congrArg (fun x => x[j]?) h.ents
   simp only [List.getElem?_map, hj, Option.map_some] at h4
   cases he : es.toList[j]? with
   | none => rw [he] at h4; cases h4
   | some x =>
    rw [he] at h4
    simp only [Option.map_some, Option.some.injEq, entSe, Prod.mk.injEq] at h4
    exact h2 x (List.mem_of_getElem? he) (by rw [h4.1, e])
  refine .inl ⟨by simp [Instr.findKey, run_underlying hk, h1], seenGo_none.2 hn, fun s' h' => putSe_new (fun t ht e => hn t ht (by rw [e, h']))⟩
 ·obtain ⟨s, hs, e1, e2⟩ := h.at_ h2
  have hc : s.client = k := by
   rw [e1] at h3
   injection h3
  obtain ⟨h5, h6⟩ := seenGo_at h.one hs hc
  refine .inr ⟨j, s, ?_, hs, hc, h5, h6⟩
  rw [Nat.zero_add] at h1
  simp [Instr.findKey, run_underlying hk, h1, e2]
theorem run_lookup_se (hT : P.underlying T = some (.map K E)) (hk : P.underlying K = some (.int .i64)) (hz : ∀ w, (zeroValue E).run P w = .ok (valSe ⟨0, 0, 0⟩) w) (hb : w.heap[b]? = some (.map es c0)) (h : MapO l es c0) (k : Int) :
  (Instr.lookup T (.map (some b)) (.int .i64 k) true).run P w = .ok (.tuple #[valSe ((seenGo k l).getD ⟨0, 0, 0⟩), .bool (seenGo k l).isSome]) w := by
 have hck := MapKept.run_checkKey (w := w) hk (k := .int .i64 k) rfl es.isEmpty 9999
 rcases h.find (w := w) hk k with ⟨h1, h2, _⟩ | ⟨j, s, h1, _, _, h2, _⟩
 ·simp [Instr.lookup, run_underlying hT, MapKept.run_getObj_map hb, hck, h1, h2, hz, Result.andThen]
 ·simp [Instr.lookup, run_underlying hT, MapKept.run_getObj_map hb, hck, h1, h2, Result.andThen]
theorem map_modify (f : MapEntry → MapEntry) {j : Nat} {e' : Value × Value} (hf : ∀ e : MapEntry, ((f e).key, (f e).val) = e') (l : List MapEntry) : (l.modify j f).map (fun e => (e.key, e.val)) = (l.map (fun e => (e.key, e.val))).set j e' := by
 induction l generalizing j with
 | nil => simp
 | cons a l ih =>
  cases j with
  | zero => simp [hf]
  | succ j => simp [ih]
theorem born_modify (f : MapEntry → MapEntry) {j : Nat} (hf : ∀ e : MapEntry, (f e).born = e.born) (l : List MapEntry) : (l.modify j f).map (·.born) = l.map (·.born) := by
 induction l generalizing j with
 | nil => simp
 | cons a l ih =>
  cases j with
  | zero => simp [hf]
  | succ j => simp [ih]
theorem run_update_se (hT : P.underlying T = some (.map K E)) (hk : P.underlying K = some (.int .i64)) (hb : w.heap[b]? = some (.map es c0)) (h : MapO l es c0) (s : Se) :
  ∃ es' c', (Instr.mapUpdate T (.map (some b)) (.int .i64 s.client) (valSe s)).run P w = .ok () (setBlock w b (.map es' c')) ∧ MapO (putSe l s) es' c' := by
 have hck := MapKept.run_checkKey (w := w) hk (k := .int .i64 s.client) rfl false 9999
 rcases h.find (w := w) hk s.client with ⟨h1, h2, h3⟩ | ⟨j, t, h1, h4, h5, h2, h3⟩
 ·refine ⟨es.push ⟨.int .i64 s.client, valSe s, c0⟩, c0 + 1, ?_, ?_, ?_, ?_, h.one.put s⟩
  ·simp [Instr.mapUpdate, run_underlying hT, MapKept.run_getObj_map hb, hck, h1, MapKept.run_setObj_map _ hb, Result.andThen, setBlock]
  ·rw [Array.toList_push, List.map_append, h.ents, h3 s rfl, List.map_append]
   rfl
  ·intro x hx
   rw [Array.toList_push] at hx
   rcases List.mem_append.1 hx with hx | hx
   ·have := h.old x hx; omega
   ·obtain rfl := List.mem_singleton.1 hx
    exact Nat.lt_succ_self _
  ·rw [Array.toList_push, List.map_append, List.nodup_append]
   refine ⟨h.nd, by simp, fun a ha b hb e => ?_⟩
   obtain ⟨x, hx, rfl⟩ := List.mem_map.1 ha
   have := h.old x hx
   simp at hb
   omega
 ·have hlt : j < es.size := by
   have h6 : j < l.length := (List.getElem?_eq_some_iff.1 h4).1
   have h7 := congrArg List.length h.ents
   simp at h7
   omega
  obtain ⟨u, hu, e1, e2⟩ := h.at_ (j := j) (e := es[j]) (by simp [hlt])
  obtain rfl : t = u := by rw [h4] at hu; injection hu
  have hst : (Instr.keyThatStays (.int .i64 t.client) (.int .i64 s.client)).run P w = .ok (.int .i64 s.client) w := by
   rw [h5]
   simp [Instr.keyThatStays, Instr.sameBits]
  refine ⟨es.modify j (fun e => { e with key := .int .i64 s.client, val := valSe s }), c0, ?_, ?_, ?_, ?_, h.one.put s⟩
  ·have e3 : ((es[j]?).map (·.key)).getD (.int .i64 s.client) = .int .i64 t.client := by
    rw [Array.getElem?_eq_getElem hlt]
    exact e1
   simp [Instr.mapUpdate, run_underlying hT, MapKept.run_getObj_map hb, hck, h1, MapKept.run_setObj_map _ hb, Result.andThen, setBlock, e1, hlt, hst]
  ·rw [Array.toList_modify, map_modify (e' := entSe s) _ (fun e => rfl), h.ents, h3 s rfl, List.map_set]
  ·intro x hx
   have h8 : x.born ∈ (es.modify j (fun e => { e with key := .int .i64 s.client, val := valSe s })).toList.map (·.born) := List.mem_map.2 ⟨x, hx, rfl⟩
   rw [Array.toList_modify, born_modify (fun e => { e with key := .int .i64 s.client, val := valSe s }) (fun e => rfl)] at h8
   obtain ⟨y, hy, e⟩ := List.mem_map.1 h8
   rw [← e]
   exact h.old y hy
  ·rw [Array.toList_modify, born_modify (fun e => { e with key := .int .i64 s.client, val := valSe s }) (fun e => rfl)]
   exact h.nd
variable {ops : Array Oper} {rest : List Oper} {o : Oper} {a : Act} {Q : Exit → Act → World → Prop}
theorem wpList_lookup_se (hg : o.guard = none) (m x : Operand) (T : TypeId) (hop : o.op = Op.lookup T m x true) (K E : TypeId) (hT : P.underlying T = some (.map K E)) (hk : P.underlying K = some (.int .i64)) (hz : ∀ w, (zeroValue E).run P w = .ok (valSe ⟨0, 0, 0⟩) w)
  (b : Nat) (hm : a.eval m = .map (some b)) (k : Int) (hx : a.eval x = .int .i64 k) (hb : w.heap[b]? = some (.map es c0)) (h : MapO l es c0)
  (hK : wpList P ops Q rest (a.put o.dst (.tuple #[valSe ((seenGo k l).getD ⟨0, 0, 0⟩), .bool (seenGo k l).isSome])) w) : wpList P ops Q (o :: rest) a w := by
 refine wpList_plain hg fun K' hK' => ?_
 have hrun := run_lookup_se hT hk hz hb h k
 unfold Oper.wp
 simp [execOp, hop, hm, hx, hrun, Result.andThen]
 exact hK' _ _ hK
theorem wpList_update_se (hg : o.guard = none) (m x v : Operand) (T : TypeId) (hop : o.op = Op.mapUpdate T m x v) (K E : TypeId) (hT : P.underlying T = some (.map K E)) (hk : P.underlying K = some (.int .i64))
  (b : Nat) (hm : a.eval m = .map (some b)) (s : Se) (hx : a.eval x = .int .i64 s.client) (hv : a.eval v = .agg #[.int .i64 s.client, .int .i64 s.seq, .int .i64 s.rev]) (hb : w.heap[b]? = some (.map es c0)) (h : MapO l es c0)
  (hK : ∀ es' c', MapO (putSe l s) es' c' → wpList P ops Q rest (a.put o.dst undef) (setBlock w b (.map es' c'))) : wpList P ops Q (o :: rest) a w := by
 refine wpList_plain hg fun K' hK' => ?_
 obtain ⟨es', c', hrun, h'⟩ := run_update_se hT hk hb h s
 unfold valSe at hrun
 unfold Oper.wp
 simp [execOp, hop, hm, hx, hv, hrun, Result.andThen]
 exact hK' _ _ (hK es' c' h')
theorem wpList_lookup_none (hg : o.guard = none) (m x : Operand) (T : TypeId) (hop : o.op = Op.lookup T m x true) (K E : TypeId) (hT : P.underlying T = some (.map K E)) (hk : P.underlying K = some (.int .i64)) (hz : ∀ w, (zeroValue E).run P w = .ok (valSe ⟨0, 0, 0⟩) w)
  (b : Nat) (hm : a.eval m = .map (some b)) (k : Int) (hx : a.eval x = .int .i64 k) (hb : w.heap[b]? = some (.map es c0)) (h : MapO l es c0) (hn : seenGo k l = none)
  (hK : wpList P ops Q rest (a.put o.dst (.tuple #[.agg #[.int .i64 0, .int .i64 0, .int .i64 0], .bool false])) w) : wpList P ops Q (o :: rest) a w :=
 wpList_lookup_se hg m x T hop K E hT hk hz b hm k hx hb h (by rw [hn]; exact hK)
theorem wpList_lookup_hit {s : Se} (hg : o.guard = none) (m x : Operand) (T : TypeId) (hop : o.op = Op.lookup T m x true) (K E : TypeId) (hT : P.underlying T = some (.map K E)) (hk : P.underlying K = some (.int .i64)) (hz : ∀ w, (zeroValue E).run P w = .ok (valSe ⟨0, 0, 0⟩) w)
  (b : Nat) (hm : a.eval m = .map (some b)) (k : Int) (hx : a.eval x = .int .i64 k) (hb : w.heap[b]? = some (.map es c0)) (h : MapO l es c0) (hn : seenGo k l = some s)
  (hK : wpList P ops Q rest (a.put o.dst (.tuple #[.agg #[.int .i64 s.client, .int .i64 s.seq, .int .i64 s.rev], .bool true])) w) : wpList P ops Q (o :: rest) a w :=
 wpList_lookup_se hg m x T hop K E hT hk hz b hm k hx hb h (by rw [hn]; exact hK)
def Seen_ (es : Array MapEntry) (seen : Array Nat) (c : List Se) : Prop := ∃ ds : List MapEntry, seen.toList = ds.map (·.born) ∧ (∀ e ∈ ds, e ∈ es.toList) ∧ ds.Nodup ∧ ds.map (fun e => (e.key, e.val)) = c.map entSe
theorem Seen_.nil (es : Array MapEntry) : Seen_ es #[] [] := ⟨[], rfl, by simp, by simp, rfl⟩
theorem MapO.mem (h : MapO l es c0) {e : MapEntry} (he : e ∈ es.toList) : ∃ s, s ∈ l ∧ e.key = .int .i64 s.client ∧ e.val = valSe s := by
 obtain ⟨j, hj⟩ := List.getElem?_of_mem he
 obtain ⟨s, h1, h2, h3⟩ := h.at_ hj
 exact ⟨s, List.mem_of_getElem? h1, h2, h3⟩
theorem Seen_.step {seen : Array Nat} {c : List Se} (h : Seen_ es seen c) {e : MapEntry} {s : Se} (he : e ∈ es.toList) (hn : seen.contains e.born = false) (h1 : e.key = .int .i64 s.client) (h2 : e.val = valSe s) : Seen_ es (seen.push e.born) (c ++ [s]) := by
 obtain ⟨ds, d1, d2, d3, d4⟩ := h
 have hn' : e.born ∉ seen.toList := by simpa using hn
 refine ⟨ds ++ [e], by simp [d1], fun x hx => ?_, ?_, by simp [d4, h1, h2, entSe]⟩
 ·rcases List.mem_append.1 hx with hx | hx
  ·exact d2 x hx
  ·obtain rfl := List.mem_singleton.1 hx
   exact he
 ·rw [List.nodup_append]
  refine ⟨d3, by simp, fun x hx y hy e1 => ?_⟩
  obtain rfl := List.mem_singleton.1 hy
  subst e1
  exact hn' (by rw [d1]; exact List.mem_map.2 ⟨_, hx, rfl⟩)
theorem born_one : ∀ {l : List MapEntry}, (l.map (·.born)).Nodup → ∀ {x y : MapEntry}, x ∈ l → y ∈ l → x.born = y.born → x = y
 | [], _, x, y, hx, _, _ => by simp at hx
 | a :: l, h, x, y, hx, hy, e => by
  rw [List.map_cons, List.nodup_cons] at h
  rcases List.mem_cons.1 hx with e1 | hx
  ·rcases List.mem_cons.1 hy with e2 | hy
   ·rw [e1, e2]
   ·exact absurd (by rw [← e1, e]; exact List.mem_map.2 ⟨y, hy, rfl⟩) h.1
  ·rcases List.mem_cons.1 hy with e2 | hy
   ·exact absurd (by rw [← e2, ← e]; exact List.mem_map.2 ⟨x, hx, rfl⟩) h.1
   ·exact born_one h.2 hx hy e
theorem Seen_.all {seen : Array Nat} {c : List Se} (h : Seen_ es seen c) (hm : MapO l es c0) (h0 : (leftOf es seen).size = 0) : c.Perm l := by
 obtain ⟨ds, d1, d2, d3, d4⟩ := h
 have hn : es.toList.Nodup := (List.pairwise_map.1 hm.nd).imp (fun h e => h (by rw [e]))
 have hp : ds.Perm es.toList := by
  rw [List.perm_ext_iff_of_nodup d3 hn]
  refine fun e => ⟨d2 e, fun he => ?_⟩
  have h1 := all_seen es seen h0 e he
  have h2 : e.born ∈ seen.toList := by simpa using h1
  rw [d1] at h2
  obtain ⟨d, hd, e1⟩ := List.mem_map.1 h2
  rw [← born_one hm.nd (d2 d hd) he e1]
  exact hd
 have h3 := (hp.map (fun e => (e.key, e.val))).map decSe
 rw [d4, hm.ents, List.map_map, List.map_map] at h3
 have h4 : (decSe ∘ entSe) = id := by funext s; exact dec_ent s
 rwa [h4, List.map_id, List.map_id] at h3
theorem wpList_range_se (hg : o.guard = none) (m : Operand) (T : TypeId) (hop : o.op = Op.range T m) (K E : TypeId) (hT : P.underlying T = some (.map K E)) (b : Nat) (hm : a.eval m = .map (some b)) (hb : w.heap[b]? = some (.map es c0))
  (hK : wpList P ops Q rest (a.put o.dst (.pointer (some ⟨w.heap.size, 0, none⟩))) (w.alloc (.mapIter (some b) c0 #[] c0))) : wpList P ops Q (o :: rest) a w := by
 refine wpList_plain hg fun K' hK' => ?_
 have hrun := run_range_map (P := P) w T K E b es c0 hT hb
 unfold Oper.wp
 simp [execOp, hop, hm, hrun, Result.andThen]
 exact hK' _ _ hK
theorem wpList_next_se (hg : o.guard = none) (it : Operand) (hop : o.op = Op.next it false) (r b : Nat) (seen : Array Nat) (c : List Se) (hit : a.eval it = .pointer (some ⟨r, 0, none⟩)) (hr : w.heap[r]? = some (.mapIter (some b) c0 seen c0)) (hb : w.heap[b]? = some (.map es c0)) (h : MapO l es c0) (hs : Seen_ es seen c)
  (hDone : c.Perm l → wpList P ops Q rest (a.put o.dst (.tuple #[.bool false])) w)
  (hMore : ∀ (s : Se) (seen' : Array Nat) (w1 : World), s ∈ l → Seen_ es seen' (c ++ [s]) → (leftOf es seen').size < (leftOf es seen).size → (w1 = w ∨ w1 = w.drew) →
   (Instr.entry (.pointer (some ⟨r, 0, none⟩))).run P (setBlock w1 r (.mapIter (some b) c0 seen' c0)) = .ok (.tuple #[.int .i64 s.client, .agg #[.int .i64 s.client, .int .i64 s.seq, .int .i64 s.rev]]) (setBlock w1 r (.mapIter (some b) c0 seen' c0)) →
   wpList P ops Q rest (a.put o.dst (.tuple #[.bool true, .int .i64 s.client, .agg #[.int .i64 s.client, .int .i64 s.seq, .int .i64 s.rev]])) (setBlock w1 r (.mapIter (some b) c0 seen' c0))) : wpList P ops Q (o :: rest) a w := by
 refine wpList_plain hg fun K' hK' => ?_
 unfold Oper.wp
 rcases run_next_at (P := P) w o.type r b c0 c0 seen es c0 hr hb h.old (Nat.le_refl _) with ⟨h0, hrun⟩ | ⟨e, he, w1, hw, hrun⟩
 ·simp [execOp, hop, hit, hrun, Result.andThen]
  exact hK' _ _ (hDone (hs.all h h0))
 ·obtain ⟨h1, h2⟩ := mem_left he
  obtain ⟨s, h3, h4, h5⟩ := h.mem h1
  have hne : ¬ b = r := fun e => by rw [e, hr] at hb; cases hb
  have hr1 : w1.heap[r]? = some (.mapIter (some b) c0 seen c0) := by rcases hw with rfl | rfl <;> exact hr
  have hb1 : w1.heap[b]? = some (.map es c0) := by rcases hw with rfl | rfl <;> exact hb
  have hset := MapKept.heap_set (o' := .mapIter (some b) c0 (seen.push e.born) c0) hr1
  have hen := run_entry_at (P := P) (setBlock w1 r (.mapIter (some b) c0 (seen.push e.born) c0)) r b c0 seen es c0 e hset.1 ((hset.2 b hne).trans hb1) h1 h.nd
  rw [h4, h5] at hrun hen
  unfold valSe at hrun hen
  simp [execOp, hop, hit, hrun, Result.andThen]
  exact hK' _ _ (hMore s _ w1 h3 (hs.step h1 h2 h4 h5) (left_shrinks es seen e he) hw hen)
end
section
variable {w0 W : World} {L : List It}
theorem Ms.obj {g : Nat} {o o' : Obj} (h : Ms w0 (.bx g o :: L) W) : Ms w0 (.bx g o' :: L) (setBlock W g o') := by
 have hg := h.glt (i := 0) rfl
 have hset := MapKept.heap_set (o' := o') (show W.heap[g]? = some o from h.at_ (i := 0) rfl)
 refine h.turn (by simp [setBlock]) (fun q hq hn => hset.2 q (fun e => hn (by simp [It.bs]; exact e))) ⟨h.bl.os, h.bl.tape, h.bl.output, by simp [setBlock]; exact h.bl.size, fun q hq => (hset.2 q (by omega)).trans (h.bl.block q hq)⟩ hset.1 (by simp [It.bs]) (fun q hq => .inl hq)
theorem Ms.newO (h : Ms w0 L W) (o : Obj) : Ms w0 (.bx W.heap.size o :: L) (W.alloc o) :=
 h.cons (alloc_below W _) (heap_alloc_new W _) (by simp [It.bs]) (fun q hq => by simp [It.bs] at hq; omega)
theorem Ms.either (h : Ms w0 L W) {W1 : World} (hw : W1 = W ∨ W1 = W.drew) : Ms w0 L W1 := by
 rcases hw with rfl | rfl
 ·exact h
 ·exact h.drew
end
end Go.Proofs.YtglklgnggkenhaaGreatDoor.low
namespace Go.Proofs.YtglklgnggkenhaaGreatDoor.low
open Go.RowKit
set_option linter.unusedVariables false
theorem implFlush_f (S : Nat → Prop) (lo g : Nat) (ps : List Pt) (put : List Int) (d : Int) (w : World) (hb : BAtS S lo g 187 w ps put d) (hS : ∀ b, w.heap.size ≤ b → S b) (hl : ps.length ≤ 4294967296) (hp : put.length ≤ 4294967296) :
  Calls Tryz.prog 164 #[.pointer (some ⟨g, 0, none⟩)] w (FlushedS S lo g 187 w (ps ++ putL put ++ dropL d)) := by
 obtain ⟨i0, hi0, hz0, hz1, hz2⟩ := info_parts part_info
 obtain ⟨v, u, us, hx, ha, hos⟩ := hb
 have HS := Lib.hid hS
 have HOS := Lib.hid hos
 clear hS hos
 have ha0 := ha.init hx.len
 obtain ⟨A, c, rfl⟩ := own_form (ha.last hx.len)
 have c0 := hx.cell0
 have c1 := hx.cell1
 have c2 := hx.cell2
 have f0 := hx.free 0
 have f1 := hx.free 1
 have f2 := hx.free 2
 have HX := Lib.hid hx
 have HA := Lib.hid ha
 have HA0 := Lib.hid ha0
 clear hx ha ha0
 by_cases hput : put.length = 0
 ·have e1 : putL put = [] := by simp [putL, hput]
  rw [e1, List.append_nil]
  by_cases hd : 0 < d
  ·have e2 : dropL d = [⟨3, d, []⟩] := by simp [dropL, hd]
   rw [e2]
   go_enter Tryz.func164, Tryz.ntmps164
   go_wp2_with fail
   have lg := HX.out.lt
   have hlo : lo ≤ w.heap.size := Nat.le_trans HX.out.low (Nat.le_of_lt lg)
   have hne := own_far HX.out.row HX.out.box (by decide)
   go_region_law ((refine step_append_lies _ (by rfl) (.tmp 31) (.tmp 37) 37 (by rfl) lo 68 i0 _ 3 40 Tryz.underlying37 hi0 hz0 hz1 hz2 rfl (by omega) v ps.length (cellsOf ps us) (by rfl) ((HX.out.row.alloc _).drew) ⟨w.heap.size, 0, none⟩ 1 1 [.int .i64 3, .int .i64 d, .slice none 0 0] (by rfl) (by rfl) (World.news_of_block (cs := #[.int .i64 3, .int .i64 d, .slice none 0 0]) (t := 68) (fr := (0, 0)) (heap_alloc_new w _)) (by simp [Value.oneCell']) (by omega) (by unfold maxLen; omega) (by omega) (by simp; omega) (w.heap.size + 1) (by simp) ?_; intro gg cap w1 hown1 hgrow hat hlt; have hf := free_grown (o := 0) HX.out.box (below_made w _) hgrow hne; have hf1 := free_grown (o := 1) HX.out.box (below_made w _) hgrow hne; have hf2 := free_grown (o := 2) HX.out.box (below_made w _) hgrow hne; have hc : w1.cell? ⟨g, 0, none⟩ = some v := cell_grown 0 HX.out.box (below_made w _) hgrow hne; have hc1 : w1.cell? ⟨g, 1, none⟩ = some (.slice A put.length c) := cell_grown 1 HX.out.box (below_made w _) hgrow hne; have hc2 : w1.cell? ⟨g, 2, none⟩ = some (.int .i64 d) := cell_grown 2 HX.out.box (below_made w _) hgrow hne))
   all_goals
    obtain ⟨hx2, ha2, b2⟩ := Box.push (p := ⟨3, d, []⟩) HX.out (by decide) (by decide) (Apart.bare 3 d HA0.out) (below_made w _) hown1 hgrow
    have HO2 := Lib.hid (HOS.out.init.push (n := ps.length + 1) (cap := cap) nil_own hat (HS.out _ (by omega)))
    have HR2 := Lib.hid (push_fr HOS.out.init (below_made w _) hgrow (.slice (some ⟨gg, 0, none⟩) (ps.length + 1) cap))
    have HX2 := Lib.hid hx2
    have HA2 := Lib.hid ha2
    have HB2 := Lib.hid b2
    clear hx2 ha2 b2
    go_wp2
    go_end0
    obtain ⟨r1, r2, r3⟩ := HX2.out.clearS (by decide) (by decide) HA2.out HO2.out
    exact ⟨rfl, r1, HB2.out.trans r2, HR2.out.trans r3⟩
  ·have e2 : dropL d = [] := by simp [dropL]; omega
   rw [e2, List.append_nil]
   go_enter Tryz.func164, Tryz.ntmps164
   go_wp2_with fail
   go_end0
   obtain ⟨r1, r2, r3⟩ := HX.out.clearS (by decide) (by decide) HA0.out HOS.out.init
   exact ⟨rfl, r1, r2, r3⟩
 ·have hput' : (0 : Int) < (put.length : Int) := by omega
  have e1 : putL put = [⟨2, 0, put⟩] := by simp [putL, hput]
  rw [e1]
  by_cases hd : 0 < d
  ·have e2 : dropL d = [⟨3, d, []⟩] := by simp [dropL, hd]
   rw [e2]
   generalize hQ : ps ++ [⟨2, 0, put⟩] ++ [⟨3, d, []⟩] = Q
   have HQ := Lib.hid hQ
   clear hQ
   go_enter Tryz.func164, Tryz.ntmps164
   go_wp2_with fail
   have lg := HX.out.lt
   have hlo : lo ≤ w.heap.size := Nat.le_trans HX.out.low (Nat.le_of_lt lg)
   have hne := own_far HX.out.row HX.out.box (by decide)
   go_region_law ((refine step_append_lies _ (by rfl) (.tmp 12) (.tmp 18) 37 (by rfl) lo 68 i0 _ 3 40 Tryz.underlying37 hi0 hz0 hz1 hz2 rfl (by omega) v ps.length (cellsOf ps us) (by rfl) ((HX.out.row.alloc _).drew) ⟨w.heap.size, 0, none⟩ 1 1 [.int .i64 2, .int .i64 0, .slice A put.length c] (by rfl) (by rfl) (World.news_of_block (cs := #[.int .i64 2, .int .i64 0, .slice A put.length c]) (t := 68) (fr := (0, 0)) (heap_alloc_new w _)) (by simp [Value.oneCell']) (by omega) (by unfold maxLen; omega) (by omega) (by simp; omega) (w.heap.size + 1) (by simp) ?_; intro gg cap w1 hown1 hgrow hat hlt; have hf := free_grown (o := 0) HX.out.box (below_made w _) hgrow hne; have hf1 := free_grown (o := 1) HX.out.box (below_made w _) hgrow hne; have hf2 := free_grown (o := 2) HX.out.box (below_made w _) hgrow hne; have hc : w1.cell? ⟨g, 0, none⟩ = some v := cell_grown 0 HX.out.box (below_made w _) hgrow hne; have hc1 : w1.cell? ⟨g, 1, none⟩ = some (.slice A put.length c) := cell_grown 1 HX.out.box (below_made w _) hgrow hne; have hc2 : w1.cell? ⟨g, 2, none⟩ = some (.int .i64 d) := cell_grown 2 HX.out.box (below_made w _) hgrow hne))
   all_goals
    obtain ⟨hx1, ha1, b1⟩ := Box.push (p := ⟨2, 0, put⟩) HX.out (by decide) (by decide) HA.out (below_made w _) hown1 hgrow
    have HO1 := Lib.hid (HOS.out.init.push (n := ps.length + 1) (cap := cap) HOS.out.last hat (HS.out _ (by omega)))
    have HR1 := Lib.hid (push_fr HOS.out.init (below_made w _) hgrow (.slice (some ⟨gg, 0, none⟩) (ps.length + 1) cap))
    clear hown1 hgrow hat hlt hlo hne lg c0 c1 c2 f0 f1 f2
    have HX1 := Lib.hid hx1
    have HA1 := Lib.hid ha1
    have HB1 := Lib.hid b1
    clear hx1 ha1 b1
    go_wp2_with fail
    clear hf hf1 hf2 hc hc1 hc2
    generalize (Value.slice (some ⟨gg, 0, none⟩) (ps.length + 1) cap) = v1 at *
    generalize w1.setCell ⟨g, 0, none⟩ v1 = W1 at *
    have c0 := HX1.out.cell0
    have c1 := HX1.out.cell1
    have c2 := HX1.out.cell2
    have f0 := HX1.out.free 0
    have f1 := HX1.out.free 1
    have f2 := HX1.out.free 2
    generalize hps : ps ++ [⟨2, 0, put⟩] = ps1 at *
    have hl1 : ps1.length ≤ 4294967297 := by rw [← hps]; simp; omega
    clear hps
    generalize us ++ [Value.slice A put.length c] = us1 at *
    have lg := HX1.out.lt
    have hlo : lo ≤ W1.heap.size := Nat.le_trans HX1.out.low (Nat.le_of_lt lg)
    have hne := own_far HX1.out.row HX1.out.box (by decide)
    go_region_law ((refine step_append_lies _ (by rfl) (.tmp 31) (.tmp 37) 37 (by rfl) lo 68 i0 _ 3 40 Tryz.underlying37 hi0 hz0 hz1 hz2 rfl (by omega) v1 ps1.length (cellsOf ps1 us1) (by rfl) ((HX1.out.row.alloc _).drew) ⟨W1.heap.size, 0, none⟩ 1 1 [.int .i64 3, .int .i64 d, .slice none 0 0] (by rfl) (by rfl) (World.news_of_block (cs := #[.int .i64 3, .int .i64 d, .slice none 0 0]) (t := 68) (fr := (0, 0)) (heap_alloc_new W1 _)) (by simp [Value.oneCell']) (by omega) (by unfold maxLen; omega) (by omega) (by simp; omega) (W1.heap.size + 1) (by simp) ?_; intro gg cap w1 hown1 hgrow hat hlt; have hf := free_grown (o := 0) HX1.out.box (below_made W1 _) hgrow hne; have hf1 := free_grown (o := 1) HX1.out.box (below_made W1 _) hgrow hne; have hf2 := free_grown (o := 2) HX1.out.box (below_made W1 _) hgrow hne; have hc : w1.cell? ⟨g, 0, none⟩ = some v1 := cell_grown 0 HX1.out.box (below_made W1 _) hgrow hne; have hc1 : w1.cell? ⟨g, 1, none⟩ = some (.slice A put.length c) := cell_grown 1 HX1.out.box (below_made W1 _) hgrow hne; have hc2 : w1.cell? ⟨g, 2, none⟩ = some (.int .i64 d) := cell_grown 2 HX1.out.box (below_made W1 _) hgrow hne))
    all_goals
     obtain ⟨hx2, ha2, b2⟩ := Box.push (p := ⟨3, d, []⟩) HX1.out (by decide) (by decide) (Apart.bare 3 d HA1.out) (below_made W1 _) hown1 hgrow
     have HO2 := Lib.hid (HO1.out.push (n := ps1.length + 1) (cap := cap) nil_own hat (HS.out _ (by have := HR1.out.size; omega)))
     have HR2 := Lib.hid (push_fr HO1.out (below_made W1 _) hgrow (.slice (some ⟨gg, 0, none⟩) (ps1.length + 1) cap))
     have HX2 := Lib.hid hx2
     have HA2 := Lib.hid ha2
     have HB2 := Lib.hid b2
     clear hx2 ha2 b2
     go_wp2
     go_end0
     obtain ⟨r1, r2, r3⟩ := HX2.out.clearS (by decide) (by decide) HA2.out HO2.out
     exact ⟨rfl, by rw [← HQ.out]; exact r1, HB1.out.trans (HB2.out.trans r2), HR1.out.trans (HR2.out.trans r3)⟩
  ·have e2 : dropL d = [] := by simp [dropL]; omega
   rw [e2, List.append_nil]
   go_enter Tryz.func164, Tryz.ntmps164
   go_wp2_with fail
   have lg := HX.out.lt
   have hlo : lo ≤ w.heap.size := Nat.le_trans HX.out.low (Nat.le_of_lt lg)
   have hne := own_far HX.out.row HX.out.box (by decide)
   go_region_law ((refine step_append_lies _ (by rfl) (.tmp 12) (.tmp 18) 37 (by rfl) lo 68 i0 _ 3 40 Tryz.underlying37 hi0 hz0 hz1 hz2 rfl (by omega) v ps.length (cellsOf ps us) (by rfl) ((HX.out.row.alloc _).drew) ⟨w.heap.size, 0, none⟩ 1 1 [.int .i64 2, .int .i64 0, .slice A put.length c] (by rfl) (by rfl) (World.news_of_block (cs := #[.int .i64 2, .int .i64 0, .slice A put.length c]) (t := 68) (fr := (0, 0)) (heap_alloc_new w _)) (by simp [Value.oneCell']) (by omega) (by unfold maxLen; omega) (by omega) (by simp; omega) (w.heap.size + 1) (by simp) ?_; intro gg cap w1 hown1 hgrow hat hlt; have hf := free_grown (o := 0) HX.out.box (below_made w _) hgrow hne; have hf1 := free_grown (o := 1) HX.out.box (below_made w _) hgrow hne; have hf2 := free_grown (o := 2) HX.out.box (below_made w _) hgrow hne; have hc : w1.cell? ⟨g, 0, none⟩ = some v := cell_grown 0 HX.out.box (below_made w _) hgrow hne; have hc1 : w1.cell? ⟨g, 1, none⟩ = some (.slice A put.length c) := cell_grown 1 HX.out.box (below_made w _) hgrow hne; have hc2 : w1.cell? ⟨g, 2, none⟩ = some (.int .i64 d) := cell_grown 2 HX.out.box (below_made w _) hgrow hne))
   all_goals
    obtain ⟨hx1, ha1, b1⟩ := Box.push (p := ⟨2, 0, put⟩) HX.out (by decide) (by decide) HA.out (below_made w _) hown1 hgrow
    have HO2 := Lib.hid (HOS.out.init.push (n := ps.length + 1) (cap := cap) HOS.out.last hat (HS.out _ (by omega)))
    have HR2 := Lib.hid (push_fr HOS.out.init (below_made w _) hgrow (.slice (some ⟨gg, 0, none⟩) (ps.length + 1) cap))
    have HX2 := Lib.hid hx1
    have HA2 := Lib.hid ha1
    have HB2 := Lib.hid b1
    clear hx1 ha1 b1
    go_wp2
    go_end0
    obtain ⟨r1, r2, r3⟩ := HX2.out.clearS (by decide) (by decide) HA2.out HO2.out
    exact ⟨rfl, r1, HB2.out.trans r2, HR2.out.trans r3⟩
theorem implDrop_f (S : Nat → Prop) (lo g : Nat) (ps : List Pt) (put : List Int) (d n : Int) (w : World) (hb : BAtS S lo g 187 w ps put d) (hS : ∀ b, w.heap.size ≤ b → S b) (h0 : 0 ≤ d) (h1 : d ≤ 4611686018427387904) (h2 : 0 ≤ n) (h3 : n ≤ 1048576) :
  Calls Tryz.prog 163 #[.pointer (some ⟨g, 0, none⟩), .int .i64 n] w (BuiltS S lo g 187 w ps put (d + n)) := by
 obtain ⟨v, u, us, hx, ha, hos⟩ := hb
 have HS := Lib.hid hS
 have HOS := Lib.hid hos
 clear hS hos
 have c2 := hx.cell2
 have f2 := hx.free 2
 have HX := Lib.hid hx
 have HA := Lib.hid ha
 clear hx ha
 go_enter Tryz.func163, Tryz.ntmps163
 go_wp2
 go_end0
 obtain ⟨r1, r2, r3⟩ := HX.out.dropS (d' := d + n) (by decide) (by decide) HA.out HOS.out
 exact ⟨rfl, r1, r2, r3⟩
theorem implPut_f (S : Nat → Prop) (lo g : Nat) (ps : List Pt) (put : List Int) (d : Int) (A : Option Addr) (c : Nat) (zs : List Int) (w : World) (hb : BAtS S lo g 187 w ps put d) (hS : ∀ b, w.heap.size ≤ b → S b) (hr : Row (Value.int .i64) w w.heap.size A zs) (hp : put.length ≤ 4294967296) (hz : zs.length ≤ 4294967296) :
  Calls Tryz.prog 162 #[.pointer (some ⟨g, 0, none⟩), .slice A zs.length c] w (BuiltS S lo g 187 w ps (put ++ zs) d) := by
 obtain ⟨i0, hi0, hz0, hz1, hz2⟩ := info_parts ints_info
 obtain ⟨v, u, us, hx, ha, hos⟩ := hb
 have HS := Lib.hid hS
 have HOS := Lib.hid hos
 clear hS hos
 obtain ⟨Au, cu, rfl⟩ := own_form (ha.last hx.len)
 simp only at hx ha
 have c1 := hx.cell1
 have f1 := hx.free 1
 have ho := Lib.hid (ha.last hx.len)
 have hlo : lo ≤ w.heap.size := Nat.le_trans hx.low (Nat.le_of_lt hx.lt)
 have HX := Lib.hid hx
 have HA := Lib.hid ha
 clear hx ha
 by_cases hn : 0 < zs.length
 ·obtain ⟨ad, rfl, hbk, hcs⟩ := hr hn
  have hcs' : ∀ j x, (zs.map (Value.int .i64))[j]? = some x → w.cell? (ad.add j) = some x := fun j x hx => by
   rw [List.getElem?_map] at hx
   obtain ⟨z, hz, rfl⟩ := Option.map_eq_some_iff.1 hx
   exact hcs j z hz
  have HC := Lib.hid hcs'
  clear hcs hcs' hr
  have hug := own_far ho.out HX.out.box (by decide)
  go_enter Tryz.func162, Tryz.ntmps162
  go_wp2_with (at_builtin; refine wpList_append_lies _ rfl (.tmp 8) (.tmp 9) 22 rfl lo 3 i0 (.int .i64 0) 1 8 Tryz.underlying22 hi0 hz0 hz1 hz2 rfl (by decide) (.slice Au put.length cu) put.length (put.map (Value.int .i64)) rfl ho.out ad zs.length c (zs.map (Value.int .i64)) rfl (by simp) HC.out (by simp [Value.oneCell']) (by omega) (by unfold maxLen; omega) (by omega) hlo w.heap.size rfl ?_; intro gg cap w1 hown1 hgrow hat hlt; have hf := free_grown (o := 1) HX.out.box (Below.refl _ _) hgrow hug; have hc : w1.cell? ⟨g, 1, none⟩ = some (.slice Au put.length cu) := cell_grown 1 HX.out.box (Below.refl _ _) hgrow hug)
  go_end0
  obtain ⟨r1, r2, r3⟩ := Box.moreS (put' := put ++ zs) HX.out (by decide) (by decide) HA.out (by simpa using hown1) hgrow (hat.elim (fun e => .inl (by rw [e]; rfl)) (fun e => .inr (by rw [← e]; rfl))) HOS.out (HS.out _ (Nat.le_refl _))
  exact ⟨rfl, r1, r2, r3⟩
 ·have e0 : zs = [] := List.eq_nil_of_length_eq_zero (by omega)
  subst e0
  rw [List.append_nil]
  go_enter Tryz.func162, Tryz.ntmps162
  go_wp2_with (at_builtin; refine wpList_append_zero rfl (.tmp 8) (.tmp 9) 22 rfl lo 3 i0 1 Tryz.underlying22 hi0 (.slice Au put.length cu) put.length (put.map (Value.int .i64)) rfl ho.out A c rfl ?_)
  go_end0
  obtain ⟨r1, r2, r3⟩ := Box.moreS (put' := put) HX.out (by decide) (by decide) HA.out ho.out ⟨rfl, rfl, rfl, Nat.le_refl _, fun _ _ _ => rfl⟩ (.inl rfl) HOS.out (HS.out _ (Nat.le_refl _))
  exact ⟨rfl, r1, r2, r3⟩
theorem implDrop_any (lo g : Nat) (ps : List Pt) (put : List Int) (d n : Int) (w : World) (hb : BAt lo g 187 w ps put d) (h0 : 0 ≤ d) (h1 : d ≤ 4611686018427387904) (h2 : 0 ≤ n) (h3 : n ≤ 1048576) :
  Calls Tryz.prog 163 #[.pointer (some ⟨g, 0, none⟩), .int .i64 n] w (Built lo g 187 w ps put (d + n)) :=
 (implDrop_f (fun _ => True) lo g ps put d n w hb.all (fun _ _ => trivial) h0 h1 h2 h3).mono fun e w' h => h.any
theorem implPut_any (lo g : Nat) (ps : List Pt) (put : List Int) (d : Int) (A : Option Addr) (c : Nat) (zs : List Int) (w : World) (hb : BAt lo g 187 w ps put d) (hr : Row (Value.int .i64) w w.heap.size A zs) (hp : put.length ≤ 4294967296) (hz : zs.length ≤ 4294967296) :
  Calls Tryz.prog 162 #[.pointer (some ⟨g, 0, none⟩), .slice A zs.length c] w (Built lo g 187 w ps (put ++ zs) d) :=
 (implPut_f (fun _ => True) lo g ps put d A c zs w hb.all (fun _ _ => trivial) hr hp hz).mono fun e w' h => h.any
theorem implDone_f (S : Nat → Prop) (lo g : Nat) (ps : List Pt) (put : List Int) (d : Int) (w : World) (hb : BAtS S lo g 187 w ps put d) (hS : ∀ b, w.heap.size ≤ b → S b) (hl : ps.length ≤ 4294967296) (hp : put.length ≤ 4294967296) :
  Calls Tryz.prog 147 #[.pointer (some ⟨g, 0, none⟩)] w (GoneS S lo (ps ++ putL put ++ dropL d) w) := by
 go_enter Tryz.func147, Tryz.ntmps147
 go_wp2_with fail
 refine (implFlush_f S lo g ps put d w hb hS hl hp).mono ?_
 rintro e w1 ⟨rfl, ⟨v, us, hx, ha, hos⟩, b1, fr1⟩
 have HS := Lib.hid hS
 have HOS := Lib.hid hos
 have HR := Lib.hid fr1
 clear hS hos fr1
 obtain ⟨Av, cv, rfl⟩ := own_form hx.row
 have c0 := hx.cell0
 have HX := Lib.hid hx
 have HA := Lib.hid ha
 clear hx ha
 generalize ps ++ putL put ++ dropL d = q at *
 go_wp2
 go_ret
 exact ⟨_, us, rfl, HX.out.parts HA.out, b1, HR.out, HX.out.row, HX.out.len, HOS.out.2.1, HOS.out.2.2⟩
theorem implKeep_f (S : Nat → Prop) (lo g : Nat) (ps : List Pt) (put : List Int) (d n : Int) (w : World) (hb : BAtS S lo g 187 w ps put d) (hS : ∀ b, w.heap.size ≤ b → S b) (hl : ps.length ≤ 4294967296) (hp : put.length ≤ 4294967296) (hn : ¬ n = 0) (hn0 : 0 ≤ n) (hn1 : n ≤ 1048576)
  (hq : ∀ p ∈ ps ++ putL put ++ dropL d, 0 ≤ p.n ∧ p.n ≤ 4611686018427387904) (hql : (ps ++ putL put ++ dropL d).length ≤ 4294967298) :
  Calls Tryz.prog 161 #[.pointer (some ⟨g, 0, none⟩), .int .i64 n] w (FlushedS S lo g 187 w (keepTo (ps ++ putL put ++ dropL d) n)) := by
 obtain ⟨i0, hi0, hz0, hz1, hz2⟩ := info_parts part_info
 go_enter Tryz.func161, Tryz.ntmps161
 go_wp2_with fail
 refine (implFlush_f S lo g ps put d w hb hS hl hp).mono ?_
 rintro e w1 ⟨rfl, ⟨v, us, hx, ha, hos⟩, b1, fr1⟩
 have HS := Lib.hid hS
 have HOS := Lib.hid hos
 have HR := Lib.hid fr1
 clear hS hos fr1
 generalize ps ++ putL put ++ dropL d = q at *
 have c0 := hx.cell0
 have f0 := hx.free 0
 have hne := own_far hx.row hx.box (by decide)
 have hlo : lo ≤ w1.heap.size := Nat.le_trans hx.low (Nat.le_of_lt hx.lt)
 rcases q.eq_nil_or_concat with rfl | ⟨r, p, rfl⟩
 ·obtain ⟨Av, cv, rfl⟩ := own_form hx.row
  have HX := Lib.hid hx
  have HA := Lib.hid ha
  clear hx ha
  go_wp2_with (at_builtin; refine wpList_append_lies _ rfl (.tmp 44) (.tmp 47) 37 rfl lo 68 i0 _ 3 40 Tryz.underlying37 hi0 hz0 hz1 hz2 rfl (by omega) (.slice Av 0 cv) 0 (cellsOf [] us) rfl (HX.out.row.alloc _) ⟨w1.heap.size, 0, none⟩ 1 1 [.int .i64 1, .int .i64 n, .slice none 0 0] rfl rfl (World.news_of_block (cs := #[.int .i64 1, .int .i64 n, .slice none 0 0]) (t := 68) (fr := (0, 0)) (heap_alloc_new w1 _)) (by simp [Value.oneCell']) (by omega) (by unfold maxLen; omega) (by omega) (by simp; omega) (w1.heap.size + 1) (by simp) ?_; intro gg cap w2 hown1 hgrow hat hlt; have hf := free_grown (o := 0) HX.out.box (below_new w1 _) hgrow hne; have hc : w2.cell? ⟨g, 0, none⟩ = some (.slice Av 0 cv) := cell_grown 0 HX.out.box (below_new w1 _) hgrow hne)
  go_end0
  obtain ⟨hx2, ha2, b2⟩ := Box.push (p := ⟨1, n, []⟩) HX.out (by decide) (by decide) (Apart.bare 1 n HA.out) (below_new w1 _) hown1 hgrow
  refine ⟨rfl, ?_, b1.trans b2, HR.out.trans (push_fr HOS.out (below_new w1 _) hgrow _)⟩
  rw [keepTo_nil]
  exact ⟨_, _, hx2, ha2, HOS.out.push nil_own hat (HS.out _ (by have := HR.out.size; omega))⟩
 ·rw [List.concat_eq_append] at *
  have hrl : (r ++ [p]).length = r.length + 1 := by simp
  rw [hrl] at hql
  have hp0 := hq p (by simp)
  clear hq
  rcases hx.row.2 with ⟨_, h0⟩ | ⟨gv, cap0, cur, rfl, hgv, hhv, hcap, hcap2, _, _⟩
  ·simp at h0
  rw [hrl] at c0 hne hcap hx
  have hrow : w1.ownsRow lo 68 3 (.slice (some ⟨gv, 0, none⟩) (r.length + 1) cap0) (r.length + 1) (cellsOf (r ++ [p]) us) := by have := hx.row; rwa [hrl] at this
  have k0 : w1.cell? ⟨gv, r.length * 3, none⟩ = some (.int .i64 p.kind) := by
   have := hrow.cellAt (r.length * 3) (by omega)
   obtain ⟨u, hu⟩ := idx_some (l := us) (i := r.length) (by rw [hx.len]; simp)
   rw [this, (cellsOf_at (r ++ [p]) us r.length p u (by simp) hu).1]
  have k1 : w1.cell? ⟨gv, r.length * 3 + 1, none⟩ = some (.int .i64 p.n) := by
   have := hrow.cellAt (r.length * 3 + 1) (by omega)
   obtain ⟨u, hu⟩ := idx_some (l := us) (i := r.length) (by rw [hx.len]; simp)
   rw [this, (cellsOf_at (r ++ [p]) us r.length p u (by simp) hu).2.1]
  have fv := hrow.frozenAt (r.length * 3 + 1)
  have HRW := Lib.hid hrow
  clear hrow
  have HX := Lib.hid hx
  have HA := Lib.hid ha
  clear hx ha hhv
  by_cases hk : p.kind = 1
  ·go_wp2
   go_end0
   obtain ⟨hx2, ha2, b2⟩ := Box.setN (b := p.n + n) HX.out (by decide) (by decide) HA.out
   refine ⟨rfl, ?_, b1.trans b2, HR.out.trans (setN_fr HOS.out _)⟩
   rw [keepTo_t n hk]
   exact ⟨_, _, hx2, ha2, HOS.out⟩
  ·go_wp2_with (at_builtin; refine wpList_append_lies _ rfl (.tmp 44) (.tmp 47) 37 rfl lo 68 i0 _ 3 40 Tryz.underlying37 hi0 hz0 hz1 hz2 rfl (by omega) (.slice (some ⟨gv, 0, none⟩) (r.length + 1) cap0) (r.length + 1) (cellsOf (r ++ [p]) us) rfl (HRW.out.alloc _) ⟨w1.heap.size, 0, none⟩ 1 1 [.int .i64 1, .int .i64 n, .slice none 0 0] rfl rfl (World.news_of_block (cs := #[.int .i64 1, .int .i64 n, .slice none 0 0]) (t := 68) (fr := (0, 0)) (heap_alloc_new w1 _)) (by simp [Value.oneCell']) (by omega) (by unfold maxLen; omega) (by omega) (by simp; omega) (w1.heap.size + 1) (by simp) ?_; intro gg cap w2 hown1 hgrow hat hlt; have hf := free_grown (o := 0) HX.out.box (below_new w1 _) hgrow hne; have hc : w2.cell? ⟨g, 0, none⟩ = some (.slice (some ⟨gv, 0, none⟩) (r.length + 1) cap0) := cell_grown 0 HX.out.box (below_new w1 _) hgrow hne)
   go_end0
   obtain ⟨hx2, ha2, b2⟩ := Box.push (p := ⟨1, n, []⟩) HX.out (by decide) (by decide) (Apart.bare 1 n HA.out) (below_new w1 _) (by rw [hrl]; exact hown1) hgrow
   rw [hrl] at hx2 ha2 b2
   refine ⟨rfl, ?_, b1.trans b2, HR.out.trans (push_fr HOS.out (below_new w1 _) hgrow _)⟩
   rw [keepTo_f n hk]
   exact ⟨_, _, hx2, ha2, HOS.out.push nil_own hat (HS.out _ (by have := HR.out.size; omega))⟩
theorem implDone_any (lo g : Nat) (ps : List Pt) (put : List Int) (d : Int) (w : World) (hb : BAt lo g 187 w ps put d) (hl : ps.length ≤ 4294967296) (hp : put.length ≤ 4294967296) :
  Calls Tryz.prog 147 #[.pointer (some ⟨g, 0, none⟩)] w (Gone lo (ps ++ putL put ++ dropL d) w) :=
 (implDone_f (fun _ => True) lo g ps put d w hb.all (fun _ _ => trivial) hl hp).mono fun e w' h => h.any
theorem implKeep_any (lo g : Nat) (ps : List Pt) (put : List Int) (d n : Int) (w : World) (hb : BAt lo g 187 w ps put d) (hl : ps.length ≤ 4294967296) (hp : put.length ≤ 4294967296) (hn : ¬ n = 0) (hn0 : 0 ≤ n) (hn1 : n ≤ 1048576)
  (hq : ∀ p ∈ ps ++ putL put ++ dropL d, 0 ≤ p.n ∧ p.n ≤ 4611686018427387904) (hql : (ps ++ putL put ++ dropL d).length ≤ 4294967298) :
  Calls Tryz.prog 161 #[.pointer (some ⟨g, 0, none⟩), .int .i64 n] w (Flushed lo g 187 w (keepTo (ps ++ putL put ++ dropL d) n)) :=
 (implKeep_f (fun _ => True) lo g ps put d n w hb.all (fun _ _ => trivial) hl hp hn hn0 hn1 hq hql).mono fun e w' h => h.any
theorem implKeep_zero (g : Nat) (w : World) : Calls Tryz.prog 161 #[.pointer (some ⟨g, 0, none⟩), .int .i64 0] w fun e w' => e = .returned (.tuple #[]) ∧ w = w' := by
 go_enter Tryz.func161, Tryz.ntmps161
 go_wp2
 first | go_end0 | (refine bodyPost_ret (results_none rfl _ _ _) rfl ?_)
 exact ⟨rfl, rfl⟩
end Go.Proofs.YtglklgnggkenhaaGreatDoor.low
