/-
  Texts that the proofs over this seat rest on, one behind the other (5 of 5).
-/
import Derived.Test.YtmlkeflnnaabeaaM4
import Derived.Deep.WholeRow
import Derived.Laws.EntriesVeiled
import Derived.Test.YtmlkeflnnaabeaaM2
import Derived.Test.YtmlkeflnnaabeaaM3

/-
  The program's transformation: the effects of an insertion (putFirst, putSecond).
-/
namespace Go.Proofs.Ytmlkeflnnaabeaa.low.xb
open Go.RowKit
set_option linter.unusedVariables false

section
variable {F : Fy} {KL : List (Nat × Obj)} {O P : Nat → Prop} {L M : List Pt} {w : World} {p : Pt} {ps : List Pt} {q : Pt} {qs : List Pt}
def slA (w : World) (g i : Nat) : Option Addr := match w.cell? ⟨g, i, none⟩ with
  | some (.slice A _ _) => A
  | _ => none
def slC (w : World) (g i : Nat) : Nat := match w.cell? ⟨g, i, none⟩ with
  | some (.slice _ _ c) => c
  | _ => 0
theorem sl_of {w : World} {g i n c : Nat} {A : Option Addr} (h : w.cell? ⟨g, i, none⟩ = some (.slice A n c)) : w.cell? ⟨g, i, none⟩ = some (.slice (slA w g i) n (slC w g i)) := by
  unfold slA slC
  rw [h]
theorem Xs.cellsA0 (h : Xs F KL O P L M w p ps q qs) : w.cell? ⟨F.g, 0, none⟩ = some (.int .i64 p.kind) := by obtain ⟨_, _, h1, _⟩ := h.cellsA; exact h1
theorem Xs.cellsA1 (h : Xs F KL O P L M w p ps q qs) : w.cell? ⟨F.g, 1, none⟩ = some (.int .i64 p.n) := by obtain ⟨_, _, _, h1, _⟩ := h.cellsA; exact h1
theorem Xs.cellsA2 (h : Xs F KL O P L M w p ps q qs) : w.cell? ⟨F.g, 2, none⟩ = some (.slice (slA w F.g 2) p.signs.length (slC w F.g 2)) := by obtain ⟨_, _, _, _, h1, _⟩ := h.cellsA; exact sl_of h1
theorem Xs.cellsB0 (h : Xs F KL O P L M w p ps q qs) : w.cell? ⟨F.g, 4, none⟩ = some (.int .i64 q.kind) := by obtain ⟨_, _, h1, _⟩ := h.cellsB; exact h1
theorem Xs.cellsB1 (h : Xs F KL O P L M w p ps q qs) : w.cell? ⟨F.g, 5, none⟩ = some (.int .i64 q.n) := by obtain ⟨_, _, _, h1, _⟩ := h.cellsB; exact h1
theorem Xs.cellsB2 (h : Xs F KL O P L M w p ps q qs) : w.cell? ⟨F.g, 6, none⟩ = some (.slice (slA w F.g 6) q.signs.length (slC w F.g 6)) := by obtain ⟨_, _, _, _, h1, _⟩ := h.cellsB; exact sl_of h1
theorem Xs.c3 {m : Nat} {v0 v1 v2 : Value} {T : TypeId} (h : Xs F ((m, .cells #[v0, v1, v2] T (0, 0)) :: KL) O P L M w p ps q qs) : w.cell? ⟨m, 0, none⟩ = some v0 ∧ w.cell? ⟨m, 1, none⟩ = some v1 ∧ w.cell? ⟨m, 2, none⟩ = some v2 :=
  ⟨h.cellK (List.mem_cons_self) rfl, h.cellK (List.mem_cons_self) rfl, h.cellK (List.mem_cons_self) rfl⟩
theorem Xs.f3 {m : Nat} {v0 v1 v2 : Value} {T : TypeId} (h : Xs F ((m, .cells #[v0, v1, v2] T (0, 0)) :: KL) O P L M w p ps q qs) : w.frozen? ⟨m, 0, none⟩ = false ∧ w.frozen? ⟨m, 1, none⟩ = false ∧ w.frozen? ⟨m, 2, none⟩ = false :=
  ⟨h.freeK (List.mem_cons_self) 0, h.freeK (List.mem_cons_self) 1, h.freeK (List.mem_cons_self) 2⟩
theorem Xs.set3 {m : Nat} {v0 v1 v2 : Value} {T : TypeId} (h : Xs F ((m, .cells #[v0, v1, v2] T (0, 0)) :: KL) O P L M w p ps q qs) (hn : ∀ x ∈ KL, ¬ x.1 = m) (x0 x1 x2 : Value) : Xs F ((m, .cells #[x0, x1, x2] T (0, 0)) :: KL) O P L M (((w.setCell ⟨m, 0, none⟩ x0).setCell ⟨m, 1, none⟩ x1).setCell ⟨m, 2, none⟩ x2) p ps q qs :=
  ((h.setK (i := 0) hn x0).setK (i := 1) hn x1).setK (i := 2) hn x2
/-- a part's block, made -/
theorem Xs.made (h : Xs F KL O P L M w p ps q qs) (o : Obj) : Xs F ((w.heap.size, o) :: KL) O P L M (w.alloc o) p ps q qs ∧ ∀ x ∈ KL, ¬ x.1 = w.heap.size :=
  ⟨h.also (alloc_below w o) (Nat.le_refl _) (heap_alloc_new w o), h.fresh (Nat.le_refl _)⟩
theorem Xs.to0 {d : Dat} {v : Value} (h : Xs F KL O P L M w p ps q qs) (hr : RdC w F.lo d v) : RdC F.w0 F.lo d v := RdC.keep (fun _ hp => (h.bl.cell hp).symm) d v hr
theorem Xs.of0 {d : Dat} {v : Value} (h : Xs F KL O P L M w p ps q qs) (hr : RdC F.w0 F.lo d v) : RdC w F.lo d v := RdC.keep (fun _ hp => h.bl.cell hp) d v hr
theorem Xs.tail {x : Nat × Obj} (h : Xs F (x :: KL) O P L M w p ps q qs) : Xs F KL O P L M w p ps q qs := h.less (fun y hy => List.mem_cons_of_mem _ hy)
set_option maxRecDepth 100000 in
set_option maxHeartbeats 1600000 in
theorem Xs.putFirst (h : Xs F KL O P L M w p ps q qs) (h0 : 0 < sizeP p) (hL : L.length < 100000) (hM : M.length < 100000) : Calls Try.prog 97 #[.pointer (some ⟨F.g, 0, none⟩)] w (EffP F KL (L ++ [p]) (M ++ [⟨1, (sizeP p : Int), []⟩]) (cutR p (sizeP p)) ps q qs) := by
  have hv := h.vp
  have hs := hv.size
  have hk0 := hv.kind_ne h0
  have HS := Lib.hid h.drew
  clear h
  go_enter Try.func97, Try.ntmps97
  go_wp2
  refine wp_region_held_drew (S := fun _ => True) (by kernel_rfl) trivial (fun _ => ?_)
  generalize w.drew = wd at *
  refine wpAnyH_take (i := 0) (v := .pointer (some ⟨F.g, 0, none⟩)) rfl (by kernel_rfl) (by kernel_rfl) (by kernel_rfl) (fun _ _ _ h => h) (Or.inl ⟨by rfl, fun w' hS => ?_⟩) trivial ?_
  · clear HS; go_simp
  try simp only [Act.put]
  refine wpAnyH_take (i := 1) (v := .pointer (some ⟨F.g, 0, none⟩)) rfl (by kernel_rfl) (by kernel_rfl) (by kernel_rfl) (fun _ _ _ h => h) (Or.inl ⟨by rfl, fun w' hS => ?_⟩) trivial ?_
  · clear HS; go_simp
  try simp only [Act.put]
  refine wpAnyH_take (i := 2) (v := .pointer (some ⟨F.g, 0, none⟩)) rfl (by kernel_rfl) (by kernel_rfl) (by kernel_rfl) (fun _ _ _ h => h) (Or.inl ⟨by rfl, fun w' hS => ?_⟩) trivial ?_
  · clear HS; go_simp
  try simp only [Act.put]
  refine wpAnyH_take (i := 3) (v := .pointer (some ⟨F.g, 0, none⟩)) rfl (by kernel_rfl) (by kernel_rfl) (by kernel_rfl) (fun _ _ _ h => h) (Or.inl ⟨by rfl, fun w' hS => ?_⟩) trivial ?_
  · clear HS; go_simp
  try simp only [Act.put]
  refine wpAnyH_take (i := 4) (v := .pointer (some ⟨F.g, 0, none⟩)) rfl (by kernel_rfl) (by kernel_rfl) (by kernel_rfl) (fun _ _ _ h => h) (Or.inl ⟨by rfl, fun w' hS => ?_⟩) trivial ?_
  · clear HS; go_simp
  try simp only [Act.put]
  refine wpAnyH_take (i := 5) (v := .pointer (some ⟨F.g, 0, none⟩)) rfl (by kernel_rfl) (by kernel_rfl) (by kernel_rfl) (fun _ _ _ h => h) (Or.inl ⟨by rfl, fun w' hS => ?_⟩) trivial ?_
  · clear HS; go_simp
  try simp only [Act.put]
  refine wpAnyH_take (i := 6) (v := .pointer (some ⟨F.g, 0, none⟩)) rfl (by kernel_rfl) (by kernel_rfl) (by kernel_rfl) (fun _ _ _ h => h) (Or.inl ⟨by rfl, fun w' hS => ?_⟩) trivial ?_
  · clear HS; go_simp
  try simp only [Act.put]
  refine wpAnyH_ready (rs := [7, 10]) (by kernel_rfl) (by simp) ?_
  refine AllReadyH.cons rfl (fun K hK => ?_) (AllReadyH.cons rfl (fun K hK => ?_) AllReadyH.nil)
  · have a0 := HS.out.cellsA0
    have a1 := HS.out.cellsA1
    have a2 := HS.out.cellsA2
    go_simp
    refine hK.out _ _ trivial (fun _ => ?_)
    clear hK K a0 a1 a2
    try simp only [Act.put, List.setIfInBounds_toArray, List.set_cons_zero, List.set_cons_succ]
    refine wpAnyH_ready (rs := [8, 10]) (by kernel_rfl) (by simp) ?_
    refine AllReadyH.cons rfl (fun K hK => ?_) (AllReadyH.cons rfl (fun K hK => ?_) AllReadyH.nil)
    · go_simp
      refine (HS.out.size (r := p) hv).mono ?_
      rintro e w1 ⟨rfl, h1, b1⟩
      refine hK.out _ _ trivial (fun _ => ?_)
      clear hK K b1
      try simp only [Act.put, List.setIfInBounds_toArray, List.set_cons_zero, List.set_cons_succ]
      replace HS := Lib.hid h1
      clear h1
      refine wpAnyH_ready (rs := [9, 10]) (by kernel_rfl) (by simp) ?_
      refine AllReadyH.cons rfl (fun K hK => ?_) (AllReadyH.cons rfl (fun K hK => ?_) AllReadyH.nil)
      · go_simp
        refine (HS.out.takeA h0 (Nat.le_refl _)).mono ?_
        rintro e w2 ⟨v2, rfl, pv2, h2⟩
        rw [cutL_all hv hk0] at pv2
        obtain ⟨A2, c2, rfl, r2⟩ := pv2
        have HR := Lib.hid (h2.to0 r2)
        clear r2
        refine hK.out _ _ trivial (fun _ => ?_)
        clear hK K
        try simp only [Act.put, List.setIfInBounds_toArray, List.set_cons_zero, List.set_cons_succ]
        replace HS := Lib.hid h2
        clear h2
        refine wpAnyH_ready (rs := [10]) (by kernel_rfl) (by simp) ?_
        refine AllReadyH.cons rfl (fun K hK => ?_) AllReadyH.nil
        go_simp
        refine hK.out _ _ trivial (fun _ => ?_)
        clear hK K
        try simp only [Act.put, List.setIfInBounds_toArray, List.set_cons_zero, List.set_cons_succ]
        have HF := Lib.hid (HS.out.made (.cells #[.int .i64 0, .int .i64 0, .slice none 0 0] 80)).2
        replace HS := Lib.hid (HS.out.made (.cells #[.int .i64 0, .int .i64 0, .slice none 0 0] 80)).1
        generalize w2.heap.size = mm at *
        generalize w2.alloc (.cells #[.int .i64 0, .int .i64 0, .slice none 0 0] 80) = wa at *
        refine wpAnyH_ready (rs := [11]) (by kernel_rfl) (by simp) ?_
        refine AllReadyH.cons rfl (fun K hK => ?_) AllReadyH.nil
        have m0 := HS.out.c3.1
        have m1 := HS.out.c3.2.1
        have m2 := HS.out.c3.2.2
        have n0 := HS.out.f3.1
        have n1 := HS.out.f3.2.1
        have n2 := HS.out.f3.2.2
        go_simp
        refine hK.out _ _ trivial (fun _ => ?_)
        clear hK K m0 m1 m2 n0 n1 n2
        try simp only [Act.put, List.setIfInBounds_toArray, List.set_cons_zero, List.set_cons_succ]
        refine wpAnyH_done (by kernel_rfl) ?_ _
        replace HS := Lib.hid (HS.out.set3 HF.out (.int .i64 p.kind) (.int .i64 p.n) (.slice A2 p.signs.length c2))
        generalize (((wa.setCell ⟨mm, 0, none⟩ (.int .i64 p.kind)).setCell ⟨mm, 1, none⟩ (.int .i64 p.n)).setCell ⟨mm, 2, none⟩ (.slice A2 p.signs.length c2)) = ws at *
        clear HF
        have hS1 := HS.out.drew.c3
        go_wp2
        go_region_held3 (fun W => W.cell? ⟨mm, 0, none⟩ = some (.int .i64 p.kind) ∧ W.cell? ⟨mm, 1, none⟩ = some (.int .i64 p.n) ∧ W.cell? ⟨mm, 2, none⟩ = some (.slice A2 p.signs.length c2))
          (first | assumption | exact hS1 | exact H1.out.c3)
          (first | (go_at_call 81; ((refine (HS.out.drew.addX ⟨A2, c2, rfl, HS.out.drew.of0 HR.out⟩ hv hk0 hL).mono ?_); rintro e w3 ⟨rfl, O3, h3⟩; have H1 := Lib.hid h3; clear h3)))
        clear hS1
        have hS2 := H1.out.drew.c3
        go_wp2
        go_region_held3 (fun W => W.cell? ⟨mm, 0, none⟩ = some (.int .i64 p.kind) ∧ W.cell? ⟨mm, 1, none⟩ = some (.int .i64 p.n) ∧ W.cell? ⟨mm, 2, none⟩ = some (.slice A2 p.signs.length c2))
          (first | assumption | exact hS2 | exact H3.out.c3 | exact H2.out.c3)
          (first | (go_at_call 83; ((refine (H1.out.drew.size (r := p) hv).mono ?_); rintro e w4 ⟨rfl, h4, b4⟩; have H2 := Lib.hid h4; clear h4 b4)) | (go_at_call 57; ((refine (H2.out.keepY (by omega) (by omega) hM).mono ?_); rintro e w5 ⟨rfl, P5, h5⟩; have H3 := Lib.hid h5; clear h5)))
        clear hS2
        go_wp2
        go_end0
        exact ⟨rfl, _, _, H3.out.tail⟩
      · go_simp
        refine hK.out _ _ trivial (fun _ => ?_)
        clear hK K
        try simp only [Act.put, List.setIfInBounds_toArray, List.set_cons_zero, List.set_cons_succ]
        have HF := Lib.hid (HS.out.made (.cells #[.int .i64 0, .int .i64 0, .slice none 0 0] 80)).2
        replace HS := Lib.hid (HS.out.made (.cells #[.int .i64 0, .int .i64 0, .slice none 0 0] 80)).1
        generalize w1.heap.size = mm at *
        generalize w1.alloc (.cells #[.int .i64 0, .int .i64 0, .slice none 0 0] 80) = wa at *
        refine wpAnyH_ready (rs := [9]) (by kernel_rfl) (by simp) ?_
        refine AllReadyH.cons rfl (fun K hK => ?_) AllReadyH.nil
        go_simp
        refine (HS.out.takeA h0 (Nat.le_refl _)).mono ?_
        rintro e w2 ⟨v2, rfl, pv2, h2⟩
        rw [cutL_all hv hk0] at pv2
        obtain ⟨A2, c2, rfl, r2⟩ := pv2
        have HR := Lib.hid (h2.to0 r2)
        clear r2
        refine hK.out _ _ trivial (fun _ => ?_)
        clear hK K
        try simp only [Act.put, List.setIfInBounds_toArray, List.set_cons_zero, List.set_cons_succ]
        replace HS := Lib.hid h2
        clear h2
        refine wpAnyH_ready (rs := [11]) (by kernel_rfl) (by simp) ?_
        refine AllReadyH.cons rfl (fun K hK => ?_) AllReadyH.nil
        have m0 := HS.out.c3.1
        have m1 := HS.out.c3.2.1
        have m2 := HS.out.c3.2.2
        have n0 := HS.out.f3.1
        have n1 := HS.out.f3.2.1
        have n2 := HS.out.f3.2.2
        go_simp
        refine hK.out _ _ trivial (fun _ => ?_)
        clear hK K m0 m1 m2 n0 n1 n2
        try simp only [Act.put, List.setIfInBounds_toArray, List.set_cons_zero, List.set_cons_succ]
        refine wpAnyH_done (by kernel_rfl) ?_ _
        replace HS := Lib.hid (HS.out.set3 HF.out (.int .i64 p.kind) (.int .i64 p.n) (.slice A2 p.signs.length c2))
        generalize (((w2.setCell ⟨mm, 0, none⟩ (.int .i64 p.kind)).setCell ⟨mm, 1, none⟩ (.int .i64 p.n)).setCell ⟨mm, 2, none⟩ (.slice A2 p.signs.length c2)) = ws at *
        clear HF
        have hS1 := HS.out.drew.c3
        go_wp2
        go_region_held3 (fun W => W.cell? ⟨mm, 0, none⟩ = some (.int .i64 p.kind) ∧ W.cell? ⟨mm, 1, none⟩ = some (.int .i64 p.n) ∧ W.cell? ⟨mm, 2, none⟩ = some (.slice A2 p.signs.length c2))
          (first | assumption | exact hS1 | exact H1.out.c3)
          (first | (go_at_call 81; ((refine (HS.out.drew.addX ⟨A2, c2, rfl, HS.out.drew.of0 HR.out⟩ hv hk0 hL).mono ?_); rintro e w3 ⟨rfl, O3, h3⟩; have H1 := Lib.hid h3; clear h3)))
        clear hS1
        have hS2 := H1.out.drew.c3
        go_wp2
        go_region_held3 (fun W => W.cell? ⟨mm, 0, none⟩ = some (.int .i64 p.kind) ∧ W.cell? ⟨mm, 1, none⟩ = some (.int .i64 p.n) ∧ W.cell? ⟨mm, 2, none⟩ = some (.slice A2 p.signs.length c2))
          (first | assumption | exact hS2 | exact H3.out.c3 | exact H2.out.c3)
          (first | (go_at_call 83; ((refine (H1.out.drew.size (r := p) hv).mono ?_); rintro e w4 ⟨rfl, h4, b4⟩; have H2 := Lib.hid h4; clear h4 b4)) | (go_at_call 57; ((refine (H2.out.keepY (by omega) (by omega) hM).mono ?_); rintro e w5 ⟨rfl, P5, h5⟩; have H3 := Lib.hid h5; clear h5)))
        clear hS2
        go_wp2
        go_end0
        exact ⟨rfl, _, _, H3.out.tail⟩
    · go_simp
      refine hK.out _ _ trivial (fun _ => ?_)
      clear hK K
      try simp only [Act.put, List.setIfInBounds_toArray, List.set_cons_zero, List.set_cons_succ]
      have HF := Lib.hid (HS.out.made (.cells #[.int .i64 0, .int .i64 0, .slice none 0 0] 80)).2
      replace HS := Lib.hid (HS.out.made (.cells #[.int .i64 0, .int .i64 0, .slice none 0 0] 80)).1
      generalize wd.heap.size = mm at *
      generalize wd.alloc (.cells #[.int .i64 0, .int .i64 0, .slice none 0 0] 80) = wa at *
      refine wpAnyH_ready (rs := [8]) (by kernel_rfl) (by simp) ?_
      refine AllReadyH.cons rfl (fun K hK => ?_) AllReadyH.nil
      go_simp
      refine (HS.out.size (r := p) hv).mono ?_
      rintro e w1 ⟨rfl, h1, b1⟩
      refine hK.out _ _ trivial (fun _ => ?_)
      clear hK K b1
      try simp only [Act.put, List.setIfInBounds_toArray, List.set_cons_zero, List.set_cons_succ]
      replace HS := Lib.hid h1
      clear h1
      refine wpAnyH_ready (rs := [9]) (by kernel_rfl) (by simp) ?_
      refine AllReadyH.cons rfl (fun K hK => ?_) AllReadyH.nil
      go_simp
      refine (HS.out.takeA h0 (Nat.le_refl _)).mono ?_
      rintro e w2 ⟨v2, rfl, pv2, h2⟩
      rw [cutL_all hv hk0] at pv2
      obtain ⟨A2, c2, rfl, r2⟩ := pv2
      have HR := Lib.hid (h2.to0 r2)
      clear r2
      refine hK.out _ _ trivial (fun _ => ?_)
      clear hK K
      try simp only [Act.put, List.setIfInBounds_toArray, List.set_cons_zero, List.set_cons_succ]
      replace HS := Lib.hid h2
      clear h2
      refine wpAnyH_ready (rs := [11]) (by kernel_rfl) (by simp) ?_
      refine AllReadyH.cons rfl (fun K hK => ?_) AllReadyH.nil
      have m0 := HS.out.c3.1
      have m1 := HS.out.c3.2.1
      have m2 := HS.out.c3.2.2
      have n0 := HS.out.f3.1
      have n1 := HS.out.f3.2.1
      have n2 := HS.out.f3.2.2
      go_simp
      refine hK.out _ _ trivial (fun _ => ?_)
      clear hK K m0 m1 m2 n0 n1 n2
      try simp only [Act.put, List.setIfInBounds_toArray, List.set_cons_zero, List.set_cons_succ]
      refine wpAnyH_done (by kernel_rfl) ?_ _
      replace HS := Lib.hid (HS.out.set3 HF.out (.int .i64 p.kind) (.int .i64 p.n) (.slice A2 p.signs.length c2))
      generalize (((w2.setCell ⟨mm, 0, none⟩ (.int .i64 p.kind)).setCell ⟨mm, 1, none⟩ (.int .i64 p.n)).setCell ⟨mm, 2, none⟩ (.slice A2 p.signs.length c2)) = ws at *
      clear HF
      have hS1 := HS.out.drew.c3
      go_wp2
      go_region_held3 (fun W => W.cell? ⟨mm, 0, none⟩ = some (.int .i64 p.kind) ∧ W.cell? ⟨mm, 1, none⟩ = some (.int .i64 p.n) ∧ W.cell? ⟨mm, 2, none⟩ = some (.slice A2 p.signs.length c2))
        (first | assumption | exact hS1 | exact H1.out.c3)
        (first | (go_at_call 81; ((refine (HS.out.drew.addX ⟨A2, c2, rfl, HS.out.drew.of0 HR.out⟩ hv hk0 hL).mono ?_); rintro e w3 ⟨rfl, O3, h3⟩; have H1 := Lib.hid h3; clear h3)))
      clear hS1
      have hS2 := H1.out.drew.c3
      go_wp2
      go_region_held3 (fun W => W.cell? ⟨mm, 0, none⟩ = some (.int .i64 p.kind) ∧ W.cell? ⟨mm, 1, none⟩ = some (.int .i64 p.n) ∧ W.cell? ⟨mm, 2, none⟩ = some (.slice A2 p.signs.length c2))
        (first | assumption | exact hS2 | exact H3.out.c3 | exact H2.out.c3)
        (first | (go_at_call 83; ((refine (H1.out.drew.size (r := p) hv).mono ?_); rintro e w4 ⟨rfl, h4, b4⟩; have H2 := Lib.hid h4; clear h4 b4)) | (go_at_call 57; ((refine (H2.out.keepY (by omega) (by omega) hM).mono ?_); rintro e w5 ⟨rfl, P5, h5⟩; have H3 := Lib.hid h5; clear h5)))
      clear hS2
      go_wp2
      go_end0
      exact ⟨rfl, _, _, H3.out.tail⟩
  · go_simp
    refine hK.out _ _ trivial (fun _ => ?_)
    clear hK K
    try simp only [Act.put, List.setIfInBounds_toArray, List.set_cons_zero, List.set_cons_succ]
    have HF := Lib.hid (HS.out.made (.cells #[.int .i64 0, .int .i64 0, .slice none 0 0] 80)).2
    replace HS := Lib.hid (HS.out.made (.cells #[.int .i64 0, .int .i64 0, .slice none 0 0] 80)).1
    generalize wd.heap.size = mm at *
    generalize wd.alloc (.cells #[.int .i64 0, .int .i64 0, .slice none 0 0] 80) = wa at *
    refine wpAnyH_ready (rs := [7]) (by kernel_rfl) (by simp) ?_
    refine AllReadyH.cons rfl (fun K hK => ?_) AllReadyH.nil
    have a0 := HS.out.cellsA0
    have a1 := HS.out.cellsA1
    have a2 := HS.out.cellsA2
    go_simp
    refine hK.out _ _ trivial (fun _ => ?_)
    clear hK K a0 a1 a2
    try simp only [Act.put, List.setIfInBounds_toArray, List.set_cons_zero, List.set_cons_succ]
    refine wpAnyH_ready (rs := [8]) (by kernel_rfl) (by simp) ?_
    refine AllReadyH.cons rfl (fun K hK => ?_) AllReadyH.nil
    go_simp
    refine (HS.out.size (r := p) hv).mono ?_
    rintro e w1 ⟨rfl, h1, b1⟩
    refine hK.out _ _ trivial (fun _ => ?_)
    clear hK K b1
    try simp only [Act.put, List.setIfInBounds_toArray, List.set_cons_zero, List.set_cons_succ]
    replace HS := Lib.hid h1
    clear h1
    refine wpAnyH_ready (rs := [9]) (by kernel_rfl) (by simp) ?_
    refine AllReadyH.cons rfl (fun K hK => ?_) AllReadyH.nil
    go_simp
    refine (HS.out.takeA h0 (Nat.le_refl _)).mono ?_
    rintro e w2 ⟨v2, rfl, pv2, h2⟩
    rw [cutL_all hv hk0] at pv2
    obtain ⟨A2, c2, rfl, r2⟩ := pv2
    have HR := Lib.hid (h2.to0 r2)
    clear r2
    refine hK.out _ _ trivial (fun _ => ?_)
    clear hK K
    try simp only [Act.put, List.setIfInBounds_toArray, List.set_cons_zero, List.set_cons_succ]
    replace HS := Lib.hid h2
    clear h2
    refine wpAnyH_ready (rs := [11]) (by kernel_rfl) (by simp) ?_
    refine AllReadyH.cons rfl (fun K hK => ?_) AllReadyH.nil
    have m0 := HS.out.c3.1
    have m1 := HS.out.c3.2.1
    have m2 := HS.out.c3.2.2
    have n0 := HS.out.f3.1
    have n1 := HS.out.f3.2.1
    have n2 := HS.out.f3.2.2
    go_simp
    refine hK.out _ _ trivial (fun _ => ?_)
    clear hK K m0 m1 m2 n0 n1 n2
    try simp only [Act.put, List.setIfInBounds_toArray, List.set_cons_zero, List.set_cons_succ]
    refine wpAnyH_done (by kernel_rfl) ?_ _
    replace HS := Lib.hid (HS.out.set3 HF.out (.int .i64 p.kind) (.int .i64 p.n) (.slice A2 p.signs.length c2))
    generalize (((w2.setCell ⟨mm, 0, none⟩ (.int .i64 p.kind)).setCell ⟨mm, 1, none⟩ (.int .i64 p.n)).setCell ⟨mm, 2, none⟩ (.slice A2 p.signs.length c2)) = ws at *
    clear HF
    have hS1 := HS.out.drew.c3
    go_wp2
    go_region_held3 (fun W => W.cell? ⟨mm, 0, none⟩ = some (.int .i64 p.kind) ∧ W.cell? ⟨mm, 1, none⟩ = some (.int .i64 p.n) ∧ W.cell? ⟨mm, 2, none⟩ = some (.slice A2 p.signs.length c2))
      (first | assumption | exact hS1 | exact H1.out.c3)
      (first | (go_at_call 81; ((refine (HS.out.drew.addX ⟨A2, c2, rfl, HS.out.drew.of0 HR.out⟩ hv hk0 hL).mono ?_); rintro e w3 ⟨rfl, O3, h3⟩; have H1 := Lib.hid h3; clear h3)))
    clear hS1
    have hS2 := H1.out.drew.c3
    go_wp2
    go_region_held3 (fun W => W.cell? ⟨mm, 0, none⟩ = some (.int .i64 p.kind) ∧ W.cell? ⟨mm, 1, none⟩ = some (.int .i64 p.n) ∧ W.cell? ⟨mm, 2, none⟩ = some (.slice A2 p.signs.length c2))
      (first | assumption | exact hS2 | exact H3.out.c3 | exact H2.out.c3)
      (first | (go_at_call 83; ((refine (H1.out.drew.size (r := p) hv).mono ?_); rintro e w4 ⟨rfl, h4, b4⟩; have H2 := Lib.hid h4; clear h4 b4)) | (go_at_call 57; ((refine (H2.out.keepY (by omega) (by omega) hM).mono ?_); rintro e w5 ⟨rfl, P5, h5⟩; have H3 := Lib.hid h5; clear h5)))
    clear hS2
    go_wp2
    go_end0
    exact ⟨rfl, _, _, H3.out.tail⟩
set_option maxRecDepth 100000 in
set_option maxHeartbeats 1600000 in
theorem Xs.putSecond (h : Xs F KL O P L M w p ps q qs) (h0 : 0 < sizeP q) (hL : L.length < 100000) (hM : M.length < 100000) : Calls Try.prog 94 #[.pointer (some ⟨F.g, 0, none⟩)] w (EffP F KL (L ++ [⟨1, (sizeP q : Int), []⟩]) (M ++ [q]) p ps (cutR q (sizeP q)) qs) := by
  have hv := h.vq
  have hs := hv.size
  have hk0 := hv.kind_ne h0
  have HS := Lib.hid h.drew
  clear h
  go_enter Try.func94, Try.ntmps94
  go_wp2
  refine wp_region_held_drew (S := fun _ => True) (by kernel_rfl) trivial (fun _ => ?_)
  generalize w.drew = wd at *
  refine wpAnyH_take (i := 0) (v := .pointer (some ⟨F.g, 0, none⟩)) rfl (by kernel_rfl) (by kernel_rfl) (by kernel_rfl) (fun _ _ _ h => h) (Or.inl ⟨by rfl, fun w' hS => ?_⟩) trivial ?_
  · clear HS; go_simp
  try simp only [Act.put]
  refine wpAnyH_take (i := 1) (v := .pointer (some ⟨F.g, 0, none⟩)) rfl (by kernel_rfl) (by kernel_rfl) (by kernel_rfl) (fun _ _ _ h => h) (Or.inl ⟨by rfl, fun w' hS => ?_⟩) trivial ?_
  · clear HS; go_simp
  try simp only [Act.put]
  refine wpAnyH_take (i := 2) (v := .pointer (some ⟨F.g, 4, none⟩)) rfl (by kernel_rfl) (by kernel_rfl) (by kernel_rfl) (fun _ _ _ h => h) (Or.inl ⟨by rfl, fun w' hS => ?_⟩) trivial ?_
  · clear HS; go_simp
  try simp only [Act.put]
  refine wpAnyH_take (i := 3) (v := .pointer (some ⟨F.g, 0, none⟩)) rfl (by kernel_rfl) (by kernel_rfl) (by kernel_rfl) (fun _ _ _ h => h) (Or.inl ⟨by rfl, fun w' hS => ?_⟩) trivial ?_
  · clear HS; go_simp
  try simp only [Act.put]
  refine wpAnyH_take (i := 4) (v := .pointer (some ⟨F.g, 0, none⟩)) rfl (by kernel_rfl) (by kernel_rfl) (by kernel_rfl) (fun _ _ _ h => h) (Or.inl ⟨by rfl, fun w' hS => ?_⟩) trivial ?_
  · clear HS; go_simp
  try simp only [Act.put]
  refine wpAnyH_take (i := 5) (v := .pointer (some ⟨F.g, 4, none⟩)) rfl (by kernel_rfl) (by kernel_rfl) (by kernel_rfl) (fun _ _ _ h => h) (Or.inl ⟨by rfl, fun w' hS => ?_⟩) trivial ?_
  · clear HS; go_simp
  try simp only [Act.put]
  refine wpAnyH_take (i := 6) (v := .pointer (some ⟨F.g, 4, none⟩)) rfl (by kernel_rfl) (by kernel_rfl) (by kernel_rfl) (fun _ _ _ h => h) (Or.inl ⟨by rfl, fun w' hS => ?_⟩) trivial ?_
  · clear HS; go_simp
  try simp only [Act.put]
  refine wpAnyH_ready (rs := [7, 10]) (by kernel_rfl) (by simp) ?_
  refine AllReadyH.cons rfl (fun K hK => ?_) (AllReadyH.cons rfl (fun K hK => ?_) AllReadyH.nil)
  · have a0 := HS.out.cellsB0
    have a1 := HS.out.cellsB1
    have a2 := HS.out.cellsB2
    go_simp
    refine hK.out _ _ trivial (fun _ => ?_)
    clear hK K a0 a1 a2
    try simp only [Act.put, List.setIfInBounds_toArray, List.set_cons_zero, List.set_cons_succ]
    refine wpAnyH_ready (rs := [8, 10]) (by kernel_rfl) (by simp) ?_
    refine AllReadyH.cons rfl (fun K hK => ?_) (AllReadyH.cons rfl (fun K hK => ?_) AllReadyH.nil)
    · go_simp
      refine (HS.out.size (r := q) hv).mono ?_
      rintro e w1 ⟨rfl, h1, b1⟩
      refine hK.out _ _ trivial (fun _ => ?_)
      clear hK K b1
      try simp only [Act.put, List.setIfInBounds_toArray, List.set_cons_zero, List.set_cons_succ]
      replace HS := Lib.hid h1
      clear h1
      refine wpAnyH_ready (rs := [9, 10]) (by kernel_rfl) (by simp) ?_
      refine AllReadyH.cons rfl (fun K hK => ?_) (AllReadyH.cons rfl (fun K hK => ?_) AllReadyH.nil)
      · go_simp
        refine (HS.out.takeB h0 (Nat.le_refl _)).mono ?_
        rintro e w2 ⟨v2, rfl, pv2, h2⟩
        rw [cutL_all hv hk0] at pv2
        obtain ⟨A2, c2, rfl, r2⟩ := pv2
        have HR := Lib.hid (h2.to0 r2)
        clear r2
        refine hK.out _ _ trivial (fun _ => ?_)
        clear hK K
        try simp only [Act.put, List.setIfInBounds_toArray, List.set_cons_zero, List.set_cons_succ]
        replace HS := Lib.hid h2
        clear h2
        refine wpAnyH_ready (rs := [10]) (by kernel_rfl) (by simp) ?_
        refine AllReadyH.cons rfl (fun K hK => ?_) AllReadyH.nil
        go_simp
        refine hK.out _ _ trivial (fun _ => ?_)
        clear hK K
        try simp only [Act.put, List.setIfInBounds_toArray, List.set_cons_zero, List.set_cons_succ]
        have HF := Lib.hid (HS.out.made (.cells #[.int .i64 0, .int .i64 0, .slice none 0 0] 80)).2
        replace HS := Lib.hid (HS.out.made (.cells #[.int .i64 0, .int .i64 0, .slice none 0 0] 80)).1
        generalize w2.heap.size = mm at *
        generalize w2.alloc (.cells #[.int .i64 0, .int .i64 0, .slice none 0 0] 80) = wa at *
        refine wpAnyH_ready (rs := [11]) (by kernel_rfl) (by simp) ?_
        refine AllReadyH.cons rfl (fun K hK => ?_) AllReadyH.nil
        have m0 := HS.out.c3.1
        have m1 := HS.out.c3.2.1
        have m2 := HS.out.c3.2.2
        have n0 := HS.out.f3.1
        have n1 := HS.out.f3.2.1
        have n2 := HS.out.f3.2.2
        go_simp
        refine hK.out _ _ trivial (fun _ => ?_)
        clear hK K m0 m1 m2 n0 n1 n2
        try simp only [Act.put, List.setIfInBounds_toArray, List.set_cons_zero, List.set_cons_succ]
        refine wpAnyH_done (by kernel_rfl) ?_ _
        replace HS := Lib.hid (HS.out.set3 HF.out (.int .i64 q.kind) (.int .i64 q.n) (.slice A2 q.signs.length c2))
        generalize (((wa.setCell ⟨mm, 0, none⟩ (.int .i64 q.kind)).setCell ⟨mm, 1, none⟩ (.int .i64 q.n)).setCell ⟨mm, 2, none⟩ (.slice A2 q.signs.length c2)) = ws at *
        clear HF
        have hS2 := HS.out.drew.c3
        go_wp2
        go_region_held3 (fun W => W.cell? ⟨mm, 0, none⟩ = some (.int .i64 q.kind) ∧ W.cell? ⟨mm, 1, none⟩ = some (.int .i64 q.n) ∧ W.cell? ⟨mm, 2, none⟩ = some (.slice A2 q.signs.length c2))
          (first | assumption | exact hS2 | exact H3.out.c3 | exact H2.out.c3)
          (first | (go_at_call 83; ((refine (HS.out.drew.size (r := q) hv).mono ?_); rintro e w4 ⟨rfl, h4, b4⟩; have H2 := Lib.hid h4; clear h4 b4)) | (go_at_call 57; ((refine (H2.out.keepX (by omega) (by omega) hL).mono ?_); rintro e w5 ⟨rfl, P5, h5⟩; have H3 := Lib.hid h5; clear h5)))
        clear hS2
        have hS1 := H3.out.drew.c3
        go_wp2
        go_region_held3 (fun W => W.cell? ⟨mm, 0, none⟩ = some (.int .i64 q.kind) ∧ W.cell? ⟨mm, 1, none⟩ = some (.int .i64 q.n) ∧ W.cell? ⟨mm, 2, none⟩ = some (.slice A2 q.signs.length c2))
          (first | assumption | exact hS1 | exact H1.out.c3)
          (first | (go_at_call 81; ((refine (H3.out.drew.addY ⟨A2, c2, rfl, H3.out.drew.of0 HR.out⟩ hv hk0 hM).mono ?_); rintro e w3 ⟨rfl, O3, h3⟩; have H1 := Lib.hid h3; clear h3)))
        clear hS1
        go_wp2
        go_end0
        exact ⟨rfl, _, _, H1.out.tail⟩
      · go_simp
        refine hK.out _ _ trivial (fun _ => ?_)
        clear hK K
        try simp only [Act.put, List.setIfInBounds_toArray, List.set_cons_zero, List.set_cons_succ]
        have HF := Lib.hid (HS.out.made (.cells #[.int .i64 0, .int .i64 0, .slice none 0 0] 80)).2
        replace HS := Lib.hid (HS.out.made (.cells #[.int .i64 0, .int .i64 0, .slice none 0 0] 80)).1
        generalize w1.heap.size = mm at *
        generalize w1.alloc (.cells #[.int .i64 0, .int .i64 0, .slice none 0 0] 80) = wa at *
        refine wpAnyH_ready (rs := [9]) (by kernel_rfl) (by simp) ?_
        refine AllReadyH.cons rfl (fun K hK => ?_) AllReadyH.nil
        go_simp
        refine (HS.out.takeB h0 (Nat.le_refl _)).mono ?_
        rintro e w2 ⟨v2, rfl, pv2, h2⟩
        rw [cutL_all hv hk0] at pv2
        obtain ⟨A2, c2, rfl, r2⟩ := pv2
        have HR := Lib.hid (h2.to0 r2)
        clear r2
        refine hK.out _ _ trivial (fun _ => ?_)
        clear hK K
        try simp only [Act.put, List.setIfInBounds_toArray, List.set_cons_zero, List.set_cons_succ]
        replace HS := Lib.hid h2
        clear h2
        refine wpAnyH_ready (rs := [11]) (by kernel_rfl) (by simp) ?_
        refine AllReadyH.cons rfl (fun K hK => ?_) AllReadyH.nil
        have m0 := HS.out.c3.1
        have m1 := HS.out.c3.2.1
        have m2 := HS.out.c3.2.2
        have n0 := HS.out.f3.1
        have n1 := HS.out.f3.2.1
        have n2 := HS.out.f3.2.2
        go_simp
        refine hK.out _ _ trivial (fun _ => ?_)
        clear hK K m0 m1 m2 n0 n1 n2
        try simp only [Act.put, List.setIfInBounds_toArray, List.set_cons_zero, List.set_cons_succ]
        refine wpAnyH_done (by kernel_rfl) ?_ _
        replace HS := Lib.hid (HS.out.set3 HF.out (.int .i64 q.kind) (.int .i64 q.n) (.slice A2 q.signs.length c2))
        generalize (((w2.setCell ⟨mm, 0, none⟩ (.int .i64 q.kind)).setCell ⟨mm, 1, none⟩ (.int .i64 q.n)).setCell ⟨mm, 2, none⟩ (.slice A2 q.signs.length c2)) = ws at *
        clear HF
        have hS2 := HS.out.drew.c3
        go_wp2
        go_region_held3 (fun W => W.cell? ⟨mm, 0, none⟩ = some (.int .i64 q.kind) ∧ W.cell? ⟨mm, 1, none⟩ = some (.int .i64 q.n) ∧ W.cell? ⟨mm, 2, none⟩ = some (.slice A2 q.signs.length c2))
          (first | assumption | exact hS2 | exact H3.out.c3 | exact H2.out.c3)
          (first | (go_at_call 83; ((refine (HS.out.drew.size (r := q) hv).mono ?_); rintro e w4 ⟨rfl, h4, b4⟩; have H2 := Lib.hid h4; clear h4 b4)) | (go_at_call 57; ((refine (H2.out.keepX (by omega) (by omega) hL).mono ?_); rintro e w5 ⟨rfl, P5, h5⟩; have H3 := Lib.hid h5; clear h5)))
        clear hS2
        have hS1 := H3.out.drew.c3
        go_wp2
        go_region_held3 (fun W => W.cell? ⟨mm, 0, none⟩ = some (.int .i64 q.kind) ∧ W.cell? ⟨mm, 1, none⟩ = some (.int .i64 q.n) ∧ W.cell? ⟨mm, 2, none⟩ = some (.slice A2 q.signs.length c2))
          (first | assumption | exact hS1 | exact H1.out.c3)
          (first | (go_at_call 81; ((refine (H3.out.drew.addY ⟨A2, c2, rfl, H3.out.drew.of0 HR.out⟩ hv hk0 hM).mono ?_); rintro e w3 ⟨rfl, O3, h3⟩; have H1 := Lib.hid h3; clear h3)))
        clear hS1
        go_wp2
        go_end0
        exact ⟨rfl, _, _, H1.out.tail⟩
    · go_simp
      refine hK.out _ _ trivial (fun _ => ?_)
      clear hK K
      try simp only [Act.put, List.setIfInBounds_toArray, List.set_cons_zero, List.set_cons_succ]
      have HF := Lib.hid (HS.out.made (.cells #[.int .i64 0, .int .i64 0, .slice none 0 0] 80)).2
      replace HS := Lib.hid (HS.out.made (.cells #[.int .i64 0, .int .i64 0, .slice none 0 0] 80)).1
      generalize wd.heap.size = mm at *
      generalize wd.alloc (.cells #[.int .i64 0, .int .i64 0, .slice none 0 0] 80) = wa at *
      refine wpAnyH_ready (rs := [8]) (by kernel_rfl) (by simp) ?_
      refine AllReadyH.cons rfl (fun K hK => ?_) AllReadyH.nil
      go_simp
      refine (HS.out.size (r := q) hv).mono ?_
      rintro e w1 ⟨rfl, h1, b1⟩
      refine hK.out _ _ trivial (fun _ => ?_)
      clear hK K b1
      try simp only [Act.put, List.setIfInBounds_toArray, List.set_cons_zero, List.set_cons_succ]
      replace HS := Lib.hid h1
      clear h1
      refine wpAnyH_ready (rs := [9]) (by kernel_rfl) (by simp) ?_
      refine AllReadyH.cons rfl (fun K hK => ?_) AllReadyH.nil
      go_simp
      refine (HS.out.takeB h0 (Nat.le_refl _)).mono ?_
      rintro e w2 ⟨v2, rfl, pv2, h2⟩
      rw [cutL_all hv hk0] at pv2
      obtain ⟨A2, c2, rfl, r2⟩ := pv2
      have HR := Lib.hid (h2.to0 r2)
      clear r2
      refine hK.out _ _ trivial (fun _ => ?_)
      clear hK K
      try simp only [Act.put, List.setIfInBounds_toArray, List.set_cons_zero, List.set_cons_succ]
      replace HS := Lib.hid h2
      clear h2
      refine wpAnyH_ready (rs := [11]) (by kernel_rfl) (by simp) ?_
      refine AllReadyH.cons rfl (fun K hK => ?_) AllReadyH.nil
      have m0 := HS.out.c3.1
      have m1 := HS.out.c3.2.1
      have m2 := HS.out.c3.2.2
      have n0 := HS.out.f3.1
      have n1 := HS.out.f3.2.1
      have n2 := HS.out.f3.2.2
      go_simp
      refine hK.out _ _ trivial (fun _ => ?_)
      clear hK K m0 m1 m2 n0 n1 n2
      try simp only [Act.put, List.setIfInBounds_toArray, List.set_cons_zero, List.set_cons_succ]
      refine wpAnyH_done (by kernel_rfl) ?_ _
      replace HS := Lib.hid (HS.out.set3 HF.out (.int .i64 q.kind) (.int .i64 q.n) (.slice A2 q.signs.length c2))
      generalize (((w2.setCell ⟨mm, 0, none⟩ (.int .i64 q.kind)).setCell ⟨mm, 1, none⟩ (.int .i64 q.n)).setCell ⟨mm, 2, none⟩ (.slice A2 q.signs.length c2)) = ws at *
      clear HF
      have hS2 := HS.out.drew.c3
      go_wp2
      go_region_held3 (fun W => W.cell? ⟨mm, 0, none⟩ = some (.int .i64 q.kind) ∧ W.cell? ⟨mm, 1, none⟩ = some (.int .i64 q.n) ∧ W.cell? ⟨mm, 2, none⟩ = some (.slice A2 q.signs.length c2))
        (first | assumption | exact hS2 | exact H3.out.c3 | exact H2.out.c3)
        (first | (go_at_call 83; ((refine (HS.out.drew.size (r := q) hv).mono ?_); rintro e w4 ⟨rfl, h4, b4⟩; have H2 := Lib.hid h4; clear h4 b4)) | (go_at_call 57; ((refine (H2.out.keepX (by omega) (by omega) hL).mono ?_); rintro e w5 ⟨rfl, P5, h5⟩; have H3 := Lib.hid h5; clear h5)))
      clear hS2
      have hS1 := H3.out.drew.c3
      go_wp2
      go_region_held3 (fun W => W.cell? ⟨mm, 0, none⟩ = some (.int .i64 q.kind) ∧ W.cell? ⟨mm, 1, none⟩ = some (.int .i64 q.n) ∧ W.cell? ⟨mm, 2, none⟩ = some (.slice A2 q.signs.length c2))
        (first | assumption | exact hS1 | exact H1.out.c3)
        (first | (go_at_call 81; ((refine (H3.out.drew.addY ⟨A2, c2, rfl, H3.out.drew.of0 HR.out⟩ hv hk0 hM).mono ?_); rintro e w3 ⟨rfl, O3, h3⟩; have H1 := Lib.hid h3; clear h3)))
      clear hS1
      go_wp2
      go_end0
      exact ⟨rfl, _, _, H1.out.tail⟩
  · go_simp
    refine hK.out _ _ trivial (fun _ => ?_)
    clear hK K
    try simp only [Act.put, List.setIfInBounds_toArray, List.set_cons_zero, List.set_cons_succ]
    have HF := Lib.hid (HS.out.made (.cells #[.int .i64 0, .int .i64 0, .slice none 0 0] 80)).2
    replace HS := Lib.hid (HS.out.made (.cells #[.int .i64 0, .int .i64 0, .slice none 0 0] 80)).1
    generalize wd.heap.size = mm at *
    generalize wd.alloc (.cells #[.int .i64 0, .int .i64 0, .slice none 0 0] 80) = wa at *
    refine wpAnyH_ready (rs := [7]) (by kernel_rfl) (by simp) ?_
    refine AllReadyH.cons rfl (fun K hK => ?_) AllReadyH.nil
    have a0 := HS.out.cellsB0
    have a1 := HS.out.cellsB1
    have a2 := HS.out.cellsB2
    go_simp
    refine hK.out _ _ trivial (fun _ => ?_)
    clear hK K a0 a1 a2
    try simp only [Act.put, List.setIfInBounds_toArray, List.set_cons_zero, List.set_cons_succ]
    refine wpAnyH_ready (rs := [8]) (by kernel_rfl) (by simp) ?_
    refine AllReadyH.cons rfl (fun K hK => ?_) AllReadyH.nil
    go_simp
    refine (HS.out.size (r := q) hv).mono ?_
    rintro e w1 ⟨rfl, h1, b1⟩
    refine hK.out _ _ trivial (fun _ => ?_)
    clear hK K b1
    try simp only [Act.put, List.setIfInBounds_toArray, List.set_cons_zero, List.set_cons_succ]
    replace HS := Lib.hid h1
    clear h1
    refine wpAnyH_ready (rs := [9]) (by kernel_rfl) (by simp) ?_
    refine AllReadyH.cons rfl (fun K hK => ?_) AllReadyH.nil
    go_simp
    refine (HS.out.takeB h0 (Nat.le_refl _)).mono ?_
    rintro e w2 ⟨v2, rfl, pv2, h2⟩
    rw [cutL_all hv hk0] at pv2
    obtain ⟨A2, c2, rfl, r2⟩ := pv2
    have HR := Lib.hid (h2.to0 r2)
    clear r2
    refine hK.out _ _ trivial (fun _ => ?_)
    clear hK K
    try simp only [Act.put, List.setIfInBounds_toArray, List.set_cons_zero, List.set_cons_succ]
    replace HS := Lib.hid h2
    clear h2
    refine wpAnyH_ready (rs := [11]) (by kernel_rfl) (by simp) ?_
    refine AllReadyH.cons rfl (fun K hK => ?_) AllReadyH.nil
    have m0 := HS.out.c3.1
    have m1 := HS.out.c3.2.1
    have m2 := HS.out.c3.2.2
    have n0 := HS.out.f3.1
    have n1 := HS.out.f3.2.1
    have n2 := HS.out.f3.2.2
    go_simp
    refine hK.out _ _ trivial (fun _ => ?_)
    clear hK K m0 m1 m2 n0 n1 n2
    try simp only [Act.put, List.setIfInBounds_toArray, List.set_cons_zero, List.set_cons_succ]
    refine wpAnyH_done (by kernel_rfl) ?_ _
    replace HS := Lib.hid (HS.out.set3 HF.out (.int .i64 q.kind) (.int .i64 q.n) (.slice A2 q.signs.length c2))
    generalize (((w2.setCell ⟨mm, 0, none⟩ (.int .i64 q.kind)).setCell ⟨mm, 1, none⟩ (.int .i64 q.n)).setCell ⟨mm, 2, none⟩ (.slice A2 q.signs.length c2)) = ws at *
    clear HF
    have hS2 := HS.out.drew.c3
    go_wp2
    go_region_held3 (fun W => W.cell? ⟨mm, 0, none⟩ = some (.int .i64 q.kind) ∧ W.cell? ⟨mm, 1, none⟩ = some (.int .i64 q.n) ∧ W.cell? ⟨mm, 2, none⟩ = some (.slice A2 q.signs.length c2))
      (first | assumption | exact hS2 | exact H3.out.c3 | exact H2.out.c3)
      (first | (go_at_call 83; ((refine (HS.out.drew.size (r := q) hv).mono ?_); rintro e w4 ⟨rfl, h4, b4⟩; have H2 := Lib.hid h4; clear h4 b4)) | (go_at_call 57; ((refine (H2.out.keepX (by omega) (by omega) hL).mono ?_); rintro e w5 ⟨rfl, P5, h5⟩; have H3 := Lib.hid h5; clear h5)))
    clear hS2
    have hS1 := H3.out.drew.c3
    go_wp2
    go_region_held3 (fun W => W.cell? ⟨mm, 0, none⟩ = some (.int .i64 q.kind) ∧ W.cell? ⟨mm, 1, none⟩ = some (.int .i64 q.n) ∧ W.cell? ⟨mm, 2, none⟩ = some (.slice A2 q.signs.length c2))
      (first | assumption | exact hS1 | exact H1.out.c3)
      (first | (go_at_call 81; ((refine (H3.out.drew.addY ⟨A2, c2, rfl, H3.out.drew.of0 HR.out⟩ hv hk0 hM).mono ?_); rintro e w3 ⟨rfl, O3, h3⟩; have H1 := Lib.hid h3; clear h3)))
    clear hS1
    go_wp2
    go_end0
    exact ⟨rfl, _, _, H1.out.tail⟩
end
end Go.Proofs.Ytmlkeflnnaabeaa.low.xb


/-
  The program's table of effects.
-/
namespace Go.Proofs.Ytmlkeflnnaabeaa.low.xb
open Go.RowKit
set_option linter.unusedVariables false
/-- the table, row by row -/
abbrev tabC : Array Value := #[.nilFunc, .nilFunc, .func (.func 94) #[] #[], .nilFunc,
  .nilFunc, .func (.func 95) #[] #[], .func (.func 94) #[] #[], .func (.func 96) #[] #[],
  .func (.func 97) #[] #[], .func (.func 97) #[] #[], .func (.func 97) #[] #[], .func (.func 97) #[] #[],
  .nilFunc, .func (.func 98) #[] #[], .func (.func 94) #[] #[], .func (.func 99) #[] #[]]
set_option maxRecDepth 100000 in
set_option maxHeartbeats 800000 in
theorem implEffects (w : World) : Calls Try.prog 76 #[] w (fun e w' => e = .returned (.agg tabC) ∧ Below w.heap.size w w') := by
  go_enter Try.func76, Try.ntmps76
  go_wp2
  exact bodyPost_ret (results_cell_row (by rfl) _ _ w.heap.size 101 tabC (0, 0) (.array 4 99) (by rfl) (heap_alloc_new w _) (by kernel_rfl) (by rfl) (by kernel_rfl)) rfl ⟨rfl, alloc_below w _⟩

/-- the state at the start -/
theorem Xs.new {w : World} {A B : Option Addr} {ca cb : Nat} {a b : List Pt} (ra : RdC w w.heap.size (encPs a) (.slice A a.length ca)) (rb : RdC w w.heap.size (encPs b) (.slice B b.length cb)) (oa : ∀ x ∈ a, okPt x = true) (ob : ∀ x ∈ b, okPt x = true) (la : a.length ≤ 1048576) (lb : b.length ≤ 1048576) :
    Xs ⟨w.heap.size, w.heap.size, w⟩ [] (fun _ => False) (fun _ => False) [] [] (w.alloc (.cells #[.int .i64 0, .int .i64 0, .slice none 0 0, .slice A a.length ca, .int .i64 0, .int .i64 0, .slice none 0 0, .slice B b.length cb, .slice none 0 0, .slice none 0 0, .int .i64 0, .slice none 0 0, .slice none 0 0, .int .i64 0] 97)) ⟨0, 0, []⟩ a ⟨0, 0, []⟩ b := by
  have hb := alloc_below w (.cells #[.int .i64 0, .int .i64 0, .slice none 0 0, .slice A a.length ca, .int .i64 0, .int .i64 0, .slice none 0 0, .slice B b.length cb, .slice none 0 0, .slice none 0 0, .int .i64 0, .slice none 0 0, .slice none 0 0, .int .i64 0] 97)
  have hn := heap_alloc_new w (.cells #[.int .i64 0, .int .i64 0, .slice none 0 0, .slice A a.length ca, .int .i64 0, .int .i64 0, .slice none 0 0, .slice B b.length cb, .slice none 0 0, .slice none 0 0, .int .i64 0, .slice none 0 0, .slice none 0 0, .int .i64 0] 97)
  generalize w.alloc _ = w1 at *
  have v0 : Vp ⟨0, 0, []⟩ := .inr (.inr ⟨rfl, rfl, rfl⟩)
  have bd : ∀ o D, D o = some (.slice none 0 0) → D (o + 1) = some (.slice none 0 0) → D (o + 2) = some (.int .i64 0) → BdV (fun _ => False) w.heap.size w.heap.size w1 D o [] := fun o D h1 h2 h3 =>
    ⟨⟨.slice none 0 0, .slice none 0 0, [], h1, h2, h3, World.ownsRow_nil _ _ _ _, rfl, Apart.bare 2 0 ⟨rfl, fun i p u hp _ => by simp [foldN] at hp, fun i j k u v hu _ _ _ => by simp at hu⟩, fun k hk => by simp [Value.ownBlock] at hk, fun i k x hx hk => by
      cases i with
      | zero => simp at hx; subst hx; simp [Value.ownBlock] at hk
      | succ i => simp at hx⟩, fun p hp => by simp at hp, by simp, fun b hb => hb.elim, fun h => h⟩
  exact ⟨⟨_, ⟨_, hn, fun i => rfl⟩, ⟨⟨none, 0, A, ca, rfl, rfl, rfl, rfl, ints_none, ra.below hb⟩, v0, oa, la⟩, ⟨⟨none, 0, B, cb, rfl, rfl, rfl, rfl, ints_none, rb.below hb⟩, v0, ob, lb⟩, bd 8 _ rfl rfl rfl, bd 11 _ rfl rfl rfl⟩, Nat.le_refl _, fun _ h => h.elim, fun x hx => by simp at hx, hb⟩
theorem least_ex {Q : Nat → Prop} : ∀ n, Q n → ∃ m, Q m ∧ ∀ k, Q k → m ≤ k := by
  intro n
  induction n using Nat.strongRecOn with
  | ind n ih =>
    intro h
    by_cases hk : ∃ k, k < n ∧ Q k
    · obtain ⟨k, h1, h2⟩ := hk
      exact ih k h1 h2
    · exact ⟨n, h, fun k hq => by
        rcases Nat.lt_or_ge k n with h1 | h1
        · exact absurd ⟨k, h1, hq⟩ hk
        · exact h1⟩
/-- the least number that fits -/
noncomputable def leastOf (St : World → Nat → Prop) (w : World) : Nat := Classical.epsilon (fun m => St w m ∧ ∀ k, St w k → m ≤ k)
theorem leastOf_at {St : World → Nat → Prop} {w : World} {n : Nat} (h : St w n) : St w (leastOf St w) ∧ leastOf St w ≤ n := by
  have := Classical.epsilon_spec (least_ex n h)
  exact ⟨this.1, this.2 n h⟩
end Go.Proofs.Ytmlkeflnnaabeaa.low.xb


/-
  The program's transformation: the loop (impl.crossed).
-/
namespace Go.Proofs.Ytmlkeflnnaabeaa.low.xb
open Go.RowKit
set_option linter.unusedVariables false

section
variable {a b L M : List Pt} {p q : Pt} {R S RX RY : List U} {m : Nat}
theorem ePx (h : XInv a b (unitsP p ++ R) RY L M) (hv : Vp p) (h0 : 0 < sizeP p) (hk : p.kind = 2) : XInv a b (unitsP (cutR p (sizeP p)) ++ R) RY (L ++ [p]) (M ++ [⟨1, (sizeP p : Int), []⟩]) := by
  rw [units_cutR_all hv, List.nil_append]
  rcases hv.form h0 with ⟨k, _⟩ | ⟨k, _⟩ | ⟨_, e1, l, e2⟩
  · omega
  · omega
  · rw [e2] at h
    rw [l]
    have := h.px (by omega)
    rw [e1]
    exact this
theorem ePy (h : XInv a b RX (unitsP q ++ S) L M) (hn : noP RX) (hv : Vp q) (h0 : 0 < sizeP q) (hk : q.kind = 2) : XInv a b RX (unitsP (cutR q (sizeP q)) ++ S) (L ++ [⟨1, (sizeP q : Int), []⟩]) (M ++ [q]) := by
  rw [units_cutR_all hv, List.nil_append]
  rcases hv.form h0 with ⟨k, _⟩ | ⟨k, _⟩ | ⟨_, e1, l, e2⟩
  · omega
  · omega
  · rw [e2] at h
    rw [l]
    have := h.py hn (by omega)
    rw [e1]
    exact this
theorem cutL_u (hk : p.kind = 1 ∨ p.kind = 3) : unitsP (cutL p m) = if p.kind = 1 then List.replicate m .k else List.replicate m .d := by
  rw [cutL_n (by omega)]
  rcases hk with hk | hk <;> simp [hk, unitsP]
theorem eM (h : XInv a b (unitsP p ++ R) (unitsP q ++ S) L M) (hv : Vp p) (hw : Vp q) (h0 : 0 < m) (h1 : m ≤ sizeP p) (h2 : m ≤ sizeP q) (hk : p.kind = 1 ∨ p.kind = 3) (hk' : q.kind = 1 ∨ q.kind = 3) :
    (p.kind = 1 → q.kind = 1 → XInv a b (unitsP (cutR p m) ++ R) (unitsP (cutR q m) ++ S) (L ++ [⟨1, (m : Int), []⟩]) (M ++ [⟨1, (m : Int), []⟩])) ∧
    (p.kind = 1 → q.kind = 3 → XInv a b (unitsP (cutR p m) ++ R) (unitsP (cutR q m) ++ S) L (M ++ [⟨3, (m : Int), []⟩])) ∧
    (p.kind = 3 → q.kind = 1 → XInv a b (unitsP (cutR p m) ++ R) (unitsP (cutR q m) ++ S) (L ++ [⟨3, (m : Int), []⟩]) M) ∧
    (p.kind = 3 → q.kind = 3 → XInv a b (unitsP (cutR p m) ++ R) (unitsP (cutR q m) ++ S) L M) := by
  rw [units_cut hv h1, units_cut hw h2, List.append_assoc, List.append_assoc, cutL_u hk, cutL_u hk'] at h
  refine ⟨fun e e' => ?_, fun e e' => ?_, fun e e' => ?_, fun e e' => ?_⟩ <;> rw [e, e'] at h <;> simp only [if_true, show ¬ ((3 : Int) = 1) by decide, if_false] at h
  · exact h.kk h0
  · exact h.kd h0
  · exact h.dk h0
  · exact h.dd
theorem noP_of (hv : Vp p) (h0 : 0 < sizeP p) (hk : ¬ p.kind = 2) : noP (unitsP p ++ R) := by
  obtain ⟨m, hm⟩ : ∃ m, sizeP p = m + 1 := ⟨sizeP p - 1, by omega⟩
  rcases hv.form h0 with ⟨_, _, e⟩ | ⟨_, _, e⟩ | ⟨k, _⟩
  · rw [e, hm, List.replicate_succ]; trivial
  · rw [e, hm, List.replicate_succ]; trivial
  · exact absurd k hk
end
/-- the kinds of the two parts at hand, as the table's places -/
theorem kindP_nat {p : Pt} (hv : Vp p) : ∃ k : Nat, kindP p = (k : Int) ∧ k < 4 ∧ (sizeP p = 0 → k = 0) ∧ (0 < sizeP p → (k = 1 ∧ p.kind = 1) ∨ (k = 2 ∧ p.kind = 2) ∨ (k = 3 ∧ p.kind = 3)) := by
  by_cases h0 : 0 < sizeP p
  · have e : kindP p = p.kind := by simp [kindP, h0]
    rcases hv.form h0 with ⟨k, _⟩ | ⟨k, _⟩ | ⟨k, _⟩
    · exact ⟨1, by rw [e, k]; rfl, by omega, by omega, fun _ => .inl ⟨rfl, k⟩⟩
    · exact ⟨3, by rw [e, k]; rfl, by omega, by omega, fun _ => .inr (.inr ⟨rfl, k⟩)⟩
    · exact ⟨2, by rw [e, k]; rfl, by omega, by omega, fun _ => .inr (.inl ⟨rfl, k⟩)⟩
  · exact ⟨0, by simp [kindP, h0], by omega, fun _ => rfl, fun h => absurd h h0⟩
/-- which effect a round has -/
theorem xcases {a b L M : List Pt} {p q : Pt} {ps qs : List Pt} {k1 k2 : Nat} {tv : Value} (ht : tabC.getD (k1 * 4 + k2) .nilFunc = tv) (hi : XInv a b (unitsP p ++ units ps) (unitsP q ++ units qs) L M) (hv : Vp p) (hw : Vp q) (l2 : k2 < 4)
    (hp : (sizeP p = 0 → ps = []) ∧ (sizeP p = 0 → k1 = 0) ∧ (0 < sizeP p → (k1 = 1 ∧ p.kind = 1) ∨ (k1 = 2 ∧ p.kind = 2) ∨ (k1 = 3 ∧ p.kind = 3))) (hq : (sizeP q = 0 → qs = []) ∧ (sizeP q = 0 → k2 = 0) ∧ (0 < sizeP q → (k2 = 1 ∧ q.kind = 1) ∨ (k2 = 2 ∧ q.kind = 2) ∨ (k2 = 3 ∧ q.kind = 3))) :
    (tv = .nilFunc ∧ unitsP p ++ units ps = [] ∧ unitsP q ++ units qs = []) ∨
    (tv = .func (.func 97) #[] #[] ∧ 0 < sizeP p ∧ p.kind = 2) ∨
    (tv = .func (.func 94) #[] #[] ∧ 0 < sizeP q ∧ q.kind = 2 ∧ noP (unitsP p ++ units ps)) ∨
    (0 < sizeP p ∧ 0 < sizeP q ∧ ((tv = .func (.func 95) #[] #[] ∧ p.kind = 1 ∧ q.kind = 1) ∨ (tv = .func (.func 96) #[] #[] ∧ p.kind = 1 ∧ q.kind = 3) ∨ (tv = .func (.func 98) #[] #[] ∧ p.kind = 3 ∧ q.kind = 1) ∨ (tv = .func (.func 99) #[] #[] ∧ p.kind = 3 ∧ q.kind = 3))) := by
  have bal := hi.bal
  have nil : ∀ {r : Pt} {rs : List Pt}, sizeP r = 0 → rs = [] → unitsP r ++ units rs = [] := fun h e => by rw [sizeP_nil h, e, units_nil]; rfl
  by_cases h0 : sizeP p = 0
  · have e1 := nil h0 (hp.1 h0)
    have ek := hp.2.1 h0
    subst ek
    by_cases h1 : sizeP q = 0
    · have ek := hq.2.1 h1
      subst ek
      exact .inl ⟨ht.symm, e1, nil h1 (hq.1 h1)⟩
    · have h1' : 0 < sizeP q := by omega
      rcases hq.2.2 h1' with ⟨ek, hk⟩ | ⟨ek, hk⟩ | ⟨ek, hk⟩
      · have := src_pos (R := units qs) hw h1' (by omega)
        rw [← bal, e1] at this
        simp [src] at this
      · subst ek
        exact .inr (.inr (.inl ⟨ht.symm, h1', hk, by rw [e1]; trivial⟩))
      · have := src_pos (R := units qs) hw h1' (by omega)
        rw [← bal, e1] at this
        simp [src] at this
  · have h0' : 0 < sizeP p := by omega
    rcases hp.2.2 h0' with ⟨ek, hk⟩ | ⟨ek, hk⟩ | ⟨ek, hk⟩
    all_goals subst ek
    · by_cases h1 : sizeP q = 0
      · have := src_pos (R := units ps) hv h0' (by omega)
        rw [bal, nil h1 (hq.1 h1)] at this
        simp [src] at this
      · have h1' : 0 < sizeP q := by omega
        rcases hq.2.2 h1' with ⟨ek, hk2⟩ | ⟨ek, hk2⟩ | ⟨ek, hk2⟩
        all_goals subst ek
        · exact .inr (.inr (.inr ⟨h0', h1', .inl ⟨ht.symm, hk, hk2⟩⟩))
        · exact .inr (.inr (.inl ⟨ht.symm, h1', hk2, noP_of hv h0' (by omega)⟩))
        · exact .inr (.inr (.inr ⟨h0', h1', .inr (.inl ⟨ht.symm, hk, hk2⟩)⟩))
    · refine .inr (.inl ⟨?_, h0', hk⟩)
      rcases (show k2 = 0 ∨ k2 = 1 ∨ k2 = 2 ∨ k2 = 3 by omega) with rfl | rfl | rfl | rfl <;> exact ht.symm
    · by_cases h1 : sizeP q = 0
      · have := src_pos (R := units ps) hv h0' (by omega)
        rw [bal, nil h1 (hq.1 h1)] at this
        simp [src] at this
      · have h1' : 0 < sizeP q := by omega
        rcases hq.2.2 h1' with ⟨ek, hk2⟩ | ⟨ek, hk2⟩ | ⟨ek, hk2⟩
        all_goals subst ek
        · exact .inr (.inr (.inr ⟨h0', h1', .inr (.inr (.inl ⟨ht.symm, hk, hk2⟩))⟩))
        · exact .inr (.inr (.inl ⟨ht.symm, h1', hk2, noP_of hv h0' (by omega)⟩))
        · exact .inr (.inr (.inr ⟨h0', h1', .inr (.inr (.inr ⟨ht.symm, hk, hk2⟩))⟩))
section
variable {P : Program} {w : World} {t : TypeId} {ps rs : Array TypeId} {v : Bool}
theorem eqlIn_fn (d f : Nat) (h : P.underlying t = some (.func ps rs v)) : (Op.equalIn (d + 1) t (.func (.func f) #[] #[]) .nilFunc).run P w = .ok false w := by
  simp [Op.equalIn, run_underlying h]
theorem eqlIn_nil (d : Nat) (h : P.underlying t = some (.func ps rs v)) : (Op.equalIn (d + 1) t .nilFunc .nilFunc).run P w = .ok true w := by
  simp [Op.equalIn, run_underlying h]
theorem eql_fn (f : Nat) (h : P.underlying t = some (.func ps rs v)) : Sem.run P (binOp .eql t (.func (.func f) #[] #[]) .nilFunc) w = .ok (.bool false) w := by
  have h1 : (Op.equal t (.func (.func f) #[] #[]) .nilFunc).run P w = .ok false w := eqlIn_fn 9999 f h
  simp only [binOp]
  simp [h1]
theorem eql_nil (h : P.underlying t = some (.func ps rs v)) : Sem.run P (binOp .eql t .nilFunc .nilFunc) w = .ok (.bool true) w := by
  have h1 : (Op.equal t .nilFunc .nilFunc).run P w = .ok true w := eqlIn_nil 9999 h
  simp only [binOp]
  simp [h1]
end
def DoneXP (F : Fy) (P : Nat → Prop) (L M : List Pt) (w : World) (e : Ending) (w' : World) : Prop := ∃ v c D, e = .returned v ∧ OwB F.lo w'.heap.size w' (encPs (doneN (foldN L))) v c ∧ Bld P F.lo F.g 11 D w' M ∧ (∀ x ∈ c, ¬ P x ∧ ¬ x = F.g) ∧ Below F.lo w w'
theorem Xs.doneX {F : Fy} {KL : List (Nat × Obj)} {O P : Nat → Prop} {L M : List Pt} {w : World} {p : Pt} {ps : List Pt} {q : Pt} {qs : List Pt} (h : Xs F KL O P L M w p ps q qs) : Calls Try.prog 58 #[.pointer (some ⟨F.g, 8, none⟩)] w (DoneXP F P L M w) := by
  obtain ⟨D, hD, ra, rb, bx, by_⟩ := h.box
  refine (implDoneB O F.lo F.g 8 D L w ⟨⟨D, hD, bx, fun _ _ => rfl⟩, h.ge⟩).mono ?_
  rintro e w' ⟨v, c, h1, h2, h3, h4, h5, D', hD', hC'⟩
  refine ⟨v, c, D', h1, h2, ⟨⟨D', hD', by_.keep h5.size (fun b hlt hp => h5.block b hlt (fun ho => h.dis b ho hp) (fun e => by_.ng (by rw [← e]; exact hp))) (fun i _ _ => hC' i (by omega)), fun _ _ => rfl⟩, h.ge⟩, fun x hx => ⟨fun hp => ?_, (h3 x hx).2⟩, h4⟩
  rcases (h3 x hx).1 with k | k
  · exact h.dis x k hp
  · have := by_.old x hp; omega
theorem OwB.grewX {O O' : Nat → Prop} {g lo hi : Nat} {w w' : World} {d : Dat} {v : Value} {b : List Nat} (h : OwB lo hi w d v b) (hg : GrewX O O' g w w') (hO : ∀ x ∈ b, ¬ O x ∧ ¬ x = g) : OwB lo hi w' d v b :=
  ⟨OwC.keep d v b h.ow (fun x hx => hg.block x (OwC.lt d v b h.ow x hx) (hO x hx).1 (hO x hx).2), h.nd, h.rng, Nat.le_trans h.top hg.size, h.le⟩
/-- the loop's invariant, with the number of units that are left -/
def StX (F : Fy) (KL : List (Nat × Obj)) (a b : List Pt) (w : World) (n : Nat) : Prop := ∃ O P L M p ps q qs, Xs F KL O P L M w p ps q qs ∧ XInv a b (unitsP p ++ units ps) (unitsP q ++ units qs) L M ∧ n = (unitsP p ++ units ps).length + (unitsP q ++ units qs).length
theorem StX.next {F : Fy} {KL : List (Nat × Obj)} {a b : List Pt} {w w' : World} {O P : Nat → Prop} {L M : List Pt} {p : Pt} {ps : List Pt} {q : Pt} {qs : List Pt} {n : Nat} (h : Xs F KL O P L M w' p ps q qs) (hi : XInv a b (unitsP p ++ units ps) (unitsP q ++ units qs) L M) (hn : leastOf (StX F KL a b) w = n) (hl : (unitsP p ++ units ps).length + (unitsP q ++ units qs).length < n) : StX F KL a b w' ((unitsP p ++ units ps).length + (unitsP q ++ units qs).length) ∧ leastOf (StX F KL a b) w' < leastOf (StX F KL a b) w := by
  have st : StX F KL a b w' ((unitsP p ++ units ps).length + (unitsP q ++ units qs).length) := ⟨O, P, L, M, p, ps, q, qs, h, hi, rfl⟩
  have := (leastOf_at st).2
  exact ⟨st, by omega⟩
/-- what it returns -/
def CrossP (a b : List Pt) (w : World) (e : Ending) (w' : World) : Prop :=
  ∃ v v' c c', e = .returned (.tuple #[v, v']) ∧ OwB w.heap.size w'.heap.size w' (encPs (xfA a b)) v c ∧ OwB w.heap.size w'.heap.size w' (encPs (xfB a b)) v' c' ∧ (∀ x ∈ c, x ∉ c') ∧ Below w.heap.size w w' ∧ SmP (xfA a b) ∧ SmP (xfB a b)
set_option maxRecDepth 100000 in
set_option maxHeartbeats 1600000 in
theorem implCrossed (A B : Option Addr) (ca cb : Nat) (a b : List Pt) (w : World) (ra : RdC w w.heap.size (encPs a) (.slice A a.length ca)) (rb : RdC w w.heap.size (encPs b) (.slice B b.length cb)) (oa : ∀ x ∈ a, okPt x = true) (ob : ∀ x ∈ b, okPt x = true) (la : a.length ≤ 1048576) (lb : b.length ≤ 1048576) (hi : XInv a b (units a) (units b) [] []) :
    Calls Try.prog 48 #[.slice A a.length ca, .slice B b.length cb] w (CrossP a b w) := by
  have HX := Lib.hid (Xs.new ra rb oa ob la lb)
  have HI := Lib.hid hi
  clear ra rb oa ob la lb hi
  go_enter Try.func48, Try.ntmps48
  go_wp2_with fail
  refine (implEffects _).mono ?_
  rintro e w1 ⟨rfl, b1⟩
  have H1 := Lib.hid ((HX.out.past b1).made (.cells tabC 101)).1
  clear b1 HX
  go_wp2
  change Code.wp _ _ _ _ (w1.alloc (.cells tabC 101))
  generalize w1.alloc (.cells tabC 101) = W0 at *
  generalize w1.heap.size = lt at *
  obtain ⟨F, hF⟩ : ∃ F : Fy, F = ⟨w.heap.size, w.heap.size, w⟩ := ⟨_, rfl⟩
  rw [← hF] at H1
  have hg : w.heap.size = F.g := by rw [hF]
  have HF := Lib.hid hF
  clear hF
  rw [hg]
  clear hg
  go_loopw [8] (fun t wr => ∃ n, StX F [(lt, .cells tabC 101 (0, 0))] a b wr n) (fun _ wr => leastOf (StX F [(lt, .cells tabC 101 (0, 0))] a b) wr)
  case atStart => exact ⟨_, _, _, _, _, _, _, _, _, H1.out, HI.out, rfl⟩
  case round =>
    clear H1 HI
    obtain ⟨n, hn⟩ := hrel
    obtain ⟨O, P, L, M, p, ps, q, qs, hx, hi, hlen⟩ := (leastOf_at hn).1
    have HS := Lib.hid hx.drew
    have HI := Lib.hid hi
    have HLEN := Lib.hid hlen
    clear hn hx hi hlen
    go_wp2
    refine wp_region_held_drew (S := fun _ => True) (by kernel_rfl) trivial (fun _ => ?_)
    generalize wr.drew = wd at *
    refine wpAnyH_take (i := 0) (v := .pointer (some ⟨F.g, 0, none⟩)) rfl (by kernel_rfl) (by kernel_rfl) (by kernel_rfl) (fun _ _ _ h => h) (Or.inl ⟨by rfl, fun w' hS => ?_⟩) trivial ?_
    · clear HS HI HLEN; go_simp
    try simp only [Act.put]
    refine wpAnyH_take (i := 1) (v := .pointer (some ⟨F.g, 0, none⟩)) rfl (by kernel_rfl) (by kernel_rfl) (by kernel_rfl) (fun _ _ _ h => h) (Or.inl ⟨by rfl, fun w' hS => ?_⟩) trivial ?_
    · clear HS HI HLEN; go_simp
    try simp only [Act.put]
    refine wpAnyH_take (i := 2) (v := .pointer (some ⟨F.g, 0, none⟩)) rfl (by kernel_rfl) (by kernel_rfl) (by kernel_rfl) (fun _ _ _ h => h) (Or.inl ⟨by rfl, fun w' hS => ?_⟩) trivial ?_
    · clear HS HI HLEN; go_simp
    try simp only [Act.put]
    refine wpAnyH_take (i := 4) (v := .pointer (some ⟨F.g, 0, none⟩)) rfl (by kernel_rfl) (by kernel_rfl) (by kernel_rfl) (fun _ _ _ h => h) (Or.inl ⟨by rfl, fun w' hS => ?_⟩) trivial ?_
    · clear HS HI HLEN; go_simp
    try simp only [Act.put]
    refine wpAnyH_take (i := 5) (v := .pointer (some ⟨F.g, 0, none⟩)) rfl (by kernel_rfl) (by kernel_rfl) (by kernel_rfl) (fun _ _ _ h => h) (Or.inl ⟨by rfl, fun w' hS => ?_⟩) trivial ?_
    · clear HS HI HLEN; go_simp
    try simp only [Act.put]
    refine wpAnyH_take (i := 6) (v := .pointer (some ⟨F.g, 4, none⟩)) rfl (by kernel_rfl) (by kernel_rfl) (by kernel_rfl) (fun _ _ _ h => h) (Or.inl ⟨by rfl, fun w' hS => ?_⟩) trivial ?_
    · clear HS HI HLEN; go_simp
    try simp only [Act.put]
    refine wpAnyH_ready (rs := [3]) (by kernel_rfl) (by simp) ?_
    refine AllReadyH.cons rfl (fun K hK => ?_) AllReadyH.nil
    go_simp
    refine HS.out.kindA.mono ?_
    rintro e w2 ⟨p1, ps1, rfl, h2, u2, z2⟩
    obtain ⟨k1, hk1, hk1l, hk1z, hk1p⟩ := kindP_nat h2.vp
    rw [hk1]
    have hk1i : (k1 : Int) < 4 := by omega
    refine hK.out _ _ trivial (fun _ => ?_)
    clear hK K
    try simp only [Act.put, List.setIfInBounds_toArray, List.set_cons_zero, List.set_cons_succ]
    replace HI := Lib.hid (show XInv a b (unitsP p1 ++ units ps1) (unitsP q ++ units qs) L M by rw [u2]; exact HI.out)
    replace HLEN := Lib.hid (show leastOf (StX F [(lt, .cells tabC 101 (0, 0))] a b) wr = (unitsP p1 ++ units ps1).length + (unitsP q ++ units qs).length by rw [u2]; exact HLEN.out)
    have HZ := Lib.hid (And.intro z2 (And.intro hk1z hk1p))
    have H2 := Lib.hid h2
    clear HS h2 u2 z2 hk1z hk1p hk1
    refine wpAnyH_take (i := 8) (v := .pointer (some ⟨lt, k1 * 4, none⟩)) rfl (by kernel_rfl) (by kernel_rfl) (by kernel_rfl) (fun _ _ _ h => h) (Or.inl ⟨by rfl, fun w' hS => ?_⟩) trivial ?_
    · clear H2 HI HLEN HZ
      go_simp
    try simp only [Act.put]
    refine wpAnyH_ready (rs := [7]) (by kernel_rfl) (by simp) ?_
    refine AllReadyH.cons rfl (fun K hK => ?_) AllReadyH.nil
    go_simp
    refine H2.out.kindB.mono ?_
    rintro e w3 ⟨q1, qs1, rfl, h3, u3, z3⟩
    obtain ⟨k2, hk2, hk2l, hk2z, hk2p⟩ := kindP_nat h3.vq
    rw [hk2]
    have hk2i : (k2 : Int) < 4 := by omega
    refine hK.out _ _ trivial (fun _ => ?_)
    clear hK K
    try simp only [Act.put, List.setIfInBounds_toArray, List.set_cons_zero, List.set_cons_succ]
    replace HI := Lib.hid (show XInv a b (unitsP p1 ++ units ps1) (unitsP q1 ++ units qs1) L M by rw [u3]; exact HI.out)
    replace HLEN := Lib.hid (show leastOf (StX F [(lt, .cells tabC 101 (0, 0))] a b) wr = (unitsP p1 ++ units ps1).length + (unitsP q1 ++ units qs1).length by rw [u3]; exact HLEN.out)
    have HZ2 := Lib.hid (And.intro z3 (And.intro hk2z hk2p))
    have H3 := Lib.hid h3
    clear H2 h3 u3 z3 hk2z hk2p hk2
    refine wpAnyH_take (i := 9) (v := .pointer (some ⟨lt, k1 * 4 + k2, none⟩)) rfl (by kernel_rfl) (by kernel_rfl) (by kernel_rfl) (fun _ _ _ h => h) (Or.inl ⟨by rfl, fun w' hS => ?_⟩) trivial ?_
    · clear H3 HI HLEN HZ HZ2
      go_simp
    try simp only [Act.put]
    have ht : tabC[k1 * 4 + k2]? = some (tabC.getD (k1 * 4 + k2) .nilFunc) := by
      have : k1 * 4 + k2 < tabC.size := by show k1 * 4 + k2 < 16; omega
      rw [Array.getElem?_eq_getElem this, Array.getD]
      simp only [this, dif_pos]
      rfl
    have c0 := H3.out.cellK List.mem_cons_self ht
    clear ht
    generalize htv : tabC.getD (k1 * 4 + k2) .nilFunc = tv at *
    have HTV := Lib.hid htv
    clear htv
    refine wpAnyH_ready (rs := [10]) (by kernel_rfl) (by simp) ?_
    refine AllReadyH.cons rfl (fun K hK => ?_) AllReadyH.nil
    go_simp
    refine hK.out _ _ trivial (fun _ => ?_)
    clear hK K c0
    try simp only [Act.put, List.setIfInBounds_toArray, List.set_cons_zero, List.set_cons_succ]
    refine wpAnyH_take (i := 11) (v := tv) rfl (by kernel_rfl) (by kernel_rfl) (by kernel_rfl) (fun _ _ _ h => h) (Or.inl ⟨by rfl, fun w' hS => ?_⟩) trivial ?_
    · clear H3 HI HLEN HZ HZ2 HTV
      go_simp
    try simp only [Act.put]
    refine wpAnyH_done (by kernel_rfl) ?_ _
    have hLM := HI.out.len
    have hvp := H3.out.vp
    have hvq := H3.out.vq
    rcases xcases HTV.out HI.out hvp hvq hk2l HZ.out HZ2.out with ⟨htv, e1, e2⟩ | ⟨htv, h0, hk⟩ | ⟨htv, h0, hk, hnp⟩ | ⟨h0, h0', hc⟩
    · clear hk1l hk2l hk1i hk2i HTV
      subst htv
      have hsx : ∀ r ∈ L, szP_ r := by obtain ⟨D, _, _, _, h1, _⟩ := H3.out.box; exact h1.sz
      have hsy : ∀ r ∈ M, szP_ r := by obtain ⟨D, _, _, _, _, h1⟩ := H3.out.box; exact h1.sz
      have q1 : doneN (foldN L) = xfA a b := by
        have h1 := HI.out.eq1
        rw [e1, e2, xf_nil, List.append_nil] at h1
        unfold xfA
        rw [foldN_units hsx, h1]
      have q2 : doneN (foldN M) = xfB a b := by
        have h1 := HI.out.eq2
        rw [e1, e2, xf_nil, List.append_nil] at h1
        unfold xfB
        rw [foldN_units hsy, h1]
      have HS1 := Lib.hid (show SmP (xfA a b) by rw [← q1]; exact built_small hsx (by omega))
      have HS2 := Lib.hid (show SmP (xfB a b) by rw [← q2]; exact built_small hsy (by omega))
      have HQ1 := Lib.hid q1
      have HQ2 := Lib.hid q2
      have hq : ∀ w, Sem.run Try.prog (binOp .eql 98 .nilFunc .nilFunc) w = .ok (.bool true) w := fun w => eql_nil Try.underlying98
      clear q1 q2 hsx hsy e1 e2 HLEN HZ HZ2 hLM hvp hvq HI
      go_wp2
      clear hq
      have H3d := Lib.hid H3.out.drew
      clear H3
      go_region_held3 (fun _ => True) (trivial)
        (first | (go_at_call 58; ((with_reducible refine (Xs.doneX H3d.out).mono ?_); rintro e w4 ⟨v4, c4, D4, rfl, o4, bd4, ds4, bl4⟩; have H4 := Lib.hid (And.intro o4 (And.intro ds4 (H3d.out.bl.trans bl4))); have HB4 := Lib.hid bd4; clear o4 bd4 ds4 bl4)) | (go_at_call 58; ((with_reducible refine (implDoneB P F.lo F.g 11 D4 M _ HB4.out).mono ?_); rintro e w5 ⟨v5, c5, rfl, o5, in5, bl5, gr5, _⟩; have H5 := Lib.hid (And.intro o5 (And.intro in5 (And.intro bl5 gr5))); clear o5 in5 bl5 gr5)))
      go_wp2
      go_ret2
      obtain ⟨o4, ds4, bl4⟩ := H4.out
      obtain ⟨o5, in5, bl5, gr5⟩ := H5.out
      rw [HQ1.out] at o4
      rw [HQ2.out] at o5
      have o4' := OwB.grewX o4 gr5 ds4
      have bl := bl4.trans bl5
      have eF := HF.out
      subst eF
      exact ⟨v4, v5, c4, c5, rfl, o4'.upto gr5.size (Nat.le_refl _), o5, fun x h1 h2 => by
        rcases (in5 x h2).1 with k | k
        · exact (ds4 x h1).1 k
        · have := OwC.lt _ _ _ o4.ow x h1; omega, bl, HS1.out, HS2.out⟩
    · clear hk1l hk2l hk1i hk2i HTV
      have HD := Lib.hid (show (unitsP (cutR p1 (sizeP p1)) ++ units ps1).length + (unitsP q1 ++ units qs1).length < (unitsP p1 ++ units ps1).length + (unitsP q1 ++ units qs1).length by
        have := cutR_len hvp (Nat.le_refl _) h0
        simp only [List.length_append]
        omega)
      subst htv
      have hq : ∀ w, Sem.run Try.prog (binOp .eql 98 (.func (.func 97) #[] #[]) .nilFunc) w = .ok (.bool false) w := fun w => eql_fn _ Try.underlying98
      go_wp2_with fail
      clear hq
      refine (H3.out.putFirst h0 (by omega) (by omega)).mono ?_
      rintro e w4 ⟨rfl, O4, P4, h4⟩
      obtain ⟨st, lt4⟩ := StX.next (w := wr) h4 (ePx HI.out hvp h0 hk) HLEN.out HD.out
      have HST := Lib.hid st
      have HLT := Lib.hid lt4
      clear st lt4 h4 H3 HI HLEN HZ HZ2 h0 HD hLM
      go_wp2
      go_roundw
      case rel => exact ⟨_, HST.out⟩
      case measure => exact HLT.out
    · clear hk1l hk2l hk1i hk2i HTV
      have HD := Lib.hid (show (unitsP p1 ++ units ps1).length + (unitsP (cutR q1 (sizeP q1)) ++ units qs1).length < (unitsP p1 ++ units ps1).length + (unitsP q1 ++ units qs1).length by
        have := cutR_len hvq (Nat.le_refl _) h0
        simp only [List.length_append]
        omega)
      subst htv
      have hq : ∀ w, Sem.run Try.prog (binOp .eql 98 (.func (.func 94) #[] #[]) .nilFunc) w = .ok (.bool false) w := fun w => eql_fn _ Try.underlying98
      go_wp2_with fail
      clear hq
      refine (H3.out.putSecond h0 (by omega) (by omega)).mono ?_
      rintro e w4 ⟨rfl, O4, P4, h4⟩
      obtain ⟨st, lt4⟩ := StX.next (w := wr) h4 (ePy HI.out hnp hvq h0 hk) HLEN.out HD.out
      have HST := Lib.hid st
      have HLT := Lib.hid lt4
      clear st lt4 h4 H3 HI HLEN HZ HZ2 h0 HD hLM
      go_wp2
      go_roundw
      case rel => exact ⟨_, HST.out⟩
      case measure => exact HLT.out
    · clear hk1l hk2l hk1i hk2i HTV
      obtain ⟨m, hm0, hm1, hm2, hm⟩ : ∃ m, 0 < m ∧ m ≤ sizeP p1 ∧ m ≤ sizeP q1 ∧ (m = sizeP p1 ∨ m = sizeP q1) := ⟨min (sizeP p1) (sizeP q1), by omega, by omega, by omega, by omega⟩
      have HM := Lib.hid hm
      have HD := Lib.hid (show (unitsP (cutR p1 m) ++ units ps1).length + (unitsP (cutR q1 m) ++ units qs1).length < (unitsP p1 ++ units ps1).length + (unitsP q1 ++ units qs1).length by
        have h1 := cutR_len hvp hm1 hm0
        have h2 := cutR_len hvq hm2 hm0
        simp only [List.length_append]
        omega)
      clear hm
      rcases hc with ⟨htv, hk, hk'⟩ | ⟨htv, hk, hk'⟩ | ⟨htv, hk, hk'⟩ | ⟨htv, hk, hk'⟩
      · subst htv
        have hq : ∀ w, Sem.run Try.prog (binOp .eql 98 (.func (.func 95) #[] #[]) .nilFunc) w = .ok (.bool false) w := fun w => eql_fn _ Try.underlying98
        go_wp2_with fail
        clear hq
        refine (H3.out.keepBoth hm0 hm1 hm2 HM.out (by omega) (by omega)).mono ?_
        rintro e w4 ⟨rfl, O4, P4, h4⟩
        obtain ⟨st, lt4⟩ := StX.next (w := wr) h4 ((eM HI.out hvp hvq hm0 hm1 hm2 (.inl hk) (.inl hk')).1 hk hk') HLEN.out HD.out
        have HST := Lib.hid st
        have HLT := Lib.hid lt4
        clear st lt4 h4 H3 HI HLEN HZ HZ2 h0 HD hLM
        go_wp2
        go_roundw
        case rel => exact ⟨_, HST.out⟩
        case measure => exact HLT.out
      · subst htv
        have hq : ∀ w, Sem.run Try.prog (binOp .eql 98 (.func (.func 96) #[] #[]) .nilFunc) w = .ok (.bool false) w := fun w => eql_fn _ Try.underlying98
        go_wp2_with fail
        clear hq
        refine (H3.out.dropSecond hm0 hm1 hm2 HM.out (by omega)).mono ?_
        rintro e w4 ⟨rfl, O4, P4, h4⟩
        obtain ⟨st, lt4⟩ := StX.next (w := wr) h4 ((eM HI.out hvp hvq hm0 hm1 hm2 (.inl hk) (.inr hk')).2.1 hk hk') HLEN.out HD.out
        have HST := Lib.hid st
        have HLT := Lib.hid lt4
        clear st lt4 h4 H3 HI HLEN HZ HZ2 h0 HD hLM
        go_wp2
        go_roundw
        case rel => exact ⟨_, HST.out⟩
        case measure => exact HLT.out
      · subst htv
        have hq : ∀ w, Sem.run Try.prog (binOp .eql 98 (.func (.func 98) #[] #[]) .nilFunc) w = .ok (.bool false) w := fun w => eql_fn _ Try.underlying98
        go_wp2_with fail
        clear hq
        refine (H3.out.dropFirst hm0 hm1 hm2 HM.out (by omega)).mono ?_
        rintro e w4 ⟨rfl, O4, P4, h4⟩
        obtain ⟨st, lt4⟩ := StX.next (w := wr) h4 ((eM HI.out hvp hvq hm0 hm1 hm2 (.inr hk) (.inl hk')).2.2.1 hk hk') HLEN.out HD.out
        have HST := Lib.hid st
        have HLT := Lib.hid lt4
        clear st lt4 h4 H3 HI HLEN HZ HZ2 h0 HD hLM
        go_wp2
        go_roundw
        case rel => exact ⟨_, HST.out⟩
        case measure => exact HLT.out
      · subst htv
        have hq : ∀ w, Sem.run Try.prog (binOp .eql 98 (.func (.func 99) #[] #[]) .nilFunc) w = .ok (.bool false) w := fun w => eql_fn _ Try.underlying98
        go_wp2_with fail
        clear hq
        refine (H3.out.dropBoth hm0 hm1 hm2 HM.out).mono ?_
        rintro e w4 ⟨rfl, O4, P4, h4⟩
        obtain ⟨st, lt4⟩ := StX.next (w := wr) h4 ((eM HI.out hvp hvq hm0 hm1 hm2 (.inr hk) (.inr hk')).2.2.2 hk hk') HLEN.out HD.out
        have HST := Lib.hid st
        have HLT := Lib.hid lt4
        clear st lt4 h4 H3 HI HLEN HZ HZ2 h0 HD hLM
        go_wp2
        go_roundw
        case rel => exact ⟨_, HST.out⟩
        case measure => exact HLT.out
end Go.Proofs.Ytmlkeflnnaabeaa.low.xb


/-
  The loop of spec.Transform: its body, taken out of the translation; the cases of a round, each a theorem over the frame; the round; the loop.
-/
namespace Go.Proofs.Ytmlkeflnnaabeaa.low
open Go.RowKit
set_option linter.unusedVariables false

/-- the loop's invariant -/
def TrR (K : Fx) (g1 g2 : Nat) (w0 w' : World) : Prop := ∃ O P L M RX RY, TT K g1 g2 114 O P L M w' none none RX RY ∧ XInv K.a K.b RX RY L M ∧ Below K.lo w0 w'
theorem TrR.mk {K : Fx} {g1 g2 : Nat} {w0 w' : World} {O P : Nat → Prop} {L M : List Pt} {RX RY : List U} (h : TT K g1 g2 114 O P L M w' none none RX RY) (hi : XInv K.a K.b RX RY L M) (D : Below K.lo w0 w') : TrR K g1 g2 w0 w' := ⟨O, P, L, M, RX, RY, h, hi, D⟩
set_option maxRecDepth 1000000 in
def TrI (K : Fx) (g1 g2 : Nat) (w0 : World) (c0 c1 c2 c3 c4 c5 c6 c16 c17 c18 c19 c20 c21 c22 c23 c24 c25 c26 c27 c28 c29 c30 c31 c32 c33 c34 c35 c36 c37 c38 c39 c40 c41 c42 c127 c128 c129 c130 c131 c132 c133 c134 c135 c136 c137 c138 c139 c140 : Value) (a : Act) (w' : World) : Prop := ∃ u11 u12 u13 u14 u15 u43 u44 u45 u46 u47 u48 u49 u50 u51 u52 u53 u54 u55 u56 u57 u58 u59 u60 u61 u62 u63 u64 u65 u66 u67 u68 u69 u70 u71 u72 u73 u74 u75 u76 u77 u78 u79 u80 u81 u82 u83 u84 u85 u86 u87 u88 u89 u90 u91 u92 u93 u94 u95 u96 u97 u98 u99 u100 u101 u102 u103 u104 u105 u106 u107 u108 u109 u110 u111 u112 u113 u114 u115 u116 u117 u118 u119 u120 u121 u122 u123 u124 u125 u126 : Value, TrR K g1 g2 w0 w' ∧ a = ⟨#[c0, c1, c2, c3, c4, c5, c6, .pointer (some ⟨K.gx, 0, none⟩), .pointer (some ⟨K.gy, 0, none⟩), .pointer (some ⟨g1, 0, none⟩), .pointer (some ⟨g2, 0, none⟩), u11, u12, u13, u14, u15, c16, c17, c18, c19, c20, c21, c22, c23, c24, c25, c26, c27, c28, c29, c30, c31, c32, c33, c34, c35, c36, c37, c38, c39, c40, c41, c42, u43, u44, u45, u46, u47, u48, u49, u50, u51, u52, u53, u54, u55, u56, u57, u58, u59, u60, u61, u62, u63, u64, u65, u66, u67, u68, u69, u70, u71, u72, u73, u74, u75, u76, u77, u78, u79, u80, u81, u82, u83, u84, u85, u86, u87, u88, u89, u90, u91, u92, u93, u94, u95, u96, u97, u98, u99, u100, u101, u102, u103, u104, u105, u106, u107, u108, u109, u110, u111, u112, u113, u114, u115, u116, u117, u118, u119, u120, u121, u122, u123, u124, u125, u126, c127, c128, c129, c130, c131, c132, c133, c134, c135, c136, c137, c138, c139, c140], []⟩
/-- behind the loop -/
def TrX (K : Fx) (g1 g2 : Nat) (w0 w' : World) : Prop := ∃ O P L M, TT K g1 g2 114 O P L M w' none none [] [] ∧ XInv K.a K.b [] [] L M ∧ Below K.lo w0 w'
set_option maxRecDepth 1000000 in
def TrE (K : Fx) (g1 g2 : Nat) (w0 : World) (c0 c1 c2 c3 c4 c5 c6 c16 c17 c18 c19 c20 c21 c22 c23 c24 c25 c26 c27 c28 c29 c30 c31 c32 c33 c34 c35 c36 c37 c38 c39 c40 c41 c42 c127 c128 c129 c130 c131 c132 c133 c134 c135 c136 c137 c138 c139 c140 : Value) (a : Act) (w' : World) : Prop := ∃ u11 u12 u13 u14 u15 u43 u44 u45 u46 u47 u48 u49 u50 u51 u52 u53 u54 u55 u56 u57 u58 u59 u60 u61 u62 u63 u64 u65 u66 u67 u68 u69 u70 u71 u72 u73 u74 u75 u76 u77 u78 u79 u80 u81 u82 u83 u84 u85 u86 u87 u88 u89 u90 u91 u92 u93 u94 u95 u96 u97 u98 u99 u100 u101 u102 u103 u104 u105 u106 u107 u108 u109 u110 u111 u112 u113 u114 u115 u116 u117 u118 u119 u120 u121 u122 u123 u124 u125 u126 : Value, TrX K g1 g2 w0 w' ∧ a = ⟨#[c0, c1, c2, c3, c4, c5, c6, .pointer (some ⟨K.gx, 0, none⟩), .pointer (some ⟨K.gy, 0, none⟩), .pointer (some ⟨g1, 0, none⟩), .pointer (some ⟨g2, 0, none⟩), u11, u12, u13, u14, u15, c16, c17, c18, c19, c20, c21, c22, c23, c24, c25, c26, c27, c28, c29, c30, c31, c32, c33, c34, c35, c36, c37, c38, c39, c40, c41, c42, u43, u44, u45, u46, u47, u48, u49, u50, u51, u52, u53, u54, u55, u56, u57, u58, u59, u60, u61, u62, u63, u64, u65, u66, u67, u68, u69, u70, u71, u72, u73, u74, u75, u76, u77, u78, u79, u80, u81, u82, u83, u84, u85, u86, u87, u88, u89, u90, u91, u92, u93, u94, u95, u96, u97, u98, u99, u100, u101, u102, u103, u104, u105, u106, u107, u108, u109, u110, u111, u112, u113, u114, u115, u116, u117, u118, u119, u120, u121, u122, u123, u124, u125, u126, c127, c128, c129, c130, c131, c132, c133, c134, c135, c136, c137, c138, c139, c140], []⟩
end Go.Proofs.Ytmlkeflnnaabeaa.low


/-
  Contract of spec.Transform.
-/
namespace Go.Proofs.Ytmlkeflnnaabeaa.low
open Go.RowKit
set_option linter.unusedVariables false

theorem nil2 {w w' : World} (hb : Below w.heap.size w w') : Res2B (encPs []) (encPs []) false w (.returned (.tuple #[.slice none 0 0, .slice none 0 0, .bool false])) w' := by
  obtain ⟨b1, o1⟩ := (nilOwn (encPs []) w' rfl hb.size).blocks
  have e : b1 = [] := by obtain ⟨_, _, ho, hr, he⟩ := o1.ow; obtain ⟨_, hc⟩ := hr; rw [he, hc]; rfl
  subst e
  exact ⟨_, _, [], [], rfl, o1, o1, by simp, hb⟩
theorem xform_f {a b : List Pt} (h : xformOk a b = false) : xformOk a b = false ∧ xformA a b = [] ∧ xformB a b = [] := ⟨h, by unfold xformA; rw [h]; rfl, by unfold xformB; rw [h]; rfl⟩
theorem TT.new {w : World} {A B : Option Addr} {ca cb lo : Nat} {a b : List Pt} {TC TB : TypeId} (hlo : lo ≤ w.heap.size) (ra : RdC w lo (encPs a) (.slice A a.length ca)) (rb : RdC w lo (encPs b) (.slice B b.length cb)) (sa : ∀ p ∈ a, szP_ p) (sb : ∀ p ∈ b, szP_ p) (na : a.length ≤ 1048576) (nb : b.length ≤ 1048576) :
    TT ⟨lo, w.heap.size, w.heap.size + 1, TC, A, ca, a, B, cb, b⟩ (w.heap.size + 1 + 1) (w.heap.size + 1 + 1 + 1) TB (fun q => q = w.heap.size + 1 + 1) (fun q => q = w.heap.size + 1 + 1 + 1) [] [] ((((w.alloc (.cells #[.slice A a.length ca, .int .i64 0, .int .i64 0] TC)).alloc (.cells #[.slice B b.length cb, .int .i64 0, .int .i64 0] TC)).alloc (.cells #[.slice none 0 0, .slice none 0 0, .int .i64 0] TB)).alloc (.cells #[.slice none 0 0, .slice none 0 0, .int .i64 0] TB)) none none (units a) (units b) ∧
    Below lo w ((((w.alloc (.cells #[.slice A a.length ca, .int .i64 0, .int .i64 0] TC)).alloc (.cells #[.slice B b.length cb, .int .i64 0, .int .i64 0] TC)).alloc (.cells #[.slice none 0 0, .slice none 0 0, .int .i64 0] TB)).alloc (.cells #[.slice none 0 0, .slice none 0 0, .int .i64 0] TB)) := by
  obtain ⟨h1, b1⟩ := CB.new (TC := TC) (TB := TB) hlo ra rb sa sb na nb
  have s3 : (((w.alloc (.cells #[.slice A a.length ca, .int .i64 0, .int .i64 0] TC)).alloc (.cells #[.slice B b.length cb, .int .i64 0, .int .i64 0] TC)).alloc (.cells #[.slice none 0 0, .slice none 0 0, .int .i64 0] TB)).heap.size = w.heap.size + 1 + 1 + 1 := by simp
  generalize (((w.alloc (.cells #[.slice A a.length ca, .int .i64 0, .int .i64 0] TC)).alloc (.cells #[.slice B b.length cb, .int .i64 0, .int .i64 0] TC)).alloc (.cells #[.slice none 0 0, .slice none 0 0, .int .i64 0] TB)) = w3 at *
  have hb := Bld.new lo TB w3 (by omega)
  have ba := alloc_below w3 (.cells #[.slice none 0 0, .slice none 0 0, .int .i64 0] TB)
  rw [s3] at hb
  have h2 := h1.past ba
  exact ⟨⟨h2.cs, h2.bd, hb, h2.ox, h2.oy, by show ¬ w.heap.size = _; omega, by show ¬ w.heap.size + 1 = _; omega, fun q e1 e2 => by have e1' : q = w.heap.size + 1 + 1 := e1; have e2' : q = w.heap.size + 1 + 1 + 1 := e2; omega⟩, b1.trans (ba.mono (by omega))⟩

end Go.Proofs.Ytmlkeflnnaabeaa.low


/-
  Leading an operation past several: the functions on lists, and the contracts of spec.l05Past, spec.Past and spec.PastAll.
-/
namespace Go.Proofs.Ytmlkeflnnaabeaa.low
open Go.RowKit
set_option linter.unusedVariables false

def stepPast (s : Option (List (List Pt) × List Pt)) (o : List Pt) : Option (List (List Pt) × List Pt) := match s with
  | none => none
  | some (xs, q) => if xformOk o q = true then some (xs ++ [xformA o q], xformB o q) else none
def foldPast (l : List (List Pt)) (b : List Pt) : Option (List (List Pt) × List Pt) := l.foldl stepPast (some ([], normL b))
def pastS (l : List (List Pt)) (b : List Pt) : Option (List (List Pt) × List Pt) := if okOp b = true then foldPast l b else none
def pastB (l : List (List Pt)) (b : List Pt) : Bool := (pastS l b).isSome
def pastAllT (l : List (List Pt)) (b : List Pt) : List (List Pt) := ((pastS l b).map (·.1)).getD []
def pastT (l : List (List Pt)) (b : List Pt) : List Pt := ((pastS l b).map (·.2)).getD []
theorem foldPast_snoc {l : List (List Pt)} {b : List Pt} {k : Nat} {ps : List Pt} (h : l[k]? = some ps) : foldPast (l.take (k + 1)) b = stepPast (foldPast (l.take k) b) ps := by
  unfold foldPast
  rw [List.take_add_one, h]
  simp
theorem foldlPast_none (l : List (List Pt)) : l.foldl stepPast none = none := by
  induction l with
  | nil => rfl
  | cons p l ih => exact ih
theorem foldPast_none {l : List (List Pt)} {b : List Pt} {k : Nat} (h : foldPast (l.take k) b = none) : foldPast l b = none := by
  have e : foldPast l b = (l.drop k).foldl stepPast (foldPast (l.take k) b) := by
    unfold foldPast
    rw [← List.foldl_append, List.take_append_drop]
  rw [e, h, foldlPast_none]
theorem normL_small {ps : List Pt} (h : okOp ps = true) : SmP (normL ps) := by
  obtain ⟨n1, _, _⟩ := norm_ok h
  obtain ⟨_, h1, h2⟩ := okOp_units n1
  have := signsIn_le h1
  exact ⟨by omega, by omega⟩
/-- what stands behind k operations is small -/
theorem foldPast_small {l : List (List Pt)} {b : List Pt} (hb : okOp b = true) : ∀ {k : Nat} {xs : List (List Pt)} {q : List Pt}, k ≤ l.length → foldPast (l.take k) b = some (xs, q) → SmP q ∧ xs.length = k ∧ ∀ x ∈ xs, x.length ≤ 600 ∧ signsIn x ≤ 120000
  | 0, xs, q, _, h => by
    have : xs = [] ∧ q = normL b := by simpa [foldPast, and_comm, eq_comm] using h
    obtain ⟨rfl, rfl⟩ := this
    exact ⟨normL_small hb, rfl, by simp⟩
  | k + 1, xs, q, hk, h => by
    obtain ⟨ps, hp⟩ := idx_some (l := l) (i := k) (by omega)
    rw [foldPast_snoc hp] at h
    cases hq : foldPast (l.take k) b with
    | none => rw [hq] at h; cases h
    | some u =>
      obtain ⟨ys, r⟩ := u
      obtain ⟨i1, i2, i3⟩ := foldPast_small hb (by omega) hq
      rw [hq] at h
      unfold stepPast at h
      simp only at h
      split at h
      · rename_i hx
        injection h with h
        injection h with h1 h2
        subst h1
        subst h2
        refine ⟨xformB_sm _ _, by simp [i2], fun x hx' => ?_⟩
        rcases List.mem_append.1 hx' with hx' | hx'
        · exact i3 x hx'
        · simp at hx'
          subst hx'
          unfold xformA
          rw [if_pos hx]
          unfold xformOk at hx
          rw [Bool.and_eq_true, Bool.and_eq_true] at hx
          obtain ⟨_, h1, h2⟩ := okOp_units hx.1.2
          have := signsIn_le h1
          exact ⟨by omega, by omega⟩
      · cases h
theorem past_f {l : List (List Pt)} {b : List Pt} (h : pastS l b = none) : pastB l b = false ∧ pastAllT l b = [] ∧ pastT l b = [] := by
  unfold pastB pastAllT pastT
  rw [h]
  exact ⟨rfl, rfl, rfl⟩
theorem past_t {l : List (List Pt)} {b : List Pt} {xs : List (List Pt)} {q : List Pt} (h : pastS l b = some (xs, q)) : pastB l b = true ∧ pastAllT l b = xs ∧ pastT l b = q := by
  unfold pastB pastAllT pastT
  rw [h]
  exact ⟨rfl, rfl, rfl⟩
theorem pastT_sm (l : List (List Pt)) (b : List Pt) : SmP (pastT l b) := by
  cases h : pastS l b with
  | none => rw [(past_f h).2.2]; exact smP_nil
  | some u =>
    obtain ⟨xs, q⟩ := u
    rw [(past_t h).2.2]
    unfold pastS at h
    split at h
    · rename_i hb
      exact (foldPast_small hb (Nat.le_refl l.length) (by rw [List.take_length]; exact h)).1
    · cases h
theorem pastAllT_sm (l : List (List Pt)) (b : List Pt) : (pastAllT l b).length ≤ l.length ∧ ∀ x ∈ pastAllT l b, x.length ≤ 600 ∧ signsIn x ≤ 120000 := by
  cases h : pastS l b with
  | none => rw [(past_f h).2.1]; simp
  | some u =>
    obtain ⟨xs, q⟩ := u
    rw [(past_t h).2.1]
    unfold pastS at h
    split at h
    · rename_i hb
      have := foldPast_small hb (Nat.le_refl l.length) (by rw [List.take_length]; exact h)
      exact ⟨by omega, this.2.2⟩
    · cases h

theorem pastAll_small {l : List (List Pt)} {b : List Pt} (h0 : SmPP l) (h1 : SmP b) : SmQ (pastAllT l b) := by
  obtain ⟨k1, k2⟩ := pastAllT_sm l b
  have := h0.1
  exact ⟨by omega, fun x hx => by have := k2 x hx; exact ⟨by omega, by omega⟩⟩
theorem past_small {l : List (List Pt)} {b : List Pt} (h0 : SmPP l) (h1 : SmP b) : SmP (pastT l b) := pastT_sm l b

theorem nilPP {w w' : World} (hb : Below w.heap.size w w') : Res2B (encPss []) (encPs []) false w (.returned (.tuple #[.slice none 0 0, .slice none 0 0, .bool false])) w' := by
  obtain ⟨b1, o1⟩ := (nilOwn (encPss []) w' rfl hb.size).blocks
  obtain ⟨b2, o2⟩ := (nilOwn (encPs []) w' rfl hb.size).blocks
  have e : b1 = [] := by obtain ⟨_, _, ho, hr, he⟩ := o1.ow; obtain ⟨_, hc⟩ := hr; rw [he, hc]; rfl
  subst e
  exact ⟨_, _, [], b2, rfl, o1, o2, by simp, hb⟩
/-- the state of the loop: the list, and the operation so far -/
def PastR (lo : Nat) (w : World) (o q : Value) (xs : List (List Pt)) (cur : List Pt) : Prop := ∃ b1 b2, OwB lo w.heap.size w (encPss xs) o b1 ∧ OwB lo w.heap.size w (encPs cur) q b2 ∧ ∀ x ∈ b1, x ∉ b2

end Go.Proofs.Ytmlkeflnnaabeaa.low


/-
  Contracts of impl.Transform, impl.passed, impl.Past and impl.PastAll.
-/
namespace Go.Proofs.Ytmlkeflnnaabeaa.low
open Go.RowKit
set_option linter.unusedVariables false

theorem partsB_all {ps : List Pt} (h : okOp ps = true) : ∀ x ∈ ps, okPt x = true := by
  have h1 := okOp_partsB h
  unfold partsB okPs at h1
  rw [Bool.and_eq_true] at h1
  exact List.all_eq_true.1 h1.1

set_option maxRecDepth 1000000 in
set_option maxHeartbeats 6400000 in
theorem implTransform_t (A B : Option Addr) (ca cb : Nat) (a b : List Pt) (w : World) (h : RdC w w.heap.size (encPs a) (.slice A a.length ca)) (h' : RdC w w.heap.size (encPs b) (.slice B b.length cb)) (hs : SmP a) (hs' : SmP b) (hoa : okOp a = true) (hob : okOp b = true) (hbal : sumK a + sumD a = sumK b + sumD b) :
    Calls Try.prog 14 #[.slice A a.length ca, .slice B b.length cb] w (Res2B (encPs (xformA a b)) (encPs (xformB a b)) (xformOk a b) w) := by
  obtain ⟨A_, ca_, eA, hra, _⟩ := parts_rd h
  obtain ⟨rfl, rfl⟩ : A = A_ ∧ ca = ca_ := by injection eA with e1 _ e3; exact ⟨e1, e3⟩
  obtain ⟨B_, cb_, eB, hrb, _⟩ := parts_rd h'
  obtain ⟨rfl, rfl⟩ : B = B_ ∧ cb = cb_ := by injection eB with e1 _ e3; exact ⟨e1, e3⟩
  clear eA eB
  have hlA := hs.1
  have hlB := hs'.1
  have hne : ((sumK a + sumD a) != (sumK b + sumD b)) = false := by simp [hbal]
  have HI := Lib.hid (xinv0 hoa hob hbal)
  have HOA := Lib.hid hoa
  have HOB := Lib.hid hob
  have HBAL := Lib.hid hbal
  clear hbal
  go_enter Try.func14, Try.ntmps14
  go_wp2_with fail
  refine (implOpOk_any A ca a _ hra (by omega) hs.all4).mono ?_
  rintro e w1 ⟨rfl, b1⟩
  rw [hoa]
  go_wp2_with fail
  refine (implOpOk_any B cb b _ (hrb.past b1) (by omega) hs'.all4).mono ?_
  rintro e w2 ⟨rfl, b2⟩
  rw [hob]
  have d2 := b1.trans (b2.mono b1.size)
  go_wp2_with fail
  refine (implOpFrom_any A ca a _ (hra.past d2) (by omega) hs.all4).mono ?_
  rintro e w3 ⟨rfl, b3⟩
  have d3 := d2.trans (b3.mono d2.size)
  go_wp2_with fail
  refine (implOpFrom_any B cb b _ (hrb.past d3) (by omega) hs'.all4).mono ?_
  rintro e w4 ⟨rfl, b4⟩
  have d4 := d3.trans (b4.mono d3.size)
  clear hoa hob b1 b2 d2 b3 d3 b4
  go_wp2_with fail
  refine (xb.implCrossed A B ca cb a b w4 (h.past d4) (h'.past d4) (partsB_all HOA.out) (partsB_all HOB.out) hlA hlB HI.out).mono ?_
  rintro e w10 ⟨v9, v10, k9, k10, rfl, o9, o10, ds, b10, hs1, hs2⟩
  have D := d4.trans (b10.mono d4.size)
  have HB2 := Lib.hid (show xformOk a b = (okOp (xfA a b) && okOp (xfB a b)) by unfold xformOk; rw [HOA.out, HOB.out, HBAL.out]; simp)
  clear HBAL HI
  have l1 := hs1.1
  have l2 := hs2.1
  generalize hUA : xfA a b = UA at *
  generalize hUB : xfB a b = UB at *
  have HUA := Lib.hid hUA
  have HUB := Lib.hid hUB
  clear hUA hUB
  obtain ⟨A9, c9, rfl, r9, _⟩ := parts_rd o9.read
  obtain ⟨A10, c10, rfl, r10, _⟩ := parts_rd o10.read
  have lw := d4.size
  have H9' := Lib.hid (show OwB w.heap.size w10.heap.size w10 (encPs UA) (.slice A9 UA.length c9) k9 from ⟨o9.ow, o9.nd, fun x hx => ⟨Nat.le_trans lw (o9.rng x hx).1, (o9.rng x hx).2⟩, o9.top, Nat.le_trans lw o9.le⟩)
  have H10 := Lib.hid (show OwB w.heap.size w10.heap.size w10 (encPs UB) (.slice A10 UB.length c10) k10 from ⟨o10.ow, o10.nd, fun x hx => ⟨Nat.le_trans lw (o10.rng x hx).1, (o10.rng x hx).2⟩, o10.top, Nat.le_trans lw o10.le⟩)
  have HDS := Lib.hid ds
  have hz10 := Nat.le_refl w10.heap.size
  clear o9 o10 ds b10 d4 lw hne
  go_wp2_with fail
  refine (implOpOk_any A9 c9 UA _ r9 (by omega) hs1.all4).mono ?_
  rintro e w11 ⟨rfl, b11⟩
  replace D := D.trans (b11.mono D.size)
  cases ho1 : okOp UA
  · have HN := Lib.hid (xform_f (a := a) (b := b) (by rw [HB2.out, ho1]; rfl))
    clear HB2
    go_wp2
    go_ret3
    rw [HN.out.1, HN.out.2.1, HN.out.2.2]
    exact nil2 D
  · go_wp2_with fail
    refine (implOpOk_any A10 c10 UB _ (r10.past b11) (by omega) hs2.all4).mono ?_
    rintro e w12 ⟨rfl, b12⟩
    replace D := D.trans (b12.mono D.size)
    have HP9 := Lib.hid ((H9'.out.past b11).past b12)
    have HP10 := Lib.hid ((H10.out.past b11).past b12)
    have hzz := Nat.le_trans b11.size b12.size
    clear H9' H10 r9 r10 b11 b12
    cases ho2 : okOp UB
    · have HN := Lib.hid (xform_f (a := a) (b := b) (by rw [HB2.out, ho1, ho2]; rfl))
      clear HB2
      go_wp2
      go_ret3
      rw [HN.out.1, HN.out.2.1, HN.out.2.2]
      exact nil2 D
    · have HN := Lib.hid (show xformOk a b = true ∧ xformA a b = UA ∧ xformB a b = UB by
        have e : xformOk a b = true := by rw [HB2.out, ho1, ho2]; rfl
        exact ⟨e, by unfold xformA; rw [if_pos e, HUA.out], by unfold xformB; rw [if_pos e, HUB.out]⟩)
      clear HB2
      go_wp2
      go_ret3
      rw [HN.out.1, HN.out.2.1, HN.out.2.2]
      exact ⟨_, _, k9, k10, rfl, HP9.out.upto (Nat.le_trans hz10 hzz) (Nat.le_refl _), HP10.out.upto hzz (Nat.le_refl _), HDS.out, D⟩

set_option maxHeartbeats 1600000 in
theorem implTransform_d (v v' : Value) (a b : List Pt) (w : World) (h : RdC w w.heap.size (encPs a) v) (h' : RdC w w.heap.size (encPs b) v') (hs : SmP a) (hs' : SmP b) : Calls Try.prog 14 #[v, v'] w (Res2B (encPs (xformA a b)) (encPs (xformB a b)) (xformOk a b) w) := by
  obtain ⟨A, ca, rfl, hra, _⟩ := parts_rd h
  obtain ⟨B, cb, rfl, hrb, _⟩ := parts_rd h'
  have hlA := hs.1
  have hlB := hs'.1
  cases hoa : okOp a
  · have HN := Lib.hid (xform_f (a := a) (b := b) (by unfold xformOk; rw [hoa]; rfl))
    go_enter Try.func14, Try.ntmps14
    go_wp2_with fail
    refine (implOpOk_any A ca a _ hra (by omega) hs.all4).mono ?_
    rintro e w1 ⟨rfl, b1⟩
    rw [hoa]
    go_wp2
    go_ret3
    rw [HN.out.1, HN.out.2.1, HN.out.2.2]
    exact nil2 b1
  cases hob : okOp b
  · have HN := Lib.hid (xform_f (a := a) (b := b) (by unfold xformOk; rw [hoa, hob]; rfl))
    go_enter Try.func14, Try.ntmps14
    go_wp2_with fail
    refine (implOpOk_any A ca a _ hra (by omega) hs.all4).mono ?_
    rintro e w1 ⟨rfl, b1⟩
    rw [hoa]
    go_wp2_with fail
    refine (implOpOk_any B cb b _ (hrb.past b1) (by omega) hs'.all4).mono ?_
    rintro e w2 ⟨rfl, b2⟩
    rw [hob]
    have d2 := b1.trans (b2.mono b1.size)
    go_wp2
    go_ret3
    rw [HN.out.1, HN.out.2.1, HN.out.2.2]
    exact nil2 d2
  by_cases hbal : sumK a + sumD a = sumK b + sumD b
  · exact implTransform_t A B ca cb a b w h h' hs hs' hoa hob hbal
  · have hne : ((sumK a + sumD a) != (sumK b + sumD b)) = true := by simp [hbal]
    have HN := Lib.hid (xform_f (a := a) (b := b) (by unfold xformOk; rw [hoa, hob]; simp [hbal]))
    clear hbal
    go_enter Try.func14, Try.ntmps14
    go_wp2_with fail
    refine (implOpOk_any A ca a _ hra (by omega) hs.all4).mono ?_
    rintro e w1 ⟨rfl, b1⟩
    rw [hoa]
    go_wp2_with fail
    refine (implOpOk_any B cb b _ (hrb.past b1) (by omega) hs'.all4).mono ?_
    rintro e w2 ⟨rfl, b2⟩
    rw [hob]
    have d2 := b1.trans (b2.mono b1.size)
    go_wp2_with fail
    refine (implOpFrom_any A ca a _ (hra.past d2) (by omega) hs.all4).mono ?_
    rintro e w3 ⟨rfl, b3⟩
    have d3 := d2.trans (b3.mono d2.size)
    go_wp2_with fail
    refine (implOpFrom_any B cb b _ (hrb.past d3) (by omega) hs'.all4).mono ?_
    rintro e w4 ⟨rfl, b4⟩
    have d4 := d3.trans (b4.mono d3.size)
    go_wp2
    go_ret3
    rw [HN.out.1, HN.out.2.1, HN.out.2.2]
    exact nil2 d4

end Go.Proofs.Ytmlkeflnnaabeaa.low


/-
  The program's side: contract of impl.PartCount.
-/
namespace Go.Proofs.Ytmlkeflnnaabeaa.low
open Go.RowKit
set_option linter.unusedVariables false

set_option maxHeartbeats 1600000 in
theorem implPartCount_d (v : Value) (ps : List Pt) (k : Int) (w : World) (h : RdC w w.heap.size (encPs ps) v) (hs : SmP ps) : Calls Try.prog 26 #[v, .int .i64 k] w (Nums1 (countK ps k) w) := by
  obtain ⟨A, c, rfl, hr, _⟩ := parts_rd h
  have hl := hs.1
  go_enter Try.func26, Try.ntmps26
  go_wp2
  go_loopw [5, 10] (fun o i wr => ∃ j : Nat, j ≤ ps.length ∧ i = .int .i64 j ∧ o = .int .i64 (countK (ps.take j) k) ∧ Below w.heap.size w wr) (fun _ i _ => ps.length - (intOf i).toNat)
  case atStart => exact ⟨0, Nat.zero_le _, rfl, rfl, Below.refl _ _⟩
  case round =>
    obtain ⟨j, hj, rfl, rfl, hbel⟩ := hrel
    have hb2 := countK_le ps k j
    by_cases hlt : j < ps.length
    · obtain ⟨b, off, p, rfl, hb, hp, hc⟩ := hr.at_ hlt
      obtain ⟨x0, x1, A1, e1, x2, r1⟩ := hc.keep (w' := wr) hb (fun _ hq => hbel.cell hq)
      have K1 := Lib.hid (countK_snoc (k := k) hp)
      clear hp hc
      generalize countK (ps.take j) k = q at *
      obtain ⟨pk, pn, pz⟩ := p
      simp only at x0 x1 x2
      by_cases he : pk = k
      · have he' : (pk == k) = true := by simp [he]
        have K2 := Lib.hid (show countK (ps.take (j + 1)) k = q + 1 by rw [K1.out]; simp [he])
        clear he
        go_wp2
        go_roundw
        case rel => exact ⟨j + 1, by omega, by go_num, by rw [K2.out], hbel.trans ((alloc_below wr _).mono hbel.size)⟩
        case measure => simp [intOf]; omega
      · have he' : (pk == k) = false := by simp [he]
        have K2 := Lib.hid (show countK (ps.take (j + 1)) k = q by rw [K1.out]; simp [he])
        clear he
        go_wp2
        go_roundw
        case rel => exact ⟨j + 1, by omega, by go_num, by rw [K2.out], hbel.trans ((alloc_below wr _).mono hbel.size)⟩
        case measure => simp [intOf]; omega
    · have hke : ps.take j = ps := List.take_of_length_le (by omega)
      rw [hke] at hb2 ⊢
      generalize countK ps k = q at *
      go_wp2
      go_ret
      exact ⟨rfl, hbel⟩
end Go.Proofs.Ytmlkeflnnaabeaa.low


/-
  Positions: what the law on Shift, Back and Spans wants of lists.
-/
namespace Go.Proofs.Ytmlkeflnnaabeaa.low
open Go.RowKit
set_option linter.unusedVariables false

section
variable {o : List Pt} {N : Nat}
theorem shl_norm (ho : okOp o = true) (hN : sumK o + sumD o = (N : Int)) : Nn (normL o) ∧ keepS (normL o) + dropS (normL o) = (N : Int) ∧ keepS (normL o) + putS (normL o) = sumK o + sumP o ∧ putS (normL o) = sumP o ∧ sumK o + sumP o ≤ 200 ∧ N ≤ 200 := by
  obtain ⟨n1, _, n3, n4, n5⟩ := norm_ok ho
  obtain ⟨t1, t2, t3⟩ := sum_t (okOp_partsB ho)
  obtain ⟨o1, _, o3, o4, _⟩ := okOp_of ho
  refine ⟨Nn.of (okOp_of n1).1, ?_, ?_, ?_, ?_, ?_⟩
  · rw [keepS_eq, dropS_eq, n3, n5, ← t1, ← t3]; exact hN
  · rw [keepS_eq, putS_eq, n3, n4, ← t1, ← t2]
  · rw [putS_eq, n4, ← t2]
  · rw [t1, t2]; exact o4
  · rw [t1, t3] at hN; omega
theorem shl_a (ho : okOp o = true) (hN : sumK o + sumD o = (N : Int)) {k : Nat} (hk : k ≤ N) (af : Bool) : shiftB o (k : Int) = true ∧ shiftT o (k : Int) af = shiftGo (k : Int) af (normL o) 0 0 := by
  have e : shiftB o (k : Int) = true := by unfold shiftB inB; rw [ho, hN]; simp; omega
  exact ⟨e, by unfold shiftT; rw [e]; rfl⟩
theorem shl_mono (ho : okOp o = true) (hN : sumK o + sumD o = (N : Int)) {j k : Nat} (hj : j ≤ k) (hk : k ≤ N) : shiftT o (j : Int) false ≤ shiftT o (k : Int) false := by
  rw [(shl_a ho hN (by omega : j ≤ N) false).2, (shl_a ho hN hk false).2]
  exact shift_mono _ _ (by omega) _ _ _ (shl_norm ho hN).1 (by omega)
theorem shl_bd (ho : okOp o = true) (hN : sumK o + sumD o = (N : Int)) {k : Nat} (hk : k ≤ N) : 0 ≤ shiftT o (k : Int) false ∧ shiftT o (k : Int) false ≤ shiftT o (k : Int) true ∧ shiftT o (k : Int) true ≤ sumK o + sumP o := by
  obtain ⟨h1, h2, h3, _⟩ := shl_norm ho hN
  rw [(shl_a ho hN hk false).2, (shl_a ho hN hk true).2]
  have a := shift_bd (k : Int) false (normL o) 0 0 h1 (by omega)
  have b := shift_bd (k : Int) true (normL o) 0 0 h1 (by omega)
  have c := shift_after (k : Int) (normL o) 0 0 h1 (by omega)
  omega
theorem shl_back (ho : okOp o = true) (hN : sumK o + sumD o = (N : Int)) {k : Nat} (hk : k ≤ N) : backB o (shiftT o (k : Int) false) = true ∧ ∃ q : Nat, backT o (shiftT o (k : Int) false) = (q : Int) ∧ k ≤ q ∧ q ≤ N ∧ shiftT o (q : Int) false ≤ shiftT o (k : Int) false := by
  obtain ⟨b1, b2, b3⟩ := shl_bd ho hN hk
  have e : backB o (shiftT o (k : Int) false) = true := by unfold backB inB; rw [ho]; simp; omega
  refine ⟨e, ?_⟩
  have hT : backT o (shiftT o (k : Int) false) = backGo (normL o) (shiftT o (k : Int) false) N := by
    unfold backT
    rw [if_pos e, hN]
    simp
  have hb := back_bd (normL o) (shiftT o (k : Int) false) N
  have hi := back_is (normL o) (shiftT o (k : Int) false) N
  obtain ⟨q, hq⟩ := Int.eq_ofNat_of_zero_le hb.1
  rw [hq] at hb hi
  refine ⟨q, by rw [hT, hq], ?_, by omega, ?_⟩
  · rcases Nat.lt_or_ge q k with h | h
    · have := hi.2 k (by omega) hk
      rw [(shl_a ho hN hk false).2] at this
      omega
    · exact h
  · by_cases h0 : 0 < q
    · have := hi.1 (by omega)
      rw [(shl_a ho hN (by omega : q ≤ N) false).2]
      exact this
    · obtain rfl : q = 0 := by omega
      exact shl_mono ho hN (Nat.zero_le _) hk
theorem shl_end (ho : okOp o = true) (hN : sumK o + sumD o = (N : Int)) : shiftT o (N : Int) true = sumK o + sumP o := by
  obtain ⟨h1, h2, h3, _⟩ := shl_norm ho hN
  rw [(shl_a ho hN (Nat.le_refl N) true).2, shift_end (normL o) 0 0 (N : Int) h1 (by omega)]
  omega
theorem shl_keep (hN : N ≤ 200) : shiftB (keepL (N : Int)) ((N : Int) / 2) = true ∧ shiftT (keepL (N : Int)) ((N : Int) / 2) false = (N : Int) / 2 := by
  obtain ⟨h1, h2, _, h4, _⟩ := keepL_ok hN
  have hd : (N : Int) / 2 = ((N / 2 : Nat) : Int) := by omega
  rw [hd]
  obtain ⟨a1, a2⟩ := shl_a h1 h4 (k := N / 2) (by omega) false
  refine ⟨a1, ?_⟩
  rw [a2, h2]
  unfold keepL
  split
  · simp only [shiftGo, ↓reduceIte]
    rw [if_pos (by omega)]
    omega
  · simp only [shiftGo]
    omega
theorem spans_in : ∀ (L : List Pt) (t : Int), Nn L → ∀ z ∈ spansGo L t, t ≤ z ∧ z ≤ t + keepS L + putS L
  | [], t, _, z, hz => by simp [spansGo] at hz
  | ⟨k, n, zs⟩ :: L, t, h, z, hz => by
    obtain ⟨h1, h2, h3⟩ := sums_nn h.tail
    obtain ⟨hk, hn⟩ := h ⟨k, n, zs⟩ (by simp)
    simp only at hk hn
    rcases hk with rfl | rfl | rfl <;> simp only [spansGo, ↓reduceIte, Int.reduceEq] at hz <;> simp only [keepS, putS, ↓reduceIte, Int.reduceEq]
    · have := spans_in L _ h.tail z hz
      omega
    · rcases List.mem_cons.1 hz with rfl | hz
      · omega
      · rcases List.mem_cons.1 hz with rfl | hz
        · omega
        · have := spans_in L _ h.tail z hz
          omega
    · have := spans_in L _ h.tail z hz
      omega
theorem shl_spans (ho : okOp o = true) (hN : sumK o + sumD o = (N : Int)) : pairSum (spansT o) = putsN o ∧ (∀ z ∈ spansT o, 0 ≤ z ∧ z ≤ 200) ∧ (spansT o).length ≤ 1200 := by
  obtain ⟨h1, h2, h3, h4, h5, _⟩ := shl_norm ho hN
  refine ⟨?_, fun z hz => ?_, ?_⟩
  · unfold spansT putsN
    rw [spans_sum _ _ h1, if_pos ho, h4]
  · have := spans_in _ _ h1 z hz
    omega
  · have a := spansGo_len (normL o) 0
    have b := (norm_any o).2.1
    unfold spansT
    omega
end
theorem pair_step : ∀ (l : List Int) (j : Nat) (a b : Int), l[2 * j]? = some a → l[2 * j + 1]? = some b → pairSum (l.take (2 * (j + 1))) = pairSum (l.take (2 * j)) + b - a
  | [], j, a, b, h, _ => by simp at h
  | [x], j, a, b, h, h' => by
    cases j with
    | zero => simp at h'
    | succ j => simp at h
  | x :: y :: l, 0, a, b, h, h' => by
    simp at h h'
    subst h h'
    simp [pairSum]
  | x :: y :: l, j + 1, a, b, h, h' => by
    have e1 : 2 * (j + 1) = 2 * j + 1 + 1 := by omega
    have e2 : 2 * (j + 1 + 1) = 2 * (j + 1) + 1 + 1 := by omega
    rw [e1] at h h'
    simp only [List.getElem?_cons_succ] at h h'
    have ih := pair_step l j a b h h'
    rw [e2, e1]
    simp only [List.take_succ_cons, pairSum]
    rw [show 2 * j + 1 + 1 = 2 * (j + 1) from by omega, ih]
    omega
theorem pair_bd : ∀ (l : List Int), (∀ z ∈ l, 0 ≤ z ∧ z ≤ 200) → -(200 * (l.length : Int)) ≤ pairSum l ∧ pairSum l ≤ 200 * (l.length : Int)
  | [], _ => by simp [pairSum]
  | [x], _ => by simp [pairSum]
  | x :: y :: l, h => by
    have ih := pair_bd l (fun z hz => h z (by simp [hz]))
    have a := h x (by simp)
    have b := h y (by simp)
    simp only [pairSum, List.length_cons]
    push_cast
    omega
theorem pair_odd : ∀ (l : List Int), l.length % 2 = 1 → pairSum (l.take (l.length - 1)) = pairSum l
  | [], h => by simp at h
  | [x], _ => by simp [pairSum]
  | x :: y :: l, h => by
    have hl : l.length % 2 = 1 := by simp at h; omega
    have ih := pair_odd l hl
    have e : (x :: y :: l).length - 1 = (l.length - 1) + 1 + 1 := by simp; omega
    rw [e]
    simp only [List.take_succ_cons, pairSum]
    rw [ih]
end Go.Proofs.Ytmlkeflnnaabeaa.low

