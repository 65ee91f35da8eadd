/-
  Texts that the proofs over this seat rest on, one behind the other (4 of 7).
-/
import Derived.Test.YtgfbcpcfdlnbhabGreatDoorM3
import Derived.Deep.AppendLies
import Derived.Test.YtgfbcpcfdlnbhabGreatDoorM1
import Derived.Deep.RegionHeld
import Derived.Test.YtgfbcpcfdlnbhabGreatDoorM2
import Derived.Maps.RangeWalk
import Derived.Shelf.SlSortCmp.WholeK
import Derived.Shelf.SlLaysF0
import Derived.Shelf.Small.Bits
import Derived.Shelf.Strconv.Itoa0
import Derived.Shelf.LaysM
import Derived.Shelf.Strconv.Clone
import Derived.Test.YtgfbcpcfdlnbhabGreatDoorProg

/-
  Contract of spec.l02Copy, and the laws of append in a region that draws its order. Written by mkdoc6.py.
-/
namespace Go.Proofs.YtgfbcpcfdlnbhabGreatDoor.low
open Go.RowKit
set_option linter.unusedVariables false

theorem OwB.apartG {lo hi : Nat} {w w' : World} {d : Dat} {v : Value} {b : List Nat} {r : Option Nat} (h : OwB lo hi w d v b) (hg : w.grownBy w' r) (hr : ∀ k, r = some k → k < lo ∨ hi ≤ k) : OwB lo hi w' d v b :=
  ⟨OwC.keep d v b h.ow (fun x hx => hg.block x (OwC.lt d v b h.ow x hx) (fun e => by have := h.rng x hx; have := hr x e.symm; omega)), h.nd, h.rng, Nat.le_trans h.top hg.size, h.le⟩
theorem Grew.cellOut {O O' : Nat → Prop} {w w' : World} (h : Grew O O' w w') {p : Addr} (hb : p.block < w.heap.size) (hn : ¬ O p.block) : w'.cell? p = w.cell? p := World.cell?_of_block (w := w) (h.block p.block hb hn)
theorem step_append_zero {P : Program} {w : World} {ops : Array Oper} {o : Oper} {a : Act} {KN : Act → World → Prop} {Q : Exit → Act → World → Prop} {E : Prop} (hgd : o.guard = none) (s x : Operand) (t : TypeId)
    (ho : o.op = .call { callee := .builtin .append, args := #[s, x], argTypes := #[t, t] })
    (base : Nat) (e : TypeId) (i : TypeInfo) (size : Nat) (ht : P.underlying t = some (.slice e)) (hi : P.info? e = some i)
    (v : Value) (n : Nat) (xs : List Value) (hs : a.eval s = v) (hown : w.ownsRow base e size v n xs) (A : Option Addr) (c : Nat) (hx : a.eval x = .slice A 0 c)
    (h : KN (a.put o.dst v) w) : if Region.wanted o (yielded ops a.tmps) = true then Oper.wp P o a w KN Q else E := by
  have hw : Region.wanted o (yielded ops a.tmps) = true := by simp [Region.wanted, hgd]
  rw [if_pos hw]
  have hrun := run_append_zero (P := P) (w := w) base t o.type e i size ht hi v n xs hown A c
  unfold Oper.wp
  simp [execOp, ho, resolve, invoke, builtin, hs, hx, hrun, Result.andThen]
  exact h
theorem step_append_ints {w : World} {ops : Array Oper} {o : Oper} {a : Act} {KN : Act → World → Prop} {Q : Exit → Act → World → Prop} {E : Prop} (hgd : o.guard = none) (s x : Operand)
    (ho : o.op = .call { callee := .builtin .append, args := #[s, x], argTypes := #[22, 22] })
    (base : Nat) (v : Value) (zs : List Int) (hs : a.eval s = v) (hown : w.ownsRow base 3 1 v zs.length (zs.map (Value.int .i64)))
    (A : Option Addr) (m c : Nat) (ys : List Int) (hx : a.eval x = .slice A m c) (hm : ys.length = m) (hr : Row (Value.int .i64) w w.heap.size A ys)
    (h63 : zs.length + m ≤ 1000000000) (hbase : base ≤ w.heap.size)
    (h : ∀ A' c' w', w'.ownsRow base 3 1 (.slice A' (zs.length + m) c') (zs ++ ys).length ((zs ++ ys).map (Value.int .i64)) → w.grownBy w' v.ownBlock → KN (a.put o.dst (.slice A' (zs.length + m) c')) w') : if Region.wanted o (yielded ops a.tmps) = true then Oper.wp Tryz.prog o a w KN Q else E := by
  obtain ⟨i0, hi0, hz0, hz1, hz2⟩ := info_parts ints_info
  by_cases h0 : 0 < m
  · obtain ⟨ad, rfl, hbk, hcs⟩ := hr (by omega)
    refine step_append_lies _ hgd s x 22 ho base 3 i0 (.int .i64 0) 1 8 Tryz.underlying22 hi0 hz0 hz1 hz2 rfl (by decide) v zs.length (zs.map (Value.int .i64)) hs hown ad m c (ys.map (Value.int .i64)) hx (by simp [hm]) (fun j u hu => ?_) (by simp [Value.oneCell']) h0 (by unfold maxLen; omega) (by omega) hbase w.heap.size rfl ?_
    · rw [List.getElem?_map] at hu
      obtain ⟨z, hz, rfl⟩ := Option.map_eq_some_iff.1 hu
      exact hcs j z hz
    · intro g cap w' hown' hg _ _
      exact h _ cap w' (by simpa [hm] using hown') hg
  · have e0 : ys = [] := List.eq_nil_of_length_eq_zero (by omega)
    subst e0
    obtain rfl : m = 0 := by omega
    refine step_append_zero hgd s x 22 ho base 3 i0 1 Tryz.underlying22 hi0 v zs.length (zs.map (Value.int .i64)) hs hown A c hx ?_
    obtain ⟨Av, cv, rfl⟩ := own_form hown
    exact h Av cv w (by simpa using hown) (grown_refl _ _)
theorem step_append_row {w : World} {ops : Array Oper} {o : Oper} {a : Act} {KN : Act → World → Prop} {Q : Exit → Act → World → Prop} {E : Prop} (hgd : o.guard = none) (s x : Operand) (t : TypeId)
    (ho : o.op = .call { callee := .builtin .append, args := #[s, x], argTypes := #[t, t] }) (e : TypeId) (i : TypeInfo) (z : Value) (sz bytes : Nat) (ht : Tryz.prog.underlying t = some (.slice e)) (hi : Tryz.prog.info? e = some i) (hz : i.zero = some z) (hsize : i.size = sz) (hby : i.bytes = bytes) (hzs : z.cells.size = sz) (hsz : 0 < sz) (hbm : bytes ≤ 100000)
    (lo hi' : Nat) (v : Value) (ds : List (List Dat)) (b : List Nat) (h : OwB lo hi' w (.rows e sz ds) v b) (hs : a.eval s = v) (hlen : ds.length ≤ 2000000)
    (ad : Addr) (c0 : Nat) (ys : List Value) (hx : a.eval x = .slice (some ad) 1 c0) (hl : ys.length = sz) (hnews : ∀ j u, ys[j]? = some u → w.cell? (ad.add j) = some u) (h1 : ∀ u ∈ ys, u.oneCell' = true)
    (r : List Dat) (c : List Nat) (hr : OwL w r ys c) (hcn : c.Nodup) (hbc : ∀ q ∈ b, q ∉ c) (hcr : ∀ q ∈ c, lo ≤ q)
    (K : ∀ A' c' w' b', OwB lo w'.heap.size w' (.rows e sz (ds ++ [r])) (.slice A' (ds.length + 1) c') b' → (∀ q ∈ b', q ∈ b ∨ q ∈ c ∨ w.heap.size ≤ q) → Grew (fun q => q ∈ b) (fun q => q ∈ b ∨ w.heap.size ≤ q) w w' → Below lo w w' → KN (a.put o.dst (.slice A' (ds.length + 1) c')) w') : if Region.wanted o (yielded ops a.tmps) = true then Oper.wp Tryz.prog o a w KN Q else E := by
  have hnd := h.nd
  have hrg := h.rng
  obtain ⟨xs, cs, ho', hor, hb⟩ := h.ow
  refine step_append_lies _ hgd s x t ho 0 e i z sz bytes ht hi hz hsize hby hzs hsz v ds.length xs hs ho' ad 1 c0 ys hx (by simp [hl]) hnews h1 (by omega) (by unfold maxLen; omega) ?_ (Nat.zero_le _) _ rfl ?_
  · have : (ds.length + 1) * bytes ≤ 2000001 * 100000 := Nat.mul_le_mul (by omega) hbm
    omega
  intro g cap w' hown hg hat hlt
  rw [hb] at hnd
  obtain ⟨n1, n2, n3⟩ := List.nodup_append.1 hnd
  have own_mem : ∀ q, v.ownBlock = some q → q ∈ b := fun q hq => by rw [hb, hq]; simp
  have hcs : ∀ q ∈ cs, w'.heap[q]? = w.heap[q]? := fun q hq => hg.block q (OwR.lt sz _ _ _ hor q hq) (fun e => n3 q (by rw [← e]; simp) q hq rfl)
  have hcc : ∀ q ∈ c, w'.heap[q]? = w.heap[q]? := fun q hq => hg.block q (OwL.lt _ _ _ hr q hq) (fun e => hbc q (own_mem q e.symm) hq)
  have hor' := (OwR.keep sz _ _ _ hor hcs).append (OwR.one (OwL.keep _ _ _ hr hcc) hl)
  have g1 : g ∉ cs := fun hq => by
    rcases hat with e | e
    · exact n3 g (by rw [e]; simp) g hq rfl
    · have := OwR.lt sz _ _ _ hor g hq; omega
  have g2 : g ∉ c := fun hq => by
    rcases hat with e | e
    · exact hbc g (own_mem g e) hq
    · have := OwL.lt _ _ _ hr g hq; omega
  have g3 : lo ≤ g ∧ (g ∈ b ∨ w.heap.size ≤ g) := by
    rcases hat with e | e
    · exact ⟨(hrg g (own_mem g e)).1, .inl (own_mem g e)⟩
    · have := h.top; have := h.le; exact ⟨by omega, .inr (by omega)⟩
  have hsz' := hg.size
  have ht' := h.top
  refine K _ cap w' (g :: (cs ++ c)) ⟨⟨xs ++ ys, cs ++ c, by rw [List.length_append]; exact hown, hor', rfl⟩, ?_, ?_, Nat.le_refl _, by have := h.le; omega⟩ ?_ ⟨hg.size, fun q hq hn => hg.block q hq (fun e => hn (own_mem q e.symm)), fun q hq => hq⟩ ?_
  · refine List.nodup_cons.2 ⟨fun hq => ?_, List.nodup_append.2 ⟨n2, hcn, fun q hq q' hq' e => ?_⟩⟩
    · rcases List.mem_append.1 hq with hq | hq
      · exact g1 hq
      · exact g2 hq
    · subst e
      exact hbc q (by rw [hb]; simp [hq]) hq'
  · intro q hq
    rcases List.mem_cons.1 hq with rfl | hq
    · exact ⟨g3.1, hlt⟩
    · rcases List.mem_append.1 hq with hq | hq
      · have := hrg q (by rw [hb]; simp [hq]); exact ⟨this.1, by omega⟩
      · have := OwL.lt _ _ _ hr q hq; exact ⟨hcr q hq, by omega⟩
  · intro q hq
    rcases List.mem_cons.1 hq with rfl | hq
    · rcases g3.2 with h | h
      · exact .inl h
      · exact .inr (.inr h)
    · rcases List.mem_append.1 hq with hq | hq
      · exact .inl (by rw [hb]; simp [hq])
      · exact .inr (.inl hq)
  · exact (Below.refl lo w).grown hg (by have := h.le; omega) (fun k hk => (hrg k (own_mem k hk)).1)
set_option maxRecDepth 100000 in
set_option maxHeartbeats 3200000 in
theorem specCopy_d (v : Value) (ps : List Pt) (w : World) (h : RdC w w.heap.size (encPs ps) v) (hs : SmP ps) : Calls Tryz.prog 69 #[v] w (OwnPost (encPs ps) w) := by
  obtain ⟨A, c, rfl, hr, _⟩ := parts_rd h
  have hl := hs.1
  obtain ⟨i0, hi0, hz0, hz1, hz2⟩ := info_parts part_info
  have ob : OwB w.heap.size (w.heap.size + 1) (w.alloc (.cells #[] 74)) (encPs []) (.slice (some ⟨w.heap.size, 0, none⟩) 0 0) [w.heap.size] := ⟨⟨[], [], ⟨rfl, .inr ⟨w.heap.size, 0, #[], rfl, Nat.zero_le _, heap_alloc_new w _, Nat.le_refl _, by unfold maxLen; omega, rfl, rfl⟩⟩, ⟨rfl, rfl⟩, rfl⟩, by simp, fun q hq => by simp at hq; omega, by rw [World.size_alloc]; exact Nat.le_refl _, by omega⟩
  have b0 := alloc_below w (.cells #[] 74)
  have z0 : (w.alloc (.cells #[] 74)).heap.size = w.heap.size + 1 := World.size_alloc _ _
  rw [← z0] at ob
  have OB := Lib.hid ob
  clear ob z0
  go_enter Tryz.func69, Tryz.ntmps69
  go_wp2
  go_loopw [3, 9] (fun ov i wr => ∃ (j : Nat) (A1 : Option Addr) (c1 : Nat) (bs : List Nat), j ≤ ps.length ∧ i = .int .i64 (j : Int) ∧ ov = .slice A1 j c1 ∧ OwB w.heap.size wr.heap.size wr (encPs (ps.take j)) ov bs ∧ Below w.heap.size w wr) (fun _ i _ => ps.length - (intOf i).toNat)
  case atStart => exact ⟨0, _, _, _, Nat.zero_le _, rfl, rfl, OB.out, b0⟩
  case round =>
    obtain ⟨j, A1, c1, bs, hj, rfl, rfl, ho, hbel⟩ := hrel
    clear OB b0
    have HO := Lib.hid ho
    clear ho
    by_cases hlt : j < ps.length
    · obtain ⟨b, off, p, rfl, hbb, hp, hc⟩ := hr.at_ hlt
      obtain ⟨x0, x1, A5, c5, x2, r1⟩ := hc.keep (w' := wr) hbb (fun _ hq => hbel.cell hq)
      have hsp := hs.all p (List.mem_of_getElem? hp)
      have HT := Lib.hid (show ps.take (j + 1) = ps.take j ++ [p] by rw [List.take_add_one, hp]; rfl)
      clear hp hc
      have bA := alloc_below wr (.cells #[.int .i64 p.kind, .int .i64 p.n, .slice A5 p.signs.length c5] 74)
      have bxP := Bx.new wr #[.int .i64 p.kind, .int .i64 p.n, .slice A5 p.signs.length c5] 74
      have HO1 := Lib.hid (HO.out.past bA)
      have zA : (wr.alloc (.cells #[.int .i64 p.kind, .int .i64 p.n, .slice A5 p.signs.length c5] 74)).heap.size = wr.heap.size + 1 := World.size_alloc _ _
      go_wp2
      generalize wr.alloc (.cells #[.int .i64 p.kind, .int .i64 p.n, .slice A5 p.signs.length c5] 74) = W1 at bA bxP HO1 zA ⊢
      have lP := bxP.lt
      have hS0 : W1.drew.cell? ⟨wr.heap.size, 0, none⟩ = some (.int .i64 p.kind) ∧ W1.drew.cell? ⟨wr.heap.size, 1, none⟩ = some (.int .i64 p.n) ∧ W1.drew.cell? ⟨wr.heap.size, 2, none⟩ = some (.slice A5 p.signs.length c5) := ⟨bxP.cell (j := 0) rfl, bxP.cell (j := 1) rfl, bxP.cell (j := 2) rfl⟩
      refine wp_region_held_drew (S := fun W => W.cell? ⟨wr.heap.size, 0, none⟩ = some (.int .i64 p.kind) ∧ W.cell? ⟨wr.heap.size, 1, none⟩ = some (.int .i64 p.n) ∧ W.cell? ⟨wr.heap.size, 2, none⟩ = some (.slice A5 p.signs.length c5)) (by kernel_rfl) hS0 (fun hS => ?_)
      clear hS0
      have bA := bA.trans ((Below.refl _ _).drew.mono bA.size)
      have HO1 := Lib.hid (HO1.out.past (Below.refl _ _).drew)
      have zA : W1.drew.heap.size = wr.heap.size + 1 := zA
      have lP : wr.heap.size < W1.drew.heap.size := lP
      clear bxP
      generalize W1.drew = WD at hS bA HO1 zA lP ⊢
      refine wpAnyH_take (i := 0) (oi := ⟨some 13, _, _, _, _, _⟩) (v := .slice A1 j c1) rfl (by kernel_rfl) (by kernel_rfl) (by kernel_rfl) (fun _ _ _ h => h) (Or.inl ⟨by rfl, fun w' hS' => ?_⟩) (by assumption) ?_
      · (try dsimp only at hS'); go_simp
      try simp only [Act.put, List.setIfInBounds_toArray, List.set_cons_zero, List.set_cons_succ]
      refine wpAnyH_take (i := 1) (oi := ⟨some 14, _, _, _, _, _⟩) (v := .pointer (some ⟨wr.heap.size, 0, none⟩)) rfl (by kernel_rfl) (by kernel_rfl) (by kernel_rfl) (fun _ _ _ h => h) (Or.inl ⟨by rfl, fun w' hS' => ?_⟩) (by assumption) ?_
      · (try dsimp only at hS'); go_simp
      try simp only [Act.put, List.setIfInBounds_toArray, List.set_cons_zero, List.set_cons_succ]
      refine wpAnyH_take (i := 2) (oi := ⟨some 15, _, _, _, _, _⟩) (v := .int .i64 p.kind) rfl (by kernel_rfl) (by kernel_rfl) (by kernel_rfl) (fun _ _ _ h => h) (Or.inl ⟨by rfl, fun w' hS' => ?_⟩) (by assumption) ?_
      · (try dsimp only at hS'); go_simp
      try simp only [Act.put, List.setIfInBounds_toArray, List.set_cons_zero, List.set_cons_succ]
      refine wpAnyH_take (i := 3) (oi := ⟨some 16, _, _, _, _, _⟩) (v := .pointer (some ⟨wr.heap.size, 1, none⟩)) rfl (by kernel_rfl) (by kernel_rfl) (by kernel_rfl) (fun _ _ _ h => h) (Or.inl ⟨by rfl, fun w' hS' => ?_⟩) (by assumption) ?_
      · (try dsimp only at hS'); go_simp
      try simp only [Act.put, List.setIfInBounds_toArray, List.set_cons_zero, List.set_cons_succ]
      refine wpAnyH_take (i := 4) (oi := ⟨some 17, _, _, _, _, _⟩) (v := .int .i64 p.n) rfl (by kernel_rfl) (by kernel_rfl) (by kernel_rfl) (fun _ _ _ h => h) (Or.inl ⟨by rfl, fun w' hS' => ?_⟩) (by assumption) ?_
      · (try dsimp only at hS'); go_simp
      try simp only [Act.put, List.setIfInBounds_toArray, List.set_cons_zero, List.set_cons_succ]
      refine wpAnyH_take (i := 6) (oi := ⟨some 19, _, _, _, _, _⟩) (v := .pointer (some ⟨wr.heap.size, 2, none⟩)) rfl (by kernel_rfl) (by kernel_rfl) (by kernel_rfl) (fun _ _ _ h => h) (Or.inl ⟨by rfl, fun w' hS' => ?_⟩) (by assumption) ?_
      · (try dsimp only at hS'); go_simp
      try simp only [Act.put, List.setIfInBounds_toArray, List.set_cons_zero, List.set_cons_succ]
      refine wpAnyH_take (i := 7) (oi := ⟨some 20, _, _, _, _, _⟩) (v := .slice A5 p.signs.length c5) rfl (by kernel_rfl) (by kernel_rfl) (by kernel_rfl) (fun _ _ _ h => h) (Or.inl ⟨by rfl, fun w' hS' => ?_⟩) (by assumption) ?_
      · (try dsimp only at hS'); go_simp
      try simp only [Act.put, List.setIfInBounds_toArray, List.set_cons_zero, List.set_cons_succ]
      refine wpAnyH_ready (rs := [5]) (by kernel_rfl) (by simp) ?_
      refine AllReadyH.cons (o := ⟨some 18, _, _, _, _, _⟩) rfl (fun K hK => ?_) AllReadyH.nil
      go_simp
      have hS1 : (WD.alloc (.cells #[] 3)).cell? ⟨wr.heap.size, 0, none⟩ = some (.int .i64 p.kind) ∧ (WD.alloc (.cells #[] 3)).cell? ⟨wr.heap.size, 1, none⟩ = some (.int .i64 p.n) ∧ (WD.alloc (.cells #[] 3)).cell? ⟨wr.heap.size, 2, none⟩ = some (.slice A5 p.signs.length c5) := ⟨((alloc_below WD (.cells #[] 3)).cell (p := ⟨wr.heap.size, 0, none⟩) lP).trans hS.1, ((alloc_below WD (.cells #[] 3)).cell (p := ⟨wr.heap.size, 1, none⟩) lP).trans hS.2.1, ((alloc_below WD (.cells #[] 3)).cell (p := ⟨wr.heap.size, 2, none⟩) lP).trans hS.2.2⟩
      refine hK.out _ _ hS1 (fun hS => ?_)
      clear hK K hS1
      try simp only [Act.put, List.setIfInBounds_toArray, List.set_cons_zero, List.set_cons_succ]
      have bD : Below WD.heap.size WD (WD.alloc (.cells #[] 3)) := alloc_below WD (.cells #[] 3)
      have hib : (WD.alloc (.cells #[] 3)).ownsRow (wr.heap.size + 1) 3 1 (.slice (some ⟨wr.heap.size + 1, 0, none⟩) 0 0) 0 [] := ⟨rfl, .inr ⟨wr.heap.size + 1, 0, #[], rfl, Nat.le_refl _, by rw [← zA]; exact heap_alloc_new WD _, Nat.le_refl _, by unfold maxLen; omega, rfl, rfl⟩⟩
      have zD : (WD.alloc (.cells #[] 3)).heap.size = wr.heap.size + 2 := by rw [World.size_alloc]; omega
      have hrow := (((r1.more hbel.size).past bA).past bD)
      have HO2 := Lib.hid (HO1.out.past bD)
      generalize WD.alloc (.cells #[] 3) = W2 at hS bD hib zD hrow HO2 ⊢
      refine wpAnyH_ready (rs := [8]) (by kernel_rfl) (by simp) ?_
      refine AllReadyH.cons (o := ⟨some 21, _, _, _, _, _⟩) rfl (fun K hK => ?_) AllReadyH.nil
      refine step_append_ints (by rfl) (.tmp 18) (.tmp 20) (by rfl) (wr.heap.size + 1) (.slice (some ⟨wr.heap.size + 1, 0, none⟩) 0 0) [] (by rfl) hib A5 p.signs.length c5 p.signs (by rfl) rfl hrow (by simp; omega) (by omega) ?_
      intro An cn wn hon hgn
      simp only [List.nil_append, List.length_nil, Nat.zero_add] at hon ⊢
      have hS1 : wn.cell? ⟨wr.heap.size, 0, none⟩ = some (.int .i64 p.kind) ∧ wn.cell? ⟨wr.heap.size, 1, none⟩ = some (.int .i64 p.n) ∧ wn.cell? ⟨wr.heap.size, 2, none⟩ = some (.slice A5 p.signs.length c5) := ⟨(grown_cell (p := ⟨wr.heap.size, 0, none⟩) hgn (by simp only; omega) (by simp [Value.ownBlock])).trans hS.1, (grown_cell (p := ⟨wr.heap.size, 1, none⟩) hgn (by simp only; omega) (by simp [Value.ownBlock])).trans hS.2.1, (grown_cell (p := ⟨wr.heap.size, 2, none⟩) hgn (by simp only; omega) (by simp [Value.ownBlock])).trans hS.2.2⟩
      refine hK.out _ _ hS1 (fun hS => ?_)
      clear hK K hS1
      try simp only [Act.put, List.setIfInBounds_toArray, List.set_cons_zero, List.set_cons_succ]
      have zn : wr.heap.size + 2 ≤ wn.heap.size := by have := hgn.size; omega
      have on := ownInts hon (by omega)
      have HO3 := Lib.hid (HO2.out.apartG hgn (fun k hk => by simp [Value.ownBlock] at hk; omega))
      have bn : Below wr.heap.size W2 wn := (Below.refl _ _).grown hgn (by omega) (fun q hq => by have := own_ge hib q hq; omega)
      have dn : Below w.heap.size w wn := hbel.trans (((bA.trans (bD.mono bA.size)).trans bn).mono hbel.size)
      clear hon hgn hib hrow HO2 bn bD
      refine wpAnyH_take (i := 9) (oi := ⟨some 22, _, _, _, _, _⟩) (v := .agg #[.int .i64 p.kind, .int .i64 p.n, .slice An p.signs.length cn]) rfl (by kernel_rfl) (by kernel_rfl) (by kernel_rfl) (fun _ _ _ h => h) (Or.inl ⟨by rfl, fun w' hS' => ?_⟩) (by assumption) ?_
      · (try dsimp only at hS'); go_simp
      try simp only [Act.put, List.setIfInBounds_toArray, List.set_cons_zero, List.set_cons_succ]
      refine wpAnyH_ready (rs := [10]) (by kernel_rfl) (by simp) ?_
      refine AllReadyH.cons (o := ⟨some 23, _, _, _, _, _⟩) rfl (fun K hK => ?_) AllReadyH.nil
      go_simp
      have hS1 : (wn.alloc (.cells #[.int .i64 p.kind, .int .i64 p.n, .slice An p.signs.length cn] 74)).cell? ⟨wr.heap.size, 0, none⟩ = some (.int .i64 p.kind) ∧ (wn.alloc (.cells #[.int .i64 p.kind, .int .i64 p.n, .slice An p.signs.length cn] 74)).cell? ⟨wr.heap.size, 1, none⟩ = some (.int .i64 p.n) ∧ (wn.alloc (.cells #[.int .i64 p.kind, .int .i64 p.n, .slice An p.signs.length cn] 74)).cell? ⟨wr.heap.size, 2, none⟩ = some (.slice A5 p.signs.length c5) := ⟨((alloc_below wn (.cells #[.int .i64 p.kind, .int .i64 p.n, .slice An p.signs.length cn] 74)).cell (p := ⟨wr.heap.size, 0, none⟩) (by simp only; omega)).trans hS.1, ((alloc_below wn (.cells #[.int .i64 p.kind, .int .i64 p.n, .slice An p.signs.length cn] 74)).cell (p := ⟨wr.heap.size, 1, none⟩) (by simp only; omega)).trans hS.2.1, ((alloc_below wn (.cells #[.int .i64 p.kind, .int .i64 p.n, .slice An p.signs.length cn] 74)).cell (p := ⟨wr.heap.size, 2, none⟩) (by simp only; omega)).trans hS.2.2⟩
      refine hK.out _ _ hS1 (fun hS => ?_)
      clear hK K hS1
      try simp only [Act.put, List.setIfInBounds_toArray, List.set_cons_zero, List.set_cons_succ]
      have bP := alloc_below wn (.cells #[.int .i64 p.kind, .int .i64 p.n, .slice An p.signs.length cn] 74)
      have HN := Lib.hid (World.news_of_block (cs := #[.int .i64 p.kind, .int .i64 p.n, .slice An p.signs.length cn]) (t := 74) (fr := (0, 0)) (heap_alloc_new wn (.cells #[.int .i64 p.kind, .int .i64 p.n, .slice An p.signs.length cn] 74)))
      obtain ⟨cs, ox⟩ := (on.past bP).blocks
      have OX := Lib.hid ox
      have HO4 := Lib.hid (HO3.out.past bP)
      have zP : (wn.alloc (.cells #[.int .i64 p.kind, .int .i64 p.n, .slice An p.signs.length cn] 74)).heap.size = wn.heap.size + 1 := World.size_alloc _ _
      have d4 := dn.trans (bP.mono dn.size)
      have e1 : ((ps.take j).map encPt).length = j := by simp; omega
      generalize wn.alloc (.cells #[.int .i64 p.kind, .int .i64 p.n, .slice An p.signs.length cn] 74) = W4 at hS HN OX HO4 zP d4 ⊢
      clear on ox bP dn
      refine wpAnyH_ready (rs := [11]) (by kernel_rfl) (by simp) ?_
      refine AllReadyH.cons (o := ⟨some 24, _, _, _, _, _⟩) rfl (fun K hK => ?_) AllReadyH.nil
      refine step_append_row (by rfl) (.tmp 13) (.tmp 23) 30 (by rfl) 74 i0 _ 3 40 Tryz.underlying30 hi0 hz0 hz1 hz2 rfl (by decide) (by decide) w.heap.size _ (.slice A1 j c1) ((ps.take j).map encPt) bs HO4.out (by rfl) (by omega) ⟨wn.heap.size, 0, none⟩ 1 [.int .i64 p.kind, .int .i64 p.n, .slice An p.signs.length cn] (by rfl) rfl HN.out (by simp [Value.oneCell']) (encPt p) cs ⟨_, _, [], cs, rfl, by simp, ⟨rfl, rfl⟩, _, _, [], cs, rfl, by simp, ⟨rfl, rfl⟩, _, [], cs, [], rfl, by simp, OX.out.ow, rfl, rfl⟩ OX.out.nd (fun q hq hq' => by have q1 := (HO4.out.rng q hq).2; have q2 := (OX.out.rng q hq').1; omega) (fun q hq => by have q2 := (OX.out.rng q hq).1; have := hbel.size; omega) ?_
      intro A7 c7 w7 b7 o7 in7 g7 bl7
      rw [e1]
      have hS1 : w7.cell? ⟨wr.heap.size, 0, none⟩ = some (.int .i64 p.kind) ∧ w7.cell? ⟨wr.heap.size, 1, none⟩ = some (.int .i64 p.n) ∧ w7.cell? ⟨wr.heap.size, 2, none⟩ = some (.slice A5 p.signs.length c5) := ⟨(g7.cellOut (p := ⟨wr.heap.size, 0, none⟩) (by simp only; omega) (fun hq => by have := (HO4.out.rng _ hq).2; simp only at this; omega)).trans hS.1, (g7.cellOut (p := ⟨wr.heap.size, 1, none⟩) (by simp only; omega) (fun hq => by have := (HO4.out.rng _ hq).2; simp only at this; omega)).trans hS.2.1, (g7.cellOut (p := ⟨wr.heap.size, 2, none⟩) (by simp only; omega) (fun hq => by have := (HO4.out.rng _ hq).2; simp only at this; omega)).trans hS.2.2⟩
      refine hK.out _ _ hS1 (fun hS => ?_)
      clear hK K hS1
      try simp only [Act.put, List.setIfInBounds_toArray, List.set_cons_zero, List.set_cons_succ]
      refine wpAnyH_take (i := 12) (oi := ⟨some 3, _, _, _, _, _⟩) (v := .slice A7 (j + 1) c7) rfl (by kernel_rfl) (by kernel_rfl) (by kernel_rfl) (fun _ _ _ h => h) (Or.inl ⟨by rfl, fun w' hS' => ?_⟩) (by assumption) ?_
      · (try dsimp only at hS'); go_simp
      try simp only [Act.put, List.setIfInBounds_toArray, List.set_cons_zero, List.set_cons_succ]
      refine wpAnyH_done (by kernel_rfl) ?_ _
      have O7 := Lib.hid (show OwB w.heap.size w7.heap.size w7 (encPs (ps.take (j + 1))) (.slice A7 (j + 1) c7) b7 by rw [HT.out]; rw [e1] at o7; unfold encPs; rw [List.map_append]; exact o7)
      have d7 := d4.trans bl7
      clear o7 hS
      go_wp2
      go_roundw
      case rel => exact ⟨j + 1, A7, c7, b7, by omega, by go_num, rfl, O7.out, d7⟩
      case measure => simp [intOf]; omega
    · obtain rfl : j = ps.length := by omega
      have k1 := HO.out
      rw [List.take_length] at k1
      have K1 := Lib.hid k1
      clear k1
      go_wp2
      go_ret
      exact ⟨_, rfl, ⟨bs, K1.out.ow, K1.out.nd, K1.out.rng, Nat.le_refl _, K1.out.le⟩, hbel⟩
end Go.Proofs.YtgfbcpcfdlnbhabGreatDoor.low


/-
  Contract of spec.OpsSince. Written by mkdoc7.py.
-/
namespace Go.Proofs.YtgfbcpcfdlnbhabGreatDoor.low
open Go.RowKit
set_option linter.unusedVariables false

def opsSinceT (x : Do) (r : Int) : List (List Pt) := if textAtB x r = true then (x.list.drop (r - x.from_).toNat).map En.o else []
theorem opsSince_f {x : Do} {r : Int} (h : textAtB x r = false) : textAtB x r = false ∧ opsSinceT x r = [] := ⟨h, by unfold opsSinceT; rw [h]; rfl⟩
theorem pssInfo : (Tryz.prog.info? 30).map (fun i => (i.zero, i.size, i.bytes)) = some (some (.slice none 0 0), 1, 24) := by kernel_rfl
set_option maxRecDepth 100000 in
set_option maxHeartbeats 6400000 in
theorem specOpsSince_d (v : Value) (x : Do) (r : Int) (w : World) (h : RdC w w.heap.size (datDo x) v) (hs : SmDo x) : Calls Tryz.prog 37 #[v, .int .i64 r] w (ResB (encPss (opsSinceT x r)) (textAtB x r) w) := by
  have HR := Lib.hid h
  obtain ⟨A2, c2, A3, c3, A4, c4, rfl, r2, r3, r4⟩ := aggDo h
  have hl3 := hs.list.len
  have b0 := alloc_below w (.cells #[.string x.name, .int .i64 x.from_, .slice A2 x.text.length c2, .slice A3 x.list.length c3, .slice A4 x.seen.length c4] 36)
  have bx := Bx.new w #[.string x.name, .int .i64 x.from_, .slice A2 x.text.length c2, .slice A3 x.list.length c3, .slice A4 x.seen.length c4] 36
  cases hd : docB x
  · have HN := Lib.hid (show textAtB x r = false ∧ opsSinceT x r = [] from opsSince_f (by unfold textAtB; rw [hd]; rfl))
    go_enter Tryz.func37, Tryz.ntmps37
    go_wp2
    generalize w.alloc (.cells #[.string x.name, .int .i64 x.from_, .slice A2 x.text.length c2, .slice A3 x.list.length c3, .slice A4 x.seen.length c4] 36) = W1 at b0 bx ⊢
    have y0 : W1.cell? ⟨w.heap.size, 0, none⟩ = some (.string x.name) := bx.cell rfl
    have y1 : W1.cell? ⟨w.heap.size, 1, none⟩ = some (.int .i64 x.from_) := bx.cell rfl
    have y2 : W1.cell? ⟨w.heap.size, 2, none⟩ = some (.slice A2 x.text.length c2) := bx.cell rfl
    have y3 : W1.cell? ⟨w.heap.size, 3, none⟩ = some (.slice A3 x.list.length c3) := bx.cell rfl
    have y4 : W1.cell? ⟨w.heap.size, 4, none⟩ = some (.slice A4 x.seen.length c4) := bx.cell rfl
    have lD := bx.lt
    have SX := Lib.hid (show ∀ (W W' : World), (W.cell? ⟨w.heap.size, 0, none⟩ = some (.string x.name) ∧ W.cell? ⟨w.heap.size, 1, none⟩ = some (.int .i64 x.from_) ∧ W.cell? ⟨w.heap.size, 2, none⟩ = some (.slice A2 x.text.length c2) ∧ W.cell? ⟨w.heap.size, 3, none⟩ = some (.slice A3 x.list.length c3) ∧ W.cell? ⟨w.heap.size, 4, none⟩ = some (.slice A4 x.seen.length c4) ∧ KS W1 W) → Below W.heap.size W W' → (W'.cell? ⟨w.heap.size, 0, none⟩ = some (.string x.name) ∧ W'.cell? ⟨w.heap.size, 1, none⟩ = some (.int .i64 x.from_) ∧ W'.cell? ⟨w.heap.size, 2, none⟩ = some (.slice A2 x.text.length c2) ∧ W'.cell? ⟨w.heap.size, 3, none⟩ = some (.slice A3 x.list.length c3) ∧ W'.cell? ⟨w.heap.size, 4, none⟩ = some (.slice A4 x.seen.length c4) ∧ KS W1 W') from fun W W' h hb => by have hk := h.2.2.2.2.2; have hkk : KS W1 W' := hk.trans (hb.mono hk.size); exact ⟨(hkk.cell (p := ⟨w.heap.size, 0, none⟩) lD).trans y0, (hkk.cell (p := ⟨w.heap.size, 1, none⟩) lD).trans y1, (hkk.cell (p := ⟨w.heap.size, 2, none⟩) lD).trans y2, (hkk.cell (p := ⟨w.heap.size, 3, none⟩) lD).trans y3, (hkk.cell (p := ⟨w.heap.size, 4, none⟩) lD).trans y4, hkk⟩)
    have RD := Lib.hid (show ∀ W : World, (W.cell? ⟨w.heap.size, 0, none⟩ = some (.string x.name) ∧ W.cell? ⟨w.heap.size, 1, none⟩ = some (.int .i64 x.from_) ∧ W.cell? ⟨w.heap.size, 2, none⟩ = some (.slice A2 x.text.length c2) ∧ W.cell? ⟨w.heap.size, 3, none⟩ = some (.slice A3 x.list.length c3) ∧ W.cell? ⟨w.heap.size, 4, none⟩ = some (.slice A4 x.seen.length c4) ∧ KS W1 W) → RdC W W.heap.size (datDo x) (.agg #[.string x.name, .int .i64 x.from_, .slice A2 x.text.length c2, .slice A3 x.list.length c3, .slice A4 x.seen.length c4]) from fun W h => by have hk : Below W1.heap.size W1 W := h.2.2.2.2.2; exact (HR.out.past b0).past hk)
    have hS0 : W1.drew.cell? ⟨w.heap.size, 0, none⟩ = some (.string x.name) ∧ W1.drew.cell? ⟨w.heap.size, 1, none⟩ = some (.int .i64 x.from_) ∧ W1.drew.cell? ⟨w.heap.size, 2, none⟩ = some (.slice A2 x.text.length c2) ∧ W1.drew.cell? ⟨w.heap.size, 3, none⟩ = some (.slice A3 x.list.length c3) ∧ W1.drew.cell? ⟨w.heap.size, 4, none⟩ = some (.slice A4 x.seen.length c4) ∧ KS W1 W1.drew := ⟨y0, y1, y2, y3, y4, KS.start _⟩
    clear y0 y1 y2 y3 y4
    refine wp_region_held_drew (S := fun W => W.cell? ⟨w.heap.size, 0, none⟩ = some (.string x.name) ∧ W.cell? ⟨w.heap.size, 1, none⟩ = some (.int .i64 x.from_) ∧ W.cell? ⟨w.heap.size, 2, none⟩ = some (.slice A2 x.text.length c2) ∧ W.cell? ⟨w.heap.size, 3, none⟩ = some (.slice A3 x.list.length c3) ∧ W.cell? ⟨w.heap.size, 4, none⟩ = some (.slice A4 x.seen.length c4) ∧ KS W1 W) (by kernel_rfl) hS0 (fun hS => ?_)
    refine wpAnyH_take (i := 0) (oi := ⟨some 9, _, _, _, _, _⟩) (v := .agg #[.string x.name, .int .i64 x.from_, .slice A2 x.text.length c2, .slice A3 x.list.length c3, .slice A4 x.seen.length c4]) rfl (by kernel_rfl) (by kernel_rfl) (by kernel_rfl) (fun _ _ _ h => h) (Or.inl ⟨by rfl, fun w' hS' => ?_⟩) (by assumption) ?_
    · (try dsimp only at hS'); go_simp
    try simp only [Act.put, List.setIfInBounds_toArray, List.set_cons_zero, List.set_cons_succ]
    refine wpAnyH_ready (rs := [1]) (by kernel_rfl) (by simp) ?_
    refine AllReadyH.cons (o := ⟨some 10, _, _, _, _, _⟩) rfl (fun K hK => ?_) AllReadyH.nil
    go_simp
    refine (specDocOk_d _ x _ (RD.out _ (by assumption)) hs).mono ?_
    rw [hd]
    rintro e w2 ⟨rfl, b2⟩
    refine hK.out _ _ (SX.out _ _ (by assumption) b2) (fun hS => ?_)
    clear hK K
    try simp only [Act.put, List.setIfInBounds_toArray, List.set_cons_zero, List.set_cons_succ]
    refine wpAnyH_take (i := 2) (oi := ⟨some 11, _, _, _, _, _⟩) (v := .bool true) rfl (by kernel_rfl) (by kernel_rfl) (by kernel_rfl) (fun _ _ _ h => h) (Or.inl ⟨by rfl, fun w' hS' => ?_⟩) (by assumption) ?_
    · (try dsimp only at hS'); go_simp
    try simp only [Act.put, List.setIfInBounds_toArray, List.set_cons_zero, List.set_cons_succ]
    refine wpAnyH_take (i := 3) (oi := ⟨some 12, _, _, _, _, _⟩) (v := .bool true) rfl (by kernel_rfl) (by kernel_rfl) (by kernel_rfl) (fun _ _ _ h => h) (Or.inl ⟨by rfl, fun w' hS' => ?_⟩) (by assumption) ?_
    · (try dsimp only at hS'); go_simp
    try simp only [Act.put, List.setIfInBounds_toArray, List.set_cons_zero, List.set_cons_succ]
    refine wpAnyH_take (i := 4) (oi := ⟨some 13, _, _, _, _, _⟩) (v := undef) rfl (by kernel_rfl) (by kernel_rfl) (by kernel_rfl) (fun _ _ _ h => h) (Or.inr ⟨by rfl, rfl⟩) (by assumption) ?_
    try simp only [Act.put, List.setIfInBounds_toArray, List.set_cons_zero, List.set_cons_succ]
    refine wpAnyH_take (i := 5) (oi := ⟨some 14, _, _, _, _, _⟩) (v := undef) rfl (by kernel_rfl) (by kernel_rfl) (by kernel_rfl) (fun _ _ _ h => h) (Or.inr ⟨by rfl, rfl⟩) (by assumption) ?_
    try simp only [Act.put, List.setIfInBounds_toArray, List.set_cons_zero, List.set_cons_succ]
    refine wpAnyH_take (i := 6) (oi := ⟨some 15, _, _, _, _, _⟩) (v := undef) rfl (by kernel_rfl) (by kernel_rfl) (by kernel_rfl) (fun _ _ _ h => h) (Or.inr ⟨by rfl, rfl⟩) (by assumption) ?_
    try simp only [Act.put, List.setIfInBounds_toArray, List.set_cons_zero, List.set_cons_succ]
    refine wpAnyH_take (i := 7) (oi := ⟨some 16, _, _, _, _, _⟩) (v := undef) rfl (by kernel_rfl) (by kernel_rfl) (by kernel_rfl) (fun _ _ _ h => h) (Or.inr ⟨by rfl, rfl⟩) (by assumption) ?_
    try simp only [Act.put, List.setIfInBounds_toArray, List.set_cons_zero, List.set_cons_succ]
    refine wpAnyH_take (i := 8) (oi := ⟨some 17, _, _, _, _, _⟩) (v := undef) rfl (by kernel_rfl) (by kernel_rfl) (by kernel_rfl) (fun _ _ _ h => h) (Or.inr ⟨by rfl, rfl⟩) (by assumption) ?_
    try simp only [Act.put, List.setIfInBounds_toArray, List.set_cons_zero, List.set_cons_succ]
    refine wpAnyH_take (i := 9) (oi := ⟨some 18, _, _, _, _, _⟩) (v := undef) rfl (by kernel_rfl) (by kernel_rfl) (by kernel_rfl) (fun _ _ _ h => h) (Or.inr ⟨by rfl, rfl⟩) (by assumption) ?_
    try simp only [Act.put, List.setIfInBounds_toArray, List.set_cons_zero, List.set_cons_succ]
    refine wpAnyH_take (i := 10) (oi := ⟨some 19, _, _, _, _, _⟩) (v := undef) rfl (by kernel_rfl) (by kernel_rfl) (by kernel_rfl) (fun _ _ _ h => h) (Or.inr ⟨by rfl, rfl⟩) (by assumption) ?_
    try simp only [Act.put, List.setIfInBounds_toArray, List.set_cons_zero, List.set_cons_succ]
    refine wpAnyH_take (i := 11) (oi := ⟨some 20, _, _, _, _, _⟩) (v := .bool true) rfl (by kernel_rfl) (by kernel_rfl) (by kernel_rfl) (fun _ _ _ h => h) (Or.inl ⟨by rfl, fun w' hS' => ?_⟩) (by assumption) ?_
    · (try dsimp only at hS'); go_simp
    try simp only [Act.put, List.setIfInBounds_toArray, List.set_cons_zero, List.set_cons_succ]
    refine wpAnyH_done (by kernel_rfl) ?_ _
    have HK : Below w.heap.size w _ := b0.trans (hS.2.2.2.2.2.mono b0.size)
    have HKH := Lib.hid HK
    clear hS SX RD HK
    go_wp2
    go_ret2
    rw [HN.out.1, HN.out.2]
    exact ⟨_, rfl, nilOwn _ _ rfl HKH.out.size, HKH.out⟩
  cases hi : inB r x.from_ (headRevT x)
  · have HN := Lib.hid (show textAtB x r = false ∧ opsSinceT x r = [] from opsSince_f (by unfold textAtB; rw [hd, hi]; rfl))
    go_enter Tryz.func37, Tryz.ntmps37
    go_wp2
    generalize w.alloc (.cells #[.string x.name, .int .i64 x.from_, .slice A2 x.text.length c2, .slice A3 x.list.length c3, .slice A4 x.seen.length c4] 36) = W1 at b0 bx ⊢
    have y0 : W1.cell? ⟨w.heap.size, 0, none⟩ = some (.string x.name) := bx.cell rfl
    have y1 : W1.cell? ⟨w.heap.size, 1, none⟩ = some (.int .i64 x.from_) := bx.cell rfl
    have y2 : W1.cell? ⟨w.heap.size, 2, none⟩ = some (.slice A2 x.text.length c2) := bx.cell rfl
    have y3 : W1.cell? ⟨w.heap.size, 3, none⟩ = some (.slice A3 x.list.length c3) := bx.cell rfl
    have y4 : W1.cell? ⟨w.heap.size, 4, none⟩ = some (.slice A4 x.seen.length c4) := bx.cell rfl
    have lD := bx.lt
    have SX := Lib.hid (show ∀ (W W' : World), (W.cell? ⟨w.heap.size, 0, none⟩ = some (.string x.name) ∧ W.cell? ⟨w.heap.size, 1, none⟩ = some (.int .i64 x.from_) ∧ W.cell? ⟨w.heap.size, 2, none⟩ = some (.slice A2 x.text.length c2) ∧ W.cell? ⟨w.heap.size, 3, none⟩ = some (.slice A3 x.list.length c3) ∧ W.cell? ⟨w.heap.size, 4, none⟩ = some (.slice A4 x.seen.length c4) ∧ KS W1 W) → Below W.heap.size W W' → (W'.cell? ⟨w.heap.size, 0, none⟩ = some (.string x.name) ∧ W'.cell? ⟨w.heap.size, 1, none⟩ = some (.int .i64 x.from_) ∧ W'.cell? ⟨w.heap.size, 2, none⟩ = some (.slice A2 x.text.length c2) ∧ W'.cell? ⟨w.heap.size, 3, none⟩ = some (.slice A3 x.list.length c3) ∧ W'.cell? ⟨w.heap.size, 4, none⟩ = some (.slice A4 x.seen.length c4) ∧ KS W1 W') from fun W W' h hb => by have hk := h.2.2.2.2.2; have hkk : KS W1 W' := hk.trans (hb.mono hk.size); exact ⟨(hkk.cell (p := ⟨w.heap.size, 0, none⟩) lD).trans y0, (hkk.cell (p := ⟨w.heap.size, 1, none⟩) lD).trans y1, (hkk.cell (p := ⟨w.heap.size, 2, none⟩) lD).trans y2, (hkk.cell (p := ⟨w.heap.size, 3, none⟩) lD).trans y3, (hkk.cell (p := ⟨w.heap.size, 4, none⟩) lD).trans y4, hkk⟩)
    have RD := Lib.hid (show ∀ W : World, (W.cell? ⟨w.heap.size, 0, none⟩ = some (.string x.name) ∧ W.cell? ⟨w.heap.size, 1, none⟩ = some (.int .i64 x.from_) ∧ W.cell? ⟨w.heap.size, 2, none⟩ = some (.slice A2 x.text.length c2) ∧ W.cell? ⟨w.heap.size, 3, none⟩ = some (.slice A3 x.list.length c3) ∧ W.cell? ⟨w.heap.size, 4, none⟩ = some (.slice A4 x.seen.length c4) ∧ KS W1 W) → RdC W W.heap.size (datDo x) (.agg #[.string x.name, .int .i64 x.from_, .slice A2 x.text.length c2, .slice A3 x.list.length c3, .slice A4 x.seen.length c4]) from fun W h => by have hk : Below W1.heap.size W1 W := h.2.2.2.2.2; exact (HR.out.past b0).past hk)
    have hS0 : W1.drew.cell? ⟨w.heap.size, 0, none⟩ = some (.string x.name) ∧ W1.drew.cell? ⟨w.heap.size, 1, none⟩ = some (.int .i64 x.from_) ∧ W1.drew.cell? ⟨w.heap.size, 2, none⟩ = some (.slice A2 x.text.length c2) ∧ W1.drew.cell? ⟨w.heap.size, 3, none⟩ = some (.slice A3 x.list.length c3) ∧ W1.drew.cell? ⟨w.heap.size, 4, none⟩ = some (.slice A4 x.seen.length c4) ∧ KS W1 W1.drew := ⟨y0, y1, y2, y3, y4, KS.start _⟩
    clear y0 y1 y2 y3 y4
    refine wp_region_held_drew (S := fun W => W.cell? ⟨w.heap.size, 0, none⟩ = some (.string x.name) ∧ W.cell? ⟨w.heap.size, 1, none⟩ = some (.int .i64 x.from_) ∧ W.cell? ⟨w.heap.size, 2, none⟩ = some (.slice A2 x.text.length c2) ∧ W.cell? ⟨w.heap.size, 3, none⟩ = some (.slice A3 x.list.length c3) ∧ W.cell? ⟨w.heap.size, 4, none⟩ = some (.slice A4 x.seen.length c4) ∧ KS W1 W) (by kernel_rfl) hS0 (fun hS => ?_)
    refine wpAnyH_take (i := 0) (oi := ⟨some 9, _, _, _, _, _⟩) (v := .agg #[.string x.name, .int .i64 x.from_, .slice A2 x.text.length c2, .slice A3 x.list.length c3, .slice A4 x.seen.length c4]) rfl (by kernel_rfl) (by kernel_rfl) (by kernel_rfl) (fun _ _ _ h => h) (Or.inl ⟨by rfl, fun w' hS' => ?_⟩) (by assumption) ?_
    · (try dsimp only at hS'); go_simp
    try simp only [Act.put, List.setIfInBounds_toArray, List.set_cons_zero, List.set_cons_succ]
    refine wpAnyH_ready (rs := [1]) (by kernel_rfl) (by simp) ?_
    refine AllReadyH.cons (o := ⟨some 10, _, _, _, _, _⟩) rfl (fun K hK => ?_) AllReadyH.nil
    go_simp
    refine (specDocOk_d _ x _ (RD.out _ (by assumption)) hs).mono ?_
    rw [hd]
    rintro e w2 ⟨rfl, b2⟩
    refine hK.out _ _ (SX.out _ _ (by assumption) b2) (fun hS => ?_)
    clear hK K
    try simp only [Act.put, List.setIfInBounds_toArray, List.set_cons_zero, List.set_cons_succ]
    refine wpAnyH_take (i := 2) (oi := ⟨some 11, _, _, _, _, _⟩) (v := .bool false) rfl (by kernel_rfl) (by kernel_rfl) (by kernel_rfl) (fun _ _ _ h => h) (Or.inl ⟨by rfl, fun w' hS' => ?_⟩) (by assumption) ?_
    · (try dsimp only at hS'); go_simp
    try simp only [Act.put, List.setIfInBounds_toArray, List.set_cons_zero, List.set_cons_succ]
    refine wpAnyH_take (i := 3) (oi := ⟨some 12, _, _, _, _, _⟩) (v := .bool false) rfl (by kernel_rfl) (by kernel_rfl) (by kernel_rfl) (fun _ _ _ h => h) (Or.inl ⟨by rfl, fun w' hS' => ?_⟩) (by assumption) ?_
    · (try dsimp only at hS'); go_simp
    try simp only [Act.put, List.setIfInBounds_toArray, List.set_cons_zero, List.set_cons_succ]
    refine wpAnyH_take (i := 4) (oi := ⟨some 13, _, _, _, _, _⟩) (v := .int .i64 r) rfl (by kernel_rfl) (by kernel_rfl) (by kernel_rfl) (fun _ _ _ h => h) (Or.inl ⟨by rfl, fun w' hS' => ?_⟩) (by assumption) ?_
    · (try dsimp only at hS'); go_simp
    try simp only [Act.put, List.setIfInBounds_toArray, List.set_cons_zero, List.set_cons_succ]
    refine wpAnyH_take (i := 5) (oi := ⟨some 14, _, _, _, _, _⟩) (v := .pointer (some ⟨w.heap.size, 1, none⟩)) rfl (by kernel_rfl) (by kernel_rfl) (by kernel_rfl) (fun _ _ _ h => h) (Or.inl ⟨by rfl, fun w' hS' => ?_⟩) (by assumption) ?_
    · (try dsimp only at hS'); go_simp
    try simp only [Act.put, List.setIfInBounds_toArray, List.set_cons_zero, List.set_cons_succ]
    refine wpAnyH_take (i := 6) (oi := ⟨some 15, _, _, _, _, _⟩) (v := .int .i64 x.from_) rfl (by kernel_rfl) (by kernel_rfl) (by kernel_rfl) (fun _ _ _ h => h) (Or.inl ⟨by rfl, fun w' hS' => ?_⟩) (by assumption) ?_
    · (try dsimp only at hS'); go_simp
    try simp only [Act.put, List.setIfInBounds_toArray, List.set_cons_zero, List.set_cons_succ]
    refine wpAnyH_take (i := 7) (oi := ⟨some 16, _, _, _, _, _⟩) (v := .agg #[.string x.name, .int .i64 x.from_, .slice A2 x.text.length c2, .slice A3 x.list.length c3, .slice A4 x.seen.length c4]) rfl (by kernel_rfl) (by kernel_rfl) (by kernel_rfl) (fun _ _ _ h => h) (Or.inl ⟨by rfl, fun w' hS' => ?_⟩) (by assumption) ?_
    · (try dsimp only at hS'); go_simp
    try simp only [Act.put, List.setIfInBounds_toArray, List.set_cons_zero, List.set_cons_succ]
    refine wpAnyH_ready (rs := [8]) (by kernel_rfl) (by simp) ?_
    refine AllReadyH.cons (o := ⟨some 17, _, _, _, _, _⟩) rfl (fun K hK => ?_) AllReadyH.nil
    go_simp
    refine (specHeadRev_d _ x _ (RD.out _ (by assumption)) hs).mono ?_
    rintro e w3 ⟨rfl, b3⟩
    refine hK.out _ _ (SX.out _ _ (by assumption) b3) (fun hS => ?_)
    clear hK K
    try simp only [Act.put, List.setIfInBounds_toArray, List.set_cons_zero, List.set_cons_succ]
    refine wpAnyH_ready (rs := [9]) (by kernel_rfl) (by simp) ?_
    refine AllReadyH.cons (o := ⟨some 18, _, _, _, _, _⟩) rfl (fun K hK => ?_) AllReadyH.nil
    go_simp
    refine (in_any _ _ _ _).mono ?_
    rw [hi]
    rintro e w4 ⟨rfl, rfl⟩
    refine hK.out _ _ (by assumption) (fun hS => ?_)
    clear hK K
    try simp only [Act.put, List.setIfInBounds_toArray, List.set_cons_zero, List.set_cons_succ]
    refine wpAnyH_take (i := 10) (oi := ⟨some 19, _, _, _, _, _⟩) (v := .bool true) rfl (by kernel_rfl) (by kernel_rfl) (by kernel_rfl) (fun _ _ _ h => h) (Or.inl ⟨by rfl, fun w' hS' => ?_⟩) (by assumption) ?_
    · (try dsimp only at hS'); go_simp
    try simp only [Act.put, List.setIfInBounds_toArray, List.set_cons_zero, List.set_cons_succ]
    refine wpAnyH_take (i := 11) (oi := ⟨some 20, _, _, _, _, _⟩) (v := .bool true) rfl (by kernel_rfl) (by kernel_rfl) (by kernel_rfl) (fun _ _ _ h => h) (Or.inl ⟨by rfl, fun w' hS' => ?_⟩) (by assumption) ?_
    · (try dsimp only at hS'); go_simp
    try simp only [Act.put, List.setIfInBounds_toArray, List.set_cons_zero, List.set_cons_succ]
    refine wpAnyH_done (by kernel_rfl) ?_ _
    have HK : Below w.heap.size w _ := b0.trans (hS.2.2.2.2.2.mono b0.size)
    have HKH := Lib.hid HK
    clear hS SX RD HK
    go_wp2
    go_ret2
    rw [HN.out.1, HN.out.2]
    exact ⟨_, rfl, nilOwn _ _ rfl HKH.out.size, HKH.out⟩
  obtain ⟨f0, f1, f2, f3⟩ := docB_of hd
  have hi1 := of_decide_eq_true hi
  rw [f3] at hi1
  clear f3
  obtain ⟨m, hm⟩ : ∃ m : Nat, r = x.from_ + (m : Int) := ⟨(r - x.from_).toNat, by omega⟩
  subst hm
  have hm1 : m ≤ x.list.length := by omega
  have hc3 : x.list.length ≤ c3 := by obtain ⟨A, c, e, hc⟩ := RdC.len r3; injection e with _ _ e3; subst e3; simpa using hc
  have g1 : x.from_ + (m : Int) - x.from_ = (m : Int) := by omega
  have g2 : (m : Int) ≤ (x.list.length : Int) := by omega
  have HN := Lib.hid (show textAtB x (x.from_ + (m : Int)) = true ∧ opsSinceT x (x.from_ + (m : Int)) = (x.list.drop m).map En.o by have e1 : textAtB x (x.from_ + (m : Int)) = true := by { unfold textAtB; rw [hd, hi]; rfl }; exact ⟨e1, by unfold opsSinceT; rw [if_pos e1]; congr 2; omega⟩)
  go_enter Tryz.func37, Tryz.ntmps37
  go_wp2
  generalize w.alloc (.cells #[.string x.name, .int .i64 x.from_, .slice A2 x.text.length c2, .slice A3 x.list.length c3, .slice A4 x.seen.length c4] 36) = W1 at b0 bx ⊢
  have y0 : W1.cell? ⟨w.heap.size, 0, none⟩ = some (.string x.name) := bx.cell rfl
  have y1 : W1.cell? ⟨w.heap.size, 1, none⟩ = some (.int .i64 x.from_) := bx.cell rfl
  have y2 : W1.cell? ⟨w.heap.size, 2, none⟩ = some (.slice A2 x.text.length c2) := bx.cell rfl
  have y3 : W1.cell? ⟨w.heap.size, 3, none⟩ = some (.slice A3 x.list.length c3) := bx.cell rfl
  have y4 : W1.cell? ⟨w.heap.size, 4, none⟩ = some (.slice A4 x.seen.length c4) := bx.cell rfl
  have lD := bx.lt
  have SX := Lib.hid (show ∀ (W W' : World), (W.cell? ⟨w.heap.size, 0, none⟩ = some (.string x.name) ∧ W.cell? ⟨w.heap.size, 1, none⟩ = some (.int .i64 x.from_) ∧ W.cell? ⟨w.heap.size, 2, none⟩ = some (.slice A2 x.text.length c2) ∧ W.cell? ⟨w.heap.size, 3, none⟩ = some (.slice A3 x.list.length c3) ∧ W.cell? ⟨w.heap.size, 4, none⟩ = some (.slice A4 x.seen.length c4) ∧ KS W1 W) → Below W.heap.size W W' → (W'.cell? ⟨w.heap.size, 0, none⟩ = some (.string x.name) ∧ W'.cell? ⟨w.heap.size, 1, none⟩ = some (.int .i64 x.from_) ∧ W'.cell? ⟨w.heap.size, 2, none⟩ = some (.slice A2 x.text.length c2) ∧ W'.cell? ⟨w.heap.size, 3, none⟩ = some (.slice A3 x.list.length c3) ∧ W'.cell? ⟨w.heap.size, 4, none⟩ = some (.slice A4 x.seen.length c4) ∧ KS W1 W') from fun W W' h hb => by have hk := h.2.2.2.2.2; have hkk : KS W1 W' := hk.trans (hb.mono hk.size); exact ⟨(hkk.cell (p := ⟨w.heap.size, 0, none⟩) lD).trans y0, (hkk.cell (p := ⟨w.heap.size, 1, none⟩) lD).trans y1, (hkk.cell (p := ⟨w.heap.size, 2, none⟩) lD).trans y2, (hkk.cell (p := ⟨w.heap.size, 3, none⟩) lD).trans y3, (hkk.cell (p := ⟨w.heap.size, 4, none⟩) lD).trans y4, hkk⟩)
  have RD := Lib.hid (show ∀ W : World, (W.cell? ⟨w.heap.size, 0, none⟩ = some (.string x.name) ∧ W.cell? ⟨w.heap.size, 1, none⟩ = some (.int .i64 x.from_) ∧ W.cell? ⟨w.heap.size, 2, none⟩ = some (.slice A2 x.text.length c2) ∧ W.cell? ⟨w.heap.size, 3, none⟩ = some (.slice A3 x.list.length c3) ∧ W.cell? ⟨w.heap.size, 4, none⟩ = some (.slice A4 x.seen.length c4) ∧ KS W1 W) → RdC W W.heap.size (datDo x) (.agg #[.string x.name, .int .i64 x.from_, .slice A2 x.text.length c2, .slice A3 x.list.length c3, .slice A4 x.seen.length c4]) from fun W h => by have hk : Below W1.heap.size W1 W := h.2.2.2.2.2; exact (HR.out.past b0).past hk)
  have hS0 : W1.drew.cell? ⟨w.heap.size, 0, none⟩ = some (.string x.name) ∧ W1.drew.cell? ⟨w.heap.size, 1, none⟩ = some (.int .i64 x.from_) ∧ W1.drew.cell? ⟨w.heap.size, 2, none⟩ = some (.slice A2 x.text.length c2) ∧ W1.drew.cell? ⟨w.heap.size, 3, none⟩ = some (.slice A3 x.list.length c3) ∧ W1.drew.cell? ⟨w.heap.size, 4, none⟩ = some (.slice A4 x.seen.length c4) ∧ KS W1 W1.drew := ⟨y0, y1, y2, y3, y4, KS.start _⟩
  clear y0 y1 y2 y3 y4
  refine wp_region_held_drew (S := fun W => W.cell? ⟨w.heap.size, 0, none⟩ = some (.string x.name) ∧ W.cell? ⟨w.heap.size, 1, none⟩ = some (.int .i64 x.from_) ∧ W.cell? ⟨w.heap.size, 2, none⟩ = some (.slice A2 x.text.length c2) ∧ W.cell? ⟨w.heap.size, 3, none⟩ = some (.slice A3 x.list.length c3) ∧ W.cell? ⟨w.heap.size, 4, none⟩ = some (.slice A4 x.seen.length c4) ∧ KS W1 W) (by kernel_rfl) hS0 (fun hS => ?_)
  refine wpAnyH_take (i := 0) (oi := ⟨some 9, _, _, _, _, _⟩) (v := .agg #[.string x.name, .int .i64 x.from_, .slice A2 x.text.length c2, .slice A3 x.list.length c3, .slice A4 x.seen.length c4]) rfl (by kernel_rfl) (by kernel_rfl) (by kernel_rfl) (fun _ _ _ h => h) (Or.inl ⟨by rfl, fun w' hS' => ?_⟩) (by assumption) ?_
  · (try dsimp only at hS'); go_simp
  try simp only [Act.put, List.setIfInBounds_toArray, List.set_cons_zero, List.set_cons_succ]
  refine wpAnyH_ready (rs := [1]) (by kernel_rfl) (by simp) ?_
  refine AllReadyH.cons (o := ⟨some 10, _, _, _, _, _⟩) rfl (fun K hK => ?_) AllReadyH.nil
  go_simp
  refine (specDocOk_d _ x _ (RD.out _ (by assumption)) hs).mono ?_
  rw [hd]
  rintro e w2 ⟨rfl, b2⟩
  refine hK.out _ _ (SX.out _ _ (by assumption) b2) (fun hS => ?_)
  clear hK K
  try simp only [Act.put, List.setIfInBounds_toArray, List.set_cons_zero, List.set_cons_succ]
  refine wpAnyH_take (i := 2) (oi := ⟨some 11, _, _, _, _, _⟩) (v := .bool false) rfl (by kernel_rfl) (by kernel_rfl) (by kernel_rfl) (fun _ _ _ h => h) (Or.inl ⟨by rfl, fun w' hS' => ?_⟩) (by assumption) ?_
  · (try dsimp only at hS'); go_simp
  try simp only [Act.put, List.setIfInBounds_toArray, List.set_cons_zero, List.set_cons_succ]
  refine wpAnyH_take (i := 3) (oi := ⟨some 12, _, _, _, _, _⟩) (v := .bool false) rfl (by kernel_rfl) (by kernel_rfl) (by kernel_rfl) (fun _ _ _ h => h) (Or.inl ⟨by rfl, fun w' hS' => ?_⟩) (by assumption) ?_
  · (try dsimp only at hS'); go_simp
  try simp only [Act.put, List.setIfInBounds_toArray, List.set_cons_zero, List.set_cons_succ]
  refine wpAnyH_take (i := 4) (oi := ⟨some 13, _, _, _, _, _⟩) (v := .int .i64 (x.from_ + (m : Int))) rfl (by kernel_rfl) (by kernel_rfl) (by kernel_rfl) (fun _ _ _ h => h) (Or.inl ⟨by rfl, fun w' hS' => ?_⟩) (by assumption) ?_
  · (try dsimp only at hS'); go_simp
  try simp only [Act.put, List.setIfInBounds_toArray, List.set_cons_zero, List.set_cons_succ]
  refine wpAnyH_take (i := 5) (oi := ⟨some 14, _, _, _, _, _⟩) (v := .pointer (some ⟨w.heap.size, 1, none⟩)) rfl (by kernel_rfl) (by kernel_rfl) (by kernel_rfl) (fun _ _ _ h => h) (Or.inl ⟨by rfl, fun w' hS' => ?_⟩) (by assumption) ?_
  · (try dsimp only at hS'); go_simp
  try simp only [Act.put, List.setIfInBounds_toArray, List.set_cons_zero, List.set_cons_succ]
  refine wpAnyH_take (i := 6) (oi := ⟨some 15, _, _, _, _, _⟩) (v := .int .i64 x.from_) rfl (by kernel_rfl) (by kernel_rfl) (by kernel_rfl) (fun _ _ _ h => h) (Or.inl ⟨by rfl, fun w' hS' => ?_⟩) (by assumption) ?_
  · (try dsimp only at hS'); go_simp
  try simp only [Act.put, List.setIfInBounds_toArray, List.set_cons_zero, List.set_cons_succ]
  refine wpAnyH_take (i := 7) (oi := ⟨some 16, _, _, _, _, _⟩) (v := .agg #[.string x.name, .int .i64 x.from_, .slice A2 x.text.length c2, .slice A3 x.list.length c3, .slice A4 x.seen.length c4]) rfl (by kernel_rfl) (by kernel_rfl) (by kernel_rfl) (fun _ _ _ h => h) (Or.inl ⟨by rfl, fun w' hS' => ?_⟩) (by assumption) ?_
  · (try dsimp only at hS'); go_simp
  try simp only [Act.put, List.setIfInBounds_toArray, List.set_cons_zero, List.set_cons_succ]
  refine wpAnyH_ready (rs := [8]) (by kernel_rfl) (by simp) ?_
  refine AllReadyH.cons (o := ⟨some 17, _, _, _, _, _⟩) rfl (fun K hK => ?_) AllReadyH.nil
  go_simp
  refine (specHeadRev_d _ x _ (RD.out _ (by assumption)) hs).mono ?_
  rintro e w3 ⟨rfl, b3⟩
  refine hK.out _ _ (SX.out _ _ (by assumption) b3) (fun hS => ?_)
  clear hK K
  try simp only [Act.put, List.setIfInBounds_toArray, List.set_cons_zero, List.set_cons_succ]
  refine wpAnyH_ready (rs := [9]) (by kernel_rfl) (by simp) ?_
  refine AllReadyH.cons (o := ⟨some 18, _, _, _, _, _⟩) rfl (fun K hK => ?_) AllReadyH.nil
  go_simp
  refine (in_any _ _ _ _).mono ?_
  rw [hi]
  rintro e w4 ⟨rfl, rfl⟩
  refine hK.out _ _ (by assumption) (fun hS => ?_)
  clear hK K
  try simp only [Act.put, List.setIfInBounds_toArray, List.set_cons_zero, List.set_cons_succ]
  refine wpAnyH_take (i := 10) (oi := ⟨some 19, _, _, _, _, _⟩) (v := .bool false) rfl (by kernel_rfl) (by kernel_rfl) (by kernel_rfl) (fun _ _ _ h => h) (Or.inl ⟨by rfl, fun w' hS' => ?_⟩) (by assumption) ?_
  · (try dsimp only at hS'); go_simp
  try simp only [Act.put, List.setIfInBounds_toArray, List.set_cons_zero, List.set_cons_succ]
  refine wpAnyH_take (i := 11) (oi := ⟨some 20, _, _, _, _, _⟩) (v := .bool false) rfl (by kernel_rfl) (by kernel_rfl) (by kernel_rfl) (fun _ _ _ h => h) (Or.inl ⟨by rfl, fun w' hS' => ?_⟩) (by assumption) ?_
  · (try dsimp only at hS'); go_simp
  try simp only [Act.put, List.setIfInBounds_toArray, List.set_cons_zero, List.set_cons_succ]
  refine wpAnyH_done (by kernel_rfl) ?_ _
  have HK : Below w.heap.size w _ := b0.trans (hS.2.2.2.2.2.mono b0.size)
  obtain ⟨y0, y1, y2, y3, y4, hks⟩ := hS
  have lD2 : w.heap.size < w3.heap.size := Nat.lt_of_lt_of_le lD hks.size
  have HKH := Lib.hid HK
  clear SX RD hks hd hi
  by_cases hlast : m = x.list.length
  · subst hlast
    have HN2 := Lib.hid (show (x.list.drop x.list.length).map En.o = [] by simp)
    have ob : OwB w.heap.size (w3.heap.size + 1) (w3.alloc (.cells #[] 30)) (encPss []) (.slice (some ⟨w3.heap.size, 0, none⟩) 0 0) [w3.heap.size] := ⟨⟨[], [], ⟨rfl, .inr ⟨w3.heap.size, 0, #[], rfl, Nat.zero_le _, heap_alloc_new w3 _, Nat.le_refl _, by unfold maxLen; omega, rfl, rfl⟩⟩, ⟨rfl, rfl⟩, rfl⟩, by simp, fun q hq => by simp at hq; omega, by rw [World.size_alloc]; exact Nat.le_refl _, by omega⟩
    have bZ := HKH.out.trans ((alloc_below w3 (.cells #[] 30)).mono HKH.out.size)
    have zZ : (w3.alloc (.cells #[] 30)).heap.size = w3.heap.size + 1 := World.size_alloc _ _
    rw [← zZ] at ob
    have OB := Lib.hid ob
    clear ob
    by_cases hcap : x.list.length = c3
    · go_wp2
      refine wp_loop_rounds 1 ?_
      rw [rounds_succ]
      go_wp2
      go_ret2
      rw [HN.out.1, HN.out.2, HN2.out]
      exact ⟨_, rfl, ⟨_, OB.out.ow, OB.out.nd, OB.out.rng, Nat.le_refl _, OB.out.le⟩, bZ⟩
    · go_wp2
      refine wp_loop_rounds 1 ?_
      rw [rounds_succ]
      go_wp2
      go_ret2
      rw [HN.out.1, HN.out.2, HN2.out]
      exact ⟨_, rfl, ⟨_, OB.out.ow, OB.out.nd, OB.out.rng, Nat.le_refl _, OB.out.le⟩, bZ⟩
  · have hlt : m < x.list.length := by omega
    obtain ⟨b, off, e0, A50, c50, rfl, _, _, _⟩ := atEns r3 hlt
    have g3 : ¬ m = c3 := by omega
    obtain ⟨i0, hi0, hz0, hz1, hz2⟩ := info_parts pssInfo
    obtain ⟨n, hn⟩ : ∃ n, n = x.list.length - m := ⟨_, rfl⟩
    have ob : OwB w.heap.size (w3.heap.size + 1) (w3.alloc (.cells #[] 30)) (encPss []) (.slice (some ⟨w3.heap.size, 0, none⟩) 0 0) [w3.heap.size] := ⟨⟨[], [], ⟨rfl, .inr ⟨w3.heap.size, 0, #[], rfl, Nat.zero_le _, heap_alloc_new w3 _, Nat.le_refl _, by unfold maxLen; omega, rfl, rfl⟩⟩, ⟨rfl, rfl⟩, rfl⟩, by simp, fun q hq => by simp at hq; omega, by rw [World.size_alloc]; exact Nat.le_refl _, by omega⟩
    have bZ := HKH.out.trans ((alloc_below w3 (.cells #[] 30)).mono HKH.out.size)
    have zZ : (w3.alloc (.cells #[] 30)).heap.size = w3.heap.size + 1 := World.size_alloc _ _
    rw [← zZ] at ob
    have OB := Lib.hid ob
    clear ob
    go_wp2
    rw [← hn]
    have hn1 : n + m ≤ x.list.length := by omega
    have hn2 : x.list.length ≤ n + m := by omega
    clear hn
    clear g1 g2 g3 y0 y1 y2 y3 y4
    go_loopw [6, 30] (fun ov i wr => ∃ (j : Nat) (A1 : Option Addr) (c1 : Nat) (bs : List Nat), j ≤ n ∧ i = .int .i64 (j : Int) ∧ ov = .slice A1 j c1 ∧ OwB w.heap.size wr.heap.size wr (encPss (((x.list.drop m).take j).map En.o)) ov bs ∧ Below w.heap.size w wr) (fun _ i _ => n - (intOf i).toNat)
    case atStart => exact ⟨0, _, _, _, Nat.zero_le _, rfl, rfl, OB.out, bZ⟩
    case round =>
      obtain ⟨j, A1, c1, bs, hj, rfl, rfl, ho, hbel⟩ := hrel
      clear OB bZ zZ
      have HO := Lib.hid ho
      clear ho
      by_cases hjl : j < n
      · obtain ⟨b', off', e, A5, c5, e1, hbb, hp, x0, x1, x2, q2⟩ := atEns (r3.below hbel) (i := m + j) (by omega)
        obtain ⟨rfl, rfl⟩ : b = b' ∧ off = off' := by injection e1 with e1; injection e1 with e1 e2; exact ⟨e1, e2⟩
        clear e1
        rw [Nat.add_mul, ← Nat.add_assoc] at x0 x1 x2
        have hse := hs.list.at_ (List.mem_of_getElem? hp)
        have HT := Lib.hid (show ((x.list.drop m).take (j + 1)).map En.o = ((x.list.drop m).take j).map En.o ++ [e.o] by rw [List.take_add_one, List.getElem?_drop, hp]; simp)
        clear hp
        have bA := alloc_below wr (.cells #[.int .i64 e.client, .int .i64 e.seq, .slice A5 e.o.length c5] 92)
        have q2 := RdC.more hbel.size _ _ q2
        have HO1 := Lib.hid (HO.out.past bA)
        have zA : (wr.alloc (.cells #[.int .i64 e.client, .int .i64 e.seq, .slice A5 e.o.length c5] 92)).heap.size = wr.heap.size + 1 := World.size_alloc _ _
        go_wp2_with fail
        generalize wr.alloc (.cells #[.int .i64 e.client, .int .i64 e.seq, .slice A5 e.o.length c5] 92) = W2 at bA HO1 zA ⊢
        refine (specCopy_d _ e.o _ (q2.past bA) hse.o).mono ?_
        rintro e_ w5 ⟨v5, rfl, o5, b5⟩
        obtain ⟨A6, c6, rfl⟩ := sliceP o5.read
        obtain ⟨kx, ox⟩ := o5.blocks
        have z5 := b5.size
        have d5 := hbel.trans ((bA.trans (b5.mono bA.size)).mono hbel.size)
        have bB := alloc_below w5 (.cells #[.slice A6 e.o.length c6] 30)
        have HO2 := Lib.hid ((HO1.out.past b5).past bB)
        have HX := Lib.hid (ox.past bB)
        have HNW := Lib.hid (World.news_of_block (cs := #[.slice A6 e.o.length c6]) (t := 30) (fr := (0, 0)) (heap_alloc_new w5 (.cells #[.slice A6 e.o.length c6] 30)))
        have d6 := d5.trans (bB.mono d5.size)
        have e1 : ((((x.list.drop m).take j).map En.o).map fun ps => [encPs ps]).length = j := by simp; omega
        clear ox o5 b5 bB
        go_wp2_with (at_builtin; refine wpList_append_row rfl (.tmp 34) (.tmp 38) 64 rfl 30 i0 (.slice none 0 0) 1 24 Tryz.underlying64 hi0 hz0 hz1 hz2 rfl (by decide) (by decide) w.heap.size _ (.slice A1 j c1) ((((x.list.drop m).take j).map En.o).map fun ps => [encPs ps]) bs HO2.out rfl (by rw [e1]; omega) ⟨w5.heap.size, 0, none⟩ _ [.slice A6 e.o.length c6] rfl rfl HNW.out (by simp [Value.oneCell']) [encPs e.o] kx HX.out.ow.row1 HX.out.nd (fun q hq hq' => by have q1 := (HO2.out.rng q hq).2; have q2 := (HX.out.rng q hq').1; omega) (fun q hq => by have q2 := (HX.out.rng q hq).1; have := hbel.size; omega) ?_; intro A7 c7 w7 b7 o7 in7 g7 bl7; rw [e1])
        have O7 := Lib.hid (show OwB w.heap.size w7.heap.size w7 (encPss (((x.list.drop m).take (j + 1)).map En.o)) (.slice A7 (j + 1) c7) b7 by rw [HT.out]; rw [e1] at o7; unfold encPss; rw [List.map_append]; exact o7)
        have d7 := d6.trans bl7
        clear o7 in7 g7 bl7
        go_wp2
        go_roundw
        case rel => exact ⟨j + 1, A7, c7, b7, by omega, by go_num, rfl, O7.out, d7⟩
        case measure => simp [intOf]; omega
      · obtain rfl : j = n := by omega
        have hE : (x.list.drop m).take j = x.list.drop m := List.take_of_length_le (by rw [List.length_drop]; omega)
        have k1 := HO.out
        rw [hE] at k1
        have K1 := Lib.hid k1
        clear k1
        go_wp2
        go_ret2
        rw [HN.out.1, HN.out.2]
        exact ⟨_, rfl, ⟨bs, K1.out.ow, K1.out.nd, K1.out.rng, Nat.le_refl _, K1.out.le⟩, hbel⟩
end Go.Proofs.YtgfbcpcfdlnbhabGreatDoor.low


/-
  The specification's side of stage 8 (documents), gathered; spec.Forget is wanted.
-/
namespace Go.Proofs.YtgfbcpcfdlnbhabGreatDoor.low
set_option linter.unusedVariables false
end Go.Proofs.YtgfbcpcfdlnbhabGreatDoor.low


/-
  The loop of spec.Compose: its body, taken out of the translation; its invariant over the frame.
-/
namespace Go.Proofs.YtgfbcpcfdlnbhabGreatDoor.low
open Go.RowKit
set_option linter.unusedVariables false

/-- the bodies of the loops in a piece of code, those inside a loop left out -/
def loopsOf : Code → List Code
  | .loop c => [c]
  | .seq a b => loopsOf a ++ loopsOf b
  | .cond _ a b => loopsOf a ++ loopsOf b
  | .block _ c => loopsOf c
  | .scope c => loopsOf c
  | _ => []
/-- the loop's invariant -/
def CoR (K : Fx) (go : Nat) (w0 w' : World) : Prop := ∃ O L RX RY, CB K go 151 O L w' none none RX RY ∧ CInv K.a K.b RX RY L ∧ Below K.lo w0 w'
theorem CoR.mk {K : Fx} {go : Nat} {w0 w' : World} {O : Nat → Prop} {L : List Pt} {RX RY : List U} (h : CB K go 151 O L w' none none RX RY) (hi : CInv K.a K.b RX RY L) (D : Below K.lo w0 w') : CoR K go w0 w' := ⟨O, L, RX, RY, h, hi, D⟩
end Go.Proofs.YtgfbcpcfdlnbhabGreatDoor.low


/-
  The loop of spec.Compose: the cases of a round, each a theorem over the frame; the round; the loop.
-/
namespace Go.Proofs.YtgfbcpcfdlnbhabGreatDoor.low
open Go.RowKit
set_option linter.unusedVariables false

end Go.Proofs.YtgfbcpcfdlnbhabGreatDoor.low


/-
  Contract of spec.Compose.
-/
namespace Go.Proofs.YtgfbcpcfdlnbhabGreatDoor.low
open Go.RowKit
set_option linter.unusedVariables false

theorem heap_old (w : World) (o : Obj) {g : Nat} {x : Obj} (h : w.heap[g]? = some x) : (w.alloc o).heap[g]? = some x := by
  rw [Below.heap_alloc _ _ _ (lt_of_some h)]
  exact h
theorem cur_new {w : World} {g : Nat} {T : TypeId} {A : Option Addr} {c : Nat} {ps : List Pt} (h : w.heap[g]? = some (.cells #[.slice A ps.length c, .int .i64 0, .int .i64 0] T (0, 0))) : ∃ i d, Cur g T w A c ps i d ∧ rem ps i d = units ps ∧ Sett ps i d none :=
  ⟨0, 0, ⟨h, Nat.zero_le _, fun _ _ => Nat.zero_le _, fun _ => rfl⟩, by simp [rem], trivial⟩
/-- two cursors as they are made, at w.heap.size and behind it -/
theorem Cs.new {w w' : World} {A B : Option Addr} {ca cb lo : Nat} {a b : List Pt} {TC : TypeId} (hlo : lo ≤ w.heap.size) (ra : RdC w lo (encPs a) (.slice A a.length ca)) (rb : RdC w lo (encPs b) (.slice B b.length cb)) (sa : ∀ p ∈ a, szP_ p) (sb : ∀ p ∈ b, szP_ p) (na : a.length ≤ 1048576) (nb : b.length ≤ 1048576)
    (hx : w'.heap[w.heap.size]? = some (.cells #[.slice A a.length ca, .int .i64 0, .int .i64 0] TC (0, 0))) (hy : w'.heap[w.heap.size + 1]? = some (.cells #[.slice B b.length cb, .int .i64 0, .int .i64 0] TC (0, 0))) (hb : Below lo w w') : Cs ⟨lo, w.heap.size, w.heap.size + 1, TC, A, ca, a, B, cb, b⟩ w' none none (units a) (units b) :=
  ⟨cur_new hx, cur_new hy, ra.below hb, rb.below hb, by simp, hlo, Nat.le_succ_of_le hlo, sa, sb, na, nb⟩

theorem CB.new {w : World} {A B : Option Addr} {ca cb lo : Nat} {a b : List Pt} {TC TB : TypeId} (hlo : lo ≤ w.heap.size) (ra : RdC w lo (encPs a) (.slice A a.length ca)) (rb : RdC w lo (encPs b) (.slice B b.length cb)) (sa : ∀ p ∈ a, szP_ p) (sb : ∀ p ∈ b, szP_ p) (na : a.length ≤ 1048576) (nb : b.length ≤ 1048576) :
    CB ⟨lo, w.heap.size, w.heap.size + 1, TC, A, ca, a, B, cb, b⟩ (w.heap.size + 1 + 1) TB (fun q => q = w.heap.size + 1 + 1) [] (((w.alloc (.cells #[.slice A a.length ca, .int .i64 0, .int .i64 0] TC)).alloc (.cells #[.slice B b.length cb, .int .i64 0, .int .i64 0] TC)).alloc (.cells #[.slice none 0 0, .slice none 0 0, .int .i64 0] TB)) none none (units a) (units b) ∧
    Below lo w (((w.alloc (.cells #[.slice A a.length ca, .int .i64 0, .int .i64 0] TC)).alloc (.cells #[.slice B b.length cb, .int .i64 0, .int .i64 0] TC)).alloc (.cells #[.slice none 0 0, .slice none 0 0, .int .i64 0] TB)) := by
  have s1 : (w.alloc (.cells #[.slice A a.length ca, .int .i64 0, .int .i64 0] TC)).heap.size = w.heap.size + 1 := Array.size_push ..
  have s2 : ((w.alloc (.cells #[.slice A a.length ca, .int .i64 0, .int .i64 0] TC)).alloc (.cells #[.slice B b.length cb, .int .i64 0, .int .i64 0] TC)).heap.size = w.heap.size + 1 + 1 := by rw [← s1]; exact Array.size_push ..
  have b1 := (((alloc_below w (.cells #[.slice A a.length ca, .int .i64 0, .int .i64 0] TC)).mono hlo).alloc (by rw [s1]; omega) (.cells #[.slice B b.length cb, .int .i64 0, .int .i64 0] TC)).alloc (by rw [s2]; omega) (.cells #[.slice none 0 0, .slice none 0 0, .int .i64 0] TB)
  have hb := Bld.new lo TB ((w.alloc (.cells #[.slice A a.length ca, .int .i64 0, .int .i64 0] TC)).alloc (.cells #[.slice B b.length cb, .int .i64 0, .int .i64 0] TC)) (by rw [s2]; omega)
  rw [s2] at hb
  exact ⟨⟨Cs.new hlo ra rb sa sb na nb (heap_old _ _ (heap_old _ _ (heap_alloc_new w _))) (heap_old _ _ (by rw [← s1]; exact heap_alloc_new _ _)) b1, hb, by show ¬ w.heap.size = _; omega, by show ¬ w.heap.size + 1 = _; omega⟩, b1⟩
end Go.Proofs.YtgfbcpcfdlnbhabGreatDoor.low


/-
  Composing several operations, and counting parts: the functions on lists, and the contracts of spec.ComposeAll and spec.PartCount.
-/
namespace Go.Proofs.YtgfbcpcfdlnbhabGreatDoor.low
open Go.RowKit
set_option linter.unusedVariables false

end Go.Proofs.YtgfbcpcfdlnbhabGreatDoor.low


/-
  The algebra of operations: what is made of units is valid and normal; applying, composing, inverting and transforming valid operations, in the words of the contracts.
-/
namespace Go.Proofs.YtgfbcpcfdlnbhabGreatDoor.low
open Go.RowKit
set_option linter.unusedVariables false

/-- all that is inserted are characters -/
def goodU (us : List U) : Prop := ∀ x, U.p x ∈ us → signB x = true
def part1 : U → Pt
  | .k => ⟨1, 1, []⟩
  | .p x => ⟨2, 0, [x]⟩
  | .d => ⟨3, 1, []⟩
def made (us : List U) : List Pt := doneN (foldU us)
theorem units_part1 : ∀ us : List U, units (us.map part1) = us
  | [] => rfl
  | u :: us => by
    rw [List.map_cons, units_cons, units_part1 us]
    cases u <;> rfl
theorem part1_sz (us : List U) : ∀ p ∈ us.map part1, szP_ p := fun p hp => by
  obtain ⟨u, _, rfl⟩ := List.mem_map.1 hp
  cases u
  · exact ⟨.inl rfl, by simp [part1], by simp [part1], by simp [part1]⟩
  · exact ⟨.inr (.inl rfl), by simp [part1], by simp [part1], by simp [part1]⟩
  · exact ⟨.inr (.inr rfl), by simp [part1], by simp [part1], by simp [part1]⟩
theorem made_eq (us : List U) : made us = doneN (foldN (us.map part1)) := by unfold made; rw [foldN_units (part1_sz us), units_part1]
theorem units_made (us : List U) : units (made us) = nfU us := units_norm us
theorem len_st : ∀ us : List U, us.length ≤ src us + tgt us
  | [] => by simp
  | u :: us => by
    have := len_st us
    cases u <;> simp [src, tgt] <;> omega
/-- what is made of few good units is valid and normal -/
theorem made_ok {us : List U} (hs : src us ≤ 200) (ht : tgt us ≤ 200) (hz : goodU us) : okOp (made us) = true ∧ normal (made us) ∧ sumK (made us) + sumD (made us) = (src us : Int) ∧ sumK (made us) + sumP (made us) = (tgt us : Int) := by
  have hsz := part1_sz us
  have hn : normal (made us) := by rw [made_eq]; exact normal_fold hsz
  obtain ⟨s1, s2, s3⟩ := sum_norm hsz
  rw [← made_eq] at s1 s2 s3
  obtain ⟨u1, u2⟩ := src_units hsz
  rw [units_part1] at u1 u2
  have hall : ∀ p ∈ made us, allB p.signs = true := by
    rw [made_eq]
    refine norm_allB (fun p hp => ?_)
    obtain ⟨u, hu, rfl⟩ := List.mem_map.1 hp
    cases u
    · rfl
    · rename_i x
      simp [part1, allB, hz x hu]
    · rfl
  have n1 : ∀ f : Pt → Int, (∀ p, tidy p → 0 ≤ f p) → 0 ≤ sumOf f (made us) := fun f hf => by
    unfold sumOf
    have : ∀ (L : List Pt), (∀ p ∈ L, tidy p) → 0 ≤ (L.map f).sum := by
      intro L
      induction L with
      | nil => simp
      | cons p L ih =>
        intro h
        have a := hf p (h p (by simp))
        have b := ih (fun q hq => h q (by simp [hq]))
        simp
        omega
    exact this _ hn.1
  have k1 := n1 keepOf (fun p h => (tidy_nonneg h).1)
  have k2 := n1 putOf (fun p h => (tidy_nonneg h).2.1)
  have k3 := n1 dropOf (fun p h => (tidy_nonneg h).2.2)
  have hok : okPs (made us) = true := tidy_ok hn.1 hall (by omega) (by omega) (by omega)
  have hlen : (made us).length ≤ 600 := by
    have h1 := norm_length hsz
    rw [← made_eq, List.length_map] at h1
    have := len_st us
    omega
  have hop : okOp (made us) = true := of_okOp hok hlen (by omega) (by omega)
  obtain ⟨t1, t2, t3⟩ := sum_t (okOp_partsB hop)
  exact ⟨hop, hn, by rw [t1, t3]; omega, by rw [t1, t2]; omega⟩
theorem norm_made {a : List Pt} (h : okOp a = true) : normL a = made (units a) := by
  unfold normL made
  rw [if_pos h, foldN_units (okOp_units h).2.1]
/-- a valid operation's units -/
theorem op_units {a : List Pt} (h : okOp a = true) : (src (units a) : Int) = sumK a + sumD a ∧ (tgt (units a) : Int) = sumK a + sumP a ∧ src (units a) ≤ 200 ∧ tgt (units a) ≤ 200 ∧ goodU (units a) := by
  obtain ⟨h1, h2, h3, h4, h5, h6, h7⟩ := okOp_of h
  obtain ⟨t1, t2, t3⟩ := sum_t (okOp_partsB h)
  obtain ⟨s1, s2⟩ := src_units (okPs_sz h1)
  refine ⟨by rw [t1, t3]; exact s1, by rw [t1, t2]; exact s2, by omega, by omega, fun x hx => ?_⟩
  unfold units at hx
  obtain ⟨p, hp, hx⟩ := List.mem_flatMap.1 hx
  have ha := okPs_allB h1 p hp
  unfold unitsP at hx
  split at hx
  · have := List.eq_of_mem_replicate hx; cases this
  · split at hx
    · obtain ⟨z, hz, e⟩ := List.mem_map.1 hx
      injection e with e
      subst e
      unfold allB at ha
      exact List.all_eq_true.1 ha z hz
    · have := List.eq_of_mem_replicate hx; cases this
theorem apply_mem : ∀ (us : List U) (t : List Int) (x : Int), x ∈ applyU us t → x ∈ t ∨ U.p x ∈ us
  | [], t, x, h => by simp [applyU] at h
  | .k :: us, t, x, h => by
    rw [applyU] at h
    rcases List.mem_append.1 h with h | h
    · exact .inl (List.mem_of_mem_take h)
    · rcases apply_mem us _ x h with h | h
      · exact .inl (List.mem_of_mem_drop h)
      · exact .inr (by simp [h])
  | .p y :: us, t, x, h => by
    rw [applyU] at h
    rcases List.mem_cons.1 h with rfl | h
    · exact .inr (by simp)
    · rcases apply_mem us _ x h with h | h
      · exact .inl h
      · exact .inr (by simp [h])
  | .d :: us, t, x, h => by
    rw [applyU] at h
    rcases apply_mem us _ x h with h | h
    · exact .inl (List.mem_of_mem_drop h)
    · exact .inr (by simp [h])
theorem okText_mem {t : List Int} (h : okText t = true) : ∀ x ∈ t, signB x = true := fun x hx => by
  unfold okText at h
  rw [Bool.and_eq_true] at h
  exact List.all_eq_true.1 h.1 x hx
theorem okText_mk {t : List Int} (h : ∀ x ∈ t, signB x = true) (hl : t.length ≤ 200) : okText t = true := by
  unfold okText allB
  rw [decide_eq_true hl, List.all_eq_true.2 h]
  rfl
theorem fits_mk {a : List Pt} {t : List Int} (ha : okOp a = true) (ht : okText t = true) (hs : sumK a + sumD a = (t.length : Int)) : fitsB a t = true := by
  unfold fitsB
  rw [ha, ht, decide_eq_true hs]
  rfl
/-- applying a valid operation to a text that fits -/
theorem apply_ok {a : List Pt} {t : List Int} (ha : okOp a = true) (ht : okText t = true) (hs : sumK a + sumD a = (t.length : Int)) : fitsB a t = true ∧ applyT a t = applyU (units a) t ∧ okText (applyT a t) = true ∧ ((applyT a t).length : Int) = sumK a + sumP a ∧ src (units a) = t.length := by
  have hf := fits_mk ha ht hs
  obtain ⟨u1, u2, u3, u4, u5⟩ := op_units ha
  have hsrc : src (units a) = t.length := by omega
  have he := applyT_units hf
  have hl := apply_len_u (units a) t hsrc
  refine ⟨hf, he, ?_, by rw [he, hl]; exact u2, hsrc⟩
  rw [he]
  refine okText_mk (fun x hx => ?_) (by omega)
  rcases apply_mem _ _ _ hx with h | h
  · exact okText_mem ht x h
  · exact u5 x h
end Go.Proofs.YtgfbcpcfdlnbhabGreatDoor.low


/-
  A valid document is small: bounds read off its validity.
-/
namespace Go.Proofs.YtgfbcpcfdlnbhabGreatDoor.low
open Go.RowKit
set_option linter.unusedVariables false

theorem signs_put : ∀ {ps : List Pt}, okPs ps = true → (signsIn ps : Int) = sumOf putOf ps
  | [], _ => by simp [signsIn, sumOf]
  | p :: ps, h => by
    unfold okPs at h
    rw [List.all_cons, Bool.and_eq_true] at h
    have ih := signs_put (ps := ps) h.2
    have e1 : signsIn (p :: ps) = p.signs.length + signsIn ps := by simp [signsIn]
    have e2 : sumOf putOf (p :: ps) = putOf p + sumOf putOf ps := by simp [sumOf]
    rw [e1, e2, ← ih]
    have := of_okPt h.1
    unfold putOf
    split <;> omega
theorem op_800 {o : List Pt} (h : okOp o = true) : o.length + signsIn o ≤ 800 := by
  have hh := h
  unfold okOp at h
  rw [Bool.and_eq_true, Bool.and_eq_true] at h
  obtain ⟨⟨h1, _⟩, h3⟩ := h
  have h3 := of_decide_eq_true h3
  obtain ⟨t1, t2, _⟩ := sum_t h1
  unfold partsB at h1
  rw [Bool.and_eq_true] at h1
  have h4 := of_decide_eq_true h1.2
  have hb := sums_bd h1.1 h4
  have hs := signs_put h1.1
  rw [t1, t2] at h3
  omega
theorem isNorm_800 {o : List Pt} (h : isNormL o = true) : o.length + signsIn o ≤ 800 := by
  unfold isNormL at h
  rw [Bool.and_eq_true] at h
  exact op_800 h.1
theorem chain_tot : ∀ {l : List En} {t : List Int}, chainGo l t = true → sumN totEn l ≤ 800 * l.length
  | [], _, _ => by simp [sumN]
  | e :: l, t, h => by
    unfold chainGo at h
    simp only [Bool.and_eq_true] at h
    have ih := chain_tot h.2
    have he : entryB e = true := h.1.1.2
    unfold entryB at he
    rw [Bool.and_eq_true] at he
    have := isNorm_800 he.2
    have e1 : totEn e = e.o.length + signsIn e.o := rfl
    rw [sumN_cons, List.length_cons, e1]
    omega
theorem seen_le : ∀ {l : List Se} {h : Int} {p : Int}, seenAllB h (some p) l = true → 0 ≤ p → p ≤ 8 → (l.length : Int) + p ≤ 8
  | [], _, _, _, _, _ => by simp; omega
  | s :: l, hh, p, h, h0, h8 => by
    unfold seenAllB seenOneB at h
    simp only [Bool.and_eq_true] at h
    have h1 := h.1.1.1.1
    have h2 := h.1.2
    unfold inB at h1
    have h1 := of_decide_eq_true h1
    have h2 : p < s.client := of_decide_eq_true h2
    have ih := seen_le h.2 (by omega) (by omega)
    rw [List.length_cons]
    omega
theorem seen_8 {l : List Se} {h : Int} (hs : seenAllB h none l = true) : l.length ≤ 8 := by
  cases l with
  | nil => simp
  | cons s l =>
    unfold seenAllB seenOneB at hs
    simp only [Bool.and_eq_true] at hs
    have h1 := hs.1.1.1.1
    unfold inB at h1
    have h1 := of_decide_eq_true h1
    have ih := seen_le hs.2 (by omega) (by omega)
    rw [List.length_cons]
    omega
structure DocIn (x : Do) : Prop where
  name : x.name.size ≤ 8
  from0 : 0 ≤ x.from_
  from1 : x.from_ ≤ 999999000
  text : x.text.length ≤ 200
  list : x.list.length ≤ 8
  ops : sumN totEn x.list ≤ 6400
  seen : x.seen.length ≤ 8
  head : headRevT x = x.from_ + (x.list.length : Int)
theorem docB_in {x : Do} (h : docB x = true) : DocIn x := by
  have hh := docB_of h
  unfold docB at h
  simp only [Bool.and_eq_true] at h
  obtain ⟨⟨⟨⟨⟨h1, h2⟩, h3⟩, h4⟩, h5⟩, h6⟩ := h
  unfold nameB inB at h1
  rw [Bool.and_eq_true] at h1
  have h1 := of_decide_eq_true h1.2
  unfold okText at h3
  rw [Bool.and_eq_true] at h3
  have h3 := of_decide_eq_true h3.2
  have h4 := of_decide_eq_true h4
  have h5 := chain_tot h5
  exact ⟨by omega, hh.1, hh.2.1, h3, h4, by omega, seen_8 h6, hh.2.2.2⟩
theorem sumN_drop {α : Type} (f : α → Nat) : ∀ (l : List α) (k : Nat), sumN f (l.drop k) ≤ sumN f l
  | _, 0 => by simp
  | [], k + 1 => by simp
  | x :: l, k + 1 => by
    have := sumN_drop f l k
    rw [List.drop_succ_cons, sumN_cons]
    omega
theorem docB_chain {x : Do} (h : docB x = true) : chainGo x.list x.text = true := by
  unfold docB at h
  simp only [Bool.and_eq_true] at h
  exact h.1.2
theorem smEns_drop {l : List En} (h : SmEns l) (m : Nat) : SmEns (l.drop m) := by
  unfold SmEns totEns at *
  have := sumN_drop totEn l m
  rw [List.length_drop]
  omega
end Go.Proofs.YtgfbcpcfdlnbhabGreatDoor.low


/-
  One word for the memory that a function has made so far: a list of items, each a block of its own (a variable's box) or a datum of its own with its blocks, all apart; the caller's memory is as it was.
-/
namespace Go.Proofs.YtgfbcpcfdlnbhabGreatDoor.low
open Go.RowKit
set_option linter.unusedVariables false

inductive It where
  | bx (g : Nat) (o : Obj)
  | dt (d : Dat) (v : Value) (b : List Nat)
  | rd (d : Dat) (v : Value) (b : List Nat)
def It.bs : It → List Nat
  | .bx g _ => [g]
  | .dt _ _ b => b
  | .rd _ _ b => b
/-- a box holds its object; a datum is owned; the third kind: a value that reads as a datum out of these blocks alone -/
def It.ok (W : World) : It → Prop
  | .bx g o => W.heap[g]? = some o
  | .dt d v b => OwC W d v b
  | .rd d v b => (∀ q ∈ b, q < W.heap.size) ∧ ∀ W' : World, (∀ q ∈ b, W'.heap[q]? = W.heap[q]?) → ∀ B, (∀ q ∈ b, q < B) → RdC W' B d v
theorem It.keep {W W' : World} {x : It} (h : x.ok W) (hk : ∀ q ∈ x.bs, W'.heap[q]? = W.heap[q]?) : x.ok W' := by
  cases x with
  | bx g o => exact (hk g (by simp [It.bs])).trans h
  | dt d v b => exact OwC.keep d v b h hk
  | rd d v b =>
    refine ⟨fun q hq => ?_, fun W2 h2 => h.2 W2 (fun q hq => (h2 q hq).trans (hk q hq))⟩
    have h1 := h.1 q hq
    rcases Nat.lt_or_ge q W'.heap.size with h3 | h3
    · exact h3
    · have h4 := hk q hq
      rw [Array.getElem?_eq_none h3, Array.getElem?_eq_getElem h1] at h4
      cases h4
theorem It.lt {W : World} {x : It} (h : x.ok W) {q : Nat} (hq : q ∈ x.bs) : q < W.heap.size := by
  cases x with
  | bx g o => obtain rfl : q = g := by simpa [It.bs] using hq
              exact lt_of_some h
  | dt d v b => exact OwC.lt d v b h q hq
  | rd d v b => exact h.1 q hq
/-- the memory made since w0 -/
structure Ms (w0 : World) (L : List It) (W : World) : Prop where
  ok : ∀ x ∈ L, x.ok W
  nd : (L.flatMap It.bs).Nodup
  rg : ∀ q ∈ L.flatMap It.bs, w0.heap.size ≤ q
  bl : Below w0.heap.size w0 W
section
variable {w0 W W' : World} {L L' : List It} {x y : It}
theorem Ms.start (w : World) : Ms w [] w := ⟨fun x hx => (by simp at hx), by simp, fun q hq => (by simp at hq), Below.refl _ _⟩
theorem Ms.size (h : Ms w0 L W) : w0.heap.size ≤ W.heap.size := h.bl.size
theorem Ms.blt (h : Ms w0 L W) : ∀ q ∈ L.flatMap It.bs, q < W.heap.size := fun q hq => by
  obtain ⟨x, hx, hq⟩ := List.mem_flatMap.1 hq
  exact It.lt (h.ok x hx) hq
/-- all items' blocks unchanged -/
theorem Ms.keep (h : Ms w0 L W) (hk : ∀ q ∈ L.flatMap It.bs, W'.heap[q]? = W.heap[q]?) (hb : Below w0.heap.size w0 W') : Ms w0 L W' :=
  ⟨fun x hx => It.keep (h.ok x hx) (fun q hq => hk q (List.mem_flatMap.2 ⟨x, hx, hq⟩)), h.nd, h.rg, hb⟩
theorem Ms.past (h : Ms w0 L W) (hb : Below W.heap.size W W') : Ms w0 L W' := h.keep (fun q hq => hb.block q (h.blt q hq)) (h.bl.trans (hb.mono h.size))
theorem Ms.drew (h : Ms w0 L W) : Ms w0 L W.drew := h.past (Below.refl _ _).drew
theorem Ms.drewN (h : Ms w0 L W) (n : Nat) : Ms w0 L (W.drewN n) := h.past ⟨rfl, rfl, rfl, Nat.le_refl _, fun _ _ => rfl⟩
theorem Ms.arg (h : Ms w0 L W) {d : Dat} {v : Value} (hr : RdC w0 w0.heap.size d v) : RdC W W.heap.size d v := hr.past h.bl
theorem Ms.perm (h : Ms w0 L W) (hp : L.Perm L') : Ms w0 L' W :=
  ⟨fun x hx => h.ok x (hp.mem_iff.2 hx), (hp.flatMap_right It.bs).nodup_iff.1 h.nd, fun q hq => h.rg q ((hp.flatMap_right It.bs).mem_iff.2 hq), h.bl⟩
theorem Ms.tail (h : Ms w0 (x :: L) W) : Ms w0 L W :=
  ⟨fun y hy => h.ok y (by simp [hy]), by have := h.nd; rw [List.flatMap_cons, List.nodup_append] at this; exact this.2.1, fun q hq => h.rg q (by rw [List.flatMap_cons]; exact List.mem_append_right _ hq), h.bl⟩
theorem erase_perm : ∀ {L : List It} {i : Nat} {x : It}, L[i]? = some x → L.Perm (x :: L.eraseIdx i)
  | [], i, x, h => by simp at h
  | y :: L, 0, x, h => by
    simp at h
    subst h
    exact List.Perm.refl _
  | y :: L, i + 1, x, h => by
    have ih := erase_perm (L := L) (i := i) (x := x) (by simpa using h)
    exact (ih.cons y).trans (List.Perm.swap x y _)
/-- the i-th item in front -/
theorem Ms.pull (h : Ms w0 L W) {i : Nat} (hi : L[i]? = some x) (hL : x :: L.eraseIdx i = L') : Ms w0 L' W := by
  subst hL
  exact h.perm (erase_perm hi)
/-- items dropped -/
theorem Ms.drop (h : Ms w0 L W) (n : Nat) : Ms w0 (L.drop n) W := by
  induction n generalizing L with
  | zero => exact h
  | succ n ih =>
    cases L with
    | nil => exact h
    | cons x L => exact ih h.tail
theorem Ms.at_ (h : Ms w0 L W) {i : Nat} (hi : L[i]? = some x) : x.ok W := h.ok x (List.mem_of_getElem? hi)
theorem Ms.bsAt (h : Ms w0 L W) {i : Nat} (hi : L[i]? = some x) : ∀ q ∈ x.bs, w0.heap.size ≤ q ∧ q < W.heap.size := fun q hq =>
  ⟨h.rg q (List.mem_flatMap.2 ⟨x, List.mem_of_getElem? hi, hq⟩), It.lt (h.at_ hi) hq⟩
theorem Ms.ndAt (h : Ms w0 L W) {i : Nat} (hi : L[i]? = some x) : x.bs.Nodup := by
  have h2 := h.pull hi rfl
  have := h2.nd
  rw [List.flatMap_cons, List.nodup_append] at this
  exact this.1
theorem Ms.cell (h : Ms w0 L W) {i g j : Nat} {cs : Array Value} {T : TypeId} {u : Value} (hi : L[i]? = some (.bx g (.cells cs T (0, 0)))) (hu : cs[j]? = some u) : W.cell? ⟨g, j, none⟩ = some u := bxcell (h.at_ hi) hu
theorem Ms.free (h : Ms w0 L W) {i g j : Nat} {cs : Array Value} {T : TypeId} (hi : L[i]? = some (.bx g (.cells cs T (0, 0)))) : W.frozen? ⟨g, j, none⟩ = false := bxfree (h.at_ hi)
theorem Ms.glt (h : Ms w0 L W) {i g : Nat} {o : Obj} (hi : L[i]? = some (.bx g o)) : w0.heap.size ≤ g ∧ g < W.heap.size := h.bsAt hi g (by simp [It.bs])
theorem Ms.read (h : Ms w0 L W) {i : Nat} {d : Dat} {v : Value} {b : List Nat} (hi : L[i]? = some (.dt d v b)) : RdC W W.heap.size d v := OwC.read d v b (h.at_ hi) (fun q hq => (h.bsAt hi q hq).2)
theorem Ms.own (h : Ms w0 L W) {i : Nat} {d : Dat} {v : Value} {b : List Nat} (hi : L[i]? = some (.dt d v b)) : Own w0.heap.size W.heap.size W d v := ⟨b, h.at_ hi, h.ndAt hi, h.bsAt hi, Nat.le_refl _, h.size⟩
/-- an item more, of blocks that are new -/
theorem Ms.cons (h : Ms w0 L W) (hb : Below W.heap.size W W') (hx : x.ok W') (hn : x.bs.Nodup) (hq : ∀ q ∈ x.bs, W.heap.size ≤ q) : Ms w0 (x :: L) W' := by
  have h' := h.past hb
  refine ⟨fun y hy => ?_, ?_, fun q hq' => ?_, h'.bl⟩
  · rcases List.mem_cons.1 hy with rfl | hy
    · exact hx
    · exact h'.ok y hy
  · rw [List.flatMap_cons, List.nodup_append]
    exact ⟨hn, h.nd, fun a ha b hb e => by subst e; have := hq a ha; have := h.blt a hb; omega⟩
  · rw [List.flatMap_cons] at hq'
    rcases List.mem_append.1 hq' with hq' | hq'
    · exact Nat.le_trans h.size (hq q hq')
    · exact h.rg q hq'
theorem Ms.new (h : Ms w0 L W) (cs : Array Value) (T : TypeId) : Ms w0 (.bx W.heap.size (.cells cs T (0, 0)) :: L) (W.alloc (.cells cs T)) :=
  h.cons (alloc_below W _) (heap_alloc_new W _) (by simp [It.bs]) (fun q hq => by simp [It.bs] at hq; omega)
theorem Ms.got (h : Ms w0 L W) {d : Dat} {v : Value} (ho : Own W.heap.size W'.heap.size W' d v) (hb : Below W.heap.size W W') : ∃ b, Ms w0 (.dt d v b :: L) W' := by
  obtain ⟨b, h1, h2, h3, _, _⟩ := ho
  exact ⟨b, h.cons hb h1 h2 (fun q hq => (h3 q hq).1)⟩
theorem Ms.nil (h : Ms w0 L W) (e : TypeId) (sz : Nat) : Ms w0 (.dt (.rows e sz []) (.slice none 0 0) [] :: L) W :=
  h.cons (Below.refl _ _) ⟨[], [], World.ownsRow_nil _ _ _ _, ⟨rfl, rfl⟩, rfl⟩ (by simp [It.bs]) (fun q hq => by simp [It.bs] at hq)
/-- a literal slice without elements: its block is new -/
theorem Ms.empty (h : Ms w0 L W) (e : TypeId) (sz : Nat) : Ms w0 (.dt (.rows e sz []) (.slice (some ⟨W.heap.size, 0, none⟩) 0 0) [W.heap.size] :: L) (W.alloc (.cells #[] e)) :=
  h.cons (alloc_below W _) ⟨[], [], ⟨by simp, .inr ⟨W.heap.size, 0, #[], rfl, Nat.zero_le _, heap_alloc_new W _, Nat.le_refl _, by unfold maxLen; omega, by simp, by simp⟩⟩, ⟨rfl, rfl⟩, rfl⟩ (by simp [It.bs]) (fun q hq => by simp [It.bs] at hq; omega)
/-- the first item's blocks (and new ones) alone have changed: another item in its place -/
theorem Ms.turn (h : Ms w0 (x :: L) W) (hs : W.heap.size ≤ W'.heap.size) (hk : ∀ q, q < W.heap.size → q ∉ x.bs → W'.heap[q]? = W.heap[q]?) (hb : Below w0.heap.size w0 W') (hy : y.ok W') (hn : y.bs.Nodup) (hq : ∀ q ∈ y.bs, q ∈ x.bs ∨ W.heap.size ≤ q) : Ms w0 (y :: L) W' := by
  have hnd := h.nd
  rw [List.flatMap_cons, List.nodup_append] at hnd
  have hlt := h.tail.blt
  refine ⟨fun z hz => ?_, ?_, fun q hq' => ?_, hb⟩
  · rcases List.mem_cons.1 hz with rfl | hz
    · exact hy
    · exact It.keep (h.ok z (by simp [hz])) (fun q hq' => by
        have hm : q ∈ L.flatMap It.bs := List.mem_flatMap.2 ⟨z, hz, hq'⟩
        exact hk q (hlt q hm) (fun e => hnd.2.2 q e q hm rfl))
  · rw [List.flatMap_cons, List.nodup_append]
    refine ⟨hn, hnd.2.1, fun a ha b hb e => ?_⟩
    subst e
    rcases hq a ha with h1 | h1
    · exact hnd.2.2 a h1 a hb rfl
    · have := hlt a hb; omega
  · rw [List.flatMap_cons] at hq'
    rcases List.mem_append.1 hq' with hq' | hq'
    · rcases hq q hq' with h1 | h1
      · exact h.rg q (by rw [List.flatMap_cons]; exact List.mem_append_left _ h1)
      · exact Nat.le_trans h.size h1
    · exact h.tail.rg q hq'
/-- a box's cell written -/
theorem Ms.set {g j : Nat} {cs : Array Value} {T : TypeId} (h : Ms w0 (.bx g (.cells cs T (0, 0)) :: L) W) (u : Value) : Ms w0 (.bx g (.cells (cs.setIfInBounds j u) T (0, 0)) :: L) (W.setCell ⟨g, j, none⟩ u) := by
  have hg := h.glt (i := 0) rfl
  refine h.turn (by simp [World.setCell]) (fun q hq hn => Below.heap_setCell _ _ _ _ (fun e => hn (by simp [It.bs]; exact e))) (h.bl.setCell (p := ⟨g, j, none⟩) hg.1 u) (bxset (h.at_ (i := 0) rfl) u) (by simp [It.bs]) (fun q hq => .inl hq)
/-- a struct put together, from its last field on -/
theorem Ms.pk0 (h : Ms w0 L W) : Ms w0 (.dt (.agg []) (.agg #[]) [] :: L) W := h.cons (Below.refl _ _) ⟨[], rfl, rfl, rfl⟩ (by simp [It.bs]) (fun q hq => by simp [It.bs] at hq)
theorem Ms.pkF {ds : List Dat} {vs : List Value} {b : List Nat} {d : Dat} {u : Value} (h : Ms w0 (.dt (.agg ds) (.agg vs.toArray) b :: L) W) (hf : d.flat = some u) : Ms w0 (.dt (.agg (d :: ds)) (.agg (u :: vs).toArray) b :: L) W := by
  refine h.turn (Nat.le_refl _) (fun _ _ _ => rfl) h.bl ?_ (show b.Nodup from h.ndAt (i := 0) (x := .dt (.agg ds) (.agg vs.toArray) b) rfl) (fun q hq => .inl hq)
  obtain ⟨xs, hx, ho⟩ : OwC W (.agg ds) (.agg vs.toArray) b := h.at_ (i := 0) rfl
  have e : vs = xs := by injection hx with hx; simpa using congrArg Array.toList hx
  subst e
  exact ⟨u :: vs, rfl, u, vs, [], b, rfl, rfl, OwC.of_flat hf, ho⟩
theorem Ms.pkO {ds : List Dat} {vs : List Value} {b c : List Nat} {d : Dat} {v : Value} (h : Ms w0 (.dt (.agg ds) (.agg vs.toArray) b :: .dt d v c :: L) W) : Ms w0 (.dt (.agg (d :: ds)) (.agg (v :: vs).toArray) (c ++ b) :: L) W := by
  have hnd := h.nd
  rw [List.flatMap_cons, List.flatMap_cons, List.nodup_append, List.nodup_append] at hnd
  obtain ⟨xs, hx, ho⟩ : OwC W (.agg ds) (.agg vs.toArray) b := h.at_ (i := 0) rfl
  have e : vs = xs := by injection hx with hx; simpa using congrArg Array.toList hx
  subst e
  have hc : OwC W d v c := h.at_ (i := 1) rfl
  have hrg := h.rg
  rw [List.flatMap_cons, List.flatMap_cons] at hrg
  refine ⟨fun z hz => ?_, ?_, fun q hq => ?_, h.bl⟩
  · rcases List.mem_cons.1 hz with rfl | hz
    · exact ⟨v :: vs, rfl, v, vs, c, b, rfl, rfl, hc, ho⟩
    · exact h.ok z (by simp [hz])
  · rw [List.flatMap_cons, List.nodup_append]
    refine ⟨?_, hnd.2.1.2.1, fun a ha a' ha' e => ?_⟩
    · show (c ++ b).Nodup
      rw [List.nodup_append]
      exact ⟨hnd.2.1.1, hnd.1, fun a ha a' ha' e => hnd.2.2 a' ha' a (List.mem_append_left _ ha) e.symm⟩
    · have ha : a ∈ c ++ b := ha
      rcases List.mem_append.1 ha with ha | ha
      · exact hnd.2.1.2.2 a ha a' ha' e
      · exact hnd.2.2 a ha a' (List.mem_append_right _ ha') e
  · rw [List.flatMap_cons] at hq
    rcases List.mem_append.1 hq with hq | hq
    · have hq : q ∈ c ++ b := hq
      rcases List.mem_append.1 hq with hq | hq
      · exact hrg q (List.mem_append_right _ (List.mem_append_left _ hq))
      · exact hrg q (List.mem_append_left _ hq)
    · exact hrg q (List.mem_append_right _ (List.mem_append_right _ hq))
end
end Go.Proofs.YtgfbcpcfdlnbhabGreatDoor.low


/-
  Appending in the words of Ms: rows added to an owned slice, the memory behind them handed over; in a plain region and in one that draws its order.
-/
namespace Go.Proofs.YtgfbcpcfdlnbhabGreatDoor.low
open Go.RowKit
set_option linter.unusedVariables false
section
variable {w0 W W' : World} {L Y : List It}
theorem Ms.grow {e : TypeId} {sz : Nat} {ds rs : List (List Dat)} {v : Value} {b c : List Nat} {news : List Value} (h : Ms w0 (.dt (.rows e sz ds) v b :: (Y ++ L)) W) (hr : OwR W sz rs news c) (hcn : c.Nodup) (hc : ∀ q ∈ c, q ∈ Y.flatMap It.bs) :
    ∃ xs, W.ownsRow 0 e sz v ds.length xs ∧ ∀ g n cap W', W'.ownsRow 0 e sz (.slice (some ⟨g, 0, none⟩) n cap) (ds ++ rs).length (xs ++ news) → W.grownBy W' v.ownBlock → (v.ownBlock = some g ∨ g = W.heap.size) → g < W'.heap.size → ∃ b', Ms w0 (.dt (.rows e sz (ds ++ rs)) (.slice (some ⟨g, 0, none⟩) n cap) b' :: L) W' := by
  have hnd := h.nd
  have hrg := h.rg
  have hlt' := h.blt
  rw [List.flatMap_cons, List.flatMap_append] at hnd hrg hlt'
  obtain ⟨xs, cs, ho, hor, hb⟩ : OwC W (.rows e sz ds) v b := h.at_ (i := 0) rfl
  refine ⟨xs, ho, fun g n cap W' hown hg hat hlt => ?_⟩
  have hbs : (It.dt (.rows e sz ds) v b).bs = v.ownBlock.toList ++ cs := hb
  rw [hbs] at hnd hrg hlt'
  obtain ⟨n1, n2, n3⟩ := List.nodup_append.1 hnd
  obtain ⟨m1, m2, m3⟩ := List.nodup_append.1 n1
  obtain ⟨k1, k2, k3⟩ := List.nodup_append.1 n2
  have inL : ∀ q ∈ L.flatMap It.bs, q < W.heap.size ∧ ¬ v.ownBlock = some q ∧ q ∉ cs ∧ q ∉ c := fun q hq => by
    have hm : q ∈ Y.flatMap It.bs ++ L.flatMap It.bs := List.mem_append_right _ hq
    refine ⟨hlt' q (List.mem_append_right _ hm), fun e => n3 q (List.mem_append_left _ (by rw [e]; simp)) q hm rfl, fun e => n3 q (List.mem_append_right _ e) q hm rfl, fun e => k3 q (hc q e) q hq rfl⟩
  have inc : ∀ q ∈ c, q < W.heap.size ∧ ¬ v.ownBlock = some q ∧ q ∉ cs := fun q hq => by
    have hm : q ∈ Y.flatMap It.bs ++ L.flatMap It.bs := List.mem_append_left _ (hc q hq)
    exact ⟨hlt' q (List.mem_append_right _ hm), fun e => n3 q (List.mem_append_left _ (by rw [e]; simp)) q hm rfl, fun e => n3 q (List.mem_append_right _ e) q hm rfl⟩
  have incs : ∀ q ∈ cs, q < W.heap.size ∧ ¬ v.ownBlock = some q := fun q hq => ⟨hlt' q (List.mem_append_left _ (List.mem_append_right _ hq)), fun e => m3 q (by rw [e]; simp) q hq rfl⟩
  have hkeep : ∀ q, q < W.heap.size → ¬ v.ownBlock = some q → W'.heap[q]? = W.heap[q]? := fun q h1 h2 => hg.block q h1 (fun e => h2 e.symm)
  have hor' := (OwR.keep sz _ _ _ hor (fun q hq => hkeep q (incs q hq).1 (incs q hq).2)).append (OwR.keep sz _ _ _ hr (fun q hq => hkeep q (inc q hq).1 (inc q hq).2.1))
  have gnew : ∀ q, q < W.heap.size → ¬ v.ownBlock = some q → ¬ g = q := fun q h1 h2 e => by
    subst e
    rcases hat with e | e
    · exact h2 e
    · omega
  have glo : w0.heap.size ≤ g := by
    rcases hat with e | e
    · exact hrg g (List.mem_append_left _ (List.mem_append_left _ (by rw [e]; simp)))
    · have := h.size; omega
  refine ⟨g :: (cs ++ c), fun z hz => ?_, ?_, fun q hq => ?_, h.bl.grown hg h.size (fun k hk => hrg k (List.mem_append_left _ (List.mem_append_left _ (by rw [hk]; simp))))⟩
  · rcases List.mem_cons.1 hz with rfl | hz
    · exact ⟨xs ++ news, cs ++ c, hown, hor', rfl⟩
    · refine It.keep (h.ok z (by simp [hz])) (fun q hq => ?_)
      have hm : q ∈ L.flatMap It.bs := List.mem_flatMap.2 ⟨z, hz, hq⟩
      exact hkeep q (inL q hm).1 (inL q hm).2.1
  · rw [List.flatMap_cons, List.nodup_append]
    refine ⟨?_, k2, fun a ha a' ha' e => ?_⟩
    · show (g :: (cs ++ c)).Nodup
      refine List.nodup_cons.2 ⟨fun hq => ?_, List.nodup_append.2 ⟨m2, hcn, fun a ha a' ha' e => ?_⟩⟩
      · rcases List.mem_append.1 hq with hq | hq
        · exact gnew g (incs g hq).1 (incs g hq).2 rfl
        · exact gnew g (inc g hq).1 (inc g hq).2.1 rfl
      · subst e
        exact (inc a ha').2.2 ha
    · subst e
      have ha : a ∈ g :: (cs ++ c) := ha
      rcases List.mem_cons.1 ha with rfl | ha
      · exact gnew a (inL a ha').1 (inL a ha').2.1 rfl
      · rcases List.mem_append.1 ha with ha | ha
        · exact (inL a ha').2.2.1 ha
        · exact (inL a ha').2.2.2 ha
  · rw [List.flatMap_cons] at hq
    rcases List.mem_append.1 hq with hq | hq
    · have hq : q ∈ g :: (cs ++ c) := hq
      rcases List.mem_cons.1 hq with rfl | hq
      · exact glo
      · rcases List.mem_append.1 hq with hq | hq
        · exact hrg q (List.mem_append_left _ (List.mem_append_right _ hq))
        · exact hrg q (List.mem_append_right _ (List.mem_append_left _ (hc q hq)))
    · exact hrg q (List.mem_append_right _ (List.mem_append_right _ hq))
end
section
variable {w0 W W' : World} {L Y : List It}
theorem agg_inj {xs ys : List Value} (h : Value.agg xs.toArray = Value.agg ys.toArray) : xs = ys := by
  have h2 := congrArg (fun v => match v with | Value.agg a => a.toList | _ => []) h
  simpa using h2
theorem bytes_fit {n b : Nat} (h : n ≤ 2000001) (hb : b ≤ 100000) : n * b ≤ 140737488355328 := by
  have h1 : n * b ≤ n * 100000 := Nat.mul_le_mul_left n hb
  omega
/-- what the type's entry says of the elements -/
def Elt (t e : TypeId) (z : Value) (sz bytes : Nat) : Prop := ∃ i, Tryz.prog.underlying t = some (.slice e) ∧ Tryz.prog.info? e = some i ∧ i.zero = some z ∧ i.size = sz ∧ i.bytes = bytes ∧ z.cells.size = sz ∧ 0 < sz ∧ bytes ≤ 100000
/-- one element more, its memory handed over -/
theorem wpList_ms1 {ops : Array Oper} {rest : List Oper} {o : Oper} {a : Act} {Q : Exit → Act → World → Prop} (hgd : o.guard = none) (s x : Operand) (t : TypeId)
    (ho : o.op = .call { callee := .builtin .append, args := #[s, x], argTypes := #[t, t] }) {e : TypeId} {z : Value} {sz bytes : Nat} (he : Elt t e z sz bytes) {ds : List (List Dat)} {r : List Dat} {v : Value} {ys : List Value} {b c : List Nat}
    (h : Ms w0 (.dt (.rows e sz ds) v b :: .dt (.agg r) (.agg ys.toArray) c :: L) W) (hs : a.eval s = v) (hlen : ds.length ≤ 2000000) (g0 c0 : Nat) (hx : a.eval x = .slice (some ⟨g0, 0, none⟩) 1 c0) (hcell : W.heap[g0]? = some (.cells ys.toArray e (0, 0))) (hl : ys.length = sz) (h1 : ∀ u ∈ ys, u.oneCell' = true)
    (K : ∀ A' c' W' b', Ms w0 (.dt (.rows e sz (ds ++ [r])) (.slice A' (ds.length + 1) c') b' :: L) W' → wpList Tryz.prog ops Q rest (a.put o.dst (.slice A' (ds.length + 1) c')) W') : wpList Tryz.prog ops Q (o :: rest) a W := by
  obtain ⟨i, ht, hi, hz, hsize, hby, hzs, hsz, hbm⟩ := he
  obtain ⟨ys', hy', hor⟩ : OwC W (.agg r) (.agg ys.toArray) c := h.at_ (i := 1) rfl
  obtain rfl : ys = ys' := agg_inj hy'
  obtain ⟨xs, hown, grow⟩ := Ms.grow (Y := [.dt (.agg r) (.agg ys.toArray) c]) h (OwR.one hor hl) (h.ndAt (i := 1) (x := .dt (.agg r) (.agg ys.toArray) c) rfl) (fun q hq => by simpa [It.bs] using hq)
  refine wpList_append_lies _ hgd s x t ho 0 e i z sz bytes ht hi hz hsize hby hzs hsz v ds.length xs hs hown ⟨g0, 0, none⟩ 1 c0 ys hx (by simp [hl]) (fun j u hu => ?_) h1 (by omega) (by unfold maxLen; omega) ?_ (Nat.zero_le _) _ rfl ?_
  · rw [add_at, Nat.zero_add]
    exact bxcell hcell (by simpa using hu)
  · exact bytes_fit (by omega) hbm
  · intro g cap W' hown' hg hat hlt
    obtain ⟨b', hm⟩ := grow g (ds.length + 1) cap W' (by rw [List.length_append]; exact hown') hg hat hlt
    exact K _ cap W' b' hm
/-- rows without memory behind them: what a slice of such reads as, its cells hold -/
def FlatR (rs : List (List Dat)) (sz : Nat) : Prop := ∀ r ∈ rs, r.length = sz ∧ ∀ d ∈ r, ∃ u : Value, d.flat = some u ∧ u.oneCell' = true
theorem RdC.flatV {w : World} {B : Nat} {d : Dat} {u v : Value} (hf : d.flat = some u) (h : RdC w B d v) : v = u := by
  cases d with
  | int n => injection hf with hf; rw [← hf]; exact h
  | bool n => injection hf with hf; rw [← hf]; exact h
  | str n => injection hf with hf; rw [← hf]; exact h
  | rows e sz ds => cases hf
  | agg ds => cases hf
theorem RdL.flat {w : World} {B : Nat} {ad : Addr} : ∀ {r : List Dat} {o : Nat}, (∀ d ∈ r, ∃ u : Value, d.flat = some u ∧ u.oneCell' = true) → RdL w B ad o r → ∃ ys : List Value, ys.length = r.length ∧ OwL w r ys [] ∧ (∀ u ∈ ys, u.oneCell' = true) ∧ ∀ j u, ys[j]? = some u → w.cell? (ad.add (o + j)) = some u
  | [], o, _, _ => ⟨[], rfl, ⟨rfl, rfl⟩, by simp, fun j u h => by simp at h⟩
  | d :: r, o, hf, h => by
    obtain ⟨⟨v, hv, hd⟩, h2⟩ := h
    obtain ⟨u, hu, h1⟩ := hf d (by simp)
    obtain rfl := RdC.flatV hu hd
    obtain ⟨ys, k1, k2, k3, k4⟩ := RdL.flat (r := r) (o := o + 1) (fun d hd => hf d (by simp [hd])) h2
    refine ⟨v :: ys, by simp [k1], ⟨v, ys, [], [], rfl, rfl, OwC.of_flat hu, k2⟩, fun u hu => ?_, fun j u hj => ?_⟩
    · rcases List.mem_cons.1 hu with rfl | hu
      · exact h1
      · exact k3 u hu
    · cases j with
      | zero => simp at hj; subst hj; exact hv
      | succ j => have := k4 j u (by simpa using hj); rw [show o + (j + 1) = o + 1 + j by omega]; exact this
theorem RdR.flat {w : World} {B sz : Nat} {ad : Addr} : ∀ {rs : List (List Dat)} {o : Nat}, FlatR rs sz → RdR w B sz ad o rs → ∃ ys : List Value, ys.length = rs.length * sz ∧ OwR w sz rs ys [] ∧ (∀ u ∈ ys, u.oneCell' = true) ∧ ∀ j u, ys[j]? = some u → w.cell? (ad.add (o + j)) = some u
  | [], o, _, _ => ⟨[], by simp, ⟨rfl, rfl⟩, by simp, fun j u h => by simp at h⟩
  | r :: rs, o, hf, h => by
    obtain ⟨h1, h2⟩ := h
    have hl := (hf r (by simp)).1
    obtain ⟨y, k1, k2, k3, k4⟩ := RdL.flat (hf r (by simp)).2 h1
    obtain ⟨ys, l1, l2, l3, l4⟩ := RdR.flat (rs := rs) (o := o + sz) (fun q hq => hf q (by simp [hq])) h2
    refine ⟨y ++ ys, by rw [List.length_append, k1, l1, hl, List.length_cons, Nat.add_mul]; omega, ⟨y, ys, [], [], rfl, by rw [k1, hl], rfl, k2, l2⟩, fun u hu => ?_, fun j u hj => ?_⟩
    · rcases List.mem_append.1 hu with hu | hu
      · exact k3 u hu
      · exact l3 u hu
    · by_cases hlt : j < y.length
      · rw [List.getElem?_append_left hlt] at hj
        exact k4 j u hj
      · rw [List.getElem?_append_right (by omega)] at hj
        have := l4 _ u hj
        rw [show o + j = o + sz + (j - y.length) by omega]
        exact this
theorem wpList_msAll {ops : Array Oper} {rest : List Oper} {o : Oper} {a : Act} {Q : Exit → Act → World → Prop} (hgd : o.guard = none) (s x : Operand) (t : TypeId)
    (ho : o.op = .call { callee := .builtin .append, args := #[s, x], argTypes := #[t, t] }) {e : TypeId} {z : Value} {sz bytes : Nat} (he : Elt t e z sz bytes) {ds rs : List (List Dat)} {v : Value} {b : List Nat}
    (h : Ms w0 (.dt (.rows e sz ds) v b :: L) W) (hs : a.eval s = v) (A : Option Addr) (m c0 : Nat) (hx : a.eval x = .slice A m c0) (hrd : RdC W W.heap.size (.rows e sz rs) (.slice A m c0)) (hfl : FlatR rs sz) (hlen : ds.length + rs.length ≤ 2000000)
    (K : ∀ A' c' W' b', Ms w0 (.dt (.rows e sz (ds ++ rs)) (.slice A' (ds.length + m) c') b' :: L) W' → wpList Tryz.prog ops Q rest (a.put o.dst (.slice A' (ds.length + m) c')) W') : wpList Tryz.prog ops Q (o :: rest) a W := by
  obtain ⟨i, ht, hi, hz, hsize, hby, hzs, hsz, hbm⟩ := he
  obtain ⟨A', c', hv, hc, hrd⟩ := hrd
  injection hv with e1 e2 e3
  subst e1 e2 e3
  by_cases h0 : 0 < rs.length
  · obtain ⟨ad, rfl, hbk, hsp, hrr⟩ := hrd h0
    obtain ⟨ys, k1, k2, k3, k4⟩ := RdR.flat hfl hrr
    obtain ⟨xs, hown, grow⟩ := Ms.grow (Y := []) h k2 (by simp) (by simp)
    refine wpList_append_lies _ hgd s x t ho 0 e i z sz bytes ht hi hz hsize hby hzs hsz v ds.length xs hs hown ad rs.length c0 ys hx k1 (fun j u hu => by have := k4 j u hu; simpa using this) k3 h0 (by unfold maxLen; omega) ?_ (Nat.zero_le _) _ rfl ?_
    · exact bytes_fit (by omega) hbm
    · intro g cap W' hown' hg hat hlt
      obtain ⟨b', hm⟩ := grow g (ds.length + rs.length) cap W' (by rw [List.length_append]; exact hown') hg hat hlt
      exact K _ cap W' b' hm
  · obtain rfl : rs = [] := List.eq_nil_of_length_eq_zero (by omega)
    obtain ⟨xs, cs, hown, _⟩ : OwC W (.rows e sz ds) v b := h.at_ (i := 0) rfl
    refine wpList_append_zero hgd s x t ho 0 e i sz ht hi v ds.length xs hs hown A c0 hx ?_
    obtain ⟨Av, cv, rfl⟩ := own_form hown
    exact K Av cv W b (by simpa using h)
end
end Go.Proofs.YtgfbcpcfdlnbhabGreatDoor.low


/-
  More of Ms: a box written whole, some of the items alone, what new memory is called.
-/
namespace Go.Proofs.YtgfbcpcfdlnbhabGreatDoor.low
open Go.RowKit
set_option linter.unusedVariables false
section
variable {w0 W W' : World} {L L' : List It} {x y : It}
theorem putRow_cells {g : Nat} {T : TypeId} : ∀ {ys : List Value} {cs : Array Value} {o : Nat} {W : World}, o + ys.length = cs.size → W.heap[g]? = some (.cells cs T (0, 0)) → (putRow W g o ys).heap[g]? = some (.cells (cs.toList.take o ++ ys).toArray T (0, 0))
  | [], cs, o, W, hl, h => by
    rw [putRow, h]
    have e : cs.toList.take o = cs.toList := List.take_of_length_le (by simp at hl; simp; omega)
    simp [e]
  | y :: ys, cs, o, W, hl, h => by
    rw [putRow]
    simp only [List.length_cons] at hl
    have h1 := putRow_cells (ys := ys) (cs := cs.setIfInBounds o y) (o := o + 1) (by rw [Array.size_setIfInBounds]; omega) (bxset h y)
    rw [h1]
    have e : (cs.setIfInBounds o y).toList.take (o + 1) = cs.toList.take o ++ [y] := by
      rw [Array.toList_setIfInBounds, List.take_add_one, List.take_set_of_le (Nat.le_refl o)]
      congr 1
      rw [List.getElem?_set_self (by simp; omega)]
      rfl
    rw [e, List.append_assoc]
    rfl
/-- a box written whole -/
theorem Ms.putRow {g : Nat} {cs : Array Value} {T : TypeId} {ys : List Value} (h : Ms w0 (.bx g (.cells cs T (0, 0)) :: L) W) (hl : ys.length = cs.size) : Ms w0 (.bx g (.cells ys.toArray T (0, 0)) :: L) (low.putRow W g 0 ys) := by
  have hg := h.glt (i := 0) rfl
  have hk := putRow_cells (ys := ys) (o := 0) (by omega) (h.at_ (i := 0) (x := .bx g (.cells cs T (0, 0))) rfl)
  refine h.turn (Nat.le_of_eq (putRow_size g ys W 0).symm) (fun q hq hn => putRow_block g ys W 0 q (fun e => hn (by simp [It.bs]; exact e))) (putRow_below hg.1 ys W 0 h.bl) ?_ (by simp [It.bs]) (fun q hq => .inl hq)
  show (low.putRow W g 0 ys).heap[g]? = _
  simpa using hk
/-- two boxes are two blocks -/
theorem Ms.ne (h : Ms w0 L W) {i j g g' : Nat} {o o' : Obj} (hi : L[i]? = some (.bx g o)) (hj : L[j]? = some (.bx g' o')) (hij : i < j) : ¬ g = g' ∧ ¬ g' = g := by
  have key : ∀ (L : List It) (i j : Nat), i < j → (L.flatMap It.bs).Nodup → L[i]? = some (.bx g o) → L[j]? = some (.bx g' o') → ¬ g = g' := by
    intro L
    induction L with
    | nil => intro i j _ _ hi; simp at hi
    | cons x L ih =>
      intro i j hij hnd hi hj
      rw [List.flatMap_cons, List.nodup_append] at hnd
      cases j with
      | zero => omega
      | succ j =>
        simp only [List.getElem?_cons_succ] at hj
        cases i with
        | zero =>
          simp only [List.getElem?_cons_zero, Option.some.injEq] at hi
          subst hi
          intro e
          subst e
          exact hnd.2.2 g (by simp [It.bs]) g (List.mem_flatMap.2 ⟨_, List.mem_of_getElem? hj, by simp [It.bs]⟩) rfl
        | succ i =>
          simp only [List.getElem?_cons_succ] at hi
          exact ih i j (by omega) hnd.2.1 hi hj
  have := key L i j hij h.nd hi hj
  exact ⟨this, fun e => this e.symm⟩
/-- the items at these places, in this order (each place at most once) -/
theorem Ms.pick (h : Ms w0 L W) : ∀ {ks : List Nat} {L' : List It}, ks.Nodup → ks.map (fun k => L[k]?) = L'.map some → Ms w0 L' W := fun {ks L'} hn hm => by
  have hmem : ∀ x ∈ L', x ∈ L := fun x hx => by
    have : some x ∈ ks.map (fun k => L[k]?) := by rw [hm]; exact List.mem_map_of_mem hx
    obtain ⟨k, _, hk⟩ := List.mem_map.1 this
    exact List.mem_of_getElem? hk
  refine ⟨fun x hx => h.ok x (hmem x hx), ?_, fun q hq => ?_, h.bl⟩
  · have key : ∀ (L : List It) (ks : List Nat) (L' : List It), (L.flatMap It.bs).Nodup → ks.Nodup → ks.map (fun k => L[k]?) = L'.map some → (L'.flatMap It.bs).Nodup := by
      intro L ks
      induction ks with
      | nil => intro L' _ _ hm; cases L' with | nil => simp | cons _ _ => simp at hm
      | cons k ks ih =>
        intro L' hnd hn hm
        cases L' with
        | nil => simp at hm
        | cons x L' =>
          simp only [List.map_cons, List.cons.injEq] at hm
          obtain ⟨hk, hm⟩ := hm
          have hn' := List.nodup_cons.1 hn
          have ih' := ih L' hnd hn'.2 hm
          rw [List.flatMap_cons, List.nodup_append]
          have hp := erase_perm hk
          have hnd2 := (hp.flatMap_right It.bs).nodup_iff.1 hnd
          rw [List.flatMap_cons, List.nodup_append] at hnd2
          refine ⟨hnd2.1, ih', fun a ha b hb e => ?_⟩
          subst e
          obtain ⟨y, hy, hay⟩ := List.mem_flatMap.1 hb
          have : some y ∈ ks.map (fun k => L[k]?) := by rw [hm]; exact List.mem_map_of_mem hy
          obtain ⟨k2, hk2, hky⟩ := List.mem_map.1 this
          have hne : k2 ≠ k := fun e => hn'.1 (e ▸ hk2)
          have hmem2 : y ∈ L.eraseIdx k := by
            rw [List.mem_eraseIdx_iff_getElem?]
            exact ⟨k2, hne, hky⟩
          exact hnd2.2.2 a ha a (List.mem_flatMap.2 ⟨y, hmem2, hay⟩) rfl
    exact key L ks L' h.nd hn hm
  · obtain ⟨x, hx, hq⟩ := List.mem_flatMap.1 hq
    exact h.rg q (List.mem_flatMap.2 ⟨x, hmem x hx, hq⟩)
/-- the value owned comes with what else is known: an 'OwnPost' out of the first item -/
theorem Ms.post {d : Dat} {v : Value} {b : List Nat} (h : Ms w0 (.dt d v b :: L) W) : OwnPost d w0 (.returned v) W := ⟨v, rfl, h.own (i := 0) rfl, h.bl⟩
theorem Ms.resB {d : Dat} {v : Value} {b : List Nat} (ok : Bool) (h : Ms w0 (.dt d v b :: L) W) : ResB d ok w0 (.returned (.tuple #[v, .bool ok])) W := ⟨v, rfl, h.own (i := 0) rfl, h.bl⟩
theorem RdL.shift {w : World} {B b off k : Nat} : ∀ {ds : List Dat} {o : Nat}, RdL w B ⟨b, off, none⟩ (k + o) ds → RdL w B ⟨b, off + k, none⟩ o ds
  | [], _, _ => trivial
  | d :: ds, o, h => by
    obtain ⟨⟨v, hv, hd⟩, h2⟩ := h
    refine ⟨⟨v, ?_, hd⟩, RdL.shift (o := o + 1) (by rw [← Nat.add_assoc]; exact h2)⟩
    rw [add_at] at hv ⊢
    rw [Nat.add_assoc]
    exact hv
theorem RdR.shift {w : World} {B b off k sz : Nat} : ∀ {rs : List (List Dat)} {o : Nat}, RdR w B sz ⟨b, off, none⟩ (k + o) rs → RdR w B sz ⟨b, off + k, none⟩ o rs
  | [], _, _ => trivial
  | r :: rs, o, h => ⟨RdL.shift h.1, RdR.shift (o := o + sz) (by rw [← Nat.add_assoc]; exact h.2)⟩
theorem RdR.drop_ {w : World} {B sz : Nat} {ad : Addr} : ∀ {m : Nat} {rs : List (List Dat)} {o : Nat}, RdR w B sz ad o rs → RdR w B sz ad (o + m * sz) (rs.drop m)
  | 0, rs, o, h => by simpa using h
  | m + 1, [], o, h => by simp [RdR]
  | m + 1, r :: rs, o, h => by
    have := RdR.drop_ (m := m) h.2
    rw [List.drop_succ_cons, show o + (m + 1) * sz = o + sz + m * sz by rw [Nat.succ_mul]; omega]
    exact this
theorem RdR.take_ {w : World} {B sz : Nat} {ad : Addr} : ∀ {m : Nat} {rs : List (List Dat)} {o : Nat}, RdR w B sz ad o rs → RdR w B sz ad o (rs.take m)
  | 0, rs, o, h => trivial
  | m + 1, [], o, h => h
  | m + 1, r :: rs, o, h => ⟨h.1, RdR.take_ h.2⟩
theorem RdC.drop_ {w : World} {B b off n c sz : Nat} {e : TypeId} {ds : List (List Dat)} (m : Nat) (h : RdC w B (.rows e sz ds) (.slice (some ⟨b, off, none⟩) n c)) : RdC w B (.rows e sz (ds.drop m)) (.slice (some ⟨b, off + m * sz, none⟩) (n - m) (c - m)) := by
  obtain ⟨A, c', hv, hc, hr⟩ := h
  injection hv with e1 e2 e3
  subst e2 e3
  refine ⟨_, _, by rw [List.length_drop], by rw [List.length_drop]; omega, fun h0 => ?_⟩
  rw [List.length_drop] at h0
  obtain ⟨ad, hA, hb, hs, hr⟩ := hr (by omega)
  rw [← e1] at hA
  injection hA with hA
  subst hA
  refine ⟨_, rfl, hb, .inr rfl, RdR.shift ?_⟩
  have := RdR.drop_ (m := m) hr
  rw [Nat.zero_add] at this
  exact this
theorem sliceV {w : World} {B sz : Nat} {e : TypeId} {ds : List (List Dat)} {v : Value} (h : RdC w B (.rows e sz ds) v) : ∃ A n c, v = .slice A n c := by
  obtain ⟨A, c, hv, _⟩ := h
  exact ⟨A, _, c, hv⟩
theorem RdC.cap_le {w : World} {B n c sz : Nat} {A : Option Addr} {e : TypeId} {ds : List (List Dat)} (h : RdC w B (.rows e sz ds) (.slice A n c)) : n ≤ c := by
  obtain ⟨A', c', hv, hc, hr⟩ := h
  injection hv with e1 e2 e3
  omega
theorem RdC.take_ {w : World} {B n c sz : Nat} {A : Option Addr} {e : TypeId} {ds : List (List Dat)} {m : Nat} (h : RdC w B (.rows e sz ds) (.slice A n c)) (hm : m ≤ ds.length) : RdC w B (.rows e sz (ds.take m)) (.slice A m c) := by
  obtain ⟨A', c', hv, hc, hr⟩ := h
  injection hv with e1 e2 e3
  subst e1 e2 e3
  have hl : (ds.take m).length = m := by rw [List.length_take]; omega
  refine ⟨_, _, by rw [hl], by rw [hl]; omega, fun h0 => ?_⟩
  obtain ⟨ad, hA, hb, hs, hr⟩ := hr (by omega)
  exact ⟨ad, hA, hb, hs, RdR.take_ hr⟩
end
end Go.Proofs.YtgfbcpcfdlnbhabGreatDoor.low


/-
  Short words for a walk through a region that draws its order: an operation taken first, one that is passed over, one that alone may come up.
-/
namespace Go.Proofs.YtgfbcpcfdlnbhabGreatDoor.low
open Go.RowKit
set_option linter.unusedVariables false
section
variable {P : Program} {ops : Array Oper} {Q : Exit → Act → World → Prop} {md : Region.Mode} {S : World → Prop} {fuel : Nat} {listed : Array Bool} {a : Act} {w : World}
theorem tk {v : Value} (i s : Nat) {o : Op} {t : TypeId} {p : String} {af : Array Edge} {gd : Option (Nat × Bool)} (hi : ops[i]? = some ⟨some s, o, t, p, af, gd⟩) (hy : ∀ w, S w → (execOp a.eval ⟨some s, o, t, p, af, gd⟩).run P w = .ok (.value v) w) (hS : S w)
    (h : wpAnyH P md ops Q S fuel (listed.setIfInBounds i true) (a.put (some s) v) w) (hs : Region.noSelect ops = true := by kernel_rfl) (hf : Region.free md ops listed i = true := by kernel_rfl) (hr : (Region.ready md ops listed).contains i = true := by kernel_rfl)
    (hq : ∀ c a w, Q (.panic c) (a.put (some s) v) w → Q (.panic c) a w := by exact fun _ _ _ h => h) (hw : Region.wanted ⟨some s, o, t, p, af, gd⟩ (yielded ops a.tmps) = true := by rfl) : wpAnyH P md ops Q S (fuel + 1) listed a w :=
  wpAnyH_take hi hs hf hr hq (.inl ⟨hw, hy⟩) hS h
theorem tu (i s : Nat) {o : Op} {t : TypeId} {p : String} {af : Array Edge} {gd : Option (Nat × Bool)} (hi : ops[i]? = some ⟨some s, o, t, p, af, gd⟩) (hS : S w)
    (h : wpAnyH P md ops Q S fuel (listed.setIfInBounds i true) (a.put (some s) undef) w) (hs : Region.noSelect ops = true := by kernel_rfl) (hf : Region.free md ops listed i = true := by kernel_rfl) (hr : (Region.ready md ops listed).contains i = true := by kernel_rfl)
    (hq : ∀ c a w, Q (.panic c) (a.put (some s) undef) w → Q (.panic c) a w := by exact fun _ _ _ h => h) (hw : Region.wanted ⟨some s, o, t, p, af, gd⟩ (yielded ops a.tmps) = false := by rfl) : wpAnyH P md ops Q S (fuel + 1) listed a w :=
  wpAnyH_take hi hs hf hr hq (.inr ⟨hw, rfl⟩) hS h
theorem r1 (i : Nat) (d : Option Nat) {o : Op} {t : TypeId} {p : String} {af : Array Edge} {gd : Option (Nat × Bool)} (hi : ops[i]? = some ⟨d, o, t, p, af, gd⟩)
    (h : ∀ K' : Act → World → Prop, Shut (∀ a w, S w → (S w → wpAnyH P md ops Q S fuel (listed.setIfInBounds i true) a w) → K' a w) → if Region.wanted ⟨d, o, t, p, af, gd⟩ (yielded ops a.tmps) = true then Oper.wp P ⟨d, o, t, p, af, gd⟩ a w K' Q else K' (a.put d undef) w)
    (hr : Region.ready md ops listed = [i] := by kernel_rfl) : wpAnyH P md ops Q S (fuel + 1) listed a w := wpAnyH_ready hr (by simp) (AllReadyH.cons hi h AllReadyH.nil)
theorem pa {α : Type} {l : List α} {i : Nat} {x : α} : l.toArray.setIfInBounds i x = (l.set i x).toArray := List.setIfInBounds_toArray ..
theorem pb {α : Type} {l : List α} {x y : α} : (y :: l).set 0 x = x :: l := rfl
theorem pc {α : Type} {l : List α} {x y : α} {i : Nat} : (y :: l).set (i + 1) x = y :: l.set i x := rfl
end
section
variable {w0 W : World} {L : List It}
def pk (L : List It) : List Nat → List It
  | [] => []
  | k :: ks => match L[k]? with | some x => x :: pk L ks | none => pk L ks
theorem pk_ok {L : List It} : ∀ {ks : List Nat}, (∀ k ∈ ks, k < L.length) → ks.map (fun k => L[k]?) = (pk L ks).map some
  | [], _ => rfl
  | k :: ks, h => by
    have hk := h k (by simp)
    rw [pk, List.getElem?_eq_getElem hk]
    simp only [List.map_cons, List.getElem?_eq_getElem hk]
    rw [pk_ok (fun q hq => h q (by simp [hq]))]
theorem Ms.pk (h : Ms w0 L W) (ks : List Nat) (hn : ks.Nodup) (hl : ∀ k ∈ ks, k < L.length) : Ms w0 (low.pk L ks) W := h.pick hn (pk_ok hl)
theorem Ms.c1 {g : Nat} {T : TypeId} {a : Value} (h : Ms w0 L W) (i : Nat) (hi : L[i]? = some (.bx g (.cells #[a] T (0, 0)))) : W.cell? ⟨g, 0, none⟩ = some a := h.cell (j := 0) hi rfl
theorem Ms.f1 {g : Nat} {T : TypeId} {a : Value} (h : Ms w0 L W) (i : Nat) (hi : L[i]? = some (.bx g (.cells #[a] T (0, 0)))) : W.frozen? ⟨g, 0, none⟩ = false := h.free (j := 0) hi
theorem Ms.c2 {g : Nat} {T : TypeId} {a b : Value} (h : Ms w0 L W) (i : Nat) (hi : L[i]? = some (.bx g (.cells #[a, b] T (0, 0)))) : W.cell? ⟨g, 0, none⟩ = some a ∧ W.cell? ⟨g, 1, none⟩ = some b := ⟨h.cell (j := 0) hi rfl, h.cell (j := 1) hi rfl⟩
theorem Ms.f2 {g : Nat} {T : TypeId} {a b : Value} (h : Ms w0 L W) (i : Nat) (hi : L[i]? = some (.bx g (.cells #[a, b] T (0, 0)))) : W.frozen? ⟨g, 0, none⟩ = false ∧ W.frozen? ⟨g, 1, none⟩ = false := ⟨h.free (j := 0) hi, h.free (j := 1) hi⟩
theorem Ms.c3 {g : Nat} {T : TypeId} {a b c : Value} (h : Ms w0 L W) (i : Nat) (hi : L[i]? = some (.bx g (.cells #[a, b, c] T (0, 0)))) : W.cell? ⟨g, 0, none⟩ = some a ∧ W.cell? ⟨g, 1, none⟩ = some b ∧ W.cell? ⟨g, 2, none⟩ = some c := ⟨h.cell (j := 0) hi rfl, h.cell (j := 1) hi rfl, h.cell (j := 2) hi rfl⟩
theorem Ms.f3 {g : Nat} {T : TypeId} {a b c : Value} (h : Ms w0 L W) (i : Nat) (hi : L[i]? = some (.bx g (.cells #[a, b, c] T (0, 0)))) : W.frozen? ⟨g, 0, none⟩ = false ∧ W.frozen? ⟨g, 1, none⟩ = false ∧ W.frozen? ⟨g, 2, none⟩ = false := ⟨h.free (j := 0) hi, h.free (j := 1) hi, h.free (j := 2) hi⟩
theorem Ms.c4 {g : Nat} {T : TypeId} {a b c d : Value} (h : Ms w0 L W) (i : Nat) (hi : L[i]? = some (.bx g (.cells #[a, b, c, d] T (0, 0)))) : W.cell? ⟨g, 0, none⟩ = some a ∧ W.cell? ⟨g, 1, none⟩ = some b ∧ W.cell? ⟨g, 2, none⟩ = some c ∧ W.cell? ⟨g, 3, none⟩ = some d := ⟨h.cell (j := 0) hi rfl, h.cell (j := 1) hi rfl, h.cell (j := 2) hi rfl, h.cell (j := 3) hi rfl⟩
theorem Ms.f4 {g : Nat} {T : TypeId} {a b c d : Value} (h : Ms w0 L W) (i : Nat) (hi : L[i]? = some (.bx g (.cells #[a, b, c, d] T (0, 0)))) : W.frozen? ⟨g, 0, none⟩ = false ∧ W.frozen? ⟨g, 1, none⟩ = false ∧ W.frozen? ⟨g, 2, none⟩ = false ∧ W.frozen? ⟨g, 3, none⟩ = false := ⟨h.free (j := 0) hi, h.free (j := 1) hi, h.free (j := 2) hi, h.free (j := 3) hi⟩
theorem Ms.c5 {g : Nat} {T : TypeId} {a b c d e : Value} (h : Ms w0 L W) (i : Nat) (hi : L[i]? = some (.bx g (.cells #[a, b, c, d, e] T (0, 0)))) : W.cell? ⟨g, 0, none⟩ = some a ∧ W.cell? ⟨g, 1, none⟩ = some b ∧ W.cell? ⟨g, 2, none⟩ = some c ∧ W.cell? ⟨g, 3, none⟩ = some d ∧ W.cell? ⟨g, 4, none⟩ = some e := ⟨h.cell (j := 0) hi rfl, h.cell (j := 1) hi rfl, h.cell (j := 2) hi rfl, h.cell (j := 3) hi rfl, h.cell (j := 4) hi rfl⟩
theorem Ms.f5 {g : Nat} {T : TypeId} {a b c d e : Value} (h : Ms w0 L W) (i : Nat) (hi : L[i]? = some (.bx g (.cells #[a, b, c, d, e] T (0, 0)))) : W.frozen? ⟨g, 0, none⟩ = false ∧ W.frozen? ⟨g, 1, none⟩ = false ∧ W.frozen? ⟨g, 2, none⟩ = false ∧ W.frozen? ⟨g, 3, none⟩ = false ∧ W.frozen? ⟨g, 4, none⟩ = false := ⟨h.free (j := 0) hi, h.free (j := 1) hi, h.free (j := 2) hi, h.free (j := 3) hi, h.free (j := 4) hi⟩
theorem Ms.c6 {g : Nat} {T : TypeId} {a b c d e f : Value} (h : Ms w0 L W) (i : Nat) (hi : L[i]? = some (.bx g (.cells #[a, b, c, d, e, f] T (0, 0)))) : W.cell? ⟨g, 0, none⟩ = some a ∧ W.cell? ⟨g, 1, none⟩ = some b ∧ W.cell? ⟨g, 2, none⟩ = some c ∧ W.cell? ⟨g, 3, none⟩ = some d ∧ W.cell? ⟨g, 4, none⟩ = some e ∧ W.cell? ⟨g, 5, none⟩ = some f := ⟨h.cell (j := 0) hi rfl, h.cell (j := 1) hi rfl, h.cell (j := 2) hi rfl, h.cell (j := 3) hi rfl, h.cell (j := 4) hi rfl, h.cell (j := 5) hi rfl⟩
theorem Ms.f6 {g : Nat} {T : TypeId} {a b c d e f : Value} (h : Ms w0 L W) (i : Nat) (hi : L[i]? = some (.bx g (.cells #[a, b, c, d, e, f] T (0, 0)))) : W.frozen? ⟨g, 0, none⟩ = false ∧ W.frozen? ⟨g, 1, none⟩ = false ∧ W.frozen? ⟨g, 2, none⟩ = false ∧ W.frozen? ⟨g, 3, none⟩ = false ∧ W.frozen? ⟨g, 4, none⟩ = false ∧ W.frozen? ⟨g, 5, none⟩ = false := ⟨h.free (j := 0) hi, h.free (j := 1) hi, h.free (j := 2) hi, h.free (j := 3) hi, h.free (j := 4) hi, h.free (j := 5) hi⟩
theorem Ms.apart (h : Ms w0 L W) {i j : Nat} {x y : It} (hi : L[i]? = some x) (hj : L[j]? = some y) (hij : ¬ i = j) {q : Nat} (hq : q ∈ x.bs) (hq' : q ∈ y.bs) : False := by
  have key : ∀ (L : List It) (i j : Nat) (x y : It), i < j → (L.flatMap It.bs).Nodup → L[i]? = some x → L[j]? = some y → q ∈ x.bs → q ∈ y.bs → False := by
    intro L
    induction L with
    | nil => intro i j x y _ _ hi; simp at hi
    | cons z L ih =>
      intro i j x y hij hnd hi hj hq hq'
      rw [List.flatMap_cons, List.nodup_append] at hnd
      cases j with
      | zero => omega
      | succ j =>
        simp only [List.getElem?_cons_succ] at hj
        cases i with
        | zero =>
          simp only [List.getElem?_cons_zero, Option.some.injEq] at hi
          subst hi
          exact hnd.2.2 q hq q (List.mem_flatMap.2 ⟨_, List.mem_of_getElem? hj, hq'⟩) rfl
        | succ i =>
          simp only [List.getElem?_cons_succ] at hi
          exact ih i j x y (by omega) hnd.2.1 hi hj hq hq'
  rcases Nat.lt_or_gt_of_ne hij with hlt | hlt
  · exact key L i j x y hlt h.nd hi hj hq hq'
  · exact key L j i y x hlt h.nd hj hi hq' hq
/-- the world at hand gets a name -/
theorem Ms.name (h : Ms w0 L W) : ∃ W', W' = W ∧ Ms w0 L W' := ⟨W, rfl, h⟩
end
end Go.Proofs.YtgfbcpcfdlnbhabGreatDoor.low


/-
  Contracts of spec.l08Entry, l08Entries, l08Copy and Forget, in the words of Ms. Written by mkdoc8.py.
-/
namespace Go.Proofs.YtgfbcpcfdlnbhabGreatDoor.low
open Go.RowKit
set_option linter.unusedVariables false

theorem elt_of {t e : TypeId} {z : Value} {sz bytes : Nat} (hu : Tryz.prog.underlying t = some (.slice e)) (hi : (Tryz.prog.info? e).map (fun i => (i.zero, i.size, i.bytes)) = some (some z, sz, bytes)) (h1 : z.cells.size = sz) (h2 : 0 < sz) (h3 : bytes ≤ 100000) : Elt t e z sz bytes := by
  obtain ⟨i, k1, k2⟩ := Option.map_eq_some_iff.1 hi
  simp only [Prod.mk.injEq] at k2
  exact ⟨i, hu, k1, k2.1, k2.2.1, k2.2.2, h1, h2, h3⟩
theorem eltInt : Elt 22 3 (.int .i64 0) 1 8 := elt_of (by kernel_rfl) (by kernel_rfl) rfl (by omega) (by omega)
theorem eltEn : Elt 33 92 (.agg #[.int .i64 0, .int .i64 0, .slice none 0 0]) 3 40 := elt_of (by kernel_rfl) (by kernel_rfl) rfl (by omega) (by omega)
theorem eltSe : Elt 34 87 (.agg #[.int .i64 0, .int .i64 0, .int .i64 0]) 3 24 := elt_of (by kernel_rfl) (by kernel_rfl) rfl (by omega) (by omega)
theorem flatI (zs : List Int) : FlatR (zs.map fun z => [.int z]) 1 := fun r hr => by
  obtain ⟨z, _, rfl⟩ := List.mem_map.1 hr
  exact ⟨rfl, fun d hd => by rw [List.mem_singleton] at hd; subst hd; exact ⟨_, rfl, rfl⟩⟩
set_option maxRecDepth 100000 in
set_option maxHeartbeats 3200000 in
theorem specEntryC_d (v : Value) (x : En) (w : World) (h : RdC w w.heap.size (datEn x) v) (hs : SmEn x) : Calls Tryz.prog 88 #[v] w (OwnPost (datEn x) w) := by
  obtain ⟨A2, c2, rfl, r2⟩ := aggEn h
  have HR := Lib.hid r2
  clear h r2
  have HM := Lib.hid (Ms.start w)
  replace HM := Lib.hid (HM.out.new #[.int .i64 x.client, .int .i64 x.seq, .slice A2 x.o.length c2] 92)
  have hm := HM.out.new #[.int .i64 0, .int .i64 0, .slice none 0 0] 92
  simp only [World.size_alloc] at hm
  replace HM := Lib.hid hm
  clear hm
  go_enter Tryz.func88, Tryz.ntmps88
  go_wp2
  obtain ⟨W1, hW, hm⟩ := HM.out.name
  rw [← hW]
  replace HM := Lib.hid hm
  clear hm hW
  replace HM := Lib.hid (HM.out.drew)
  refine wp_region_held_drew (S := fun W => Ms w [.bx w.heap.size (.cells #[.int .i64 x.client, .int .i64 x.seq, .slice A2 x.o.length c2] 92 (0, 0))] W) (by kernel_rfl) (HM.out.pick (ks := [1]) (by decide) rfl) (fun hS => ?_)
  generalize W1.drew = W2 at HM hS ⊢
  refine tk (v := ?_) 0 3 rfl (fun w' hS' => ?_) hS ?_
  rotate_left
  · go_simp; all_goals (with_reducible rfl)
  try simp only [Act.put, pa, pb, pc]
  refine tk (v := ?_) 1 4 rfl (fun w' hS' => ?_) hS ?_
  rotate_left
  · (try dsimp only at hS'); obtain ⟨q0, q1, q2⟩ := hS'.c3 0 rfl; go_simp; all_goals (with_reducible rfl)
  try simp only [Act.put, pa, pb, pc]
  refine tk (v := ?_) 2 5 rfl (fun w' hS' => ?_) hS ?_
  rotate_left
  · go_simp; all_goals (with_reducible rfl)
  try simp only [Act.put, pa, pb, pc]
  refine tk (v := ?_) 3 6 rfl (fun w' hS' => ?_) hS ?_
  rotate_left
  · (try dsimp only at hS'); obtain ⟨q0, q1, q2⟩ := hS'.c3 0 rfl; go_simp; all_goals (with_reducible rfl)
  try simp only [Act.put, pa, pb, pc]
  refine tk (v := ?_) 4 7 rfl (fun w' hS' => ?_) hS ?_
  rotate_left
  · go_simp; all_goals (with_reducible rfl)
  try simp only [Act.put, pa, pb, pc]
  refine tk (v := ?_) 5 8 rfl (fun w' hS' => ?_) hS ?_
  rotate_left
  · (try dsimp only at hS'); obtain ⟨q0, q1, q2⟩ := hS'.c3 0 rfl; go_simp; all_goals (with_reducible rfl)
  try simp only [Act.put, pa, pb, pc]
  refine r1 6 (some 9) rfl (fun K hK => ?_)
  go_simp
  refine (specCopy_d _ x.o _ (HM.out.arg HR.out) hs.o).mono ?_
  rintro e' W3 ⟨v', rfl, o', b'⟩
  obtain ⟨An, cn, rfl⟩ := sliceP o'.read
  obtain ⟨bo, hm⟩ := HM.out.got o' b'
  clear o' b'
  replace HM := Lib.hid hm
  clear hm
  clear hS
  refine hK.out _ _ (HM.out.pick (ks := [2]) (by decide) rfl) (fun hS => ?_)
  clear hK K
  try simp only [Act.put, pa, pb, pc]
  refine tk (v := ?_) 7 10 rfl (fun w' hS' => ?_) hS ?_
  rotate_left
  · go_simp; all_goals (with_reducible rfl)
  try simp only [Act.put, pa, pb, pc]
  refine r1 8 none rfl (fun K hK => ?_)
  obtain ⟨kr0, kr1, kr2⟩ := HM.out.c3 1 rfl
  obtain ⟨fr0, fr1, fr2⟩ := HM.out.f3 1 rfl
  go_simp
  clear hS kr0 kr1 kr2 fr0 fr1 fr2
  have hm := HM.out.pk [1, 0, 2] (by decide) (by simp)
  simp only [low.pk, List.getElem?_cons_zero, List.getElem?_cons_succ] at hm
  replace HM := Lib.hid hm
  clear hm
  have hm := HM.out.putRow (ys := [.int .i64 x.client, .int .i64 x.seq, .slice An x.o.length cn]) rfl
  simp only [low.putRow, Nat.zero_add, Nat.reduceAdd] at hm
  replace HM := Lib.hid hm
  clear hm
  obtain ⟨W4, hW, hm⟩ := HM.out.name
  rw [← hW]
  replace HM := Lib.hid hm
  clear hm hW
  refine hK.out _ _ (HM.out.pick (ks := [2]) (by decide) rfl) (fun hS => ?_)
  clear hK K
  try simp only [Act.put, pa, pb, pc]
  refine wpAnyH_done (by kernel_rfl) ?_ _
  clear hS
  go_wp2
  obtain ⟨kr0, kr1, kr2⟩ := HM.out.c3 0 rfl
  have hm := HM.out.pk [1, 0, 2] (by decide) (by simp)
  simp only [low.pk, List.getElem?_cons_zero, List.getElem?_cons_succ] at hm
  replace HM := Lib.hid hm
  clear hm
  exact bodyPost_ret (v := .agg #[.int .i64 x.client, .int .i64 x.seq, .slice An x.o.length cn]) (by simp [results, Tryz.results88, go_sem, kr0, kr1, kr2]) rfl (show Ms w (.dt (datEn x) (.agg #[.int .i64 x.client, .int .i64 x.seq, .slice An x.o.length cn]) (bo ++ []) :: _) _ from (HM.out.pk0.pkO.pkF rfl).pkF rfl).post
set_option maxRecDepth 100000 in
set_option maxHeartbeats 3200000 in
theorem specEntriesC_d (v : Value) (l : List En) (w : World) (h : RdC w w.heap.size (encEns l) v) (hs : SmEns l) : Calls Tryz.prog 58 #[v] w (OwnPost (encEns l) w) := by
  obtain ⟨A, c, rfl⟩ := sliceEns h
  have hl := hs.len
  have HR := Lib.hid h
  clear h
  have HM := Lib.hid (Ms.start w)
  replace HM := Lib.hid (HM.out.empty 92 3)
  go_enter Tryz.func58, Tryz.ntmps58
  go_wp2
  go_loopw [3, 9] (fun ov i wr => ∃ (j : Nat) (A1 : Option Addr) (c1 : Nat) (bs : List Nat), j ≤ l.length ∧ i = .int .i64 (j : Int) ∧ ov = .slice A1 j c1 ∧ Ms w [.dt (.rows 92 3 ((l.take j).map encEn)) (.slice A1 j c1) bs] wr) (fun _ i _ => l.length - (intOf i).toNat)
  case atStart => exact ⟨0, _, _, _, Nat.zero_le _, rfl, rfl, HM.out⟩
  case round =>
    obtain ⟨j, A1, c1, bs, hj, rfl, rfl, hm⟩ := hrel
    clear HM
    have HM := Lib.hid hm
    clear hm
    by_cases hlt : j < l.length
    · obtain ⟨b, off, e, A5, c5, rfl, hbb, hp, y0, y1, y2, q2⟩ := atEns HR.out hlt
      have x0 := (HM.out.bl.cell (p := ⟨b, off + j * 3, none⟩) hbb).trans y0
      have x1 := (HM.out.bl.cell (p := ⟨b, off + j * 3 + 1, none⟩) hbb).trans y1
      have x2 := (HM.out.bl.cell (p := ⟨b, off + j * 3 + 2, none⟩) hbb).trans y2
      clear y0 y1 y2
      have hse := hs.at_ (List.mem_of_getElem? hp)
      have HT := Lib.hid (show (l.take (j + 1)).map encEn = (l.take j).map encEn ++ [encEn e] by rw [List.take_add_one, hp]; simp)
      clear hp
      replace HM := Lib.hid (HM.out.new #[.int .i64 e.client, .int .i64 e.seq, .slice A5 e.o.length c5] 92)
      go_wp2_with fail
      obtain ⟨W1, hW, hm⟩ := HM.out.name
      rw [← hW]
      replace HM := Lib.hid hm
      clear hm hW
      refine (specEntryC_d _ e _ (rdEn e (HM.out.arg q2)) hse).mono ?_
      rintro e' W2 ⟨v', rfl, o', b'⟩
      obtain ⟨A6, c6, rfl, -⟩ := aggEn o'.read
      obtain ⟨bn, hm⟩ := HM.out.got o' b'
      clear o' b'
      replace HM := Lib.hid hm
      clear hm
      clear x0 x1 x2
      replace HM := Lib.hid (HM.out.new #[.int .i64 e.client, .int .i64 e.seq, .slice A6 e.o.length c6] 92)
      have hm := HM.out.pk [3, 1, 0, 2] (by decide) (by simp)
      simp only [low.pk, List.getElem?_cons_zero, List.getElem?_cons_succ] at hm
      replace HM := Lib.hid hm
      clear hm
      go_wp2_with (at_builtin; refine wpList_ms1 rfl (.tmp 13) (.tmp 16) 33 rfl eltEn HM.out rfl (by simp; omega) W2.heap.size _ rfl (HM.out.at_ (i := 2) rfl) rfl (by simp [Value.oneCell']) ?_; intro A7 c7 w7 b7 hm)
      have e1 : ((l.take j).map encEn).length = j := by simp; omega
      rw [e1] at hm
      try rw [e1]
      rw [HT.out.symm] at hm
      have HM7 := Lib.hid hm
      clear hm e1 HM
      go_wp2
      go_roundw
      case rel => exact ⟨j + 1, A7, c7, b7, by omega, by go_num, rfl, HM7.out.pick (ks := [0]) (by decide) rfl⟩
      case measure => simp [intOf]; omega
    · obtain rfl : j = l.length := by omega
      have hm := HM.out
      rw [List.take_length] at hm
      have HM7 := Lib.hid hm
      clear hm HM
      go_wp2
      go_ret
      exact (show Ms w [.dt (encEns l) _ _] _ from HM7.out).post
end Go.Proofs.YtgfbcpcfdlnbhabGreatDoor.low


/-
  Contract of spec.Forget. Written by mkdoc8.py.
-/
namespace Go.Proofs.YtgfbcpcfdlnbhabGreatDoor.low
open Go.RowKit
set_option linter.unusedVariables false

theorem rdEns_drop0 {w : World} {B c m : Nat} {A : Option Addr} {l : List En} (h : l.length - m = 0) : RdC w B (encEns (l.drop m)) (.slice A 0 c) := by
  rw [List.drop_eq_nil_of_le (by omega)]
  exact ⟨A, c, rfl, Nat.zero_le _, fun h => absurd h (by simp)⟩
end Go.Proofs.YtgfbcpcfdlnbhabGreatDoor.low


/-
  More posts in the words of Ms: a datum beside numbers; values that are only read, out of new memory.
-/
namespace Go.Proofs.YtgfbcpcfdlnbhabGreatDoor.low
open Go.RowKit
set_option linter.unusedVariables false
/-- a datum of one's own, and a number -/
def ResN (d : Dat) (n : Int) (w : World) (e : Ending) (w' : World) : Prop := ∃ v, e = .returned (.tuple #[v, .int .i64 n]) ∧ Own w.heap.size w'.heap.size w' d v ∧ Below w.heap.size w w'
/-- a value that reads as a datum out of the blocks b alone, all of them in [lo, hi) -/
structure RdB (lo hi : Nat) (w : World) (d : Dat) (v : Value) (b : List Nat) : Prop where
  rd : ∀ W' : World, (∀ q ∈ b, W'.heap[q]? = w.heap[q]?) → ∀ B, (∀ q ∈ b, q < B) → RdC W' B d v
  rng : ∀ q ∈ b, lo ≤ q ∧ q < hi
  top : hi ≤ w.heap.size
  le : lo ≤ hi
def RdOwn (lo hi : Nat) (w : World) (d : Dat) (v : Value) : Prop := ∃ b, RdB lo hi w d v b
theorem RdOwn.blocks {lo hi : Nat} {w : World} {d : Dat} {v : Value} (h : RdOwn lo hi w d v) : ∃ b, RdB lo hi w d v b := h
theorem RdB.read {lo hi : Nat} {w : World} {d : Dat} {v : Value} {b : List Nat} (h : RdB lo hi w d v b) : RdC w w.heap.size d v := h.rd w (fun _ _ => rfl) _ (fun q hq => Nat.lt_of_lt_of_le (h.rng q hq).2 h.top)
theorem RdOwn.read {lo hi : Nat} {w : World} {d : Dat} {v : Value} (h : RdOwn lo hi w d v) : RdC w w.heap.size d v := by obtain ⟨b, h⟩ := h; exact h.read
theorem RdB.keep {lo hi : Nat} {w w' : World} {d : Dat} {v : Value} {b : List Nat} (h : RdB lo hi w d v b) (hk : ∀ q ∈ b, w'.heap[q]? = w.heap[q]?) (hs : w.heap.size ≤ w'.heap.size) : RdB lo hi w' d v b :=
  ⟨fun W2 h2 => h.rd W2 (fun q hq => (h2 q hq).trans (hk q hq)), h.rng, Nat.le_trans h.top hs, h.le⟩
theorem RdB.past {lo hi : Nat} {w w' : World} {d : Dat} {v : Value} {b : List Nat} (h : RdB lo hi w d v b) (hb : Below w.heap.size w w') : RdB lo hi w' d v b := h.keep (fun q hq => hb.block q (Nat.lt_of_lt_of_le (h.rng q hq).2 h.top)) hb.size
theorem RdB.touch {lo hi : Nat} {w w' : World} {d : Dat} {v : Value} {b : List Nat} {T : Nat → Prop} (h : RdB lo hi w d v b) (ht : Touch T w w') (hn : ∀ x ∈ b, ¬ T x) : RdB lo hi w' d v b := h.keep (fun q hq => ht.block q (hn q hq)) (Nat.le_of_eq ht.size.symm)
theorem RdB.apart {lo hi lo' hi' : Nat} {w w' : World} {d d' : Dat} {v v' : Value} {b b' : List Nat} {w0 : World} (h : RdB lo hi w d v b) (h' : OwB lo' hi' w0 d' v' b') (ht : Touch (fun x => x ∈ b') w w') (hd : hi ≤ lo' ∨ hi' ≤ lo) : RdB lo hi w' d v b :=
  h.touch ht (fun x hx hx' => by have h1 := h.rng x hx; have h2 := h'.rng x hx'; omega)
section
variable {w0 W W' : World} {L L' : List It} {x y : It}
theorem Ms.resN {d : Dat} {v : Value} {b : List Nat} (n : Int) (h : Ms w0 (.dt d v b :: L) W) : ResN d n w0 (.returned (.tuple #[v, .int .i64 n])) W := ⟨v, rfl, h.own (i := 0) rfl, h.bl⟩
end
end Go.Proofs.YtgfbcpcfdlnbhabGreatDoor.low


/-
  Contracts of spec.Fetch and Missed. Written by mkimp9.py.
-/
namespace Go.Proofs.YtgfbcpcfdlnbhabGreatDoor.low
open Go.RowKit
set_option linter.unusedVariables false

/-- why entries cannot be handed out; the entries -/
def checkCode (x : Do) (r : Int) : Int := if docB x = false then 1 else if headRevT x < r then 2 else if r < x.from_ then 3 else 0
def fetchT (x : Do) (r : Int) : List En := if checkCode x r = 0 then x.list.drop (r - x.from_).toNat else []
def missedT (x : Do) (r : Int) : Int := if checkCode x r = 0 then ((fetchT x r).length : Int) else -1
theorem check_no {x : Do} {r k : Int} (hk : ¬ k = 0) (h : checkCode x r = k) : checkCode x r = k ∧ fetchT x r = [] := ⟨h, by unfold fetchT; rw [h, if_neg hk]⟩
theorem check_ok {x : Do} {r : Int} (h : checkCode x r = 0) : docB x = true ∧ x.from_ ≤ r ∧ r ≤ headRevT x := by
  unfold checkCode at h
  split at h
  · omega
  · split at h
    · omega
    · split at h
      · omega
      · rename_i h1 _ _
        exact ⟨by simpa using h1, by omega, by omega⟩
theorem check_fetch {x : Do} {m : Nat} (h : checkCode x (x.from_ + (m : Int)) = 0) : fetchT x (x.from_ + (m : Int)) = x.list.drop m := by
  unfold fetchT
  rw [if_pos h, show (x.from_ + (m : Int) - x.from_).toNat = m by omega]
theorem fetch_small {x : Do} {r : Int} (hs : SmDo x) : SmEns (fetchT x r) := by
  unfold fetchT
  split
  · exact smEns_drop hs.list _
  · unfold SmEns totEns sumN
    simp
theorem rdEns_dropF {w : World} {B c m : Nat} {A : Option Addr} {l : List En} (h : l.length - m = 0) : RdC w B (encEns (l.drop m)) (.slice A (l.length - m) c) := by
  rw [h]
  exact rdEns_drop0 h
set_option maxRecDepth 100000 in
set_option maxHeartbeats 3200000 in
theorem specFetch_d (v : Value) (x : Do) (r : Int) (w : World) (h : RdC w w.heap.size (datDo x) v) (hs : SmDo x) : Calls Tryz.prog 21 #[v, .int .i64 r] w (ResN (encEns (fetchT x r)) (checkCode x r) w) := by
  have HR := Lib.hid h
  obtain ⟨A2, c2, A3, c3, A4, c4, rfl, r2, r3, -⟩ := aggDo h
  have R3 := Lib.hid r3
  have hl := hs.list.len
  have hcl : x.list.length ≤ c3 := RdC.cap_le r3
  clear h r2 r3
  have HM := Lib.hid (Ms.start w)
  replace HM := Lib.hid (HM.out.new #[.string x.name, .int .i64 x.from_, .slice A2 x.text.length c2, .slice A3 x.list.length c3, .slice A4 x.seen.length c4] 36)
  go_enter Tryz.func21, Tryz.ntmps21
  go_wp2_with fail
  obtain ⟨W1, hW, hm⟩ := HM.out.name
  rw [← hW]
  replace HM := Lib.hid hm
  clear hm hW
  refine (specDocOk_d _ x _ (HM.out.arg HR.out) hs).mono ?_
  rintro e' W2 ⟨rfl, b'⟩
  replace HM := Lib.hid (HM.out.past b')
  clear b'
  cases hd : docB x
  · have HN := Lib.hid (check_no (k := 1) (by decide) (show checkCode x r = 1 by unfold checkCode; simp [hd]))
    go_wp2
    go_ret2
    rw [HN.out.1, HN.out.2]
    exact (HM.out.nil 92 3).resN 1
  obtain ⟨kx0, kx1, kx2, kx3, kx4⟩ := HM.out.c5 0 rfl
  go_wp2_with fail
  clear kx0 kx1 kx2 kx3 kx4
  refine (specHeadRev_d _ x _ (HM.out.arg HR.out) hs).mono ?_
  rintro e' W3 ⟨rfl, b'⟩
  replace HM := Lib.hid (HM.out.past b')
  clear b'
  by_cases h2 : headRevT x < r
  · have HN := Lib.hid (check_no (k := 2) (by decide) (show checkCode x r = 2 by unfold checkCode; simp [hd, h2]))
    have g2 : decide (headRevT x < r) = true := decide_eq_true h2
    go_wp2
    go_ret2
    rw [HN.out.1, HN.out.2]
    exact (HM.out.nil 92 3).resN 2
  have g2 : decide (headRevT x < r) = false := decide_eq_false h2
  by_cases h3 : r < x.from_
  · have HN := Lib.hid (check_no (k := 3) (by decide) (show checkCode x r = 3 by unfold checkCode; simp [hd, h2, h3]))
    have g3 : decide (r < x.from_) = true := decide_eq_true h3
    obtain ⟨kx0, kx1, kx2, kx3, kx4⟩ := HM.out.c5 0 rfl
    go_wp2
    go_ret2
    rw [HN.out.1, HN.out.2]
    exact (HM.out.nil 92 3).resN 3
  have hk : checkCode x r = 0 := by unfold checkCode; simp [hd, h2, h3]
  clear hd h2 h3 g2
  obtain ⟨hd, h1, h2⟩ := check_ok hk
  obtain ⟨f0, f1, f2, f3⟩ := docB_of hd
  rw [f3] at h2
  obtain ⟨m, hm⟩ : ∃ m : Nat, r = x.from_ + (m : Int) := ⟨(r - x.from_).toNat, by omega⟩
  subst hm
  have hm1 : m ≤ x.list.length := by omega
  have HN := Lib.hid (And.intro hk (check_fetch hk))
  have g3 : x.from_ + (m : Int) - x.from_ = (m : Int) := by omega
  have F3 := Lib.hid f3
  clear f3 hk
  have g2 : decide (headRevT x < x.from_ + (m : Int)) = false := decide_eq_false (by have := F3.out; omega)
  have g4 : decide (x.from_ + (m : Int) < x.from_) = false := decide_eq_false (by omega)
  by_cases hlast : m = x.list.length
  · have h00 : x.list.length - m = 0 := by omega
    have H0 := Lib.hid h00
    have HLA := Lib.hid hlast
    clear h00 hlast
    by_cases hcap : m = c3
    · subst hcap
      obtain ⟨kx0, kx1, kx2, kx3, kx4⟩ := HM.out.c5 0 rfl
      go_wp2_with fail
      clear kx0 kx1 kx2 kx3 kx4
      try rw [H0.out]
      refine (specEntriesC_d _ (x.list.drop m) _ (HM.out.arg (rdEns_drop0 H0.out)) (smEns_drop hs.list m)).mono ?_
      rintro e' W4 ⟨v', rfl, o', b'⟩
      obtain ⟨Al, nl, cl, rfl⟩ := sliceV o'.read
      obtain ⟨bl, hm⟩ := HM.out.got o' b'
      clear o' b'
      replace HM := Lib.hid hm
      clear hm
      go_wp2
      go_ret2
      rw [HN.out.1, HN.out.2]
      exact HM.out.resN 0
    · have hcap2 : ¬ c3 = m := fun e => hcap e.symm
      obtain ⟨kx0, kx1, kx2, kx3, kx4⟩ := HM.out.c5 0 rfl
      go_wp2_with fail
      clear kx0 kx1 kx2 kx3 kx4
      refine (specEntriesC_d _ (x.list.drop m) _ (HM.out.arg (rdEns_dropF H0.out)) (smEns_drop hs.list m)).mono ?_
      rintro e' W5 ⟨v', rfl, o', b'⟩
      obtain ⟨Al, nl, cl, rfl⟩ := sliceV o'.read
      obtain ⟨bl, hm⟩ := HM.out.got o' b'
      clear o' b'
      replace HM := Lib.hid hm
      clear hm
      go_wp2
      go_ret2
      rw [HN.out.1, HN.out.2]
      exact HM.out.resN 0
  have hlt : m < x.list.length := by omega
  have hcap : ¬ m = c3 := by omega
  have hcap2 : ¬ c3 = m := fun e => hcap e.symm
  obtain ⟨b0, off0, e0, A50, c50, rfl, -, -, -⟩ := atEns R3.out (i := 0) (by omega)
  obtain ⟨kx0, kx1, kx2, kx3, kx4⟩ := HM.out.c5 0 rfl
  go_wp2_with fail
  clear kx0 kx1 kx2 kx3 kx4
  refine (specEntriesC_d _ (x.list.drop m) _ (HM.out.arg (by have h := RdC.drop_ m R3.out; rw [← List.map_drop] at h; exact h)) (smEns_drop hs.list m)).mono ?_
  rintro e' W6 ⟨v', rfl, o', b'⟩
  obtain ⟨Al, nl, cl, rfl⟩ := sliceV o'.read
  obtain ⟨bl, hm⟩ := HM.out.got o' b'
  clear o' b'
  replace HM := Lib.hid hm
  clear hm
  go_wp2
  go_ret2
  rw [HN.out.1, HN.out.2]
  exact HM.out.resN 0
set_option maxRecDepth 100000 in
set_option maxHeartbeats 3200000 in
theorem specMissed_d (v : Value) (x : Do) (r : Int) (w : World) (h : RdC w w.heap.size (datDo x) v) (hs : SmDo x) : Calls Tryz.prog 26 #[v, .int .i64 r] w (Nums1 (missedT x r) w) := by
  have HR := Lib.hid h
  obtain ⟨A2, c2, A3, c3, A4, c4, rfl, r2, r3, -⟩ := aggDo h
  have R3 := Lib.hid r3
  have hl := hs.list.len
  have hcl : x.list.length ≤ c3 := RdC.cap_le r3
  clear h r2 r3
  have HM := Lib.hid (Ms.start w)
  replace HM := Lib.hid (HM.out.new #[.string x.name, .int .i64 x.from_, .slice A2 x.text.length c2, .slice A3 x.list.length c3, .slice A4 x.seen.length c4] 36)
  go_enter Tryz.func26, Tryz.ntmps26
  go_wp2_with fail
  obtain ⟨W1, hW, hm⟩ := HM.out.name
  rw [← hW]
  replace HM := Lib.hid hm
  clear hm hW
  refine (specFetch_d _ x r _ (HM.out.arg HR.out) hs).mono ?_
  rintro e' W2 ⟨v', rfl, o', b'⟩
  obtain ⟨Al, cl, rfl⟩ := sliceEns o'.read
  clear o'
  replace HM := Lib.hid (HM.out.past b')
  clear b'
  by_cases hk : checkCode x r = 0
  · have HN := Lib.hid (show missedT x r = ((fetchT x r).length : Int) by unfold missedT; rw [if_pos hk])
    have g : (checkCode x r != 0) = false := by simp [hk]
    clear hk
    go_wp2
    go_ret
    exact ⟨by rw [HN.out]; rfl, HM.out.bl⟩
  · have HN := Lib.hid (show missedT x r = -1 by unfold missedT; rw [if_neg hk])
    have g : (checkCode x r != 0) = true := by simpa using hk
    clear hk
    go_wp2
    go_ret
    exact ⟨by rw [HN.out]; rfl, HM.out.bl⟩
end Go.Proofs.YtgfbcpcfdlnbhabGreatDoor.low


/-
  Contracts of the program's builder: endRun, drop, put, done, keep.
-/
namespace Go.Proofs.YtgfbcpcfdlnbhabGreatDoor.low
open Go.RowKit
set_option linter.unusedVariables false

set_option maxRecDepth 100000 in
set_option maxHeartbeats 3200000 in
theorem implFlush_f (S : Nat → Prop) (lo g : Nat) (ps : List Pt) (put : List Int) (d : Int) (w : World) (hb : BAtS S lo g 186 w ps put d) (hS : ∀ b, w.heap.size ≤ b → S b) (hl : ps.length ≤ 4294967296) (hp : put.length ≤ 4294967296) :
    Calls Tryz.prog 158 #[.pointer (some ⟨g, 0, none⟩)] w (FlushedS S lo g 186 w (ps ++ putL put ++ dropL d)) := by
  obtain ⟨i0, hi0, hz0, hz1, hz2⟩ := info_parts part_info
  obtain ⟨v, u, us, hx, ha, hos⟩ := hb
  have HS := Lib.hid hS
  have HOS := Lib.hid hos
  clear hS hos
  have ha0 := ha.init hx.len
  obtain ⟨A, c, rfl⟩ := own_form (ha.last hx.len)
  have c0 := hx.cell0
  have c1 := hx.cell1
  have c2 := hx.cell2
  have f0 := hx.free 0
  have f1 := hx.free 1
  have f2 := hx.free 2
  have HX := Lib.hid hx
  have HA := Lib.hid ha
  have HA0 := Lib.hid ha0
  clear hx ha ha0
  by_cases hput : put.length = 0
  · have e1 : putL put = [] := by simp [putL, hput]
    rw [e1, List.append_nil]
    by_cases hd : 0 < d
    · have e2 : dropL d = [⟨3, d, []⟩] := by simp [dropL, hd]
      rw [e2]
      go_enter Tryz.func158, Tryz.ntmps158
      go_wp2_with fail
      have lg := HX.out.lt
      have hlo : lo ≤ w.heap.size := Nat.le_trans HX.out.low (Nat.le_of_lt lg)
      have hne := own_far HX.out.row HX.out.box (by decide)
      go_region_law ((refine step_append_lies _ (by rfl) (.tmp 31) (.tmp 37) 30 (by rfl) lo 74 i0 _ 3 40 Tryz.underlying30 hi0 hz0 hz1 hz2 rfl (by omega) v ps.length (cellsOf ps us) (by rfl) ((HX.out.row.alloc _).drew) ⟨w.heap.size, 0, none⟩ 1 1 [.int .i64 3, .int .i64 d, .slice none 0 0] (by rfl) (by rfl) (World.news_of_block (cs := #[.int .i64 3, .int .i64 d, .slice none 0 0]) (t := 74) (fr := (0, 0)) (heap_alloc_new w _)) (by simp [Value.oneCell']) (by omega) (by unfold maxLen; omega) (by omega) (by simp; omega) (w.heap.size + 1) (by simp) ?_; intro gg cap w1 hown1 hgrow hat hlt; have hf := free_grown (o := 0) HX.out.box (below_made w _) hgrow hne; have hf1 := free_grown (o := 1) HX.out.box (below_made w _) hgrow hne; have hf2 := free_grown (o := 2) HX.out.box (below_made w _) hgrow hne; have hc : w1.cell? ⟨g, 0, none⟩ = some v := cell_grown 0 HX.out.box (below_made w _) hgrow hne; have hc1 : w1.cell? ⟨g, 1, none⟩ = some (.slice A put.length c) := cell_grown 1 HX.out.box (below_made w _) hgrow hne; have hc2 : w1.cell? ⟨g, 2, none⟩ = some (.int .i64 d) := cell_grown 2 HX.out.box (below_made w _) hgrow hne))
      all_goals
        obtain ⟨hx2, ha2, b2⟩ := Box.push (p := ⟨3, d, []⟩) HX.out (by decide) (by decide) (Apart.bare 3 d HA0.out) (below_made w _) hown1 hgrow
        have HO2 := Lib.hid (HOS.out.init.push (n := ps.length + 1) (cap := cap) nil_own hat (HS.out _ (by omega)))
        have HR2 := Lib.hid (push_fr HOS.out.init (below_made w _) hgrow (.slice (some ⟨gg, 0, none⟩) (ps.length + 1) cap))
        have HX2 := Lib.hid hx2
        have HA2 := Lib.hid ha2
        have HB2 := Lib.hid b2
        clear hx2 ha2 b2
        go_wp2
        go_end0
        obtain ⟨r1, r2, r3⟩ := HX2.out.clearS (by decide) (by decide) HA2.out HO2.out
        exact ⟨rfl, r1, HB2.out.trans r2, HR2.out.trans r3⟩

    · have e2 : dropL d = [] := by simp [dropL]; omega
      rw [e2, List.append_nil]
      go_enter Tryz.func158, Tryz.ntmps158
      go_wp2_with fail
      go_end0
      obtain ⟨r1, r2, r3⟩ := HX.out.clearS (by decide) (by decide) HA0.out HOS.out.init
      exact ⟨rfl, r1, r2, r3⟩
  · have hput' : (0 : Int) < (put.length : Int) := by omega
    have e1 : putL put = [⟨2, 0, put⟩] := by simp [putL, hput]
    rw [e1]
    by_cases hd : 0 < d
    · have e2 : dropL d = [⟨3, d, []⟩] := by simp [dropL, hd]
      rw [e2]
      generalize hQ : ps ++ [⟨2, 0, put⟩] ++ [⟨3, d, []⟩] = Q
      have HQ := Lib.hid hQ
      clear hQ
      go_enter Tryz.func158, Tryz.ntmps158
      go_wp2_with fail
      have lg := HX.out.lt
      have hlo : lo ≤ w.heap.size := Nat.le_trans HX.out.low (Nat.le_of_lt lg)
      have hne := own_far HX.out.row HX.out.box (by decide)
      go_region_law ((refine step_append_lies _ (by rfl) (.tmp 12) (.tmp 18) 30 (by rfl) lo 74 i0 _ 3 40 Tryz.underlying30 hi0 hz0 hz1 hz2 rfl (by omega) v ps.length (cellsOf ps us) (by rfl) ((HX.out.row.alloc _).drew) ⟨w.heap.size, 0, none⟩ 1 1 [.int .i64 2, .int .i64 0, .slice A put.length c] (by rfl) (by rfl) (World.news_of_block (cs := #[.int .i64 2, .int .i64 0, .slice A put.length c]) (t := 74) (fr := (0, 0)) (heap_alloc_new w _)) (by simp [Value.oneCell']) (by omega) (by unfold maxLen; omega) (by omega) (by simp; omega) (w.heap.size + 1) (by simp) ?_; intro gg cap w1 hown1 hgrow hat hlt; have hf := free_grown (o := 0) HX.out.box (below_made w _) hgrow hne; have hf1 := free_grown (o := 1) HX.out.box (below_made w _) hgrow hne; have hf2 := free_grown (o := 2) HX.out.box (below_made w _) hgrow hne; have hc : w1.cell? ⟨g, 0, none⟩ = some v := cell_grown 0 HX.out.box (below_made w _) hgrow hne; have hc1 : w1.cell? ⟨g, 1, none⟩ = some (.slice A put.length c) := cell_grown 1 HX.out.box (below_made w _) hgrow hne; have hc2 : w1.cell? ⟨g, 2, none⟩ = some (.int .i64 d) := cell_grown 2 HX.out.box (below_made w _) hgrow hne))
      all_goals

        obtain ⟨hx1, ha1, b1⟩ := Box.push (p := ⟨2, 0, put⟩) HX.out (by decide) (by decide) HA.out (below_made w _) hown1 hgrow
        have HO1 := Lib.hid (HOS.out.init.push (n := ps.length + 1) (cap := cap) HOS.out.last hat (HS.out _ (by omega)))
        have HR1 := Lib.hid (push_fr HOS.out.init (below_made w _) hgrow (.slice (some ⟨gg, 0, none⟩) (ps.length + 1) cap))
        clear hown1 hgrow hat hlt hlo hne lg c0 c1 c2 f0 f1 f2
        have HX1 := Lib.hid hx1
        have HA1 := Lib.hid ha1
        have HB1 := Lib.hid b1
        clear hx1 ha1 b1
        go_wp2_with fail
        clear hf hf1 hf2 hc hc1 hc2
        generalize (Value.slice (some ⟨gg, 0, none⟩) (ps.length + 1) cap) = v1 at *
        generalize w1.setCell ⟨g, 0, none⟩ v1 = W1 at *
        have c0 := HX1.out.cell0
        have c1 := HX1.out.cell1
        have c2 := HX1.out.cell2
        have f0 := HX1.out.free 0
        have f1 := HX1.out.free 1
        have f2 := HX1.out.free 2
        generalize hps : ps ++ [⟨2, 0, put⟩] = ps1 at *
        have hl1 : ps1.length ≤ 4294967297 := by rw [← hps]; simp; omega
        clear hps
        generalize us ++ [Value.slice A put.length c] = us1 at *
        have lg := HX1.out.lt
        have hlo : lo ≤ W1.heap.size := Nat.le_trans HX1.out.low (Nat.le_of_lt lg)
        have hne := own_far HX1.out.row HX1.out.box (by decide)
        go_region_law ((refine step_append_lies _ (by rfl) (.tmp 31) (.tmp 37) 30 (by rfl) lo 74 i0 _ 3 40 Tryz.underlying30 hi0 hz0 hz1 hz2 rfl (by omega) v1 ps1.length (cellsOf ps1 us1) (by rfl) ((HX1.out.row.alloc _).drew) ⟨W1.heap.size, 0, none⟩ 1 1 [.int .i64 3, .int .i64 d, .slice none 0 0] (by rfl) (by rfl) (World.news_of_block (cs := #[.int .i64 3, .int .i64 d, .slice none 0 0]) (t := 74) (fr := (0, 0)) (heap_alloc_new W1 _)) (by simp [Value.oneCell']) (by omega) (by unfold maxLen; omega) (by omega) (by simp; omega) (W1.heap.size + 1) (by simp) ?_; intro gg cap w1 hown1 hgrow hat hlt; have hf := free_grown (o := 0) HX1.out.box (below_made W1 _) hgrow hne; have hf1 := free_grown (o := 1) HX1.out.box (below_made W1 _) hgrow hne; have hf2 := free_grown (o := 2) HX1.out.box (below_made W1 _) hgrow hne; have hc : w1.cell? ⟨g, 0, none⟩ = some v1 := cell_grown 0 HX1.out.box (below_made W1 _) hgrow hne; have hc1 : w1.cell? ⟨g, 1, none⟩ = some (.slice A put.length c) := cell_grown 1 HX1.out.box (below_made W1 _) hgrow hne; have hc2 : w1.cell? ⟨g, 2, none⟩ = some (.int .i64 d) := cell_grown 2 HX1.out.box (below_made W1 _) hgrow hne))
        all_goals
          obtain ⟨hx2, ha2, b2⟩ := Box.push (p := ⟨3, d, []⟩) HX1.out (by decide) (by decide) (Apart.bare 3 d HA1.out) (below_made W1 _) hown1 hgrow
          have HO2 := Lib.hid (HO1.out.push (n := ps1.length + 1) (cap := cap) nil_own hat (HS.out _ (by have := HR1.out.size; omega)))
          have HR2 := Lib.hid (push_fr HO1.out (below_made W1 _) hgrow (.slice (some ⟨gg, 0, none⟩) (ps1.length + 1) cap))
          have HX2 := Lib.hid hx2
          have HA2 := Lib.hid ha2
          have HB2 := Lib.hid b2
          clear hx2 ha2 b2
          go_wp2
          go_end0
          obtain ⟨r1, r2, r3⟩ := HX2.out.clearS (by decide) (by decide) HA2.out HO2.out
          exact ⟨rfl, by rw [← HQ.out]; exact r1, HB1.out.trans (HB2.out.trans r2), HR1.out.trans (HR2.out.trans r3)⟩

    · have e2 : dropL d = [] := by simp [dropL]; omega
      rw [e2, List.append_nil]
      go_enter Tryz.func158, Tryz.ntmps158
      go_wp2_with fail
      have lg := HX.out.lt
      have hlo : lo ≤ w.heap.size := Nat.le_trans HX.out.low (Nat.le_of_lt lg)
      have hne := own_far HX.out.row HX.out.box (by decide)
      go_region_law ((refine step_append_lies _ (by rfl) (.tmp 12) (.tmp 18) 30 (by rfl) lo 74 i0 _ 3 40 Tryz.underlying30 hi0 hz0 hz1 hz2 rfl (by omega) v ps.length (cellsOf ps us) (by rfl) ((HX.out.row.alloc _).drew) ⟨w.heap.size, 0, none⟩ 1 1 [.int .i64 2, .int .i64 0, .slice A put.length c] (by rfl) (by rfl) (World.news_of_block (cs := #[.int .i64 2, .int .i64 0, .slice A put.length c]) (t := 74) (fr := (0, 0)) (heap_alloc_new w _)) (by simp [Value.oneCell']) (by omega) (by unfold maxLen; omega) (by omega) (by simp; omega) (w.heap.size + 1) (by simp) ?_; intro gg cap w1 hown1 hgrow hat hlt; have hf := free_grown (o := 0) HX.out.box (below_made w _) hgrow hne; have hf1 := free_grown (o := 1) HX.out.box (below_made w _) hgrow hne; have hf2 := free_grown (o := 2) HX.out.box (below_made w _) hgrow hne; have hc : w1.cell? ⟨g, 0, none⟩ = some v := cell_grown 0 HX.out.box (below_made w _) hgrow hne; have hc1 : w1.cell? ⟨g, 1, none⟩ = some (.slice A put.length c) := cell_grown 1 HX.out.box (below_made w _) hgrow hne; have hc2 : w1.cell? ⟨g, 2, none⟩ = some (.int .i64 d) := cell_grown 2 HX.out.box (below_made w _) hgrow hne))
      all_goals

        obtain ⟨hx1, ha1, b1⟩ := Box.push (p := ⟨2, 0, put⟩) HX.out (by decide) (by decide) HA.out (below_made w _) hown1 hgrow
        have HO2 := Lib.hid (HOS.out.init.push (n := ps.length + 1) (cap := cap) HOS.out.last hat (HS.out _ (by omega)))
        have HR2 := Lib.hid (push_fr HOS.out.init (below_made w _) hgrow (.slice (some ⟨gg, 0, none⟩) (ps.length + 1) cap))
        have HX2 := Lib.hid hx1
        have HA2 := Lib.hid ha1
        have HB2 := Lib.hid b1
        clear hx1 ha1 b1
        go_wp2
        go_end0
        obtain ⟨r1, r2, r3⟩ := HX2.out.clearS (by decide) (by decide) HA2.out HO2.out
        exact ⟨rfl, r1, HB2.out.trans r2, HR2.out.trans r3⟩

set_option maxHeartbeats 1600000 in
theorem implDrop_f (S : Nat → Prop) (lo g : Nat) (ps : List Pt) (put : List Int) (d n : Int) (w : World) (hb : BAtS S lo g 186 w ps put d) (hS : ∀ b, w.heap.size ≤ b → S b) (h0 : 0 ≤ d) (h1 : d ≤ 4611686018427387904) (h2 : 0 ≤ n) (h3 : n ≤ 1048576) :
    Calls Tryz.prog 157 #[.pointer (some ⟨g, 0, none⟩), .int .i64 n] w (BuiltS S lo g 186 w ps put (d + n)) := by
  obtain ⟨v, u, us, hx, ha, hos⟩ := hb
  have HS := Lib.hid hS
  have HOS := Lib.hid hos
  clear hS hos
  have c2 := hx.cell2
  have f2 := hx.free 2
  have HX := Lib.hid hx
  have HA := Lib.hid ha
  clear hx ha
  go_enter Tryz.func157, Tryz.ntmps157
  go_wp2
  go_end0
  obtain ⟨r1, r2, r3⟩ := HX.out.dropS (d' := d + n) (by decide) (by decide) HA.out HOS.out
  exact ⟨rfl, r1, r2, r3⟩

set_option maxHeartbeats 1600000 in
theorem implPut_f (S : Nat → Prop) (lo g : Nat) (ps : List Pt) (put : List Int) (d : Int) (A : Option Addr) (c : Nat) (zs : List Int) (w : World) (hb : BAtS S lo g 186 w ps put d) (hS : ∀ b, w.heap.size ≤ b → S b) (hr : Row (Value.int .i64) w w.heap.size A zs) (hp : put.length ≤ 4294967296) (hz : zs.length ≤ 4294967296) :
    Calls Tryz.prog 156 #[.pointer (some ⟨g, 0, none⟩), .slice A zs.length c] w (BuiltS S lo g 186 w ps (put ++ zs) d) := by
  obtain ⟨i0, hi0, hz0, hz1, hz2⟩ := info_parts ints_info
  obtain ⟨v, u, us, hx, ha, hos⟩ := hb
  have HS := Lib.hid hS
  have HOS := Lib.hid hos
  clear hS hos
  obtain ⟨Au, cu, rfl⟩ := own_form (ha.last hx.len)
  simp only at hx ha
  have c1 := hx.cell1
  have f1 := hx.free 1
  have ho := Lib.hid (ha.last hx.len)
  have hlo : lo ≤ w.heap.size := Nat.le_trans hx.low (Nat.le_of_lt hx.lt)
  have HX := Lib.hid hx
  have HA := Lib.hid ha
  clear hx ha
  by_cases hn : 0 < zs.length
  · obtain ⟨ad, rfl, hbk, hcs⟩ := hr hn
    have hcs' : ∀ j x, (zs.map (Value.int .i64))[j]? = some x → w.cell? (ad.add j) = some x := fun j x hx => by
      rw [List.getElem?_map] at hx
      obtain ⟨z, hz, rfl⟩ := Option.map_eq_some_iff.1 hx
      exact hcs j z hz
    have HC := Lib.hid hcs'
    clear hcs hcs' hr
    have hug := own_far ho.out HX.out.box (by decide)
    go_enter Tryz.func156, Tryz.ntmps156
    go_wp2_with (at_builtin; refine wpList_append_lies _ rfl (.tmp 8) (.tmp 9) 22 rfl lo 3 i0 (.int .i64 0) 1 8 Tryz.underlying22 hi0 hz0 hz1 hz2 rfl (by decide) (.slice Au put.length cu) put.length (put.map (Value.int .i64)) rfl ho.out ad zs.length c (zs.map (Value.int .i64)) rfl (by simp) HC.out (by simp [Value.oneCell']) (by omega) (by unfold maxLen; omega) (by omega) hlo w.heap.size rfl ?_; intro gg cap w1 hown1 hgrow hat hlt; have hf := free_grown (o := 1) HX.out.box (Below.refl _ _) hgrow hug; have hc : w1.cell? ⟨g, 1, none⟩ = some (.slice Au put.length cu) := cell_grown 1 HX.out.box (Below.refl _ _) hgrow hug)
    go_end0
    obtain ⟨r1, r2, r3⟩ := Box.moreS (put' := put ++ zs) HX.out (by decide) (by decide) HA.out (by simpa using hown1) hgrow (hat.elim (fun e => .inl (by rw [e]; rfl)) (fun e => .inr (by rw [← e]; rfl))) HOS.out (HS.out _ (Nat.le_refl _))
    exact ⟨rfl, r1, r2, r3⟩
  · have e0 : zs = [] := List.eq_nil_of_length_eq_zero (by omega)
    subst e0
    rw [List.append_nil]
    go_enter Tryz.func156, Tryz.ntmps156
    go_wp2_with (at_builtin; refine wpList_append_zero rfl (.tmp 8) (.tmp 9) 22 rfl lo 3 i0 1 Tryz.underlying22 hi0 (.slice Au put.length cu) put.length (put.map (Value.int .i64)) rfl ho.out A c rfl ?_)
    go_end0
    obtain ⟨r1, r2, r3⟩ := Box.moreS (put' := put) HX.out (by decide) (by decide) HA.out ho.out ⟨rfl, rfl, rfl, Nat.le_refl _, fun _ _ _ => rfl⟩ (.inl rfl) HOS.out (HS.out _ (Nat.le_refl _))
    exact ⟨rfl, r1, r2, r3⟩

theorem implDrop_any (lo g : Nat) (ps : List Pt) (put : List Int) (d n : Int) (w : World) (hb : BAt lo g 186 w ps put d) (h0 : 0 ≤ d) (h1 : d ≤ 4611686018427387904) (h2 : 0 ≤ n) (h3 : n ≤ 1048576) :
    Calls Tryz.prog 157 #[.pointer (some ⟨g, 0, none⟩), .int .i64 n] w (Built lo g 186 w ps put (d + n)) :=
  (implDrop_f (fun _ => True) lo g ps put d n w hb.all (fun _ _ => trivial) h0 h1 h2 h3).mono fun e w' h => h.any

theorem implPut_any (lo g : Nat) (ps : List Pt) (put : List Int) (d : Int) (A : Option Addr) (c : Nat) (zs : List Int) (w : World) (hb : BAt lo g 186 w ps put d) (hr : Row (Value.int .i64) w w.heap.size A zs) (hp : put.length ≤ 4294967296) (hz : zs.length ≤ 4294967296) :
    Calls Tryz.prog 156 #[.pointer (some ⟨g, 0, none⟩), .slice A zs.length c] w (Built lo g 186 w ps (put ++ zs) d) :=
  (implPut_f (fun _ => True) lo g ps put d A c zs w hb.all (fun _ _ => trivial) hr hp hz).mono fun e w' h => h.any

set_option maxHeartbeats 1600000 in
theorem implDone_f (S : Nat → Prop) (lo g : Nat) (ps : List Pt) (put : List Int) (d : Int) (w : World) (hb : BAtS S lo g 186 w ps put d) (hS : ∀ b, w.heap.size ≤ b → S b) (hl : ps.length ≤ 4294967296) (hp : put.length ≤ 4294967296) :
    Calls Tryz.prog 148 #[.pointer (some ⟨g, 0, none⟩)] w (GoneS S lo (ps ++ putL put ++ dropL d) w) := by
  go_enter Tryz.func148, Tryz.ntmps148
  go_wp2_with fail
  refine (implFlush_f S lo g ps put d w hb hS hl hp).mono ?_
  rintro e w1 ⟨rfl, ⟨v, us, hx, ha, hos⟩, b1, fr1⟩
  have HS := Lib.hid hS
  have HOS := Lib.hid hos
  have HR := Lib.hid fr1
  clear hS hos fr1
  obtain ⟨Av, cv, rfl⟩ := own_form hx.row
  have c0 := hx.cell0
  have HX := Lib.hid hx
  have HA := Lib.hid ha
  clear hx ha
  generalize ps ++ putL put ++ dropL d = q at *
  go_wp2
  go_ret
  exact ⟨_, us, rfl, HX.out.parts HA.out, b1, HR.out, HX.out.row, HX.out.len, HOS.out.2.1, HOS.out.2.2⟩

set_option maxRecDepth 100000 in
set_option maxHeartbeats 3200000 in
theorem implKeep_f (S : Nat → Prop) (lo g : Nat) (ps : List Pt) (put : List Int) (d n : Int) (w : World) (hb : BAtS S lo g 186 w ps put d) (hS : ∀ b, w.heap.size ≤ b → S b) (hl : ps.length ≤ 4294967296) (hp : put.length ≤ 4294967296) (hn : ¬ n = 0) (hn0 : 0 ≤ n) (hn1 : n ≤ 1048576)
    (hq : ∀ p ∈ ps ++ putL put ++ dropL d, 0 ≤ p.n ∧ p.n ≤ 4611686018427387904) (hql : (ps ++ putL put ++ dropL d).length ≤ 4294967298) :
    Calls Tryz.prog 155 #[.pointer (some ⟨g, 0, none⟩), .int .i64 n] w (FlushedS S lo g 186 w (keepTo (ps ++ putL put ++ dropL d) n)) := by
  obtain ⟨i0, hi0, hz0, hz1, hz2⟩ := info_parts part_info
  go_enter Tryz.func155, Tryz.ntmps155
  go_wp2_with fail
  refine (implFlush_f S lo g ps put d w hb hS hl hp).mono ?_
  rintro e w1 ⟨rfl, ⟨v, us, hx, ha, hos⟩, b1, fr1⟩
  have HS := Lib.hid hS
  have HOS := Lib.hid hos
  have HR := Lib.hid fr1
  clear hS hos fr1
  generalize ps ++ putL put ++ dropL d = q at *
  have c0 := hx.cell0
  have f0 := hx.free 0
  have hne := own_far hx.row hx.box (by decide)
  have hlo : lo ≤ w1.heap.size := Nat.le_trans hx.low (Nat.le_of_lt hx.lt)
  rcases q.eq_nil_or_concat with rfl | ⟨r, p, rfl⟩
  · obtain ⟨Av, cv, rfl⟩ := own_form hx.row
    have HX := Lib.hid hx
    have HA := Lib.hid ha
    clear hx ha
    go_wp2_with (at_builtin; refine wpList_append_lies _ rfl (.tmp 44) (.tmp 47) 30 rfl lo 74 i0 _ 3 40 Tryz.underlying30 hi0 hz0 hz1 hz2 rfl (by omega) (.slice Av 0 cv) 0 (cellsOf [] us) rfl (HX.out.row.alloc _) ⟨w1.heap.size, 0, none⟩ 1 1 [.int .i64 1, .int .i64 n, .slice none 0 0] rfl rfl (World.news_of_block (cs := #[.int .i64 1, .int .i64 n, .slice none 0 0]) (t := 74) (fr := (0, 0)) (heap_alloc_new w1 _)) (by simp [Value.oneCell']) (by omega) (by unfold maxLen; omega) (by omega) (by simp; omega) (w1.heap.size + 1) (by simp) ?_; intro gg cap w2 hown1 hgrow hat hlt; have hf := free_grown (o := 0) HX.out.box (below_new w1 _) hgrow hne; have hc : w2.cell? ⟨g, 0, none⟩ = some (.slice Av 0 cv) := cell_grown 0 HX.out.box (below_new w1 _) hgrow hne)
    go_end0
    obtain ⟨hx2, ha2, b2⟩ := Box.push (p := ⟨1, n, []⟩) HX.out (by decide) (by decide) (Apart.bare 1 n HA.out) (below_new w1 _) hown1 hgrow
    refine ⟨rfl, ?_, b1.trans b2, HR.out.trans (push_fr HOS.out (below_new w1 _) hgrow _)⟩
    rw [keepTo_nil]
    exact ⟨_, _, hx2, ha2, HOS.out.push nil_own hat (HS.out _ (by have := HR.out.size; omega))⟩
  · rw [List.concat_eq_append] at *
    have hrl : (r ++ [p]).length = r.length + 1 := by simp
    rw [hrl] at hql
    have hp0 := hq p (by simp)
    clear hq
    rcases hx.row.2 with ⟨_, h0⟩ | ⟨gv, cap0, cur, rfl, hgv, hhv, hcap, hcap2, _, _⟩
    · simp at h0
    rw [hrl] at c0 hne hcap hx
    have hrow : w1.ownsRow lo 74 3 (.slice (some ⟨gv, 0, none⟩) (r.length + 1) cap0) (r.length + 1) (cellsOf (r ++ [p]) us) := by have := hx.row; rwa [hrl] at this
    have k0 : w1.cell? ⟨gv, r.length * 3, none⟩ = some (.int .i64 p.kind) := by
      have := hrow.cellAt (r.length * 3) (by omega)
      obtain ⟨u, hu⟩ := idx_some (l := us) (i := r.length) (by rw [hx.len]; simp)
      rw [this, (cellsOf_at (r ++ [p]) us r.length p u (by simp) hu).1]
    have k1 : w1.cell? ⟨gv, r.length * 3 + 1, none⟩ = some (.int .i64 p.n) := by
      have := hrow.cellAt (r.length * 3 + 1) (by omega)
      obtain ⟨u, hu⟩ := idx_some (l := us) (i := r.length) (by rw [hx.len]; simp)
      rw [this, (cellsOf_at (r ++ [p]) us r.length p u (by simp) hu).2.1]
    have fv := hrow.frozenAt (r.length * 3 + 1)
    have HRW := Lib.hid hrow
    clear hrow
    have HX := Lib.hid hx
    have HA := Lib.hid ha
    clear hx ha hhv
    by_cases hk : p.kind = 1
    · go_wp2
      go_end0
      obtain ⟨hx2, ha2, b2⟩ := Box.setN (b := p.n + n) HX.out (by decide) (by decide) HA.out
      refine ⟨rfl, ?_, b1.trans b2, HR.out.trans (setN_fr HOS.out _)⟩
      rw [keepTo_t n hk]
      exact ⟨_, _, hx2, ha2, HOS.out⟩
    · go_wp2_with (at_builtin; refine wpList_append_lies _ rfl (.tmp 44) (.tmp 47) 30 rfl lo 74 i0 _ 3 40 Tryz.underlying30 hi0 hz0 hz1 hz2 rfl (by omega) (.slice (some ⟨gv, 0, none⟩) (r.length + 1) cap0) (r.length + 1) (cellsOf (r ++ [p]) us) rfl (HRW.out.alloc _) ⟨w1.heap.size, 0, none⟩ 1 1 [.int .i64 1, .int .i64 n, .slice none 0 0] rfl rfl (World.news_of_block (cs := #[.int .i64 1, .int .i64 n, .slice none 0 0]) (t := 74) (fr := (0, 0)) (heap_alloc_new w1 _)) (by simp [Value.oneCell']) (by omega) (by unfold maxLen; omega) (by omega) (by simp; omega) (w1.heap.size + 1) (by simp) ?_; intro gg cap w2 hown1 hgrow hat hlt; have hf := free_grown (o := 0) HX.out.box (below_new w1 _) hgrow hne; have hc : w2.cell? ⟨g, 0, none⟩ = some (.slice (some ⟨gv, 0, none⟩) (r.length + 1) cap0) := cell_grown 0 HX.out.box (below_new w1 _) hgrow hne)
      go_end0
      obtain ⟨hx2, ha2, b2⟩ := Box.push (p := ⟨1, n, []⟩) HX.out (by decide) (by decide) (Apart.bare 1 n HA.out) (below_new w1 _) (by rw [hrl]; exact hown1) hgrow
      rw [hrl] at hx2 ha2 b2
      refine ⟨rfl, ?_, b1.trans b2, HR.out.trans (push_fr HOS.out (below_new w1 _) hgrow _)⟩
      rw [keepTo_f n hk]
      exact ⟨_, _, hx2, ha2, HOS.out.push nil_own hat (HS.out _ (by have := HR.out.size; omega))⟩

theorem implDone_any (lo g : Nat) (ps : List Pt) (put : List Int) (d : Int) (w : World) (hb : BAt lo g 186 w ps put d) (hl : ps.length ≤ 4294967296) (hp : put.length ≤ 4294967296) :
    Calls Tryz.prog 148 #[.pointer (some ⟨g, 0, none⟩)] w (Gone lo (ps ++ putL put ++ dropL d) w) :=
  (implDone_f (fun _ => True) lo g ps put d w hb.all (fun _ _ => trivial) hl hp).mono fun e w' h => h.any

theorem implKeep_any (lo g : Nat) (ps : List Pt) (put : List Int) (d n : Int) (w : World) (hb : BAt lo g 186 w ps put d) (hl : ps.length ≤ 4294967296) (hp : put.length ≤ 4294967296) (hn : ¬ n = 0) (hn0 : 0 ≤ n) (hn1 : n ≤ 1048576)
    (hq : ∀ p ∈ ps ++ putL put ++ dropL d, 0 ≤ p.n ∧ p.n ≤ 4611686018427387904) (hql : (ps ++ putL put ++ dropL d).length ≤ 4294967298) :
    Calls Tryz.prog 155 #[.pointer (some ⟨g, 0, none⟩), .int .i64 n] w (Flushed lo g 186 w (keepTo (ps ++ putL put ++ dropL d) n)) :=
  (implKeep_f (fun _ => True) lo g ps put d n w hb.all (fun _ _ => trivial) hl hp hn hn0 hn1 hq hql).mono fun e w' h => h.any

set_option maxHeartbeats 1600000 in
theorem implKeep_zero (g : Nat) (w : World) : Calls Tryz.prog 155 #[.pointer (some ⟨g, 0, none⟩), .int .i64 0] w fun e w' => e = .returned (.tuple #[]) ∧ w = w' := by
  go_enter Tryz.func155, Tryz.ntmps155
  go_wp2
  first | go_end0 | (refine bodyPost_ret (results_none rfl _ _ _) rfl ?_)
  exact ⟨rfl, rfl⟩
end Go.Proofs.YtgfbcpcfdlnbhabGreatDoor.low


/-
  Contracts of the program's functions on operations that only read: impl.PartOk, partsOk, size, sizeOf, OpFrom, OpTo, OpOk, Puts, Drops.
-/
namespace Go.Proofs.YtgfbcpcfdlnbhabGreatDoor.low
open Go.RowKit
set_option linter.unusedVariables false

set_option maxHeartbeats 1600000 in
theorem implPartOk_any (p : Pt) (A : Option Addr) (c : Nat) (w : World) (hr : Row (Value.int .i64) w w.heap.size A p.signs) (hl : p.signs.length ≤ 4294967296) :
    Calls Tryz.prog 126 #[.agg #[.int .i64 p.kind, .int .i64 p.n, .slice A p.signs.length c]] w (Tells (okPt p) w) := by
  obtain ⟨k, n, zs⟩ := p
  have hr' : Row (Value.int .i64) w w.heap.size A zs := hr
  have hl' : zs.length ≤ 4294967296 := hl
  clear hr hl
  by_cases hk : k = 1 ∨ k = 3
  · by_cases h0 : 0 ≤ n
    · by_cases h1 : n ≤ 200
      · by_cases hz : zs.length = 0
        all_goals
          have HS := Lib.hid (show okPt ⟨k, n, zs⟩ = decide (zs.length = 0) by
            first
              | (rw [okPt_t (.inl ⟨hk, ⟨h0, h1⟩, hz⟩), decide_eq_true hz])
              | (rw [okPt_f (by simp only; omega), decide_eq_false hz]))
          have hzb : ((zs.length : Int) == 0) = decide (zs.length = 0) := by
            first
              | (rw [decide_eq_true hz, beq_iff_eq]; omega)
              | (rw [decide_eq_false hz, beq_eq_false_iff_ne]; omega)
          generalize decide (zs.length = 0) = bb at HS hzb
          clear hz
          rcases hk with rfl | rfl
          all_goals
            go_enter Tryz.func126, Tryz.ntmps126
            go_wp2
            go_ret
            exact ⟨ret_bool (by rw [HS.out]), alloc_below _ _⟩
      · have HS := Lib.hid (show okPt ⟨k, n, zs⟩ = false by rw [okPt_f (by simp only; omega)])
        rcases hk with rfl | rfl
        all_goals
          go_enter Tryz.func126, Tryz.ntmps126
          go_wp2
          go_ret
          exact ⟨ret_bool (by rw [HS.out]), alloc_below _ _⟩
    · have HS := Lib.hid (show okPt ⟨k, n, zs⟩ = false by rw [okPt_f (by simp only; omega)])
      rcases hk with rfl | rfl
      all_goals
        go_enter Tryz.func126, Tryz.ntmps126
        go_wp2
        go_ret
        exact ⟨ret_bool (by rw [HS.out]), alloc_below _ _⟩
  · have hk1 : (k == 1) = false := by rw [beq_eq_false_iff_ne]; omega
    have hk3 : (k == 3) = false := by rw [beq_eq_false_iff_ne]; omega
    by_cases hk2 : k = 2
    · have hk2' : (k == 2) = true := by rw [beq_iff_eq]; exact hk2
      by_cases hn : n = 0
      · have hn' : (n == 0) = true := by rw [beq_iff_eq]; exact hn
        have HS := Lib.hid (show okPt ⟨k, n, zs⟩ = (allB zs && decide (zs.length ≤ 200)) by
          unfold okPt
          simp [hk2, hn])
        clear hk hk2 hn
        by_cases hlen : zs.length ≤ 200
        · have HL := Lib.hid (decide_eq_true hlen)
          go_enter Tryz.func126, Tryz.ntmps126
          go_wp2_with (go_at_call 144; refine (implSignsOk_any A c zs _ (hr'.past_alloc _) hl').mono ?_; rintro e w' ⟨rfl, rfl⟩)
          go_ret
          refine ⟨ret_bool ?_, alloc_below _ _⟩
          rw [HS.out, HL.out, Bool.and_true]
        · have HL := Lib.hid (decide_eq_false hlen)
          go_enter Tryz.func126, Tryz.ntmps126
          go_wp2
          go_ret
          refine ⟨ret_bool ?_, alloc_below _ _⟩
          rw [HS.out, HL.out, Bool.and_false]
      · have hn' : (n == 0) = false := by rw [beq_eq_false_iff_ne]; exact hn
        have HS := Lib.hid (show okPt ⟨k, n, zs⟩ = false by rw [okPt_f (by simp only; omega)])
        clear hk hk2 hn
        go_enter Tryz.func126, Tryz.ntmps126
        go_wp2
        go_ret
        exact ⟨ret_bool (by rw [HS.out]), alloc_below _ _⟩
    · have hk2' : (k == 2) = false := by rw [beq_eq_false_iff_ne]; exact hk2
      have HS := Lib.hid (show okPt ⟨k, n, zs⟩ = false by rw [okPt_f (by simp only; omega)])
      clear hk hk2
      go_enter Tryz.func126, Tryz.ntmps126
      go_wp2
      go_ret
      exact ⟨ret_bool (by rw [HS.out]), alloc_below _ _⟩

set_option maxHeartbeats 1600000 in
theorem implParts_any (A : Option Addr) (c : Nat) (ps : List Pt) (w : World) (hr : PRow w w.heap.size A ps) (hl : ps.length ≤ 4294967296) (hls : ∀ p ∈ ps, p.signs.length ≤ 4294967296) :
    Calls Tryz.prog 96 #[.slice A ps.length c] w (Tells (partsB ps) w) := by
  by_cases h6 : ps.length ≤ 600
  · go_enter Tryz.func96, Tryz.ntmps96
    go_wp2
    go_loopw [10] (fun i wr => ∃ k : Nat, k ≤ ps.length ∧ i = .int .i64 k ∧ okPs (ps.take k) = true ∧ Below w.heap.size w wr) (fun i _ => ps.length - (intOf i).toNat)
    case atStart => exact ⟨0, Nat.zero_le _, rfl, rfl, Below.refl _ _⟩
    case round =>
      obtain ⟨k, hk, rfl, ha, hbel⟩ := hrel
      have HA := Lib.hid ha
      clear ha
      by_cases hlt : k < ps.length
      · obtain ⟨b, off, p, rfl, hb, hp, hc⟩ := hr.at_ hlt
        obtain ⟨x0, x1, A1, e1, x2, r1⟩ := hc.keep (w' := wr) hb (fun _ hq => hbel.cell hq)
        have hsp := hls p (List.mem_of_getElem? hp)
        have HP := Lib.hid hp
        clear hp hc
        cases hs : okPt p
        · go_wp2_with fail
          refine (implPartOk_any p A1 e1 _ ((r1.more hbel.size).past_alloc _) hsp).mono ?_
          rintro e w2 ⟨rfl, b2⟩
          go_wp2
          go_ret
          exact ⟨ret_bool (by unfold partsB; rw [okPs_f HP.out hs]; rfl), (hbel.trans ((alloc_below wr _).mono hbel.size)).trans (b2.mono (Nat.le_trans hbel.size (alloc_below wr _).size))⟩
        · go_wp2_with fail
          refine (implPartOk_any p A1 e1 _ ((r1.more hbel.size).past_alloc _) hsp).mono ?_
          rintro e w2 ⟨rfl, b2⟩
          go_wp2
          go_roundw
          case rel => exact ⟨k + 1, by omega, by go_num, okPs_snoc HP.out HA.out hs, (hbel.trans ((alloc_below wr _).mono hbel.size)).trans (b2.mono (Nat.le_trans hbel.size (alloc_below wr _).size))⟩
          case measure => simp [intOf]; omega
      · have HE := Lib.hid (show partsB ps = true by
          have h1 := HA.out
          rw [List.take_of_length_le (by omega)] at h1
          unfold partsB
          rw [h1, Bool.true_and]
          exact decide_eq_true h6)
        go_wp2
        go_ret
        refine ⟨ret_bool ?_, hbel⟩
        rw [HE.out]
  · have HE := Lib.hid (show partsB ps = false by unfold partsB; rw [decide_eq_false h6, Bool.and_false])
    go_enter Tryz.func96, Tryz.ntmps96
    go_wp2
    go_ret
    exact ⟨ret_bool (by rw [HE.out]), Below.refl _ _⟩

/-- the size of a part of the kind -/
def sizeK (kind : Int) (p : Pt) : Int := if p.kind = kind then p.n + (p.signs.length : Int) else 0
theorem sumOf_congr {f g : Pt → Int} : ∀ {ps : List Pt}, (∀ p ∈ ps, f p = g p) → sumOf f ps = sumOf g ps
  | [], _ => rfl
  | p :: ps, h => by
    have h1 := h p (List.mem_cons_self ..)
    have h2 := sumOf_congr (f := f) (g := g) (ps := ps) fun q hq => h q (List.mem_cons_of_mem _ hq)
    have e : ∀ f : Pt → Int, sumOf f (p :: ps) = f p + sumOf f ps := fun f => by simp [sumOf]
    rw [e, e, h1, h2]
theorem okPs_mem {ps : List Pt} (h : okPs ps = true) {p : Pt} (hp : p ∈ ps) : okPt p = true := by unfold okPs at h; exact List.all_eq_true.1 h p hp
theorem sizeK_keep {ps : List Pt} (h : okPs ps = true) : sumOf (sizeK 1) ps = sumOf keepOf ps := sumOf_congr fun p hp => by
  have := of_okPt (okPs_mem h hp)
  unfold sizeK keepOf
  split <;> omega
theorem sizeK_put {ps : List Pt} (h : okPs ps = true) : sumOf (sizeK 2) ps = sumOf putOf ps := sumOf_congr fun p hp => by
  have := of_okPt (okPs_mem h hp)
  unfold sizeK putOf
  split <;> omega
theorem sizeK_drop {ps : List Pt} (h : okPs ps = true) : sumOf (sizeK 3) ps = sumOf dropOf ps := sumOf_congr fun p hp => by
  have := of_okPt (okPs_mem h hp)
  unfold sizeK dropOf
  split <;> omega
theorem sizeK_bd {kind : Int} {ps : List Pt} (h : okPs ps = true) (hl : ps.length ≤ 600) : 0 ≤ sumOf (sizeK kind) ps ∧ sumOf (sizeK kind) ps ≤ 120000 := by
  have := sumOf_bd (f := sizeK kind) ps fun p hq => by
    have := of_okPt (okPs_mem h hq)
    unfold sizeK
    split <;> omega
  omega

set_option maxHeartbeats 400000 in
theorem implSize_any (k n : Int) (A : Option Addr) (len c : Nat) (w : World) (h0 : 0 ≤ n) (h1 : n ≤ 200) (h2 : len ≤ 200) :
    Calls Tryz.prog 129 #[.agg #[.int .i64 k, .int .i64 n, .slice A len c]] w (Nums1 (n + (len : Int)) w) := by
  go_enter Tryz.func129, Tryz.ntmps129
  go_wp2
  go_ret
  exact ⟨rfl, alloc_below _ _⟩

set_option maxRecDepth 100000 in
set_option maxHeartbeats 1600000 in
theorem implSizeOf_any (kind : Int) (A : Option Addr) (c : Nat) (ps : List Pt) (w : World) (hr : PRow w w.heap.size A ps) (hl : ps.length ≤ 600) (hok : okPs ps = true) :
    Calls Tryz.prog 101 #[.slice A ps.length c, .int .i64 kind] w (Nums1 (sumOf (sizeK kind) ps) w) := by
  have HOK := Lib.hid hok
  clear hok
  go_enter Tryz.func101, Tryz.ntmps101
  go_wp2
  go_loopw [5, 10] (fun a i wr => ∃ k : Nat, k ≤ ps.length ∧ i = .int .i64 k ∧ a = .int .i64 (sumOf (sizeK kind) (ps.take k)) ∧ Below w.heap.size w wr) (fun _ i _ => ps.length - (intOf i).toNat)
  case atStart => exact ⟨0, Nat.zero_le _, rfl, rfl, Below.refl _ _⟩
  case round =>
    obtain ⟨k, hk, rfl, rfl, hbel⟩ := hrel
    obtain ⟨s1, s2⟩ := sizeK_bd (kind := kind) (okPs_take HOK.out k) (by rw [List.length_take]; omega)
    by_cases hlt : k < ps.length
    · obtain ⟨b, off, p, rfl, hb, hp, hc⟩ := hr.at_ hlt
      obtain ⟨x0, x1, A1, e1, x2, r1⟩ := hc.keep (w' := wr) hb (fun _ hq => hbel.cell hq)
      have hok := of_okPt (okPs_at hp HOK.out)
      have K1 := Lib.hid (sumOf_snoc (f := sizeK kind) hp)
      clear hp hc
      generalize sumOf (sizeK kind) (ps.take k) = q1 at *
      obtain ⟨pk, pn, pz⟩ := p
      simp only at x0 x1 x2 hok
      have hn1 : 0 ≤ pn := by omega
      have hn2 : pn ≤ 200 := by omega
      have hn3 : pz.length ≤ 200 := by omega
      clear hok
      by_cases hkk : pk = kind
      · have hkb : (pk == kind) = true := by rw [beq_iff_eq]; exact hkk
        have HK := Lib.hid (show sizeK kind ⟨pk, pn, pz⟩ = pn + (pz.length : Int) by unfold sizeK; exact if_pos hkk)
        clear hkk
        go_wp2_with fail
        refine (implSize_any pk pn A1 pz.length e1 _ hn1 hn2 hn3).mono ?_
        rintro e w2 ⟨rfl, b2⟩
        go_wp2
        go_roundw
        case rel => exact ⟨k + 1, by omega, by go_num, by rw [K1.out, HK.out], (hbel.trans ((alloc_below wr _).mono hbel.size)).trans (b2.mono (Nat.le_trans hbel.size (alloc_below wr _).size))⟩
        case measure => simp [intOf]; omega
      · have hkb : (pk == kind) = false := by rw [beq_eq_false_iff_ne]; exact hkk
        have HK := Lib.hid (show sizeK kind ⟨pk, pn, pz⟩ = 0 by unfold sizeK; exact if_neg hkk)
        clear hkk
        go_wp2
        go_roundw
        case rel => exact ⟨k + 1, by omega, by go_num, by rw [K1.out, HK.out, Int.add_zero], hbel.trans ((alloc_below wr _).mono hbel.size)⟩
        case measure => simp [intOf]; omega
    · have hke : ps.take k = ps := List.take_of_length_le (by omega)
      rw [hke] at s1 s2 ⊢
      go_wp2
      go_ret
      exact ⟨rfl, hbel⟩

set_option maxHeartbeats 800000 in
theorem implOpFrom_any (A : Option Addr) (c : Nat) (ps : List Pt) (w : World) (hr : PRow w w.heap.size A ps) (hl : ps.length ≤ 4294967296) (hls : ∀ p ∈ ps, p.signs.length ≤ 4294967296) :
    Calls Tryz.prog 76 #[.slice A ps.length c] w (Nums1 (sumK ps + sumD ps) w) := by
  cases hpb : partsB ps
  · have HS := Lib.hid (sum_f hpb)
    go_enter Tryz.func76, Tryz.ntmps76
    go_wp2_with fail
    refine (implParts_any A c ps _ hr hl hls).mono ?_
    rintro e w1 ⟨rfl, b1⟩
    go_wp2
    go_ret
    rw [HS.out.1, HS.out.2.2]
    exact ⟨rfl, b1⟩
  · obtain ⟨t1, t2, t3⟩ := sum_t hpb
    obtain ⟨p1, p2⟩ := partsB_of hpb
    have HS := Lib.hid (show sumK ps + sumD ps = sumOf (sizeK 1) ps + sumOf (sizeK 3) ps by rw [t1, t3, sizeK_keep p1, sizeK_drop p1])
    obtain ⟨s1, s2⟩ := sizeK_bd (kind := 1) p1 p2
    obtain ⟨s3, s4⟩ := sizeK_bd (kind := 3) p1 p2
    clear t1 t2 t3
    go_enter Tryz.func76, Tryz.ntmps76
    go_wp2_with fail
    refine (implParts_any A c ps _ hr hl hls).mono ?_
    rintro e w1 ⟨rfl, b1⟩
    go_wp2_with fail
    refine (implSizeOf_any 1 A c ps _ (hr.past b1) p2 p1).mono ?_
    rintro e w2 ⟨rfl, b2⟩
    have d2 := b1.trans (b2.mono b1.size)
    go_wp2_with fail
    refine (implSizeOf_any 3 A c ps _ (hr.past d2) p2 p1).mono ?_
    rintro e w3 ⟨rfl, b3⟩
    have d3 := d2.trans (b3.mono d2.size)
    generalize sumOf (sizeK 1) ps = q1 at *
    generalize sumOf (sizeK 3) ps = q3 at *
    go_wp2
    go_ret
    rw [HS.out]
    exact ⟨rfl, d3⟩

set_option maxHeartbeats 800000 in
theorem implOpTo_any (A : Option Addr) (c : Nat) (ps : List Pt) (w : World) (hr : PRow w w.heap.size A ps) (hl : ps.length ≤ 4294967296) (hls : ∀ p ∈ ps, p.signs.length ≤ 4294967296) :
    Calls Tryz.prog 97 #[.slice A ps.length c] w (Nums1 (sumK ps + sumP ps) w) := by
  cases hpb : partsB ps
  · have HS := Lib.hid (sum_f hpb)
    go_enter Tryz.func97, Tryz.ntmps97
    go_wp2_with fail
    refine (implParts_any A c ps _ hr hl hls).mono ?_
    rintro e w1 ⟨rfl, b1⟩
    go_wp2
    go_ret
    rw [HS.out.1, HS.out.2.1]
    exact ⟨rfl, b1⟩
  · obtain ⟨t1, t2, t3⟩ := sum_t hpb
    obtain ⟨p1, p2⟩ := partsB_of hpb
    have HS := Lib.hid (show sumK ps + sumP ps = sumOf (sizeK 1) ps + sumOf (sizeK 2) ps by rw [t1, t2, sizeK_keep p1, sizeK_put p1])
    obtain ⟨s1, s2⟩ := sizeK_bd (kind := 1) p1 p2
    obtain ⟨s3, s4⟩ := sizeK_bd (kind := 2) p1 p2
    clear t1 t2 t3
    go_enter Tryz.func97, Tryz.ntmps97
    go_wp2_with fail
    refine (implParts_any A c ps _ hr hl hls).mono ?_
    rintro e w1 ⟨rfl, b1⟩
    go_wp2_with fail
    refine (implSizeOf_any 1 A c ps _ (hr.past b1) p2 p1).mono ?_
    rintro e w2 ⟨rfl, b2⟩
    have d2 := b1.trans (b2.mono b1.size)
    go_wp2_with fail
    refine (implSizeOf_any 2 A c ps _ (hr.past d2) p2 p1).mono ?_
    rintro e w3 ⟨rfl, b3⟩
    have d3 := d2.trans (b3.mono d2.size)
    generalize sumOf (sizeK 1) ps = q1 at *
    generalize sumOf (sizeK 2) ps = q3 at *
    go_wp2
    go_ret
    rw [HS.out]
    exact ⟨rfl, d3⟩

set_option maxHeartbeats 1600000 in
theorem implOpOk_any (A : Option Addr) (c : Nat) (ps : List Pt) (w : World) (hr : PRow w w.heap.size A ps) (hl : ps.length ≤ 4294967296) (hls : ∀ p ∈ ps, p.signs.length ≤ 4294967296) :
    Calls Tryz.prog 74 #[.slice A ps.length c] w (Tells (okOp ps) w) := by
  cases hpb : partsB ps
  · have HS := Lib.hid (show okOp ps = false by unfold okOp; rw [hpb]; rfl)
    go_enter Tryz.func74, Tryz.ntmps74
    go_wp2_with fail
    refine (implParts_any A c ps _ hr hl hls).mono ?_
    rintro e w1 ⟨rfl, b1⟩
    go_wp2
    go_ret
    exact ⟨ret_bool (by rw [HS.out]), b1⟩
  · by_cases hf : sumK ps + sumD ps ≤ 200
    · by_cases ht : sumK ps + sumP ps ≤ 200
      all_goals
        have HS := Lib.hid (show okOp ps = decide (sumK ps + sumP ps ≤ 200) by unfold okOp; rw [hpb, decide_eq_true hf]; rfl)
        go_enter Tryz.func74, Tryz.ntmps74
        go_wp2_with fail
        refine (implParts_any A c ps _ hr hl hls).mono ?_
        rintro e w1 ⟨rfl, b1⟩
        go_wp2_with fail
        refine (implOpFrom_any A c ps _ (hr.past b1) hl hls).mono ?_
        rintro e w2 ⟨rfl, b2⟩
        have d2 := b1.trans (b2.mono b1.size)
        go_wp2_with fail
        refine (implOpTo_any A c ps _ (hr.past d2) hl hls).mono ?_
        rintro e w3 ⟨rfl, b3⟩
        go_wp2
        go_ret
        refine ⟨ret_bool ?_, d2.trans (b3.mono d2.size)⟩
        rw [HS.out]
        first | done | (rw [decide_eq_true ht]) | (rw [decide_eq_false ht])
    · have HS := Lib.hid (show okOp ps = false by unfold okOp; rw [hpb, decide_eq_false hf]; rfl)
      go_enter Tryz.func74, Tryz.ntmps74
      go_wp2_with fail
      refine (implParts_any A c ps _ hr hl hls).mono ?_
      rintro e w1 ⟨rfl, b1⟩
      go_wp2_with fail
      refine (implOpFrom_any A c ps _ (hr.past b1) hl hls).mono ?_
      rintro e w2 ⟨rfl, b2⟩
      go_wp2
      go_ret
      exact ⟨ret_bool (by rw [HS.out]), b1.trans (b2.mono b1.size)⟩

theorem okOp_parts {ps : List Pt} (h : okOp ps = true) : partsB ps = true := by
  unfold okOp at h
  cases hp : partsB ps
  · rw [hp] at h; simp at h
  · rfl

end Go.Proofs.YtgfbcpcfdlnbhabGreatDoor.low


/-
  Contracts of impl.partSame, of the library's slices.EqualFunc at parts with impl.partSame, and of impl.OpSame.
-/
namespace Go.Proofs.YtgfbcpcfdlnbhabGreatDoor.low
open Go.RowKit
set_option linter.unusedVariables false

set_option maxHeartbeats 800000 in
theorem implPartSame_any (p q : Pt) (A A' : Option Addr) (c c' : Nat) (w : World) (hp : Row (Value.int .i64) w w.heap.size A p.signs) (hq : Row (Value.int .i64) w w.heap.size A' q.signs) (h1 : p.signs.length ≤ 4294967296) (h2 : q.signs.length ≤ 4294967296) :
    Calls Tryz.prog 180 #[.agg #[.int .i64 p.kind, .int .i64 p.n, .slice A p.signs.length c], .agg #[.int .i64 q.kind, .int .i64 q.n, .slice A' q.signs.length c']] w (Tells (samePt p q) w) := by
  obtain ⟨k, n, zs⟩ := p
  obtain ⟨k', n', zs'⟩ := q
  have hbb : ∀ o o' : Obj, Below w.heap.size w ((w.alloc o).alloc o') := fun o o' => ((Below.refl _ _).alloc (Nat.le_refl _) _).alloc (by simp) _
  by_cases hk : k = k'
  · by_cases hn : n = n'
    · have HS := Lib.hid (show samePt ⟨k, n, zs⟩ ⟨k', n', zs'⟩ = sameB zs zs' by unfold samePt; simp [hk, hn])
      have hk1 : (k == k') = true := by simp [hk]
      have hn1 : (n == n') = true := by simp [hn]
      clear hk hn
      go_enter Tryz.func180, Tryz.ntmps180
      go_wp2_with fail
      refine (implSignsSame_any A A' c c' zs zs' _ ((hp.past_alloc _).past_alloc _) ((hq.past_alloc _).past_alloc _) h1 h2).mono ?_
      intro e w1 hsay
      obtain ⟨rfl, b1⟩ := says_tells hsay
      go_wp2
      go_ret
      refine ⟨ret_bool (by rw [HS.out]), (hbb _ _).trans (b1.mono (by simp; omega))⟩
    · have HS := Lib.hid (show samePt ⟨k, n, zs⟩ ⟨k', n', zs'⟩ = false by unfold samePt; simp [hn])
      have hk1 : (k == k') = true := by simp [hk]
      have hn1 : (n == n') = false := by simp [hn]
      clear hk hn
      go_enter Tryz.func180, Tryz.ntmps180
      go_wp2
      go_ret
      exact ⟨ret_bool (by rw [HS.out]), hbb _ _⟩
  · have HS := Lib.hid (show samePt ⟨k, n, zs⟩ ⟨k', n', zs'⟩ = false by unfold samePt; simp [hk])
    have hk1 : (k == k') = false := by simp [hk]
    clear hk
    go_enter Tryz.func180, Tryz.ntmps180
    go_wp2
    go_ret
    exact ⟨ret_bool (by rw [HS.out]), hbb _ _⟩

set_option maxRecDepth 100000 in
set_option maxHeartbeats 1600000 in
theorem equalFunc_any (A B : Option Addr) (c d : Nat) (ps qs : List Pt) (w : World) (hx : PRow w w.heap.size A ps) (hy : PRow w w.heap.size B qs)
    (hl : ps.length ≤ 4294967296) (hl2 : qs.length ≤ 4294967296) (hs : ∀ p ∈ ps, p.signs.length ≤ 4294967296) (hs2 : ∀ p ∈ qs, p.signs.length ≤ 4294967296) :
    Calls Tryz.prog 179 #[.slice A ps.length c, .slice B qs.length d, .func (.func 180) #[] #[]] w (Tells (samePs ps qs) w) := by
  by_cases hlen : ps.length = qs.length
  · have HL := Lib.hid hlen
    have hb : ((ps.length : Int) != (qs.length : Int)) = false := by simp [hlen]
    clear hlen
    go_enter Tryz.func179, Tryz.ntmps179
    go_wp2
    go_loopw [17] (fun i wr => ∃ k : Nat, k ≤ ps.length ∧ i = .int .i64 k ∧ samePs (ps.take k) (qs.take k) = true ∧ Below w.heap.size w wr) (fun i _ => ps.length - (intOf i).toNat)
    case atStart => exact ⟨0, Nat.zero_le _, rfl, rfl, Below.refl _ _⟩
    case round =>
      obtain ⟨k, hk, rfl, ht, hbel⟩ := hrel
      have HT := Lib.hid ht
      clear ht
      by_cases hlt : k < ps.length
      · have hlt2 : k < qs.length := by have := HL.out; omega
        obtain ⟨b1, o1, p, rfl, hb1, hp, hc1⟩ := hx.at_ hlt
        obtain ⟨b2, o2, q, rfl, hb2, hq, hc2⟩ := hy.at_ (k := k) hlt2
        obtain ⟨x0, x1, A1, e1, x2, r1⟩ := hc1.keep (w' := wr) hb1 (fun _ hq => hbel.cell hq)
        have hsp := hs p (List.mem_of_getElem? hp)
        have hsq := hs2 q (List.mem_of_getElem? hq)
        have HP := Lib.hid hp
        have HQ := Lib.hid hq
        clear hp hq hc1
        have bW := alloc_below wr (.cells #[.int .i64 p.kind, .int .i64 p.n, .slice A1 p.signs.length e1] 74)
        have dW := hbel.trans (bW.mono hbel.size)
        obtain ⟨y0, y1, A2, e2, y2, r2⟩ := hc2.keep (w' := wr.alloc (.cells #[.int .i64 p.kind, .int .i64 p.n, .slice A1 p.signs.length e1] 74)) hb2 (fun _ hq => dW.cell hq)
        have dV := dW.trans ((alloc_below (wr.alloc (.cells #[.int .i64 p.kind, .int .i64 p.n, .slice A1 p.signs.length e1] 74)) (.cells #[.int .i64 q.kind, .int .i64 q.n, .slice A2 q.signs.length e2] 74)).mono dW.size)
        have R1 := Lib.hid (Row.past_alloc ((r1.more hbel.size).past bW) (.cells #[.int .i64 q.kind, .int .i64 q.n, .slice A2 q.signs.length e2] 74))
        have R2 := Lib.hid (Row.past_alloc (r2.more dW.size) (.cells #[.int .i64 q.kind, .int .i64 q.n, .slice A2 q.signs.length e2] 74))
        clear hc2 r1 r2
        cases hsame : samePt p q
        · go_wp2_with fail
          refine (implPartSame_any p q A1 A2 e1 e2 _ R1.out R2.out hsp hsq).mono ?_
          rintro e w2 ⟨rfl, b2⟩
          go_wp2
          go_ret
          exact ⟨ret_bool (by rw [samePs_at ps qs k p q HP.out HQ.out hsame]), dV.trans (b2.mono dV.size)⟩
        · go_wp2_with fail
          refine (implPartSame_any p q A1 A2 e1 e2 _ R1.out R2.out hsp hsq).mono ?_
          rintro e w2 ⟨rfl, b2⟩
          go_wp2
          go_roundw
          case rel => exact ⟨k + 1, by omega, by go_num, samePs_snoc ps qs k p q HP.out HQ.out hsame HT.out, dV.trans (b2.mono dV.size)⟩
          case measure => simp [intOf]; omega
      · have H := Lib.hid (show samePs ps qs = true by have := HT.out; rwa [List.take_of_length_le (by omega), List.take_of_length_le (by have := HL.out; omega)] at this)
        go_wp2
        go_ret
        exact ⟨ret_bool (by rw [H.out]), hbel⟩
  · have hb : ((ps.length : Int) != (qs.length : Int)) = true := by simp; omega
    have H := Lib.hid (show samePs ps qs = false by cases h : samePs ps qs; rfl; exact absurd (samePs_len ps qs h) hlen)
    clear hlen
    go_enter Tryz.func179, Tryz.ntmps179
    go_wp2
    go_ret
    exact ⟨ret_bool (by rw [H.out]), Below.refl _ _⟩

set_option maxHeartbeats 400000 in
theorem implOpSame_any (A B : Option Addr) (c d : Nat) (ps qs : List Pt) (w : World) (hx : PRow w w.heap.size A ps) (hy : PRow w w.heap.size B qs)
    (hl : ps.length ≤ 4294967296) (hl2 : qs.length ≤ 4294967296) (hs : ∀ p ∈ ps, p.signs.length ≤ 4294967296) (hs2 : ∀ p ∈ qs, p.signs.length ≤ 4294967296) :
    Calls Tryz.prog 161 #[.slice A ps.length c, .slice B qs.length d] w (Tells (samePs ps qs) w) := by
  go_enter Tryz.func161, Tryz.ntmps161
  go_wp2_with fail
  refine (equalFunc_any A B c d ps qs _ hx hy hl hl2 hs hs2).mono ?_
  rintro e w1 ⟨rfl, b1⟩
  go_wp2
  go_ret
  exact ⟨rfl, b1⟩
end Go.Proofs.YtgfbcpcfdlnbhabGreatDoor.low


/-
  Contracts of the program's add, of impl.OpNorm, impl.IsNorm and impl.Keeping.
-/
namespace Go.Proofs.YtgfbcpcfdlnbhabGreatDoor.low
open Go.RowKit
set_option linter.unusedVariables false

theorem sameB_comm (a b : List Int) : sameB a b = sameB b a := by
  by_cases h : a = b
  · subst h; rfl
  · have h' : ¬ b = a := fun e => h e.symm
    unfold sameB
    simp [h, h']
theorem samePt_comm (p q : Pt) : samePt p q = samePt q p := by
  unfold samePt
  rw [sameB_comm p.signs q.signs, Bool.beq_comm (a := p.kind), Bool.beq_comm (a := p.n)]
theorem samePs_comm : ∀ ps qs : List Pt, samePs ps qs = samePs qs ps
  | [], [] => rfl
  | [], _ :: _ => rfl
  | _ :: _, [] => rfl
  | p :: ps, q :: qs => by
    show (samePt p q && samePs ps qs) = (samePt q p && samePs qs ps)
    rw [samePt_comm p q, samePs_comm ps qs]

set_option maxHeartbeats 1600000 in
theorem implAdd_any (lo g : Nat) (qs : List Pt) (put : List Int) (d : Int) (p : Pt) (A : Option Addr) (c : Nat) (w : World) (hb : BAt lo g 186 w qs put d) (hr : Row (Value.int .i64) w w.heap.size A p.signs) (hok : okPt p = true)
    (hl : qs.length ≤ 4294967296) (hp : put.length ≤ 4294967296) (h0 : 0 ≤ d) (h1 : d ≤ 4611686018427387904)
    (hq : ∀ p ∈ qs ++ putL put ++ dropL d, 0 ≤ p.n ∧ p.n ≤ 4611686018427387904) (hql : (qs ++ putL put ++ dropL d).length ≤ 4294967298) :
    Calls Tryz.prog 147 #[.pointer (some ⟨g, 0, none⟩), .agg #[.int .i64 p.kind, .int .i64 p.n, .slice A p.signs.length c]] w (Built lo g 186 w (stepN (qs, put, d) p).1 (stepN (qs, put, d) p).2.1 (stepN (qs, put, d) p).2.2) := by
  have hlo : lo ≤ w.heap.size := by obtain ⟨v, u, us, hx, _⟩ := hb; exact Nat.le_trans hx.low (Nat.le_of_lt hx.lt)
  have hk := of_okPt hok
  clear hok
  obtain ⟨pk, pn, pz⟩ := p
  simp only at hk hr ⊢
  have hat := hb.past (alloc_below w (.cells #[.int .i64 pk, .int .i64 pn, .slice A pz.length c] 74))
  have bel : Below lo w (w.alloc (.cells #[.int .i64 pk, .int .i64 pn, .slice A pz.length c] 74)) := (alloc_below w _).mono hlo
  rcases (show pk = 1 ∨ pk = 2 ∨ pk = 3 by omega) with rfl | rfl | rfl
  · have hn1 : 0 ≤ pn := by omega
    have hn2 : pn ≤ 200 := by omega
    clear hk
    by_cases hz : pn = 0
    · subst hz
      go_enter Tryz.func147, Tryz.ntmps147
      go_wp2_with fail
      refine (implKeep_zero g _).mono ?_
      rintro e w' ⟨rfl, rfl⟩
      go_wp2
      go_end0
      exact ⟨rfl, hat, bel⟩
    · go_enter Tryz.func147, Tryz.ntmps147
      go_wp2_with fail
      refine (implKeep_any lo g qs put d pn _ hat hl hp hz hn1 (by omega) hq hql).mono ?_
      rintro e w3 ⟨rfl, hn3, b3⟩
      go_wp2
      go_end0
      refine ⟨rfl, ?_, bel.trans b3⟩
      simp only [stepN, if_neg hz]
      exact hn3.at_
  · have hl2 : pz.length ≤ 200 := by omega
    clear hk
    go_enter Tryz.func147, Tryz.ntmps147
    go_wp2_with fail
    refine (implPut_any lo g qs put d A c pz _ hat (hr.past_alloc _) hp (by omega)).mono ?_
    rintro e w3 ⟨rfl, hn3, b3⟩
    go_wp2
    go_end0
    exact ⟨rfl, hn3, bel.trans b3⟩
  · have hn1 : 0 ≤ pn := by omega
    have hn2 : pn ≤ 200 := by omega
    clear hk
    go_enter Tryz.func147, Tryz.ntmps147
    go_wp2_with fail
    refine (implDrop_any lo g qs put d pn _ hat h0 h1 hn1 (by omega)).mono ?_
    rintro e w3 ⟨rfl, hn3, b3⟩
    go_wp2
    go_end0
    exact ⟨rfl, hn3, bel.trans b3⟩

set_option maxRecDepth 100000 in
set_option maxHeartbeats 3200000 in
theorem implOpNorm_any (A : Option Addr) (c : Nat) (ps : List Pt) (w : World) (hr : PRow w w.heap.size A ps) (hl : ps.length ≤ 4294967296) (hls : ∀ p ∈ ps, p.signs.length ≤ 4294967296) (hss : signsIn ps ≤ 1048576) :
    Calls Tryz.prog 130 #[.slice A ps.length c] w (PsPost (normL ps) w) := by
  cases hok : okOp ps
  · have e1 : normL ps = [] := by simp [normL, hok]
    rw [e1]
    go_enter Tryz.func130, Tryz.ntmps130
    go_wp2_with fail
    refine (implOpOk_any A c ps _ hr hl hls).mono ?_
    rintro e w1 ⟨rfl, b1⟩
    rw [hok] at *
    go_wp2
    go_ret
    refine ⟨_, rfl, ⟨[], World.ownsRow_nil _ _ _ _, ⟨rfl, fun i p u hp _ => by simp at hp, fun i j k u v hu _ _ _ => by simp at hu⟩, fun k hk => by simp [Value.ownBlock] at hk, Nat.le_refl _, b1.size⟩, b1⟩
  · have e1 : normL ps = doneN (foldN ps) := by simp [normL, hok]
    rw [e1]
    have HPB := Lib.hid (partsB_of (okOp_parts hok))
    go_enter Tryz.func130, Tryz.ntmps130
    go_wp2_with fail
    refine (implOpOk_any A c ps _ hr hl hls).mono ?_
    rintro e w1 ⟨rfl, b1⟩
    rw [hok] at *
    clear hok
    go_wp2
    have hnew := BAt.new w.heap.size 186 w1 b1.size
    have hbn := b1.trans ((alloc_below w1 (.cells #[.slice none 0 0, .slice none 0 0, .int .i64 0] 186)).mono b1.size)
    have hgl : w.heap.size ≤ w1.heap.size := b1.size
    generalize w1.alloc (.cells #[.slice none 0 0, .slice none 0 0, .int .i64 0] 186) = w2 at *
    generalize w1.heap.size = g at *
    clear b1
    go_loopw [13] (fun i wr => ∃ k : Nat, k ≤ ps.length ∧ i = .int .i64 k ∧ BAt w.heap.size g 186 wr (foldN (ps.take k)).1 (foldN (ps.take k)).2.1 (foldN (ps.take k)).2.2 ∧ Below w.heap.size w wr) (fun i _ => ps.length - (intOf i).toNat)
    case atStart => exact ⟨0, Nat.zero_le _, rfl, hnew, hbn⟩
    case round =>
      obtain ⟨k, hk, rfl, hat, hbel⟩ := hrel
      clear hnew hbn
      have hfit := foldN_fit HPB.out.1 k hk
      have hpl := HPB.out.2
      by_cases hlt : k < ps.length
      · obtain ⟨b, off, p, rfl, hb, hp, hc⟩ := hr.at_ hlt
        obtain ⟨x0, x1, A1, e1, x2, r1⟩ := hc.keep (w' := wr) hb (fun _ hq => hbel.cell hq)
        have hokp := okPs_at hp HPB.out.1
        have K1 := Lib.hid (foldN_snoc hp)
        have hsg : signsIn (ps.take k) ≤ signsIn ps := signsIn_take ps k
        clear hp hc
        generalize foldN (ps.take k) = st at *
        obtain ⟨qs, put, d⟩ := st
        have hf1 := hfit.len
        have hf2 := hfit.signs
        have hf3 := hfit.d0
        have hf4 := hfit.d1
        have hdn := Lib.hid hfit.done
        simp only at hf1 hf2 hf3 hf4 hat
        go_wp2_with fail
        refine (implAdd_any w.heap.size g qs put d p A1 e1 _ (hat.past (alloc_below wr _)) (Row.past_alloc (r1.more hbel.size) _) hokp (by omega) (by omega) hf3 (by omega) (fun p hp => by have := hdn.out.2.2 p hp; omega) (by have := hdn.out.1; exact Nat.le_trans this (by omega))).mono ?_
        rintro e w3 ⟨rfl, hn3, b3⟩
        go_wp2
        go_roundw
        case rel => exact ⟨k + 1, by omega, by go_num, by rw [K1.out]; exact hn3, hbel.trans (((alloc_below wr _).mono hbel.size).trans b3)⟩
        case measure => simp [intOf]; omega
      · have hke : ps.take k = ps := List.take_of_length_le (by omega)
        rw [hke] at hat hfit
        have hf1 := hfit.len
        have hf2 := hfit.signs
        go_wp2_with fail
        refine (implDone_any w.heap.size g _ _ _ _ hat (by omega) (by omega)).mono ?_
        rintro e w3 ⟨v, rfl, p3, b3⟩
        change PBuf _ _ _ _ (doneN (foldN ps)) at p3
        generalize doneN (foldN ps) = L at *
        obtain ⟨B3, d3, rfl, q3⟩ := p3.slice
        have HP3 := Lib.hid p3
        clear p3
        go_wp2
        go_ret
        exact ⟨_, rfl, HP3.out, hbel.trans b3⟩

set_option maxHeartbeats 1600000 in
theorem implIsNorm_any (A : Option Addr) (c : Nat) (ps : List Pt) (w : World) (hr : PRow w w.heap.size A ps) (hl : ps.length ≤ 4294967296) (hls : ∀ p ∈ ps, p.signs.length ≤ 4294967296) (hss : signsIn ps ≤ 1048576) :
    Calls Tryz.prog 150 #[.slice A ps.length c] w (Tells (isNormL ps) w) := by
  obtain ⟨n1, n2⟩ := normL_fit hss
  have hls' : ∀ p ∈ normL ps, p.signs.length ≤ 4294967296 := fun p hp => by
    obtain ⟨i, hi⟩ := List.getElem?_of_mem hp
    have := signsIn_at hi
    omega
  cases hok : okOp ps
  · have HS := Lib.hid (show isNormL ps = false by unfold isNormL; rw [hok]; rfl)
    go_enter Tryz.func150, Tryz.ntmps150
    go_wp2_with fail
    refine (implOpOk_any A c ps _ hr hl hls).mono ?_
    rintro e w1 ⟨rfl, b1⟩
    rw [hok] at *
    go_wp2
    go_ret
    exact ⟨ret_bool (by rw [HS.out]), b1⟩
  · have HS := Lib.hid (show isNormL ps = samePs ps (normL ps) by unfold isNormL; rw [hok, samePs_comm]; rfl)
    go_enter Tryz.func150, Tryz.ntmps150
    go_wp2_with fail
    refine (implOpOk_any A c ps _ hr hl hls).mono ?_
    rintro e w1 ⟨rfl, b1⟩
    rw [hok] at *
    clear hok
    go_wp2_with fail
    refine (implOpNorm_any A c ps _ (hr.past b1) hl hls hss).mono ?_
    rintro e w2 ⟨v2, rfl, p2, b2⟩
    obtain ⟨B2, d2, rfl, q2⟩ := p2.slice
    have d2' := b1.trans (b2.mono b1.size)
    generalize normL ps = L at *
    go_wp2_with fail
    refine (implOpSame_any A B2 c d2 ps L _ (hr.past d2') q2 hl (by omega) hls hls').mono ?_
    rintro e w3 ⟨rfl, b3⟩
    go_wp2
    go_ret
    exact ⟨ret_bool (by rw [HS.out]), d2'.trans (b3.mono d2'.size)⟩

end Go.Proofs.YtgfbcpcfdlnbhabGreatDoor.low


/-
  Contracts of impl.NameOk, EntryOk, EntrySame, HeadRev, entriesOk.
-/
namespace Go.Proofs.YtgfbcpcfdlnbhabGreatDoor.low
open Go.RowKit
set_option linter.unusedVariables false

theorem clientOk_any (n : Int) (w : World) : Calls Tryz.prog 82 #[.int .i64 n] w fun e w' => e = .returned (.bool (inB n 1 8)) ∧ w = w' := by
  by_cases h1 : 1 ≤ n
  · by_cases h2 : n ≤ 8
    · have HE := Lib.hid (show inB n 1 8 = true from inB_t ⟨h1, h2⟩)
      go_enter Tryz.func82, Tryz.ntmps82
      go_wp2
      go_ret
      exact ⟨ret_b HE.out.symm, rfl⟩
    · have HE := Lib.hid (show inB n 1 8 = false from inB_f (by omega))
      go_enter Tryz.func82, Tryz.ntmps82
      go_wp2
      go_ret
      exact ⟨ret_b HE.out.symm, rfl⟩
  · have HE := Lib.hid (show inB n 1 8 = false from inB_f (by omega))
    go_enter Tryz.func82, Tryz.ntmps82
    go_wp2
    go_ret
    exact ⟨ret_b HE.out.symm, rfl⟩
theorem seqOk_any (n : Int) (w : World) : Calls Tryz.prog 83 #[.int .i64 n] w fun e w' => e = .returned (.bool (inB n 1 1000000000)) ∧ w = w' := by
  by_cases h1 : 1 ≤ n
  · by_cases h2 : n ≤ 1000000000
    · have HE := Lib.hid (show inB n 1 1000000000 = true from inB_t ⟨h1, h2⟩)
      go_enter Tryz.func83, Tryz.ntmps83
      go_wp2
      go_ret
      exact ⟨ret_b HE.out.symm, rfl⟩
    · have HE := Lib.hid (show inB n 1 1000000000 = false from inB_f (by omega))
      go_enter Tryz.func83, Tryz.ntmps83
      go_wp2
      go_ret
      exact ⟨ret_b HE.out.symm, rfl⟩
  · have HE := Lib.hid (show inB n 1 1000000000 = false from inB_f (by omega))
    go_enter Tryz.func83, Tryz.ntmps83
    go_wp2
    go_ret
    exact ⟨ret_b HE.out.symm, rfl⟩
set_option maxRecDepth 100000 in
set_option maxHeartbeats 1600000 in
theorem implNameOk_d (s : ByteArray) (w : World) (hs : s.size ≤ 1048576) : Calls Tryz.prog 107 #[.string s] w (Tells (nameB s) w) := by
  by_cases h1 : s.size < 1
  · have HN := Lib.hid (show nameB s = false by unfold nameB; rw [inB_f (by omega), Bool.and_false])
    have g1 : decide ((s.size : Int) < 1) = true := decide_eq_true (by omega)
    go_enter Tryz.func107, Tryz.ntmps107
    go_wp2
    go_ret
    exact ⟨ret_b HN.out.symm, Below.refl _ _⟩
  by_cases h2 : 8 < s.size
  · have HN := Lib.hid (show nameB s = false by unfold nameB; rw [inB_f (by omega), Bool.and_false])
    have g1 : decide ((s.size : Int) < 1) = false := decide_eq_false (by omega)
    have g2 : decide (8 < (s.size : Int)) = true := decide_eq_true (by omega)
    go_enter Tryz.func107, Tryz.ntmps107
    go_wp2
    go_ret
    exact ⟨ret_b HN.out.symm, Below.refl _ _⟩
  have HN := Lib.hid (show nameB s = lowersTo s s.size by unfold nameB; rw [inB_t (by omega), Bool.and_true])
  have g1 : decide ((s.size : Int) < 1) = false := decide_eq_false (by omega)
  have g2 : decide (8 < (s.size : Int)) = false := decide_eq_false (by omega)
  go_enter Tryz.func107, Tryz.ntmps107
  go_wp2
  go_loopw [14] (fun i wr => ∃ j : Nat, j ≤ s.size ∧ i = .int .i64 (j : Int) ∧ lowersTo s j = true ∧ Below w.heap.size w wr) (fun i _ => s.size - (intOf i).toNat)
  case atStart => exact ⟨0, Nat.zero_le _, rfl, rfl, Below.refl _ _⟩
  case round =>
    obtain ⟨j, hj, rfl, hi, hbel⟩ := hrel
    have HI := Lib.hid hi
    clear hi
    by_cases hlt : j < s.size
    · obtain ⟨c, hc⟩ : ∃ c : Nat, c = (s[j]'hlt).toNat := ⟨_, rfl⟩
      have HLO := Lib.hid (show lowerAt s j = decide (97 ≤ c ∧ c ≤ 122) by unfold lowerAt; rw [dif_pos hlt, ← hc])
      by_cases h1 : c < 97
      · have HF := Lib.hid (lowersTo_f (s := s) (k := j) (by rw [HLO.out]; simp; omega) s.size hlt)
        go_wp2
        go_ret
        exact ⟨ret_b (by rw [HN.out, HF.out]), hbel⟩
      by_cases h2 : 122 < c
      · have HF := Lib.hid (lowersTo_f (s := s) (k := j) (by rw [HLO.out]; simp; omega) s.size hlt)
        go_wp2
        go_ret
        exact ⟨ret_b (by rw [HN.out, HF.out]), hbel⟩
      · have HT := Lib.hid (show lowersTo s (j + 1) = true by rw [lowersTo, HI.out, HLO.out]; simp; omega)
        go_wp2
        go_roundw
        case rel => exact ⟨j + 1, by omega, by go_num, HT.out, hbel⟩
        case measure => simp [intOf]; omega
    · obtain rfl : j = s.size := by omega
      go_wp2
      go_ret
      exact ⟨ret_b (by rw [HN.out, HI.out]), hbel⟩
set_option maxRecDepth 100000 in
set_option maxHeartbeats 1600000 in
theorem implEntryOk_d (v : Value) (x : En) (w : World) (h : RdC w w.heap.size (datEn x) v) (hs : SmEn x) : Calls Tryz.prog 135 #[v] w (Tells (entryB x) w) := by
  obtain ⟨A2, c2, rfl, r2⟩ := aggEn h
  have b0 := alloc_below w (.cells #[.int .i64 x.client, .int .i64 x.seq, .slice A2 x.o.length c2] 92)
  have HE := Lib.hid (show entryB x = (inB x.client 1 8 && inB x.seq 1 1000000000 && isNormL x.o) from rfl)
  cases h1 : inB x.client 1 8
  · go_enter Tryz.func135, Tryz.ntmps135
    go_wp2_with fail
    refine (clientOk_any _ _).mono ?_
    rintro e w1 ⟨rfl, rfl⟩
    rw [h1]
    go_wp2
    go_ret
    exact ⟨ret_b (by rw [HE.out, h1]; rfl), b0⟩
  cases h2 : inB x.seq 1 1000000000
  · go_enter Tryz.func135, Tryz.ntmps135
    go_wp2_with fail
    refine (clientOk_any _ _).mono ?_
    rintro e w1 ⟨rfl, rfl⟩
    rw [h1]
    go_wp2_with fail
    refine (seqOk_any _ _).mono ?_
    rintro e w1 ⟨rfl, rfl⟩
    rw [h2]
    go_wp2
    go_ret
    exact ⟨ret_b (by rw [HE.out, h1, h2]; rfl), b0⟩
  obtain ⟨A, c, e2, hr, _⟩ := parts_rd r2
  injection e2 with e2 _ e3
  subst e2 e3
  have hso := hs.o
  have hs1 := hso.1
  have hs2 := hso.2
  go_enter Tryz.func135, Tryz.ntmps135
  go_wp2_with fail
  refine (clientOk_any _ _).mono ?_
  rintro e w1 ⟨rfl, rfl⟩
  rw [h1]
  go_wp2_with fail
  refine (seqOk_any _ _).mono ?_
  rintro e w1 ⟨rfl, rfl⟩
  rw [h2]
  go_wp2_with fail
  refine (implIsNorm_any A2 c2 x.o _ (hr.past b0) (by omega) hso.all4 hs2).mono ?_
  rintro e w1 ⟨rfl, b1⟩
  go_wp2
  go_ret
  exact ⟨ret_b (by rw [HE.out, h1, h2]; rfl), b0.trans (b1.mono b0.size)⟩
set_option maxRecDepth 100000 in
set_option maxHeartbeats 1600000 in
theorem implHeadRev_w (v : Value) (x : Do) (w : World) (h : RdC w w.heap.size (datDo x) v) : Calls Tryz.prog 86 #[v] w (Nums1 (headRevT x) w) := by
  obtain ⟨A2, c2, A3, c3, A4, c4, rfl, _⟩ := aggDo h
  have b0 := alloc_below w (.cells #[.string x.name, .int .i64 x.from_, .slice A2 x.text.length c2, .slice A3 x.list.length c3, .slice A4 x.seen.length c4] 36)
  go_enter Tryz.func86, Tryz.ntmps86
  go_wp2
  go_ret
  exact ⟨rfl, b0⟩
theorem implHeadRev_d (v : Value) (x : Do) (w : World) (h : RdC w w.heap.size (datDo x) v) (hs : SmDo x) : Calls Tryz.prog 86 #[v] w (Nums1 (headRevT x) w) := implHeadRev_w v x w h
end Go.Proofs.YtgfbcpcfdlnbhabGreatDoor.low


/-
  Lists of rows of clients: the first row of each client, a row put in, rows in order.
-/
namespace Go.Proofs.YtgfbcpcfdlnbhabGreatDoor.low
open Go.RowKit
set_option linter.unusedVariables false

def putSe : List Se → Se → List Se
  | [], s => [s]
  | t :: l, s => if t.client = s.client then s :: l else t :: putSe l s
def OneSe (l : List Se) : Prop := (l.map (·.client)).Nodup
theorem seenGo_none {k : Int} : ∀ {l : List Se}, seenGo k l = none ↔ ∀ s ∈ l, ¬ s.client = k
  | [] => by simp [seenGo]
  | t :: l => by
    unfold seenGo
    by_cases h : t.client = k
    · simp [h]
    · rw [if_neg h, seenGo_none (l := l)]
      simp [h]
theorem seenGo_at {k : Int} {s : Se} : ∀ {l : List Se} {j : Nat}, OneSe l → l[j]? = some s → s.client = k → seenGo k l = some s ∧ ∀ s', s'.client = k → putSe l s' = l.set j s'
  | [], j, _, h, _ => by simp at h
  | t :: l, 0, hn, h, e => by
    obtain rfl : t = s := by simpa using h
    refine ⟨by unfold seenGo; rw [if_pos e], fun s' h' => ?_⟩
    unfold putSe
    rw [if_pos (by rw [e, h'])]
    rfl
  | t :: l, j + 1, hn, h, e => by
    unfold OneSe at hn
    rw [List.map_cons, List.nodup_cons] at hn
    have h1 : l[j]? = some s := by simpa using h
    have hne : ¬ t.client = k := fun h2 => hn.1 (by rw [h2, ← e]; exact List.mem_map.2 ⟨s, List.mem_of_getElem? h1, rfl⟩)
    have ih := seenGo_at (l := l) hn.2 h1 e
    refine ⟨by unfold seenGo; rw [if_neg hne]; exact ih.1, fun s' h' => ?_⟩
    unfold putSe
    rw [if_neg (by rw [h']; exact hne), ih.2 s' h']
    rfl
theorem putSe_new {s : Se} : ∀ {l : List Se}, (∀ t ∈ l, ¬ t.client = s.client) → putSe l s = l ++ [s]
  | [], _ => rfl
  | t :: l, h => by
    unfold putSe
    rw [if_neg (h t (by simp)), putSe_new (fun u hu => h u (by simp [hu]))]
    rfl
theorem putSe_clients {s : Se} : ∀ {l : List Se}, (putSe l s).map (·.client) = if s.client ∈ l.map (·.client) then l.map (·.client) else l.map (·.client) ++ [s.client]
  | [] => by simp [putSe]
  | u :: l => by
    unfold putSe
    by_cases e : u.client = s.client
    · rw [if_pos e]
      simp [e]
    · rw [if_neg e, List.map_cons, putSe_clients (l := l), List.map_cons]
      have e' : ¬ s.client = u.client := fun h => e h.symm
      by_cases h : s.client ∈ l.map (·.client)
      · rw [if_pos h, if_pos (List.mem_cons_of_mem _ h)]
      · rw [if_neg h, if_neg (by simp only [List.mem_cons, not_or]; exact ⟨e', h⟩)]
        rfl
theorem OneSe.put {l : List Se} (h : OneSe l) (s : Se) : OneSe (putSe l s) := by
  unfold OneSe at *
  rw [putSe_clients]
  split
  · exact h
  · rename_i hn
    rw [List.nodup_append]
    refine ⟨h, by simp, fun a ha b hb e => ?_⟩
    obtain rfl : b = s.client := by simpa using hb
    exact hn (e ▸ ha)
theorem putSe_len {l : List Se} {s : Se} : (putSe l s).length ≤ l.length + 1 := by
  have h := congrArg List.length (putSe_clients (l := l) (s := s))
  rw [List.length_map] at h
  rw [h]
  split <;> simp
/-- the first row of each client -/
def firstSe (m : List Se) (s : Se) : List Se := if (seenGo s.client m).isSome then m else putSe m s
def dedSe (l : List Se) : List Se := l.foldl firstSe []
theorem OneSe.nil : OneSe [] := by simp [OneSe]
theorem OneSe.first {l : List Se} (h : OneSe l) (s : Se) : OneSe (firstSe l s) := by
  unfold firstSe
  split
  · exact h
  · exact h.put s
theorem ded_snoc {l : List Se} {j : Nat} {s : Se} (h : l[j]? = some s) : dedSe (l.take (j + 1)) = firstSe (dedSe (l.take j)) s := by
  obtain ⟨hlt, e⟩ := List.getElem?_eq_some_iff.1 h
  rw [List.take_succ_eq_append_getElem hlt, e, dedSe, List.foldl_append]
  rfl
theorem foldFirst_one : ∀ {l m : List Se}, OneSe m → OneSe (l.foldl firstSe m)
  | [], m, h => h
  | s :: l, m, h => foldFirst_one (l := l) (h.first s)
theorem one_ded (l : List Se) : OneSe (dedSe l) := foldFirst_one OneSe.nil
theorem ded_len : ∀ {l m : List Se}, (l.foldl firstSe m).length ≤ m.length + l.length
  | [], m => by simp
  | s :: l, m => by
    have := ded_len (l := l) (m := firstSe m s)
    have h2 : (firstSe m s).length ≤ m.length + 1 := by
      unfold firstSe
      split
      · omega
      · exact putSe_len
    rw [List.foldl_cons, List.length_cons]
    omega
/-- rows in the order of their clients -/
def AscSe (l : List Se) : Prop := l.Pairwise (fun a b => a.client < b.client)
def insSe (s : Se) : List Se → List Se
  | [] => [s]
  | t :: l => if s.client < t.client then s :: t :: l else t :: insSe s l
def ordSe : List Se → List Se
  | [] => []
  | s :: l => insSe s (ordSe l)
theorem insSe_perm {s : Se} : ∀ {l : List Se}, (insSe s l).Perm (s :: l)
  | [] => List.Perm.refl _
  | t :: l => by
    unfold insSe
    split
    · exact List.Perm.refl _
    · exact ((insSe_perm (l := l)).cons t).trans (List.Perm.swap s t l)
theorem ordSe_perm : ∀ {l : List Se}, (ordSe l).Perm l
  | [] => List.Perm.refl _
  | s :: l => insSe_perm.trans ((ordSe_perm (l := l)).cons s)
theorem insSe_asc {s : Se} : ∀ {l : List Se}, AscSe l → (∀ t ∈ l, ¬ t.client = s.client) → AscSe (insSe s l)
  | [], _, _ => by simp [insSe, AscSe]
  | t :: l, h, hn => by
    unfold insSe
    have ht := hn t (by simp)
    unfold AscSe at h
    rw [List.pairwise_cons] at h
    split
    · rename_i hlt
      refine List.pairwise_cons.2 ⟨fun u hu => ?_, List.pairwise_cons.2 h⟩
      rcases List.mem_cons.1 hu with rfl | hu
      · exact hlt
      · have := h.1 u hu; omega
    · rename_i hlt
      refine List.pairwise_cons.2 ⟨fun u hu => ?_, insSe_asc h.2 (fun u hu => hn u (by simp [hu]))⟩
      rcases List.mem_cons.1 (insSe_perm.mem_iff.1 hu) with rfl | hu
      · omega
      · exact h.1 u hu
theorem ordSe_asc : ∀ {l : List Se}, OneSe l → AscSe (ordSe l)
  | [], _ => List.Pairwise.nil
  | s :: l, h => by
    unfold OneSe at h
    rw [List.map_cons, List.nodup_cons] at h
    refine insSe_asc (ordSe_asc (l := l) h.2) (fun t ht e => h.1 ?_)
    rw [← e]
    exact List.mem_map.2 ⟨t, ordSe_perm.mem_iff.1 ht, rfl⟩
theorem asc_eq : ∀ {l m : List Se}, AscSe l → AscSe m → l.Perm m → l = m
  | [], m, _, _, h => (List.Perm.nil_eq h)
  | s :: l, m, h1, h2, h => by
    cases m with
    | nil => exact absurd h.symm.nil_eq (by simp)
    | cons t m =>
      have hs : s ∈ t :: m := h.mem_iff.1 (by simp)
      have ht : t ∈ s :: l := h.mem_iff.2 (by simp)
      unfold AscSe at h1 h2
      rw [List.pairwise_cons] at h1 h2
      obtain rfl : s = t := by
        rcases List.mem_cons.1 hs with e | hs
        · exact e
        · rcases List.mem_cons.1 ht with e | ht
          · exact e.symm
          · have := h1.1 t ht
            have := h2.1 s hs
            omega
      rw [asc_eq h1.2 h2.2 ((List.perm_cons s).1 h)]
theorem AscSe.one {l : List Se} (h : AscSe l) : OneSe l := by
  unfold OneSe List.Nodup
  rw [List.pairwise_map]
  exact List.Pairwise.imp (fun h => by omega) h
theorem one_ordered {l c : List Se} (h : OneSe l) (hp : c.Perm l) (ha : AscSe c) : c = ordSe l := asc_eq ha (ordSe_asc h) (hp.trans ordSe_perm.symm)
theorem foldFirst_new : ∀ {l m : List Se}, OneSe (m ++ l) → l.foldl firstSe m = m ++ l
  | [], m, _ => by simp
  | s :: l, m, h => by
    have h1 : firstSe m s = m ++ [s] := by
      have hn : ∀ t ∈ m, ¬ t.client = s.client := fun t ht e => by
        unfold OneSe at h
        rw [List.map_append, List.nodup_append] at h
        exact h.2.2 t.client (List.mem_map.2 ⟨t, ht, rfl⟩) s.client (by simp) e
      unfold firstSe
      rw [seenGo_none.2 hn, if_neg (by simp), putSe_new hn]
    rw [List.foldl_cons, h1, foldFirst_new (l := l) (m := m ++ [s]) (by rw [List.append_assoc]; exact h), List.append_assoc]
    rfl
theorem ded_one {l : List Se} (h : OneSe l) : dedSe l = l := foldFirst_new (m := []) h
/-- a list is what its rows in order are just when it ascends -/
theorem ord_ded {l : List Se} : l = ordSe (dedSe l) ↔ AscSe l :=
  ⟨fun h => by rw [h]; exact ordSe_asc (one_ded l), fun h => by rw [ded_one h.one]; exact one_ordered h.one (List.Perm.refl _) h⟩
end Go.Proofs.YtgfbcpcfdlnbhabGreatDoor.low


/-
  Maps from a client to its row: the map's block as a list in the order of its entries, and its operations.
-/
namespace Go.Proofs.YtgfbcpcfdlnbhabGreatDoor.low
open Go.RowKit
open Go.ChangeMaps (setBlock)
set_option linter.unusedVariables false

def valSe (s : Se) : Value := .agg #[.int .i64 s.client, .int .i64 s.seq, .int .i64 s.rev]
def entSe (s : Se) : Value × Value := (.int .i64 s.client, valSe s)
def decSe : Value × Value → Se
  | (_, .agg ⟨[.int _ a, .int _ b, .int _ c]⟩) => ⟨a, b, c⟩
  | _ => ⟨0, 0, 0⟩
theorem dec_ent (s : Se) : decSe (entSe s) = s := rfl
structure MapO (l : List Se) (es : Array MapEntry) (clock : Nat) : Prop where
  ents : es.toList.map (fun e => (e.key, e.val)) = l.map entSe
  old : ∀ x ∈ es.toList, x.born < clock
  nd : (es.toList.map (·.born)).Nodup
  one : OneSe l
theorem MapO.new : MapO [] #[] 0 := ⟨rfl, by simp, by simp, OneSe.nil⟩
section
variable {P : Program} {T K E : TypeId} {w : World} {b c0 : Nat} {es : Array MapEntry} {l : List Se}
theorem MapO.at_ (h : MapO l es c0) {j : Nat} {e : MapEntry} (he : es.toList[j]? = some e) : ∃ s, l[j]? = some s ∧ e.key = .int .i64 s.client ∧ e.val = valSe s := by
  have h1 := congrArg (fun x => x[j]?) h.ents
  simp only [List.getElem?_map, he, Option.map_some] at h1
  cases hl : l[j]? with
  | none => rw [hl] at h1; cases h1
  | some s =>
    rw [hl] at h1
    simp only [Option.map_some, Option.some.injEq, entSe, Prod.mk.injEq] at h1
    exact ⟨s, rfl, h1.1, h1.2⟩
theorem MapO.find (h : MapO l es c0) (hk : P.underlying K = some (.int .i64)) (k : Int) :
    ((Instr.findKey K (.int .i64 k) es.toList).run P w = .ok none w ∧ seenGo k l = none ∧ ∀ s', s'.client = k → putSe l s' = l ++ [s']) ∨
    ∃ j s, (Instr.findKey K (.int .i64 k) es.toList).run P w = .ok (some (j, valSe s)) w ∧ l[j]? = some s ∧ s.client = k ∧ seenGo k l = some s ∧ ∀ s', s'.client = k → putSe l s' = l.set j s' := by
  have hkeys : ∀ x ∈ es.toList, MapKept.IsKey (.int .i64) x.key := fun x hx => by
    obtain ⟨j, hj⟩ := List.getElem?_of_mem hx
    obtain ⟨s, _, e, _⟩ := h.at_ hj
    rw [e]
    rfl
  rcases MapKept.findNow_spec (d := .int .i64) (k := .int .i64 k) rfl es.toList 0 hkeys with ⟨h1, h2⟩ | ⟨j, e, h1, h2, h3⟩
  · have hn : ∀ s ∈ l, ¬ s.client = k := fun s hs e => by
      obtain ⟨j, hj⟩ := List.getElem?_of_mem hs
      have h4 := congrArg (fun x => x[j]?) h.ents
      simp only [List.getElem?_map, hj, Option.map_some] at h4
      cases he : es.toList[j]? with
      | none => rw [he] at h4; cases h4
      | some x =>
        rw [he] at h4
        simp only [Option.map_some, Option.some.injEq, entSe, Prod.mk.injEq] at h4
        exact h2 x (List.mem_of_getElem? he) (by rw [h4.1, e])
    refine .inl ⟨by simp [Instr.findKey, run_underlying hk, h1], seenGo_none.2 hn, fun s' h' => putSe_new (fun t ht e => hn t ht (by rw [e, h']))⟩
  · obtain ⟨s, hs, e1, e2⟩ := h.at_ h2
    have hc : s.client = k := by
      rw [e1] at h3
      injection h3
    obtain ⟨h5, h6⟩ := seenGo_at h.one hs hc
    refine .inr ⟨j, s, ?_, hs, hc, h5, h6⟩
    rw [Nat.zero_add] at h1
    simp [Instr.findKey, run_underlying hk, h1, e2]
theorem run_lookup_se (hT : P.underlying T = some (.map K E)) (hk : P.underlying K = some (.int .i64)) (hz : ∀ w, (zeroValue E).run P w = .ok (valSe ⟨0, 0, 0⟩) w) (hb : w.heap[b]? = some (.map es c0)) (h : MapO l es c0) (k : Int) :
    (Instr.lookup T (.map (some b)) (.int .i64 k) true).run P w = .ok (.tuple #[valSe ((seenGo k l).getD ⟨0, 0, 0⟩), .bool (seenGo k l).isSome]) w := by
  have hck := MapKept.run_checkKey (w := w) hk (k := .int .i64 k) rfl es.isEmpty 9999
  rcases h.find (w := w) hk k with ⟨h1, h2, _⟩ | ⟨j, s, h1, _, _, h2, _⟩
  · simp [Instr.lookup, run_underlying hT, MapKept.run_getObj_map hb, hck, h1, h2, hz, Result.andThen]
  · simp [Instr.lookup, run_underlying hT, MapKept.run_getObj_map hb, hck, h1, h2, Result.andThen]
theorem map_modify (f : MapEntry → MapEntry) {j : Nat} {e' : Value × Value} (hf : ∀ e : MapEntry, ((f e).key, (f e).val) = e') (l : List MapEntry) : (l.modify j f).map (fun e => (e.key, e.val)) = (l.map (fun e => (e.key, e.val))).set j e' := by
  induction l generalizing j with
  | nil => simp
  | cons a l ih =>
    cases j with
    | zero => simp [hf]
    | succ j => simp [ih]
theorem born_modify (f : MapEntry → MapEntry) {j : Nat} (hf : ∀ e : MapEntry, (f e).born = e.born) (l : List MapEntry) : (l.modify j f).map (·.born) = l.map (·.born) := by
  induction l generalizing j with
  | nil => simp
  | cons a l ih =>
    cases j with
    | zero => simp [hf]
    | succ j => simp [ih]
theorem run_update_se (hT : P.underlying T = some (.map K E)) (hk : P.underlying K = some (.int .i64)) (hb : w.heap[b]? = some (.map es c0)) (h : MapO l es c0) (s : Se) :
    ∃ es' c', (Instr.mapUpdate T (.map (some b)) (.int .i64 s.client) (valSe s)).run P w = .ok () (setBlock w b (.map es' c')) ∧ MapO (putSe l s) es' c' := by
  have hck := MapKept.run_checkKey (w := w) hk (k := .int .i64 s.client) rfl false 9999
  rcases h.find (w := w) hk s.client with ⟨h1, h2, h3⟩ | ⟨j, t, h1, h4, h5, h2, h3⟩
  · refine ⟨es.push ⟨.int .i64 s.client, valSe s, c0⟩, c0 + 1, ?_, ?_, ?_, ?_, h.one.put s⟩
    · simp [Instr.mapUpdate, run_underlying hT, MapKept.run_getObj_map hb, hck, h1, MapKept.run_setObj_map _ hb, Result.andThen, setBlock]
    · rw [Array.toList_push, List.map_append, h.ents, h3 s rfl, List.map_append]
      rfl
    · intro x hx
      rw [Array.toList_push] at hx
      rcases List.mem_append.1 hx with hx | hx
      · have := h.old x hx; omega
      · obtain rfl := List.mem_singleton.1 hx
        exact Nat.lt_succ_self _
    · rw [Array.toList_push, List.map_append, List.nodup_append]
      refine ⟨h.nd, by simp, fun a ha b hb e => ?_⟩
      obtain ⟨x, hx, rfl⟩ := List.mem_map.1 ha
      have := h.old x hx
      simp at hb
      omega
  · have hlt : j < es.size := by
      have h6 : j < l.length := (List.getElem?_eq_some_iff.1 h4).1
      have h7 := congrArg List.length h.ents
      simp at h7
      omega
    obtain ⟨u, hu, e1, e2⟩ := h.at_ (j := j) (e := es[j]) (by simp [hlt])
    obtain rfl : t = u := by rw [h4] at hu; injection hu
    have hst : (Instr.keyThatStays (.int .i64 t.client) (.int .i64 s.client)).run P w = .ok (.int .i64 s.client) w := by
      rw [h5]
      simp [Instr.keyThatStays, Instr.sameBits]
    refine ⟨es.modify j (fun e => { e with key := .int .i64 s.client, val := valSe s }), c0, ?_, ?_, ?_, ?_, h.one.put s⟩
    · have e3 : ((es[j]?).map (·.key)).getD (.int .i64 s.client) = .int .i64 t.client := by
        rw [Array.getElem?_eq_getElem hlt]
        exact e1
      simp [Instr.mapUpdate, run_underlying hT, MapKept.run_getObj_map hb, hck, h1, MapKept.run_setObj_map _ hb, Result.andThen, setBlock, e1, hlt, hst]
    · rw [Array.toList_modify, map_modify (e' := entSe s) _ (fun e => rfl), h.ents, h3 s rfl, List.map_set]
    · intro x hx
      have h8 : x.born ∈ (es.modify j (fun e => { e with key := .int .i64 s.client, val := valSe s })).toList.map (·.born) := List.mem_map.2 ⟨x, hx, rfl⟩
      rw [Array.toList_modify, born_modify (fun e => { e with key := .int .i64 s.client, val := valSe s }) (fun e => rfl)] at h8
      obtain ⟨y, hy, e⟩ := List.mem_map.1 h8
      rw [← e]
      exact h.old y hy
    · rw [Array.toList_modify, born_modify (fun e => { e with key := .int .i64 s.client, val := valSe s }) (fun e => rfl)]
      exact h.nd
variable {ops : Array Oper} {rest : List Oper} {o : Oper} {a : Act} {Q : Exit → Act → World → Prop}
theorem wpList_lookup_se (hg : o.guard = none) (m x : Operand) (T : TypeId) (hop : o.op = Op.lookup T m x true) (K E : TypeId) (hT : P.underlying T = some (.map K E)) (hk : P.underlying K = some (.int .i64)) (hz : ∀ w, (zeroValue E).run P w = .ok (valSe ⟨0, 0, 0⟩) w)
    (b : Nat) (hm : a.eval m = .map (some b)) (k : Int) (hx : a.eval x = .int .i64 k) (hb : w.heap[b]? = some (.map es c0)) (h : MapO l es c0)
    (hK : wpList P ops Q rest (a.put o.dst (.tuple #[valSe ((seenGo k l).getD ⟨0, 0, 0⟩), .bool (seenGo k l).isSome])) w) : wpList P ops Q (o :: rest) a w := by
  refine wpList_plain hg fun K' hK' => ?_
  have hrun := run_lookup_se hT hk hz hb h k
  unfold Oper.wp
  simp [execOp, hop, hm, hx, hrun, Result.andThen]
  exact hK' _ _ hK
theorem wpList_update_se (hg : o.guard = none) (m x v : Operand) (T : TypeId) (hop : o.op = Op.mapUpdate T m x v) (K E : TypeId) (hT : P.underlying T = some (.map K E)) (hk : P.underlying K = some (.int .i64))
    (b : Nat) (hm : a.eval m = .map (some b)) (s : Se) (hx : a.eval x = .int .i64 s.client) (hv : a.eval v = .agg #[.int .i64 s.client, .int .i64 s.seq, .int .i64 s.rev]) (hb : w.heap[b]? = some (.map es c0)) (h : MapO l es c0)
    (hK : ∀ es' c', MapO (putSe l s) es' c' → wpList P ops Q rest (a.put o.dst undef) (setBlock w b (.map es' c'))) : wpList P ops Q (o :: rest) a w := by
  refine wpList_plain hg fun K' hK' => ?_
  obtain ⟨es', c', hrun, h'⟩ := run_update_se hT hk hb h s
  unfold valSe at hrun
  unfold Oper.wp
  simp [execOp, hop, hm, hx, hv, hrun, Result.andThen]
  exact hK' _ _ (hK es' c' h')
theorem wpList_lookup_none (hg : o.guard = none) (m x : Operand) (T : TypeId) (hop : o.op = Op.lookup T m x true) (K E : TypeId) (hT : P.underlying T = some (.map K E)) (hk : P.underlying K = some (.int .i64)) (hz : ∀ w, (zeroValue E).run P w = .ok (valSe ⟨0, 0, 0⟩) w)
    (b : Nat) (hm : a.eval m = .map (some b)) (k : Int) (hx : a.eval x = .int .i64 k) (hb : w.heap[b]? = some (.map es c0)) (h : MapO l es c0) (hn : seenGo k l = none)
    (hK : wpList P ops Q rest (a.put o.dst (.tuple #[.agg #[.int .i64 0, .int .i64 0, .int .i64 0], .bool false])) w) : wpList P ops Q (o :: rest) a w :=
  wpList_lookup_se hg m x T hop K E hT hk hz b hm k hx hb h (by rw [hn]; exact hK)
theorem wpList_lookup_hit {s : Se} (hg : o.guard = none) (m x : Operand) (T : TypeId) (hop : o.op = Op.lookup T m x true) (K E : TypeId) (hT : P.underlying T = some (.map K E)) (hk : P.underlying K = some (.int .i64)) (hz : ∀ w, (zeroValue E).run P w = .ok (valSe ⟨0, 0, 0⟩) w)
    (b : Nat) (hm : a.eval m = .map (some b)) (k : Int) (hx : a.eval x = .int .i64 k) (hb : w.heap[b]? = some (.map es c0)) (h : MapO l es c0) (hn : seenGo k l = some s)
    (hK : wpList P ops Q rest (a.put o.dst (.tuple #[.agg #[.int .i64 s.client, .int .i64 s.seq, .int .i64 s.rev], .bool true])) w) : wpList P ops Q (o :: rest) a w :=
  wpList_lookup_se hg m x T hop K E hT hk hz b hm k hx hb h (by rw [hn]; exact hK)
/-- what a range over the map has given so far -/
def Seen_ (es : Array MapEntry) (seen : Array Nat) (c : List Se) : Prop := ∃ ds : List MapEntry, seen.toList = ds.map (·.born) ∧ (∀ e ∈ ds, e ∈ es.toList) ∧ ds.Nodup ∧ ds.map (fun e => (e.key, e.val)) = c.map entSe
theorem Seen_.nil (es : Array MapEntry) : Seen_ es #[] [] := ⟨[], rfl, by simp, by simp, rfl⟩
theorem MapO.mem (h : MapO l es c0) {e : MapEntry} (he : e ∈ es.toList) : ∃ s, s ∈ l ∧ e.key = .int .i64 s.client ∧ e.val = valSe s := by
  obtain ⟨j, hj⟩ := List.getElem?_of_mem he
  obtain ⟨s, h1, h2, h3⟩ := h.at_ hj
  exact ⟨s, List.mem_of_getElem? h1, h2, h3⟩
theorem Seen_.step {seen : Array Nat} {c : List Se} (h : Seen_ es seen c) {e : MapEntry} {s : Se} (he : e ∈ es.toList) (hn : seen.contains e.born = false) (h1 : e.key = .int .i64 s.client) (h2 : e.val = valSe s) : Seen_ es (seen.push e.born) (c ++ [s]) := by
  obtain ⟨ds, d1, d2, d3, d4⟩ := h
  have hn' : e.born ∉ seen.toList := by simpa using hn
  refine ⟨ds ++ [e], by simp [d1], fun x hx => ?_, ?_, by simp [d4, h1, h2, entSe]⟩
  · rcases List.mem_append.1 hx with hx | hx
    · exact d2 x hx
    · obtain rfl := List.mem_singleton.1 hx
      exact he
  · rw [List.nodup_append]
    refine ⟨d3, by simp, fun x hx y hy e1 => ?_⟩
    obtain rfl := List.mem_singleton.1 hy
    subst e1
    exact hn' (by rw [d1]; exact List.mem_map.2 ⟨_, hx, rfl⟩)
theorem born_one : ∀ {l : List MapEntry}, (l.map (·.born)).Nodup → ∀ {x y : MapEntry}, x ∈ l → y ∈ l → x.born = y.born → x = y
  | [], _, x, y, hx, _, _ => by simp at hx
  | a :: l, h, x, y, hx, hy, e => by
    rw [List.map_cons, List.nodup_cons] at h
    rcases List.mem_cons.1 hx with e1 | hx
    · rcases List.mem_cons.1 hy with e2 | hy
      · rw [e1, e2]
      · exact absurd (by rw [← e1, e]; exact List.mem_map.2 ⟨y, hy, rfl⟩) h.1
    · rcases List.mem_cons.1 hy with e2 | hy
      · exact absurd (by rw [← e2, ← e]; exact List.mem_map.2 ⟨x, hx, rfl⟩) h.1
      · exact born_one h.2 hx hy e
theorem Seen_.all {seen : Array Nat} {c : List Se} (h : Seen_ es seen c) (hm : MapO l es c0) (h0 : (leftOf es seen).size = 0) : c.Perm l := by
  obtain ⟨ds, d1, d2, d3, d4⟩ := h
  have hn : es.toList.Nodup := (List.pairwise_map.1 hm.nd).imp (fun h e => h (by rw [e]))
  have hp : ds.Perm es.toList := by
    rw [List.perm_ext_iff_of_nodup d3 hn]
    refine fun e => ⟨d2 e, fun he => ?_⟩
    have h1 := all_seen es seen h0 e he
    have h2 : e.born ∈ seen.toList := by simpa using h1
    rw [d1] at h2
    obtain ⟨d, hd, e1⟩ := List.mem_map.1 h2
    rw [← born_one hm.nd (d2 d hd) he e1]
    exact hd
  have h3 := (hp.map (fun e => (e.key, e.val))).map decSe
  rw [d4, hm.ents, List.map_map, List.map_map] at h3
  have h4 : (decSe ∘ entSe) = id := by funext s; exact dec_ent s
  rwa [h4, List.map_id, List.map_id] at h3
theorem wpList_range_se (hg : o.guard = none) (m : Operand) (T : TypeId) (hop : o.op = Op.range T m) (K E : TypeId) (hT : P.underlying T = some (.map K E)) (b : Nat) (hm : a.eval m = .map (some b)) (hb : w.heap[b]? = some (.map es c0))
    (hK : wpList P ops Q rest (a.put o.dst (.pointer (some ⟨w.heap.size, 0, none⟩))) (w.alloc (.mapIter (some b) c0 #[] c0))) : wpList P ops Q (o :: rest) a w := by
  refine wpList_plain hg fun K' hK' => ?_
  have hrun := run_range_map (P := P) w T K E b es c0 hT hb
  unfold Oper.wp
  simp [execOp, hop, hm, hrun, Result.andThen]
  exact hK' _ _ hK
theorem wpList_next_se (hg : o.guard = none) (it : Operand) (hop : o.op = Op.next it false) (r b : Nat) (seen : Array Nat) (c : List Se) (hit : a.eval it = .pointer (some ⟨r, 0, none⟩)) (hr : w.heap[r]? = some (.mapIter (some b) c0 seen c0)) (hb : w.heap[b]? = some (.map es c0)) (h : MapO l es c0) (hs : Seen_ es seen c)
    (hDone : c.Perm l → wpList P ops Q rest (a.put o.dst (.tuple #[.bool false])) w)
    (hMore : ∀ (s : Se) (seen' : Array Nat) (w1 : World), s ∈ l → Seen_ es seen' (c ++ [s]) → (leftOf es seen').size < (leftOf es seen).size → (w1 = w ∨ w1 = w.drew) →
      (Instr.entry (.pointer (some ⟨r, 0, none⟩))).run P (setBlock w1 r (.mapIter (some b) c0 seen' c0)) = .ok (.tuple #[.int .i64 s.client, .agg #[.int .i64 s.client, .int .i64 s.seq, .int .i64 s.rev]]) (setBlock w1 r (.mapIter (some b) c0 seen' c0)) →
      wpList P ops Q rest (a.put o.dst (.tuple #[.bool true, .int .i64 s.client, .agg #[.int .i64 s.client, .int .i64 s.seq, .int .i64 s.rev]])) (setBlock w1 r (.mapIter (some b) c0 seen' c0))) : wpList P ops Q (o :: rest) a w := by
  refine wpList_plain hg fun K' hK' => ?_
  unfold Oper.wp
  rcases run_next_at (P := P) w o.type r b c0 c0 seen es c0 hr hb h.old (Nat.le_refl _) with ⟨h0, hrun⟩ | ⟨e, he, w1, hw, hrun⟩
  · simp [execOp, hop, hit, hrun, Result.andThen]
    exact hK' _ _ (hDone (hs.all h h0))
  · obtain ⟨h1, h2⟩ := mem_left he
    obtain ⟨s, h3, h4, h5⟩ := h.mem h1
    have hne : ¬ b = r := fun e => by rw [e, hr] at hb; cases hb
    have hr1 : w1.heap[r]? = some (.mapIter (some b) c0 seen c0) := by rcases hw with rfl | rfl <;> exact hr
    have hb1 : w1.heap[b]? = some (.map es c0) := by rcases hw with rfl | rfl <;> exact hb
    have hset := MapKept.heap_set (o' := .mapIter (some b) c0 (seen.push e.born) c0) hr1
    have hen := run_entry_at (P := P) (setBlock w1 r (.mapIter (some b) c0 (seen.push e.born) c0)) r b c0 seen es c0 e hset.1 ((hset.2 b hne).trans hb1) h1 h.nd
    rw [h4, h5] at hrun hen
    unfold valSe at hrun hen
    simp [execOp, hop, hit, hrun, Result.andThen]
    exact hK' _ _ (hMore s _ w1 h3 (hs.step h1 h2 h4 h5) (left_shrinks es seen e he) hw hen)
end
section
variable {w0 W : World} {L : List It}
theorem Ms.obj {g : Nat} {o o' : Obj} (h : Ms w0 (.bx g o :: L) W) : Ms w0 (.bx g o' :: L) (setBlock W g o') := by
  have hg := h.glt (i := 0) rfl
  have hset := MapKept.heap_set (o' := o') (show W.heap[g]? = some o from h.at_ (i := 0) rfl)
  refine h.turn (by simp [setBlock]) (fun q hq hn => hset.2 q (fun e => hn (by simp [It.bs]; exact e))) ⟨h.bl.os, h.bl.tape, h.bl.output, by simp [setBlock]; exact h.bl.size, fun q hq => (hset.2 q (by omega)).trans (h.bl.block q hq)⟩ hset.1 (by simp [It.bs]) (fun q hq => .inl hq)
theorem Ms.newO (h : Ms w0 L W) (o : Obj) : Ms w0 (.bx W.heap.size o :: L) (W.alloc o) :=
  h.cons (alloc_below W _) (heap_alloc_new W _) (by simp [It.bs]) (fun q hq => by simp [It.bs] at hq; omega)
theorem Ms.either (h : Ms w0 L W) {W1 : World} (hw : W1 = W ∨ W1 = W.drew) : Ms w0 L W1 := by
  rcases hw with rfl | rfl
  · exact h
  · exact h.drew
end
end Go.Proofs.YtgfbcpcfdlnbhabGreatDoor.low


/-
  Rows of clients sorted: the library's words of a sorted row in the words of Ms.
-/
namespace Go.Proofs.YtgfbcpcfdlnbhabGreatDoor.low
open Go.RowKit Go.Sort
set_option linter.unusedVariables false

instance : Inhabited Se := ⟨⟨0, 0, 0⟩⟩
def encV (s : Se) : List Value := [.int .i64 s.client, .int .i64 s.seq, .int .i64 s.rev]
theorem flatV_get : ∀ (c : List Se) (t : Nat), (c.flatMap encV)[t]? = (c[t / 3]?).bind (fun s => (encV s)[t % 3]?)
  | [], t => by simp
  | s :: c, t => by
    rw [List.flatMap_cons]
    by_cases h : t < 3
    · rw [List.getElem?_append_left (by simp [encV]; omega), Nat.div_eq_of_lt h, Nat.mod_eq_of_lt h]
      rfl
    · rw [List.getElem?_append_right (by simp [encV]; omega), flatV_get c]
      have e1 : (encV s).length = 3 := rfl
      obtain ⟨k, rfl⟩ : ∃ k, t = k + 3 := ⟨t - 3, by omega⟩
      rw [e1, Nat.add_sub_cancel, Nat.add_mod_right, Nat.add_div_right _ (by omega)]
      rfl
theorem flatV_len : ∀ c : List Se, (c.flatMap encV).length = c.length * 3
  | [] => rfl
  | s :: c => by
    rw [List.flatMap_cons, List.length_append, flatV_len c, List.length_cons]
    show 3 + _ = _
    omega
theorem flatK_at {c : List Se} {t : Nat} (h : t < c.length * 3) : (c.flatMap encV)[t]? = some (flatK encV 3 c.toArray)[t]! := by
  rw [get_flatK encV 3 c.toArray t (by simpa using h), flatV_get]
  have h3 : t / 3 < c.length := by omega
  have e : (c.toArray)[t / 3]! = c[t / 3] := by rw [getElem!_pos c.toArray (t / 3) (by simpa using h3)]; simp
  rw [List.getElem?_eq_getElem h3, e]
  show (encV c[t / 3])[t % 3]? = _
  have h4 : t % 3 < (encV c[t / 3]).length := by show t % 3 < 3; omega
  rw [List.getElem?_eq_getElem h4, getElem!_pos (encV c[t / 3]) (t % 3) h4]
theorem owl_se {w : World} {s : Se} {y : List Value} {b : List Nat} (h : OwL w (encSe s) y b) : y = encV s ∧ b = [] := by
  obtain ⟨x1, y1, b1, b1', rfl, rfl, h1, x2, y2, b2, b2', rfl, rfl, h2, x3, y3, b3, b3', rfl, rfl, h3, rfl, rfl⟩ := h
  obtain ⟨rfl, rfl⟩ := h1
  obtain ⟨rfl, rfl⟩ := h2
  obtain ⟨rfl, rfl⟩ := h3
  exact ⟨rfl, rfl⟩
theorem owl_of (w : World) (s : Se) : OwL w (encSe s) (encV s) [] := ⟨_, _, [], [], rfl, rfl, ⟨rfl, rfl⟩, _, _, [], [], rfl, rfl, ⟨rfl, rfl⟩, _, _, [], [], rfl, rfl, ⟨rfl, rfl⟩, rfl, rfl⟩
theorem owr_se {w : World} : ∀ {c : List Se} {xs : List Value} {cs : List Nat}, OwR w 3 (c.map encSe) xs cs → xs = c.flatMap encV ∧ cs = []
  | [], xs, cs, h => h
  | s :: c, xs, cs, h => by
    obtain ⟨y, ys, b, b', rfl, _, rfl, h1, h2⟩ := h
    obtain ⟨rfl, rfl⟩ := owl_se h1
    obtain ⟨rfl, rfl⟩ := owr_se h2
    exact ⟨rfl, rfl⟩
theorem owr_of (w : World) : ∀ c : List Se, OwR w 3 (c.map encSe) (c.flatMap encV) []
  | [] => ⟨rfl, rfl⟩
  | s :: c => ⟨encV s, c.flatMap encV, [], [], rfl, rfl, rfl, owl_of w s, owr_of w c⟩
theorem holds_se {W : World} {c : List Se} {g n cap : Nat} {b : List Nat} (h : OwC W (encSes c) (.slice (some ⟨g, 0, none⟩) n cap) b) : n = c.length ∧ b = [g] ∧ HoldsK encV 3 W g 0 c.toArray := by
  obtain ⟨hn, xs, cs, ho, hr, hb⟩ := OwC.open_ h
  obtain ⟨rfl, rfl⟩ := owr_se hr
  refine ⟨by simpa using hn, hb, fun j hj => ?_⟩
  have hj' : j < c.length * 3 := by simpa using hj
  rw [Nat.zero_add]
  exact ⟨own_cells ho j _ (flatK_at hj'), ho.frozenAt j⟩
section
variable {w0 W : World} {L : List It}
theorem Ms.sorted {c d : List Se} {g n cap : Nat} {b : List Nat} (h : Ms w0 (.dt (encSes c) (.slice (some ⟨g, 0, none⟩) n cap) b :: L) W) (hd : d.length = c.length) (q : Nat) (os : Array Obj) :
    Ms w0 (.dt (encSes d) (.slice (some ⟨g, 0, none⟩) n cap) b :: L) (sortWorldK encV 3 W g 0 q d.toArray os) := by
  have hx : OwC W (encSes c) (.slice (some ⟨g, 0, none⟩) n cap) b := h.at_ (i := 0) rfl
  obtain ⟨hn, hb, _⟩ := holds_se hx
  obtain ⟨_, xs, cs, ho, hr, _⟩ := OwC.open_ hx
  obtain ⟨rfl, rfl⟩ := owr_se hr
  subst hb
  have hg := h.bsAt (i := 0) rfl g (by simp [It.bs])
  rcases ho.2 with ⟨e0, _⟩ | ⟨g', cap', cur, e0, _, hh, hnc, hm, hs, ht⟩
  · cases e0
  injection e0 with e1 _ e3
  injection e1 with e1
  injection e1 with e1
  subst e1 e3
  have hsz : (sortWorldK encV 3 W g 0 q d.toArray os).heap.size = W.heap.size + os.size := by simp [sortWorldK, putRowK, Sort.putRow, mapBlock, Sort.ahead]
  have hold : ∀ k, k < W.heap.size → k ≠ g → (sortWorldK encV 3 W g 0 q d.toArray os).heap[k]? = W.heap[k]? := fun k hk hne => by
    unfold sortWorldK
    rw [heap_grow_old _ _ (by simpa [putRowK, Sort.putRow, mapBlock, Sort.ahead] using hk)]
    simp [putRowK, Sort.putRow, mapBlock, Sort.ahead, Array.getElem?_modify, Ne.symm hne]
  refine h.turn (by omega) (fun k hk hne => hold k hk (fun e => hne (by simp [It.bs, e]))) ⟨h.bl.os, h.bl.tape, h.bl.output, by have := h.bl.size; omega, fun k hk => (hold k (by have := h.bl.size; omega) (by omega)).trans (h.bl.block k hk)⟩ ?_ (by simp [It.bs]) (fun k hk => .inl hk)
  have hgk : (sortWorldK encV 3 W g 0 q d.toArray os).heap[g]? = some (.cells (putCells id 0 (flatK encV 3 d.toArray) cur) 87 (0, 0)) := by
    unfold sortWorldK
    rw [heap_grow_old _ _ (by simpa [putRowK, Sort.putRow, mapBlock, Sort.ahead] using hg.2)]
    simp [putRowK, Sort.putRow, mapBlock, Sort.ahead, Array.getElem?_modify, hh, onCells]
  have hl1 : (c.map encSe).length = (d.map encSe).length := by simp [hd]
  refine ⟨d.flatMap encV, [], ?_, owr_of _ d, rfl⟩
  rw [hn]
  refine ⟨by rw [flatV_len]; simp, .inr ⟨g, cap, _, by simp [hd], Nat.zero_le _, hgk, by rw [← hl1]; exact hnc, hm, by simpa [putCells] using hs, ?_⟩⟩
  apply List.ext_getElem?
  intro t
  rw [List.getElem?_take, List.length_map]
  by_cases ht' : t < d.length * 3
  · have hcs : t < cur.size := by
      rw [hs]
      have : d.length * 3 ≤ cap * 3 := Nat.mul_le_mul_right 3 (by rw [hd]; simpa using hnc)
      omega
    rw [if_pos ht', flatK_at ht', Array.getElem?_toList]
    simp only [putCells, Array.getElem?_mapIdx, Array.getElem?_eq_getElem hcs, Option.map_some]
    rw [if_pos (by simp; omega)]
    rfl
  · rw [if_neg ht', List.getElem?_eq_none (by rw [flatV_len]; omega)]
end
/-- a sorted permutation of rows of different clients -/
theorem sorted_ord {c d : List Se} (h1 : OneSe c) (hp : PermIn 0 c.toArray.size c.toArray d.toArray) (hs : SortedIn (ltOf fun x y : Se => Lib.compareInt x.client y.client) 0 c.toArray.size d.toArray) : d.length = c.length ∧ d = ordSe c := by
  obtain ⟨p1, _, p3⟩ := hp
  have hl : d.length = c.length := by simpa using p1
  have hperm : d.Perm c := by
    have : (d.toArray.extract 0 c.toArray.size).toList = d := by simp [← hl]
    rw [this] at p3
    simpa using p3
  refine ⟨hl, one_ordered h1 hperm ?_⟩
  have hd1 : OneSe d := (hperm.map Se.client).nodup_iff.2 h1
  unfold AscSe
  rw [List.pairwise_iff_getElem]
  intro i j hi hj hij
  have h2 := hs i j (Nat.zero_le _) hij (by simp; omega)
  rw [getElem!_pos d.toArray i (by simpa using hi), getElem!_pos d.toArray j (by simpa using hj)] at h2
  have hne : ¬ d[i].client = d[j].client := fun e => by
    unfold OneSe List.Nodup at hd1
    rw [List.pairwise_map, List.pairwise_iff_getElem] at hd1
    exact hd1 i j hi hj hij e
  simp only [List.getElem_toArray, ltOf, Lib.compareInt] at h2
  by_cases h3 : d[j].client < d[i].client
  · rw [if_pos h3] at h2
    simp at h2
  · omega
theorem ltSe (x y : Se) : ltOf (fun x y : Se => Lib.compareInt x.client y.client) x y = decide (x.client < y.client) := by
  unfold ltOf Lib.compareInt
  by_cases h1 : x.client < y.client
  · simp [h1]
  · by_cases h2 : y.client < x.client <;> simp [h1, h2]
theorem swoSe : SWO (ltOf fun x y : Se => Lib.compareInt x.client y.client) where
  irrefl x := by rw [ltSe]; simp
  trans x y z h1 h2 := by rw [ltSe] at *; simp at *; omega
  ntrans x y z h1 h2 := by rw [ltSe] at *; simp at *; omega
end Go.Proofs.YtgfbcpcfdlnbhabGreatDoor.low

/-
  The library's contracts that this seat's proofs use, laid at this seat's translation by the guide's own tool in plain words; no conditions but those in each statement.
-/
namespace Go.Proofs
open Go.Shelf
def Tryz.lays125_ren : Go.Shelf.Ren := ⟨fun | 125 => 152 | 128 => 170 | 129 => 171 | n => n, fun | 46 => 195 | 3 => 3 | 51 => 217 | 53 => 219 | 4 => 4 | 5 => 5 | 9 => 9 | n => n, fun | n => n⟩
theorem Tryz.lays125 : Go.Proofs.Lays.n125 Tryz.prog Tryz.lays125_ren := {
  mixed := by kernel_rfl
  f125 := Tryz.func152.trans (congrArg some (by kernel_rfl))
  f128 := Tryz.func170.trans (congrArg some (by kernel_rfl))
  f129 := Tryz.func171.trans (congrArg some (by kernel_rfl))
  t3 := Tryz.underlying3
  a3 := Tryz.isAgg3
  z3 := Tryz.sizeOf3
  v3 := Tryz.zeroValue3
  t4 := Tryz.underlying4
  a4 := Tryz.isAgg4
  z4 := Tryz.sizeOf4
  v4 := Tryz.zeroValue4
  t5 := Tryz.underlying5
  a5 := Tryz.isAgg5
  z5 := Tryz.sizeOf5
  v5 := Tryz.zeroValue5
  t9 := Tryz.underlying9
  a9 := Tryz.isAgg9
  z9 := Tryz.sizeOf9
  v9 := Tryz.zeroValue9
  t46 := Tryz.underlying195
  a46 := Tryz.isAgg195
  z46 := Tryz.sizeOf195
  v46 := Tryz.zeroValue195
  t51 := Tryz.underlying217
  a51 := Tryz.isAgg217
  z51 := Tryz.sizeOf217
  v51 := Tryz.zeroValue217
  t53 := Tryz.underlying219
  a53 := Tryz.isAgg219
  z53 := Tryz.sizeOf219
  v53 := Tryz.zeroValue219 }
/-- bits.Len: "Len returns the minimum number of bits required to represent x; the result is 0 for x == 0.": IT RETURNS 'Lib.bitLen x'; the world is as it was. (A uint has 64 bits in the model.) ITS CALLEE bits.Len64 IS MET BY ITS OWN CONTRACT OFF THE SHELF (lay that first). (LAID: no walk: one application.) -/
theorem Tryz.bits_Len (x : Int) (w : World) (h0 : 0 ≤ x) (h1 : x ≤ 18446744073709551615) :
    Calls Tryz.prog 152 #[.int .u64 x] w fun e w' => e = .returned (.int .i64 (Lib.bitLen x.toNat)) ∧ w' = w := Any.bits_Len Tryz.lays125 x w h0 h1
def Tryz.sortSe_ren : Go.Shelf.Ren := ⟨fun | 6 => 138 | 15 => 152 | 14 => 151 | 28 => 170 | 29 => 171 | 20 => 162 | 21 => 163 | 22 => 164 | 23 => 165 | 24 => 166 | 25 => 167 | 26 => 168 | 27 => 169 | 46 => 181 | 47 => 182 | 48 => 183 | 49 => 184 | 50 => 185 | 57 => 189 | n => n, fun | 22 => 34 | 24 => 87 | 25 => 177 | 3 => 3 | 39 => 195 | 0 => 0 | 53 => 217 | 55 => 219 | 4 => 4 | 46 => 210 | 45 => 209 | 50 => 214 | 5 => 5 | 9 => 9 | 66 => 222 | 70 => 226 | 76 => 229 | 77 => 230 | n => n, fun | n => n⟩
theorem Tryz.sortSe : Go.Proofs.SlLaysF0.n6 Tryz.prog Tryz.sortSe_ren := {
  mixed := by kernel_rfl
  f6 := ⟨Tryz.f138.name, by decide, Tryz.func138.trans (congrArg some (by kernel_rfl))⟩
  f14 := ⟨Tryz.f151.name, by decide, Tryz.func151.trans (congrArg some (by kernel_rfl))⟩
  f15 := Tryz.func152.trans (congrArg some (by kernel_rfl))
  f20 := ⟨Tryz.f162.name, by decide, Tryz.func162.trans (congrArg some (by kernel_rfl))⟩
  f21 := ⟨Tryz.f163.name, by decide, Tryz.func163.trans (congrArg some (by kernel_rfl))⟩
  f22 := ⟨Tryz.f164.name, by decide, Tryz.func164.trans (congrArg some (by kernel_rfl))⟩
  f23 := ⟨Tryz.f165.name, by decide, Tryz.func165.trans (congrArg some (by kernel_rfl))⟩
  f24 := ⟨Tryz.f166.name, by decide, Tryz.func166.trans (congrArg some (by kernel_rfl))⟩
  f25 := ⟨Tryz.f167.name, by decide, Tryz.func167.trans (congrArg some (by kernel_rfl))⟩
  f26 := ⟨Tryz.f168.name, by decide, Tryz.func168.trans (congrArg some (by kernel_rfl))⟩
  f27 := ⟨Tryz.f169.name, by decide, Tryz.func169.trans (congrArg some (by kernel_rfl))⟩
  f28 := Tryz.func170.trans (congrArg some (by kernel_rfl))
  f29 := Tryz.func171.trans (congrArg some (by kernel_rfl))
  f46 := ⟨Tryz.f181.name, by decide, Tryz.func181.trans (congrArg some (by kernel_rfl))⟩
  f47 := Tryz.func182.trans (congrArg some (by kernel_rfl))
  f48 := Tryz.func183.trans (congrArg some (by kernel_rfl))
  f49 := ⟨Tryz.f184.name, by decide, Tryz.func184.trans (congrArg some (by kernel_rfl))⟩
  f50 := ⟨Tryz.f185.name, by decide, Tryz.func185.trans (congrArg some (by kernel_rfl))⟩
  f57 := ⟨Tryz.f189.name, by decide, Tryz.func189.trans (congrArg some (by kernel_rfl))⟩
  t0 := Tryz.underlying0
  a0 := Tryz.isAgg0
  z0 := Tryz.sizeOf0
  v0 := Tryz.zeroValue0
  t3 := Tryz.underlying3
  a3 := Tryz.isAgg3
  z3 := Tryz.sizeOf3
  v3 := Tryz.zeroValue3
  t4 := Tryz.underlying4
  a4 := Tryz.isAgg4
  z4 := Tryz.sizeOf4
  v4 := Tryz.zeroValue4
  t5 := Tryz.underlying5
  a5 := Tryz.isAgg5
  z5 := Tryz.sizeOf5
  v5 := Tryz.zeroValue5
  t9 := Tryz.underlying9
  a9 := Tryz.isAgg9
  z9 := Tryz.sizeOf9
  v9 := Tryz.zeroValue9
  t22 := Tryz.underlying34
  a22 := Tryz.isAgg34
  z22 := Tryz.sizeOf34
  v22 := Tryz.zeroValue34
  t25 := Tryz.underlying177
  a25 := Tryz.isAgg177
  z25 := Tryz.sizeOf177
  v25 := Tryz.zeroValue177
  t39 := Tryz.underlying195
  a39 := Tryz.isAgg195
  z39 := Tryz.sizeOf195
  v39 := Tryz.zeroValue195
  t45 := Tryz.underlying209
  a45 := Tryz.isAgg209
  z45 := Tryz.sizeOf209
  v45 := Tryz.zeroValue209
  t46 := Tryz.underlying210
  a46 := Tryz.isAgg210
  z46 := Tryz.sizeOf210
  v46 := Tryz.zeroValue210
  t50 := Tryz.underlying214
  a50 := Tryz.isAgg214
  z50 := Tryz.sizeOf214
  v50 := Tryz.zeroValue214
  t53 := Tryz.underlying217
  a53 := Tryz.isAgg217
  z53 := Tryz.sizeOf217
  v53 := Tryz.zeroValue217
  t55 := Tryz.underlying219
  a55 := Tryz.isAgg219
  z55 := Tryz.sizeOf219
  v55 := Tryz.zeroValue219
  t66 := Tryz.underlying222
  a66 := Tryz.isAgg222
  z66 := Tryz.sizeOf222
  v66 := Tryz.zeroValue222
  t70 := Tryz.underlying226
  a70 := Tryz.isAgg226
  z70 := Tryz.sizeOf226
  v70 := Tryz.zeroValue226
  t76 := Tryz.underlying229
  a76 := Tryz.isAgg229
  z76 := Tryz.sizeOf229
  v76 := Tryz.zeroValue229
  t77 := Tryz.underlying230
  a77 := Tryz.isAgg230
  z77 := Tryz.sizeOf230
  v77 := Tryz.zeroValue230 }
end Go.Proofs

