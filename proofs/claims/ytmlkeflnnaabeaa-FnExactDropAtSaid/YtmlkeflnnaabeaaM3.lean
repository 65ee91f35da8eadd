/-
  Texts that the proofs over this seat rest on, one behind the other (3 of 5).
-/
import Derived.Test.YtmlkeflnnaabeaaM2
import Derived.Laws.CopyOwn
import Derived.Test.YtmlkeflnnaabeaaM1
import Derived.IntWalk
import Derived.Laws.BitsLemmas

/-
  Contracts of spec.Spans, spec.PutAt and spec.DropAt.
-/
namespace Go.Proofs.Ytmlkeflnnaabeaa.low
open Go.RowKit
set_option linter.unusedVariables false

theorem row_two (w : World) (a b : Int) (T : TypeId) : Row (Value.int .i64) (w.alloc (.cells #[.int .i64 a, .int .i64 b] T)) (w.alloc (.cells #[.int .i64 a, .int .i64 b] T)).heap.size (some ⟨w.heap.size, 0, none⟩) [a, b] := fun _ => by
  refine ⟨⟨w.heap.size, 0, none⟩, rfl, by simp, fun j z hz => ?_⟩
  have hh := heap_alloc_new w (.cells #[.int .i64 a, .int .i64 b] T)
  rw [add_at]
  match j, hz with
  | 0, hz => simp at hz; subst hz; exact cell_of_row _ _ 0 _ _ _ hh
  | 1, hz => simp at hz; subst hz; exact cell_of_row _ _ 1 _ _ _ hh
  | j + 2, hz => simp at hz
/-- append of a row of numbers; the buffer is the elder one or new -/
theorem wpList_append_ints2 {w : World} {ops : Array Oper} {rest : List Oper} {o : Oper} {a : Act} {Q : Exit → Act → World → Prop} (hgd : o.guard = none) (s x : Operand)
    (ho : o.op = .call { callee := .builtin .append, args := #[s, x], argTypes := #[23, 23] })
    (base : Nat) (v : Value) (zs : List Int) (hs : a.eval s = v) (hown : w.ownsRow base 3 1 v zs.length (zs.map (Value.int .i64)))
    (A : Option Addr) (m c : Nat) (ys : List Int) (hx : a.eval x = .slice A m c) (hm : ys.length = m) (h0 : 0 < m) (hr : Row (Value.int .i64) w w.heap.size A ys)
    (h63 : zs.length + m ≤ 1000000000) (hbase : base ≤ w.heap.size)
    (h : ∀ g c' w', w'.ownsRow base 3 1 (.slice (some ⟨g, 0, none⟩) (zs.length + m) c') (zs ++ ys).length ((zs ++ ys).map (Value.int .i64)) → w.grownBy w' v.ownBlock → (v.ownBlock = some g ∨ w.heap.size ≤ g) → wpList Try.prog ops Q rest (a.put o.dst (.slice (some ⟨g, 0, none⟩) (zs.length + m) c')) w') : wpList Try.prog ops Q (o :: rest) a w := by
  obtain ⟨i0, hi0, hz0, hz1, hz2⟩ := info_parts ints_info
  obtain ⟨ad, rfl, hbk, hcs⟩ := hr (by omega)
  refine wpList_append_lies _ hgd s x 23 ho base 3 i0 (.int .i64 0) 1 8 Try.underlying23 hi0 hz0 hz1 hz2 rfl (by decide) v zs.length (zs.map (Value.int .i64)) hs hown ad m c (ys.map (Value.int .i64)) hx (by simp [hm]) (fun j u hu => ?_) (by simp [Value.oneCell']) h0 (by unfold maxLen; omega) (by omega) hbase w.heap.size rfl ?_
  · rw [List.getElem?_map] at hu
    obtain ⟨z, hz, rfl⟩ := Option.map_eq_some_iff.1 hu
    exact hcs j z hz
  · intro g cap w' hown' hg hor _
    exact h _ cap w' (by simpa [hm] using hown') hg (hor.imp id (fun e => by omega))
/-- what is owned apart from a buffer abides the buffer's growth -/
theorem OwB.apartGrown {lo hi : Nat} {w w' : World} {d : Dat} {v : Value} {b : List Nat} {r : Option Nat} (h : OwB lo hi w d v b) (hg : w.grownBy w' r) (hr : ∀ k, r = some k → k < lo ∨ hi ≤ k) : OwB lo hi w' d v b :=
  ⟨OwC.keep d v b h.ow (fun x hx => hg.block x (OwC.lt d v b h.ow x hx) (fun e => by have := h.rng x hx; have := hr x e.symm; omega)), h.nd, h.rng, Nat.le_trans h.top hg.size, h.le⟩
/-- the loop's word -/
def SpansI (qs : List Pt) (acc : List Int) (t : Int) (j : Nat) : Prop := 0 ≤ t ∧ t + keepS (qs.drop j) + putS (qs.drop j) ≤ 200 ∧ acc ++ spansGo (qs.drop j) t = spansGo qs 0 ∧ acc.length ≤ 2 * j
theorem SpansI.bd {qs : List Pt} {acc : List Int} {t : Int} {j : Nat} (h : SpansI qs acc t j) (hq : okPs qs = true) : 0 ≤ t ∧ t ≤ 200 := by
  have hn : Nn (qs.drop j) := fun p hp => Nn.of hq p (List.mem_of_mem_drop hp)
  have := sums_nn hn
  obtain ⟨h1, h2, _⟩ := h
  omega
theorem SpansI.k {qs : List Pt} {acc : List Int} {t n : Int} {zs : List Int} {j : Nat} (h : SpansI qs acc t j) (hp : qs[j]? = some ⟨1, n, zs⟩) (hn : 0 ≤ n) : SpansI qs acc (t + n) (j + 1) := by
  obtain ⟨h1, h2, h3, h4⟩ := h
  rw [drop_cons_at hp] at h2 h3
  simp only [spansGo, keepS, putS, ↓reduceIte, Int.reduceEq] at h2 h3
  exact ⟨by omega, by omega, h3, by omega⟩
theorem SpansI.p {qs : List Pt} {acc : List Int} {t n : Int} {zs : List Int} {j : Nat} (h : SpansI qs acc t j) (hp : qs[j]? = some ⟨2, n, zs⟩) : SpansI qs (acc ++ [t, t + (zs.length : Int)]) (t + (zs.length : Int)) (j + 1) := by
  obtain ⟨h1, h2, h3, h4⟩ := h
  rw [drop_cons_at hp] at h2 h3
  simp only [spansGo, keepS, putS, ↓reduceIte, Int.reduceEq] at h2 h3
  exact ⟨by omega, by omega, by rw [← h3]; simp, by simp; omega⟩
theorem SpansI.d {qs : List Pt} {acc : List Int} {t n : Int} {zs : List Int} {j : Nat} (h : SpansI qs acc t j) (hp : qs[j]? = some ⟨3, n, zs⟩) : SpansI qs acc t (j + 1) := by
  obtain ⟨h1, h2, h3, h4⟩ := h
  rw [drop_cons_at hp] at h2 h3
  simp only [spansGo, keepS, putS, ↓reduceIte, Int.reduceEq] at h2 h3
  exact ⟨by omega, by omega, h3, by omega⟩
theorem SpansI.all {qs : List Pt} {acc : List Int} {t : Int} {j : Nat} (h : SpansI qs acc t j) (hj : qs.length ≤ j) : acc = spansGo qs 0 := by
  obtain ⟨_, _, h3, _⟩ := h
  rw [List.drop_eq_nil_of_le hj] at h3
  simpa [spansGo] using h3
theorem norm_any (ps : List Pt) : okPs (normL ps) = true ∧ (normL ps).length ≤ 600 ∧ SpansI (normL ps) [] 0 0 := by
  cases ho : okOp ps
  · have e : normL ps = [] := by unfold normL; rw [ho]; rfl
    rw [e]
    exact ⟨rfl, by simp, by simp, by simp [keepS, putS], by simp, by simp⟩
  · obtain ⟨n1, _⟩ := norm_ok ho
    obtain ⟨o1, o2, _, o4, _⟩ := okOp_of n1
    exact ⟨o1, o2, by omega, by rw [List.drop_zero, keepS_eq, putS_eq]; omega, by simp, by simp⟩

set_option maxRecDepth 100000 in
set_option maxHeartbeats 3200000 in
theorem specSpans_d (v : Value) (ps : List Pt) (w : World) (h : RdC w w.heap.size (encPs ps) v) (hs : SmP ps) : Calls Try.prog 33 #[v] w (OwnPost (encInts (spansT ps)) w) := by
  obtain ⟨A, c, rfl, hra, _⟩ := parts_rd h
  have hl := hs.1
  have HOK := Lib.hid (norm_any ps)
  have HT := Lib.hid (show spansT ps = spansGo (normL ps) 0 from rfl)
  go_enter Try.func33, Try.ntmps33
  go_wp2_with fail
  have b0 := alloc_below w (.cells #[] 3)
  have hib : (w.alloc (.cells #[] 3)).ownsRow w.heap.size 3 1 (.slice (some ⟨w.heap.size, 0, none⟩) 0 0) 0 [] := ⟨rfl, .inr ⟨w.heap.size, 0, #[], rfl, Nat.le_refl _, heap_alloc_new w _, Nat.le_refl _, by unfold maxLen; omega, rfl, rfl⟩⟩
  refine (specOpNorm_d _ ps _ (h.past b0) hs).mono ?_
  rintro e w3 ⟨v3, rfl, o3, b3⟩
  have d3 := b0.trans (b3.mono b0.size)
  have hib3 : w3.ownsRow w.heap.size 3 1 (.slice (some ⟨w.heap.size, 0, none⟩) 0 0) 0 [] := own_past3 hib b3
  obtain ⟨bq, oq⟩ := o3.blocks
  rw [World.size_alloc] at oq
  clear o3 hib
  generalize normL ps = qs at *
  obtain ⟨Q, cq, rfl⟩ := sliceP oq.read
  have hql : qs.length ≤ 600 := HOK.out.2.1
  clear b3 b0
  generalize hz : w3.heap.size = z3 at oq
  have hz3 : w.heap.size + 1 ≤ z3 := oq.le
  have HOQ := Lib.hid oq
  have HIB := Lib.hid hib3
  clear oq hib3
  go_wp2
  go_loopw [3, 4, 11] (fun o tv i wr => ∃ (j : Nat) (acc : List Int) (t : Int), j ≤ qs.length ∧ i = .int .i64 j ∧ tv = .int .i64 t ∧ SpansI qs acc t j ∧ wr.ownsRow w.heap.size 3 1 o acc.length (acc.map (Value.int .i64)) ∧ (∀ k, o.ownBlock = some k → k < w.heap.size + 1 ∨ z3 ≤ k) ∧ OwB (w.heap.size + 1) z3 wr (encPs qs) (.slice Q qs.length cq) bq ∧ Below w.heap.size w wr) (fun _ _ i _ => qs.length - (intOf i).toNat)
  case atStart => exact ⟨0, [], 0, Nat.zero_le _, rfl, rfl, HOK.out.2.2, HIB.out, fun k hk => by simp [Value.ownBlock] at hk; omega, HOQ.out, d3⟩
  case round =>
    obtain ⟨j, acc, t, hj, rfl, rfl, hi, ho, hob, hoq, hbel⟩ := hrel
    clear HIB HOQ d3 hz
    obtain ⟨ht0, ht1⟩ := hi.bd HOK.out.1
    have hal : acc.length ≤ 2 * j := hi.2.2.2
    have HI := Lib.hid hi
    obtain ⟨Ao, co, rfl⟩ := own_form ho
    obtain ⟨Q', cq', eQ, hq, _⟩ := parts_rd hoq.read
    obtain ⟨rfl, rfl⟩ : Q' = Q ∧ cq' = cq := by injection eQ with e1 _ e3; exact ⟨e1.symm, e3.symm⟩
    have HO := Lib.hid ho
    have HOB := Lib.hid hob
    have HOQ := Lib.hid hoq
    have htop := hoq.top
    clear hi ho hob hoq eQ
    by_cases hlt : j < qs.length
    · obtain ⟨b, off, p, rfl, hb, hp, hc⟩ := hq.at_ hlt
      obtain ⟨x0, x1, A1, e1, x2, r1⟩ := hc
      have hok := of_okPt (okPs_mem' HOK.out.1 (List.mem_of_getElem? hp))
      obtain ⟨pk, pn, pz⟩ := p
      simp only at x0 x1 x2 hok r1
      have HP := Lib.hid hp
      clear hp hq
      have bA := alloc_below wr (.cells #[.int .i64 pk, .int .i64 pn, .slice A1 pz.length e1] 80)
      have hb1 := hbel.trans (bA.mono hbel.size)
      have OQ1 := Lib.hid (HOQ.out.past bA)
      have OW1 := Lib.hid (HO.out.alloc (.cells #[.int .i64 pk, .int .i64 pn, .slice A1 pz.length e1] 80))
      rcases (show pk = 1 ∨ pk = 2 ∨ pk = 3 by omega) with rfl | rfl | rfl
      · have hn1 : 0 ≤ pn := by omega
        have hn2 : pn ≤ 200 := by omega
        clear hok
        have HI2 := Lib.hid (HI.out.k HP.out hn1)
        go_wp2
        go_roundw
        case rel => exact ⟨j + 1, acc, t + pn, by omega, by go_num, rfl, HI2.out, OW1.out, HOB.out, OQ1.out, hb1⟩
        case measure => simp [intOf]; omega
      · have hn3 : pz.length ≤ 200 := by omega
        clear hok
        have HI2 := Lib.hid (HI.out.p HP.out)
        have hz2 : (wr.alloc (.cells #[.int .i64 2, .int .i64 pn, .slice A1 pz.length e1] 80)).heap.size = wr.heap.size + 1 := World.size_alloc _ _
        have bB := alloc_below (wr.alloc (.cells #[.int .i64 2, .int .i64 pn, .slice A1 pz.length e1] 80)) (.cells #[.int .i64 t, .int .i64 (t + (pz.length : Int))] 3)
        have HROW := Lib.hid (show Row (Value.int .i64) ((wr.alloc (.cells #[.int .i64 2, .int .i64 pn, .slice A1 pz.length e1] 80)).alloc (.cells #[.int .i64 t, .int .i64 (t + (pz.length : Int))] 3)) ((wr.alloc (.cells #[.int .i64 2, .int .i64 pn, .slice A1 pz.length e1] 80)).alloc (.cells #[.int .i64 t, .int .i64 (t + (pz.length : Int))] 3)).heap.size (some ⟨wr.heap.size + 1, 0, none⟩) [t, t + (pz.length : Int)] by rw [← hz2]; exact row_two _ _ _ _)
        have OW2 := Lib.hid (OW1.out.alloc (.cells #[.int .i64 t, .int .i64 (t + (pz.length : Int))] 3))
        have OQ2 := Lib.hid (OQ1.out.past bB)
        have hb2 := hb1.trans (bB.mono hb1.size)
        have HX := Lib.hid (show ((wr.alloc (.cells #[.int .i64 2, .int .i64 pn, .slice A1 pz.length e1] 80)).alloc (.cells #[.int .i64 t, .int .i64 (t + (pz.length : Int))] 3)).cell? ⟨wr.heap.size, 2, none⟩ = some (.slice A1 pz.length e1) from cell_of_row _ _ 2 _ _ _ (heap_old _ _ (heap_alloc_new wr _)))
        clear bA bB hz2
        go_wp2_with (at_builtin; refine wpList_append_ints2 rfl (.tmp 25) (.tmp 32) rfl w.heap.size (.slice Ao acc.length co) acc rfl OW2.out (some ⟨wr.heap.size + 1, 0, none⟩) 2 2 [t, t + (pz.length : Int)] rfl rfl (by omega) HROW.out (by omega) hb2.size ?_; intro gn cn wn hon hgn hor; have hcx : wn.cell? ⟨wr.heap.size, 2, none⟩ = some (.slice A1 pz.length e1) := (grown_cell hgn (by simp; omega) (fun e => by have := own_in HO.out e; simp at this)).trans HX.out; have HON := Lib.hid hon; have HGN := Lib.hid hgn; have HOR := Lib.hid hor; clear hon hgn hor)
        go_roundw
        case rel =>
          have hg := HGN.out
          refine ⟨j + 1, acc ++ [t, t + (pz.length : Int)], t + (pz.length : Int), by omega, by go_num, rfl, HI2.out, by simpa using HON.out, fun k hk => ?_, OQ2.out.apartGrown hg (fun k hk => HOB.out k hk), hb2.grown hg hb2.size (fun q hq => own_ge HO.out q hq)⟩
          have hk' : gn = k := by simpa [Value.ownBlock] using hk
          subst hk'
          rcases HOR.out with h | h
          · exact HOB.out _ h
          · simp at h
            omega
        case measure => simp [intOf]; omega
      · clear hok
        have HI2 := Lib.hid (HI.out.d HP.out)
        go_wp2
        go_roundw
        case rel => exact ⟨j + 1, acc, t, by omega, by go_num, rfl, HI2.out, OW1.out, HOB.out, OQ1.out, hb1⟩
        case measure => simp [intOf]; omega
    · have HR := Lib.hid (HI.out.all (by omega))
      go_wp2
      go_ret
      rw [HT.out, ← HR.out]
      exact ⟨_, rfl, ownInts HO.out hbel.size, hbel⟩

theorem of_inB {n lo hi : Int} (h : inB n lo hi = true) : lo ≤ n ∧ n ≤ hi := of_decide_eq_true h
theorem opAt_f {n x m : Int} {l : List Int} (h : opAtC n x l m = false) : opAtB n x l m = false ∧ opAtT n x l m = [] := by
  have e : opAtB n x l m = false := by unfold opAtB; rw [h]; rfl
  exact ⟨e, by unfold opAtT; rw [e]; rfl⟩
set_option maxRecDepth 100000 in
set_option maxHeartbeats 3200000 in
theorem specOpAt (v : Value) (l : List Int) (n x m : Int) (w : World) (h : RdC w w.heap.size (encInts l) v) (hs : SmI l) : Calls Try.prog 71 #[.int .i64 n, .int .i64 x, v, .int .i64 m] w (ResB (encPs (opAtT n x l m)) (opAtB n x l m) w) := by
  obtain ⟨A, c, rfl, hr, _⟩ := ints_rd h
  have hl := hs
  unfold SmI at hl
  cases h1 : inB n 0 200
  · have HN := Lib.hid (opAt_f (n := n) (x := x) (m := m) (l := l) (by unfold opAtC; rw [h1]; simp))
    go_enter Try.func71, Try.ntmps71
    go_wp2_with fail
    refine (in_any _ _ _ _).mono ?_
    rintro e w1 ⟨rfl, rfl⟩
    rw [h1]
    go_wp2
    go_ret2
    rw [HN.out.1, HN.out.2]
    exact ⟨_, rfl, nilOwn _ _ rfl (Nat.le_refl _), Below.refl _ _⟩
  have h1' := of_inB h1
  cases h2 : inB x 0 n
  · have HN := Lib.hid (opAt_f (n := n) (x := x) (m := m) (l := l) (by unfold opAtC; rw [h1, h2]; simp))
    go_enter Try.func71, Try.ntmps71
    go_wp2_with fail
    refine (in_any _ _ _ _).mono ?_
    rintro e w1 ⟨rfl, rfl⟩
    rw [h1]
    go_wp2_with fail
    refine (in_any _ _ _ _).mono ?_
    rintro e w1 ⟨rfl, rfl⟩
    rw [h2]
    go_wp2
    go_ret2
    rw [HN.out.1, HN.out.2]
    exact ⟨_, rfl, nilOwn _ _ rfl (Nat.le_refl _), Below.refl _ _⟩
  have h2' := of_inB h2
  cases h3 : inB m 0 (n - x)
  · have HN := Lib.hid (opAt_f (n := n) (x := x) (m := m) (l := l) (by unfold opAtC; rw [h1, h2, h3]; simp))
    go_enter Try.func71, Try.ntmps71
    go_wp2_with fail
    refine (in_any _ _ _ _).mono ?_
    rintro e w1 ⟨rfl, rfl⟩
    rw [h1]
    go_wp2_with fail
    refine (in_any _ _ _ _).mono ?_
    rintro e w1 ⟨rfl, rfl⟩
    rw [h2]
    go_wp2_with fail
    refine (in_any _ _ _ _).mono ?_
    rintro e w1 ⟨rfl, rfl⟩
    rw [h3]
    go_wp2
    go_ret2
    rw [HN.out.1, HN.out.2]
    exact ⟨_, rfl, nilOwn _ _ rfl (Nat.le_refl _), Below.refl _ _⟩
  have h3' := of_inB h3
  cases h4 : allB l
  · have HN := Lib.hid (opAt_f (n := n) (x := x) (m := m) (l := l) (by unfold opAtC; rw [h1, h2, h3, h4]; simp))
    go_enter Try.func71, Try.ntmps71
    go_wp2_with fail
    refine (in_any _ _ _ _).mono ?_
    rintro e w1 ⟨rfl, rfl⟩
    rw [h1]
    go_wp2_with fail
    refine (in_any _ _ _ _).mono ?_
    rintro e w1 ⟨rfl, rfl⟩
    rw [h2]
    go_wp2_with fail
    refine (in_any _ _ _ _).mono ?_
    rintro e w1 ⟨rfl, rfl⟩
    rw [h3]
    go_wp2_with fail
    refine (specSignsOk_any A c l _ hr (by omega)).mono ?_
    rintro e w1 ⟨rfl, rfl⟩
    rw [h4]
    go_wp2
    go_ret2
    rw [HN.out.1, HN.out.2]
    exact ⟨_, rfl, nilOwn _ _ rfl (Nat.le_refl _), Below.refl _ _⟩
  by_cases h5 : l.length ≤ 200
  · have hc : opAtC n x l m = true := by unfold opAtC; rw [h1, h2, h3, h4]; simp [h5]
    have hx0 : 0 ≤ x := h2'.1
    have hx1 : x ≤ 200 := by omega
    have hm0 : 0 ≤ m := h3'.1
    have hm1 : m ≤ 200 := by omega
    have hk0 : 0 ≤ n - x - m := by omega
    have hk1 : n - x - m ≤ 200 := by omega
    have HC := Lib.hid hc
    have HEL := Lib.hid (show doneN (foldN ((([] ++ [⟨1, x, []⟩] ++ [⟨2, 0, l⟩] ++ [⟨3, m, []⟩]) ++ [⟨1, n - x - m, []⟩] : List Pt))) = opAtL n x l m from rfl)
    clear hc
    go_enter Try.func71, Try.ntmps71
    go_wp2_with fail
    refine (in_any _ _ _ _).mono ?_
    rintro e w1 ⟨rfl, rfl⟩
    rw [h1]
    go_wp2_with fail
    refine (in_any _ _ _ _).mono ?_
    rintro e w1 ⟨rfl, rfl⟩
    rw [h2]
    go_wp2_with fail
    refine (in_any _ _ _ _).mono ?_
    rintro e w1 ⟨rfl, rfl⟩
    rw [h3]
    go_wp2_with fail
    refine (specSignsOk_any A c l _ hr (by omega)).mono ?_
    rintro e w1 ⟨rfl, rfl⟩
    rw [h4]
    go_wp2_with fail
    have b0 := alloc_below w (.cells #[.slice none 0 0, .slice none 0 0, .int .i64 0] 114)
    refine (specKeepB _ w.heap.size w.heap.size [] x _ (Bld.new w.heap.size 114 w (Nat.le_refl _)) hx0 hx1 (by simp)).mono ?_
    rintro e w2 ⟨rfl, O2, hb2, b2, _⟩
    have d2 := b0.trans b2
    have B2 := Lib.hid hb2
    clear hb2 b2 b0
    go_wp2_with fail
    refine (specPutB O2 _ _ _ A c _ l _ B2.out (hr.past d2) rfl h5 (by simp)).mono ?_
    rintro e w3 ⟨rfl, O3, hb3, b3, _⟩
    have d3 := d2.trans b3
    have B3 := Lib.hid hb3
    clear hb3 b3 B2 d2
    go_wp2_with fail
    refine (specDropB O3 _ _ _ m _ B3.out hm0 hm1 (by simp)).mono ?_
    rintro e w4 ⟨rfl, O4, hb4, b4, _⟩
    have d4 := d3.trans b4
    have B4 := Lib.hid hb4
    clear hb4 b4 B3 d3
    go_wp2_with fail
    refine (specKeepB O4 _ _ _ (n - x - m) _ B4.out hk0 hk1 (by simp)).mono ?_
    rintro e w5 ⟨rfl, O5, hb5, b5, _⟩
    have d5 := d4.trans b5
    have B5 := Lib.hid hb5
    clear hb5 b5 B4 d4
    go_wp2_with fail
    refine (specDoneB O5 _ _ _ _ B5.out).mono ?_
    rintro e w6 ⟨v6, k6, rfl, o6, _, b6, _⟩
    rw [HEL.out] at o6
    have d6 := d5.trans b6
    have hsm : SmP (opAtL n x l m) := by rw [← HEL.out]; exact built_small B5.out.sz (by simp)
    obtain ⟨A6, c6, rfl, r6, _⟩ := parts_rd o6.read
    have O6 := Lib.hid o6
    clear o6 b6 B5 d5 HEL
    have hsm1 := hsm.1
    go_wp2_with fail
    refine (specOpOk_any A6 c6 (opAtL n x l m) _ r6 (by omega) hsm.all4).mono ?_
    rintro e w7 ⟨rfl, b7⟩
    have d7 := d6.trans (b7.mono d6.size)
    cases hoc : okOp (opAtL n x l m)
    · have HN := Lib.hid (show opAtB n x l m = false ∧ opAtT n x l m = [] by have e : opAtB n x l m = false := by { unfold opAtB; rw [HC.out, hoc]; rfl }; exact ⟨e, by unfold opAtT; rw [e]; rfl⟩)
      go_wp2
      go_ret2
      rw [HN.out.1, HN.out.2]
      exact ⟨_, rfl, nilOwn _ _ rfl d7.size, d7⟩
    · have HN := Lib.hid (show opAtB n x l m = true ∧ opAtT n x l m = opAtL n x l m by have e : opAtB n x l m = true := by { unfold opAtB; rw [HC.out, hoc]; rfl }; exact ⟨e, by unfold opAtT; rw [e]; rfl⟩)
      go_wp2
      go_ret2
      rw [HN.out.1, HN.out.2]
      have o10 := O6.out.past b7
      exact ⟨_, rfl, ⟨k6, o10.ow, o10.nd, fun q hq => ⟨(o10.rng q hq).1, Nat.lt_of_lt_of_le (o10.rng q hq).2 b7.size⟩, Nat.le_refl _, d7.size⟩, d7⟩
  · have HN := Lib.hid (opAt_f (n := n) (x := x) (m := m) (l := l) (by unfold opAtC; simp; omega))
    go_enter Try.func71, Try.ntmps71
    go_wp2_with fail
    refine (in_any _ _ _ _).mono ?_
    rintro e w1 ⟨rfl, rfl⟩
    rw [h1]
    go_wp2_with fail
    refine (in_any _ _ _ _).mono ?_
    rintro e w1 ⟨rfl, rfl⟩
    rw [h2]
    go_wp2_with fail
    refine (in_any _ _ _ _).mono ?_
    rintro e w1 ⟨rfl, rfl⟩
    rw [h3]
    go_wp2_with fail
    refine (specSignsOk_any A c l _ hr (by omega)).mono ?_
    rintro e w1 ⟨rfl, rfl⟩
    rw [h4]
    go_wp2
    go_ret2
    rw [HN.out.1, HN.out.2]
    exact ⟨_, rfl, nilOwn _ _ rfl (Nat.le_refl _), Below.refl _ _⟩

theorem specPutAt_d (v : Value) (n x : Int) (l : List Int) (w : World) (h : RdC w w.heap.size (encInts l) v) (hs : SmI l) : Calls Try.prog 38 #[.int .i64 n, .int .i64 x, v] w (ResB (encPs (opAtT n x l 0)) (opAtB n x l 0) w) := by
  obtain ⟨A, c, rfl⟩ := sliceI h
  go_enter Try.func38, Try.ntmps38
  go_wp2_with fail
  refine (specOpAt _ l n x 0 _ h hs).mono ?_
  rintro e w1 ⟨v1, rfl, o1, b1⟩
  have O1 := Lib.hid o1
  clear o1
  go_wp2
  go_ret2
  exact ⟨_, rfl, O1.out, b1⟩
theorem specDropAt_d (n x m : Int) (w : World) : Calls Try.prog 41 #[.int .i64 n, .int .i64 x, .int .i64 m] w (ResB (encPs (opAtT n x [] m)) (opAtB n x [] m) w) := by
  have h : RdC w w.heap.size (encInts []) (.slice none 0 0) := ⟨none, 0, by simp, by simp, fun h => by simp at h⟩
  go_enter Try.func41, Try.ntmps41
  go_wp2_with fail
  refine (specOpAt _ [] n x m _ h (by unfold SmI; simp)).mono ?_
  rintro e w1 ⟨v1, rfl, o1, b1⟩
  have O1 := Lib.hid o1
  clear o1
  go_wp2
  go_ret2
  exact ⟨_, rfl, O1.out, b1⟩
theorem built_smallT {n x m : Int} {l : List Int} : SmP (opAtT n x l m) := by
  unfold opAtT
  split
  · rename_i h
    unfold opAtB at h
    rw [Bool.and_eq_true] at h
    obtain ⟨_, h2, h3⟩ := okOp_units h.2
    refine ⟨by omega, ?_⟩
    have := signsIn_le h2
    omega
  · exact ⟨by simp, by simp [signsIn]⟩
theorem putAt_small {n x : Int} {l : List Int} (h : SmI l) : SmP (opAtT n x l 0) := built_smallT
theorem dropAt_small {n x m : Int} : SmP (opAtT n x [] m) := built_smallT
theorem spansGo_len : ∀ (L : List Pt) (t : Int), (spansGo L t).length ≤ 2 * L.length
  | [], t => by simp [spansGo]
  | p :: L, t => by
    unfold spansGo
    have h1 := spansGo_len L (t + p.n)
    have h2 := spansGo_len L (t + (p.signs.length : Int))
    have h3 := spansGo_len L t
    split
    · simp; omega
    · split
      · simp; omega
      · simp; omega
theorem spans_small {ps : List Pt} (h : SmP ps) : SmI (spansT ps) := by
  have h1 := spansGo_len (normL ps) 0
  have h2 := (norm_any ps).2.1
  unfold SmI spansT
  omega
end Go.Proofs.Ytmlkeflnnaabeaa.low


/-
  Applying: the lengths; a row that is filled from the front by copies.
-/
namespace Go.Proofs.Ytmlkeflnnaabeaa.low
open Go.RowKit
set_option linter.unusedVariables false

theorem foldA_len {t : List Int} {ps : List Pt} (h : fitsB ps t = true) : ∀ k, k ≤ ps.length → ((foldA t (ps.take k)).2.length : Int) = sumOf keepOf (ps.take k) + sumOf putOf (ps.take k)
  | 0, _ => by simp [foldA, sumOf]
  | k + 1, hk => by
    obtain ⟨p, hp⟩ := idx_some (l := ps) (i := k) (by omega)
    have i2 := foldA_len h k (by omega)
    have hok := (fits_of h).1
    have hp' := of_okPt (okPs_at hp hok)
    have hin := foldA_in h hp
    rw [foldA_snoc hp, sumOf_snoc hp, sumOf_snoc hp]
    generalize foldA t (ps.take k) = s at *
    generalize sumOf keepOf (ps.take k) = q1 at *
    generalize sumOf putOf (ps.take k) = q2 at *
    unfold stepA keepOf putOf
    rcases (show p.kind = 1 ∨ p.kind = 2 ∨ p.kind = 3 by omega) with e | e | e
    · have hin := hin (.inl e)
      simp only [e, if_true]
      rw [List.length_append, List.length_take, List.length_drop]
      simp
      omega
    · simp only [e]
      simp
      omega
    · simp only [e]
      simp
      omega
theorem foldA_upto {t : List Int} {ps : List Pt} {n : Nat} (h : fitsB ps t = true) (hn : sumK ps + sumP ps = (n : Int)) (k : Nat) (hk : k ≤ ps.length) : (foldA t (ps.take k)).2.length ≤ n := by
  have h1 := foldA_len h k hk
  obtain ⟨hok, _, _, _, _, _, ho⟩ := fits_of h
  have hp : partsB ps = true := by unfold okOp at ho; rw [Bool.and_eq_true, Bool.and_eq_true] at ho; exact ho.1.1
  obtain ⟨t1, t2, t3⟩ := sum_t hp
  rw [t1, t2] at hn
  have a1 := sumOf_take (f := keepOf) (ps := ps) (fun q hq => (ok_bd (okPs_mem' hok hq)).1.1) k
  have a2 := sumOf_take (f := putOf) (ps := ps) (fun q hq => (ok_bd (okPs_mem' hok hq)).2.1.1) k
  omega
theorem foldA_all {t : List Int} {ps : List Pt} {n : Nat} (h : fitsB ps t = true) (hn : sumK ps + sumP ps = (n : Int)) : (foldA t ps).2.length = n := by
  have h1 := foldA_len h ps.length (Nat.le_refl _)
  rw [List.take_length] at h1
  obtain ⟨hok, _, _, _, _, _, ho⟩ := fits_of h
  have hp : partsB ps = true := by unfold okOp at ho; rw [Bool.and_eq_true, Bool.and_eq_true] at ho; exact ho.1.1
  obtain ⟨t1, t2, t3⟩ := sum_t hp
  rw [t1, t2] at hn
  omega
theorem fits_n {t : List Int} {ps : List Pt} (h : fitsB ps t = true) : ∃ n : Nat, sumK ps + sumP ps = (n : Int) ∧ n ≤ 200 := by
  obtain ⟨hok, _, _, h4, _, _, ho⟩ := fits_of h
  have hp : partsB ps = true := by unfold okOp at ho; rw [Bool.and_eq_true, Bool.and_eq_true] at ho; exact ho.1.1
  obtain ⟨t1, t2, t3⟩ := sum_t hp
  have h1 := foldA_len h ps.length (Nat.le_refl _)
  rw [List.take_length] at h1
  exact ⟨(foldA t ps).2.length, by rw [t1, t2]; omega, by omega⟩
/-- a row of n cells of which the first are filled -/
def fillR (n : Nat) (out : List Int) : List Value := out.map (Value.int .i64) ++ List.replicate (n - out.length) (Value.int .i64 0)
theorem fill_len (n : Nat) (out : List Int) (h : out.length ≤ n) : (fillR n out).length = n := by unfold fillR; simp; omega
theorem fill_splice (n : Nat) (out ys : List Int) (h : out.length + ys.length ≤ n) : splice (fillR n out) out.length (ys.map (Value.int .i64)) = fillR n (out ++ ys) := by
  unfold splice fillR
  have e1 : (out.map (Value.int .i64) ++ List.replicate (n - out.length) (Value.int .i64 0)).take out.length = out.map (Value.int .i64) := by
    rw [List.take_append_of_le_length (by simp), List.take_of_length_le (by simp)]
  have e2 : (out.map (Value.int .i64) ++ List.replicate (n - out.length) (Value.int .i64 0)).drop (out.length + (ys.map (Value.int .i64)).length) = List.replicate (n - (out ++ ys).length) (Value.int .i64 0) := by
    rw [List.drop_append, List.drop_eq_nil_of_le (by simp), List.nil_append, List.drop_replicate]
    congr 1
    simp
    omega
  rw [e1, e2, List.map_append, List.append_assoc]
theorem fill_all (n : Nat) (out : List Int) (h : out.length = n) : fillR n out = out.map (Value.int .i64) := by
  unfold fillR
  rw [h]
  simp
theorem own_full {w : World} {base r n : Nat} {e : TypeId} {xs : List Value} (h : w.ownsRow base e 1 (.slice (some ⟨r, 0, none⟩) n n) n xs) : w.heap[r]? = some (.cells xs.toArray e (0, 0)) ∧ base ≤ r ∧ xs.length = n := by
  have hl := h.1
  rcases h.2 with ⟨h1, _⟩ | ⟨g, cap, cur, hv, hge, hh, h4, h5, h6, h7⟩
  · cases h1
  · injection hv with q1 q2 q3
    injection q1 with q1
    injection q1 with q1
    subst q1
    subst q3
    have : cur = xs.toArray := by
      rw [← h7, List.take_of_length_le (by simp; omega)]
    subst this
    exact ⟨hh, hge, by simpa using hl⟩
theorem full_own {w : World} {base r n : Nat} {e : TypeId} {xs : List Value} (h : w.heap[r]? = some (.cells xs.toArray e (0, 0))) (hb : base ≤ r) (hl : xs.length = n) (hn : n ≤ 4294967296) : w.ownsRow base e 1 (.slice (some ⟨r, 0, none⟩) n n) n xs := by
  refine ⟨by simpa using hl, .inr ⟨r, n, xs.toArray, rfl, hb, h, Nat.le_refl _, by unfold maxLen; omega, by simp [hl], ?_⟩⟩
  rw [List.take_of_length_le (by simp [hl])]
end Go.Proofs.Ytmlkeflnnaabeaa.low


/-
  Contracts of the program's builder: endRun, drop, put, done, keep.
-/
namespace Go.Proofs.Ytmlkeflnnaabeaa.low
open Go.RowKit
set_option linter.unusedVariables false

set_option maxRecDepth 100000 in
set_option maxHeartbeats 3200000 in
theorem implFlush_f (S : Nat → Prop) (lo g : Nat) (ps : List Pt) (put : List Int) (d : Int) (w : World) (hb : BAtS S lo g 76 w ps put d) (hS : ∀ b, w.heap.size ≤ b → S b) (hl : ps.length ≤ 4294967296) (hp : put.length ≤ 4294967296) :
    Calls Try.prog 84 #[.pointer (some ⟨g, 0, none⟩)] w (FlushedS S lo g 76 w (ps ++ putL put ++ dropL d)) := by
  obtain ⟨i0, hi0, hz0, hz1, hz2⟩ := info_parts part_info
  obtain ⟨v, u, us, hx, ha, hos⟩ := hb
  have HS := Lib.hid hS
  have HOS := Lib.hid hos
  clear hS hos
  have ha0 := ha.init hx.len
  obtain ⟨A, c, rfl⟩ := own_form (ha.last hx.len)
  have c0 := hx.cell0
  have c1 := hx.cell1
  have c2 := hx.cell2
  have f0 := hx.free 0
  have f1 := hx.free 1
  have f2 := hx.free 2
  have HX := Lib.hid hx
  have HA := Lib.hid ha
  have HA0 := Lib.hid ha0
  clear hx ha ha0
  by_cases hput : put.length = 0
  · have e1 : putL put = [] := by simp [putL, hput]
    rw [e1, List.append_nil]
    by_cases hd : 0 < d
    · have e2 : dropL d = [⟨3, d, []⟩] := by simp [dropL, hd]
      rw [e2]
      go_enter Try.func84, Try.ntmps84
      go_wp2_with fail
      have lg := HX.out.lt
      have hlo : lo ≤ w.heap.size := Nat.le_trans HX.out.low (Nat.le_of_lt lg)
      have hne := own_far HX.out.row HX.out.box (by decide)
      go_region_law ((refine step_append_lies _ (by rfl) (.tmp 31) (.tmp 37) 26 (by rfl) lo 80 i0 _ 3 40 Try.underlying26 hi0 hz0 hz1 hz2 rfl (by omega) v ps.length (cellsOf ps us) (by rfl) ((HX.out.row.alloc _).drew) ⟨w.heap.size, 0, none⟩ 1 1 [.int .i64 3, .int .i64 d, .slice none 0 0] (by rfl) (by rfl) (World.news_of_block (cs := #[.int .i64 3, .int .i64 d, .slice none 0 0]) (t := 80) (fr := (0, 0)) (heap_alloc_new w _)) (by simp [Value.oneCell']) (by omega) (by unfold maxLen; omega) (by omega) (by simp; omega) (w.heap.size + 1) (by simp) ?_; intro gg cap w1 hown1 hgrow hat hlt; have hf := free_grown (o := 0) HX.out.box (below_made w _) hgrow hne; have hf1 := free_grown (o := 1) HX.out.box (below_made w _) hgrow hne; have hf2 := free_grown (o := 2) HX.out.box (below_made w _) hgrow hne; have hc : w1.cell? ⟨g, 0, none⟩ = some v := cell_grown 0 HX.out.box (below_made w _) hgrow hne; have hc1 : w1.cell? ⟨g, 1, none⟩ = some (.slice A put.length c) := cell_grown 1 HX.out.box (below_made w _) hgrow hne; have hc2 : w1.cell? ⟨g, 2, none⟩ = some (.int .i64 d) := cell_grown 2 HX.out.box (below_made w _) hgrow hne))
      all_goals
        obtain ⟨hx2, ha2, b2⟩ := Box.push (p := ⟨3, d, []⟩) HX.out (by decide) (by decide) (Apart.bare 3 d HA0.out) (below_made w _) hown1 hgrow
        have HO2 := Lib.hid (HOS.out.init.push (n := ps.length + 1) (cap := cap) nil_own hat (HS.out _ (by omega)))
        have HR2 := Lib.hid (push_fr HOS.out.init (below_made w _) hgrow (.slice (some ⟨gg, 0, none⟩) (ps.length + 1) cap))
        have HX2 := Lib.hid hx2
        have HA2 := Lib.hid ha2
        have HB2 := Lib.hid b2
        clear hx2 ha2 b2
        go_wp2
        go_end0
        obtain ⟨r1, r2, r3⟩ := HX2.out.clearS (by decide) (by decide) HA2.out HO2.out
        exact ⟨rfl, r1, HB2.out.trans r2, HR2.out.trans r3⟩

    · have e2 : dropL d = [] := by simp [dropL]; omega
      rw [e2, List.append_nil]
      go_enter Try.func84, Try.ntmps84
      go_wp2_with fail
      go_end0
      obtain ⟨r1, r2, r3⟩ := HX.out.clearS (by decide) (by decide) HA0.out HOS.out.init
      exact ⟨rfl, r1, r2, r3⟩
  · have hput' : (0 : Int) < (put.length : Int) := by omega
    have e1 : putL put = [⟨2, 0, put⟩] := by simp [putL, hput]
    rw [e1]
    by_cases hd : 0 < d
    · have e2 : dropL d = [⟨3, d, []⟩] := by simp [dropL, hd]
      rw [e2]
      generalize hQ : ps ++ [⟨2, 0, put⟩] ++ [⟨3, d, []⟩] = Q
      have HQ := Lib.hid hQ
      clear hQ
      go_enter Try.func84, Try.ntmps84
      go_wp2_with fail
      have lg := HX.out.lt
      have hlo : lo ≤ w.heap.size := Nat.le_trans HX.out.low (Nat.le_of_lt lg)
      have hne := own_far HX.out.row HX.out.box (by decide)
      go_region_law ((refine step_append_lies _ (by rfl) (.tmp 12) (.tmp 18) 26 (by rfl) lo 80 i0 _ 3 40 Try.underlying26 hi0 hz0 hz1 hz2 rfl (by omega) v ps.length (cellsOf ps us) (by rfl) ((HX.out.row.alloc _).drew) ⟨w.heap.size, 0, none⟩ 1 1 [.int .i64 2, .int .i64 0, .slice A put.length c] (by rfl) (by rfl) (World.news_of_block (cs := #[.int .i64 2, .int .i64 0, .slice A put.length c]) (t := 80) (fr := (0, 0)) (heap_alloc_new w _)) (by simp [Value.oneCell']) (by omega) (by unfold maxLen; omega) (by omega) (by simp; omega) (w.heap.size + 1) (by simp) ?_; intro gg cap w1 hown1 hgrow hat hlt; have hf := free_grown (o := 0) HX.out.box (below_made w _) hgrow hne; have hf1 := free_grown (o := 1) HX.out.box (below_made w _) hgrow hne; have hf2 := free_grown (o := 2) HX.out.box (below_made w _) hgrow hne; have hc : w1.cell? ⟨g, 0, none⟩ = some v := cell_grown 0 HX.out.box (below_made w _) hgrow hne; have hc1 : w1.cell? ⟨g, 1, none⟩ = some (.slice A put.length c) := cell_grown 1 HX.out.box (below_made w _) hgrow hne; have hc2 : w1.cell? ⟨g, 2, none⟩ = some (.int .i64 d) := cell_grown 2 HX.out.box (below_made w _) hgrow hne))
      all_goals

        obtain ⟨hx1, ha1, b1⟩ := Box.push (p := ⟨2, 0, put⟩) HX.out (by decide) (by decide) HA.out (below_made w _) hown1 hgrow
        have HO1 := Lib.hid (HOS.out.init.push (n := ps.length + 1) (cap := cap) HOS.out.last hat (HS.out _ (by omega)))
        have HR1 := Lib.hid (push_fr HOS.out.init (below_made w _) hgrow (.slice (some ⟨gg, 0, none⟩) (ps.length + 1) cap))
        clear hown1 hgrow hat hlt hlo hne lg c0 c1 c2 f0 f1 f2
        have HX1 := Lib.hid hx1
        have HA1 := Lib.hid ha1
        have HB1 := Lib.hid b1
        clear hx1 ha1 b1
        go_wp2_with fail
        clear hf hf1 hf2 hc hc1 hc2
        generalize (Value.slice (some ⟨gg, 0, none⟩) (ps.length + 1) cap) = v1 at *
        generalize w1.setCell ⟨g, 0, none⟩ v1 = W1 at *
        have c0 := HX1.out.cell0
        have c1 := HX1.out.cell1
        have c2 := HX1.out.cell2
        have f0 := HX1.out.free 0
        have f1 := HX1.out.free 1
        have f2 := HX1.out.free 2
        generalize hps : ps ++ [⟨2, 0, put⟩] = ps1 at *
        have hl1 : ps1.length ≤ 4294967297 := by rw [← hps]; simp; omega
        clear hps
        generalize us ++ [Value.slice A put.length c] = us1 at *
        have lg := HX1.out.lt
        have hlo : lo ≤ W1.heap.size := Nat.le_trans HX1.out.low (Nat.le_of_lt lg)
        have hne := own_far HX1.out.row HX1.out.box (by decide)
        go_region_law ((refine step_append_lies _ (by rfl) (.tmp 31) (.tmp 37) 26 (by rfl) lo 80 i0 _ 3 40 Try.underlying26 hi0 hz0 hz1 hz2 rfl (by omega) v1 ps1.length (cellsOf ps1 us1) (by rfl) ((HX1.out.row.alloc _).drew) ⟨W1.heap.size, 0, none⟩ 1 1 [.int .i64 3, .int .i64 d, .slice none 0 0] (by rfl) (by rfl) (World.news_of_block (cs := #[.int .i64 3, .int .i64 d, .slice none 0 0]) (t := 80) (fr := (0, 0)) (heap_alloc_new W1 _)) (by simp [Value.oneCell']) (by omega) (by unfold maxLen; omega) (by omega) (by simp; omega) (W1.heap.size + 1) (by simp) ?_; intro gg cap w1 hown1 hgrow hat hlt; have hf := free_grown (o := 0) HX1.out.box (below_made W1 _) hgrow hne; have hf1 := free_grown (o := 1) HX1.out.box (below_made W1 _) hgrow hne; have hf2 := free_grown (o := 2) HX1.out.box (below_made W1 _) hgrow hne; have hc : w1.cell? ⟨g, 0, none⟩ = some v1 := cell_grown 0 HX1.out.box (below_made W1 _) hgrow hne; have hc1 : w1.cell? ⟨g, 1, none⟩ = some (.slice A put.length c) := cell_grown 1 HX1.out.box (below_made W1 _) hgrow hne; have hc2 : w1.cell? ⟨g, 2, none⟩ = some (.int .i64 d) := cell_grown 2 HX1.out.box (below_made W1 _) hgrow hne))
        all_goals
          obtain ⟨hx2, ha2, b2⟩ := Box.push (p := ⟨3, d, []⟩) HX1.out (by decide) (by decide) (Apart.bare 3 d HA1.out) (below_made W1 _) hown1 hgrow
          have HO2 := Lib.hid (HO1.out.push (n := ps1.length + 1) (cap := cap) nil_own hat (HS.out _ (by have := HR1.out.size; omega)))
          have HR2 := Lib.hid (push_fr HO1.out (below_made W1 _) hgrow (.slice (some ⟨gg, 0, none⟩) (ps1.length + 1) cap))
          have HX2 := Lib.hid hx2
          have HA2 := Lib.hid ha2
          have HB2 := Lib.hid b2
          clear hx2 ha2 b2
          go_wp2
          go_end0
          obtain ⟨r1, r2, r3⟩ := HX2.out.clearS (by decide) (by decide) HA2.out HO2.out
          exact ⟨rfl, by rw [← HQ.out]; exact r1, HB1.out.trans (HB2.out.trans r2), HR1.out.trans (HR2.out.trans r3)⟩

    · have e2 : dropL d = [] := by simp [dropL]; omega
      rw [e2, List.append_nil]
      go_enter Try.func84, Try.ntmps84
      go_wp2_with fail
      have lg := HX.out.lt
      have hlo : lo ≤ w.heap.size := Nat.le_trans HX.out.low (Nat.le_of_lt lg)
      have hne := own_far HX.out.row HX.out.box (by decide)
      go_region_law ((refine step_append_lies _ (by rfl) (.tmp 12) (.tmp 18) 26 (by rfl) lo 80 i0 _ 3 40 Try.underlying26 hi0 hz0 hz1 hz2 rfl (by omega) v ps.length (cellsOf ps us) (by rfl) ((HX.out.row.alloc _).drew) ⟨w.heap.size, 0, none⟩ 1 1 [.int .i64 2, .int .i64 0, .slice A put.length c] (by rfl) (by rfl) (World.news_of_block (cs := #[.int .i64 2, .int .i64 0, .slice A put.length c]) (t := 80) (fr := (0, 0)) (heap_alloc_new w _)) (by simp [Value.oneCell']) (by omega) (by unfold maxLen; omega) (by omega) (by simp; omega) (w.heap.size + 1) (by simp) ?_; intro gg cap w1 hown1 hgrow hat hlt; have hf := free_grown (o := 0) HX.out.box (below_made w _) hgrow hne; have hf1 := free_grown (o := 1) HX.out.box (below_made w _) hgrow hne; have hf2 := free_grown (o := 2) HX.out.box (below_made w _) hgrow hne; have hc : w1.cell? ⟨g, 0, none⟩ = some v := cell_grown 0 HX.out.box (below_made w _) hgrow hne; have hc1 : w1.cell? ⟨g, 1, none⟩ = some (.slice A put.length c) := cell_grown 1 HX.out.box (below_made w _) hgrow hne; have hc2 : w1.cell? ⟨g, 2, none⟩ = some (.int .i64 d) := cell_grown 2 HX.out.box (below_made w _) hgrow hne))
      all_goals

        obtain ⟨hx1, ha1, b1⟩ := Box.push (p := ⟨2, 0, put⟩) HX.out (by decide) (by decide) HA.out (below_made w _) hown1 hgrow
        have HO2 := Lib.hid (HOS.out.init.push (n := ps.length + 1) (cap := cap) HOS.out.last hat (HS.out _ (by omega)))
        have HR2 := Lib.hid (push_fr HOS.out.init (below_made w _) hgrow (.slice (some ⟨gg, 0, none⟩) (ps.length + 1) cap))
        have HX2 := Lib.hid hx1
        have HA2 := Lib.hid ha1
        have HB2 := Lib.hid b1
        clear hx1 ha1 b1
        go_wp2
        go_end0
        obtain ⟨r1, r2, r3⟩ := HX2.out.clearS (by decide) (by decide) HA2.out HO2.out
        exact ⟨rfl, r1, HB2.out.trans r2, HR2.out.trans r3⟩

theorem implFlush_any (lo g : Nat) (ps : List Pt) (put : List Int) (d : Int) (w : World) (hb : BAt lo g 76 w ps put d) (hl : ps.length ≤ 4294967296) (hp : put.length ≤ 4294967296) :
    Calls Try.prog 84 #[.pointer (some ⟨g, 0, none⟩)] w (Flushed lo g 76 w (ps ++ putL put ++ dropL d)) :=
  (implFlush_f (fun _ => True) lo g ps put d w hb.all (fun _ _ => trivial) hl hp).mono fun e w' h => h.any

set_option maxHeartbeats 1600000 in
theorem implDrop_f (S : Nat → Prop) (lo g : Nat) (ps : List Pt) (put : List Int) (d n : Int) (w : World) (hb : BAtS S lo g 76 w ps put d) (hS : ∀ b, w.heap.size ≤ b → S b) (h0 : 0 ≤ d) (h1 : d ≤ 4611686018427387904) (h2 : 0 ≤ n) (h3 : n ≤ 1048576) :
    Calls Try.prog 75 #[.pointer (some ⟨g, 0, none⟩), .int .i64 n] w (BuiltS S lo g 76 w ps put (d + n)) := by
  obtain ⟨v, u, us, hx, ha, hos⟩ := hb
  have HS := Lib.hid hS
  have HOS := Lib.hid hos
  clear hS hos
  have c2 := hx.cell2
  have f2 := hx.free 2
  have HX := Lib.hid hx
  have HA := Lib.hid ha
  clear hx ha
  go_enter Try.func75, Try.ntmps75
  go_wp2
  go_end0
  obtain ⟨r1, r2, r3⟩ := HX.out.dropS (d' := d + n) (by decide) (by decide) HA.out HOS.out
  exact ⟨rfl, r1, r2, r3⟩

set_option maxHeartbeats 1600000 in
theorem implPut_f (S : Nat → Prop) (lo g : Nat) (ps : List Pt) (put : List Int) (d : Int) (A : Option Addr) (c : Nat) (zs : List Int) (w : World) (hb : BAtS S lo g 76 w ps put d) (hS : ∀ b, w.heap.size ≤ b → S b) (hr : Row (Value.int .i64) w w.heap.size A zs) (hp : put.length ≤ 4294967296) (hz : zs.length ≤ 4294967296) :
    Calls Try.prog 74 #[.pointer (some ⟨g, 0, none⟩), .slice A zs.length c] w (BuiltS S lo g 76 w ps (put ++ zs) d) := by
  obtain ⟨i0, hi0, hz0, hz1, hz2⟩ := info_parts ints_info
  obtain ⟨v, u, us, hx, ha, hos⟩ := hb
  have HS := Lib.hid hS
  have HOS := Lib.hid hos
  clear hS hos
  obtain ⟨Au, cu, rfl⟩ := own_form (ha.last hx.len)
  simp only at hx ha
  have c1 := hx.cell1
  have f1 := hx.free 1
  have ho := Lib.hid (ha.last hx.len)
  have hlo : lo ≤ w.heap.size := Nat.le_trans hx.low (Nat.le_of_lt hx.lt)
  have HX := Lib.hid hx
  have HA := Lib.hid ha
  clear hx ha
  by_cases hn : 0 < zs.length
  · obtain ⟨ad, rfl, hbk, hcs⟩ := hr hn
    have hcs' : ∀ j x, (zs.map (Value.int .i64))[j]? = some x → w.cell? (ad.add j) = some x := fun j x hx => by
      rw [List.getElem?_map] at hx
      obtain ⟨z, hz, rfl⟩ := Option.map_eq_some_iff.1 hx
      exact hcs j z hz
    have HC := Lib.hid hcs'
    clear hcs hcs' hr
    have hug := own_far ho.out HX.out.box (by decide)
    go_enter Try.func74, Try.ntmps74
    go_wp2_with (at_builtin; refine wpList_append_lies _ rfl (.tmp 8) (.tmp 9) 23 rfl lo 3 i0 (.int .i64 0) 1 8 Try.underlying23 hi0 hz0 hz1 hz2 rfl (by decide) (.slice Au put.length cu) put.length (put.map (Value.int .i64)) rfl ho.out ad zs.length c (zs.map (Value.int .i64)) rfl (by simp) HC.out (by simp [Value.oneCell']) (by omega) (by unfold maxLen; omega) (by omega) hlo w.heap.size rfl ?_; intro gg cap w1 hown1 hgrow hat hlt; have hf := free_grown (o := 1) HX.out.box (Below.refl _ _) hgrow hug; have hc : w1.cell? ⟨g, 1, none⟩ = some (.slice Au put.length cu) := cell_grown 1 HX.out.box (Below.refl _ _) hgrow hug)
    go_end0
    obtain ⟨r1, r2, r3⟩ := Box.moreS (put' := put ++ zs) HX.out (by decide) (by decide) HA.out (by simpa using hown1) hgrow (hat.elim (fun e => .inl (by rw [e]; rfl)) (fun e => .inr (by rw [← e]; rfl))) HOS.out (HS.out _ (Nat.le_refl _))
    exact ⟨rfl, r1, r2, r3⟩
  · have e0 : zs = [] := List.eq_nil_of_length_eq_zero (by omega)
    subst e0
    rw [List.append_nil]
    go_enter Try.func74, Try.ntmps74
    go_wp2_with (at_builtin; refine wpList_append_zero rfl (.tmp 8) (.tmp 9) 23 rfl lo 3 i0 1 Try.underlying23 hi0 (.slice Au put.length cu) put.length (put.map (Value.int .i64)) rfl ho.out A c rfl ?_)
    go_end0
    obtain ⟨r1, r2, r3⟩ := Box.moreS (put' := put) HX.out (by decide) (by decide) HA.out ho.out ⟨rfl, rfl, rfl, Nat.le_refl _, fun _ _ _ => rfl⟩ (.inl rfl) HOS.out (HS.out _ (Nat.le_refl _))
    exact ⟨rfl, r1, r2, r3⟩

theorem implDrop_any (lo g : Nat) (ps : List Pt) (put : List Int) (d n : Int) (w : World) (hb : BAt lo g 76 w ps put d) (h0 : 0 ≤ d) (h1 : d ≤ 4611686018427387904) (h2 : 0 ≤ n) (h3 : n ≤ 1048576) :
    Calls Try.prog 75 #[.pointer (some ⟨g, 0, none⟩), .int .i64 n] w (Built lo g 76 w ps put (d + n)) :=
  (implDrop_f (fun _ => True) lo g ps put d n w hb.all (fun _ _ => trivial) h0 h1 h2 h3).mono fun e w' h => h.any

theorem implPut_any (lo g : Nat) (ps : List Pt) (put : List Int) (d : Int) (A : Option Addr) (c : Nat) (zs : List Int) (w : World) (hb : BAt lo g 76 w ps put d) (hr : Row (Value.int .i64) w w.heap.size A zs) (hp : put.length ≤ 4294967296) (hz : zs.length ≤ 4294967296) :
    Calls Try.prog 74 #[.pointer (some ⟨g, 0, none⟩), .slice A zs.length c] w (Built lo g 76 w ps (put ++ zs) d) :=
  (implPut_f (fun _ => True) lo g ps put d A c zs w hb.all (fun _ _ => trivial) hr hp hz).mono fun e w' h => h.any

set_option maxHeartbeats 1600000 in
theorem implDone_f (S : Nat → Prop) (lo g : Nat) (ps : List Pt) (put : List Int) (d : Int) (w : World) (hb : BAtS S lo g 76 w ps put d) (hS : ∀ b, w.heap.size ≤ b → S b) (hl : ps.length ≤ 4294967296) (hp : put.length ≤ 4294967296) :
    Calls Try.prog 58 #[.pointer (some ⟨g, 0, none⟩)] w (GoneS S lo (ps ++ putL put ++ dropL d) w) := by
  go_enter Try.func58, Try.ntmps58
  go_wp2_with fail
  refine (implFlush_f S lo g ps put d w hb hS hl hp).mono ?_
  rintro e w1 ⟨rfl, ⟨v, us, hx, ha, hos⟩, b1, fr1⟩
  have HS := Lib.hid hS
  have HOS := Lib.hid hos
  have HR := Lib.hid fr1
  clear hS hos fr1
  obtain ⟨Av, cv, rfl⟩ := own_form hx.row
  have c0 := hx.cell0
  have HX := Lib.hid hx
  have HA := Lib.hid ha
  clear hx ha
  generalize ps ++ putL put ++ dropL d = q at *
  go_wp2
  go_ret
  exact ⟨_, us, rfl, HX.out.parts HA.out, b1, HR.out, HX.out.row, HX.out.len, HOS.out.2.1, HOS.out.2.2⟩

set_option maxRecDepth 100000 in
set_option maxHeartbeats 3200000 in
theorem implKeep_f (S : Nat → Prop) (lo g : Nat) (ps : List Pt) (put : List Int) (d n : Int) (w : World) (hb : BAtS S lo g 76 w ps put d) (hS : ∀ b, w.heap.size ≤ b → S b) (hl : ps.length ≤ 4294967296) (hp : put.length ≤ 4294967296) (hn : ¬ n = 0) (hn0 : 0 ≤ n) (hn1 : n ≤ 1048576)
    (hq : ∀ p ∈ ps ++ putL put ++ dropL d, 0 ≤ p.n ∧ p.n ≤ 4611686018427387904) (hql : (ps ++ putL put ++ dropL d).length ≤ 4294967298) :
    Calls Try.prog 57 #[.pointer (some ⟨g, 0, none⟩), .int .i64 n] w (FlushedS S lo g 76 w (keepTo (ps ++ putL put ++ dropL d) n)) := by
  obtain ⟨i0, hi0, hz0, hz1, hz2⟩ := info_parts part_info
  go_enter Try.func57, Try.ntmps57
  go_wp2_with fail
  refine (implFlush_f S lo g ps put d w hb hS hl hp).mono ?_
  rintro e w1 ⟨rfl, ⟨v, us, hx, ha, hos⟩, b1, fr1⟩
  have HS := Lib.hid hS
  have HOS := Lib.hid hos
  have HR := Lib.hid fr1
  clear hS hos fr1
  generalize ps ++ putL put ++ dropL d = q at *
  have c0 := hx.cell0
  have f0 := hx.free 0
  have hne := own_far hx.row hx.box (by decide)
  have hlo : lo ≤ w1.heap.size := Nat.le_trans hx.low (Nat.le_of_lt hx.lt)
  rcases q.eq_nil_or_concat with rfl | ⟨r, p, rfl⟩
  · obtain ⟨Av, cv, rfl⟩ := own_form hx.row
    have HX := Lib.hid hx
    have HA := Lib.hid ha
    clear hx ha
    go_wp2_with (at_builtin; refine wpList_append_lies _ rfl (.tmp 44) (.tmp 47) 26 rfl lo 80 i0 _ 3 40 Try.underlying26 hi0 hz0 hz1 hz2 rfl (by omega) (.slice Av 0 cv) 0 (cellsOf [] us) rfl (HX.out.row.alloc _) ⟨w1.heap.size, 0, none⟩ 1 1 [.int .i64 1, .int .i64 n, .slice none 0 0] rfl rfl (World.news_of_block (cs := #[.int .i64 1, .int .i64 n, .slice none 0 0]) (t := 80) (fr := (0, 0)) (heap_alloc_new w1 _)) (by simp [Value.oneCell']) (by omega) (by unfold maxLen; omega) (by omega) (by simp; omega) (w1.heap.size + 1) (by simp) ?_; intro gg cap w2 hown1 hgrow hat hlt; have hf := free_grown (o := 0) HX.out.box (below_new w1 _) hgrow hne; have hc : w2.cell? ⟨g, 0, none⟩ = some (.slice Av 0 cv) := cell_grown 0 HX.out.box (below_new w1 _) hgrow hne)
    go_end0
    obtain ⟨hx2, ha2, b2⟩ := Box.push (p := ⟨1, n, []⟩) HX.out (by decide) (by decide) (Apart.bare 1 n HA.out) (below_new w1 _) hown1 hgrow
    refine ⟨rfl, ?_, b1.trans b2, HR.out.trans (push_fr HOS.out (below_new w1 _) hgrow _)⟩
    rw [keepTo_nil]
    exact ⟨_, _, hx2, ha2, HOS.out.push nil_own hat (HS.out _ (by have := HR.out.size; omega))⟩
  · rw [List.concat_eq_append] at *
    have hrl : (r ++ [p]).length = r.length + 1 := by simp
    rw [hrl] at hql
    have hp0 := hq p (by simp)
    clear hq
    rcases hx.row.2 with ⟨_, h0⟩ | ⟨gv, cap0, cur, rfl, hgv, hhv, hcap, hcap2, _, _⟩
    · simp at h0
    rw [hrl] at c0 hne hcap hx
    have hrow : w1.ownsRow lo 80 3 (.slice (some ⟨gv, 0, none⟩) (r.length + 1) cap0) (r.length + 1) (cellsOf (r ++ [p]) us) := by have := hx.row; rwa [hrl] at this
    have k0 : w1.cell? ⟨gv, r.length * 3, none⟩ = some (.int .i64 p.kind) := by
      have := hrow.cellAt (r.length * 3) (by omega)
      obtain ⟨u, hu⟩ := idx_some (l := us) (i := r.length) (by rw [hx.len]; simp)
      rw [this, (cellsOf_at (r ++ [p]) us r.length p u (by simp) hu).1]
    have k1 : w1.cell? ⟨gv, r.length * 3 + 1, none⟩ = some (.int .i64 p.n) := by
      have := hrow.cellAt (r.length * 3 + 1) (by omega)
      obtain ⟨u, hu⟩ := idx_some (l := us) (i := r.length) (by rw [hx.len]; simp)
      rw [this, (cellsOf_at (r ++ [p]) us r.length p u (by simp) hu).2.1]
    have fv := hrow.frozenAt (r.length * 3 + 1)
    have HRW := Lib.hid hrow
    clear hrow
    have HX := Lib.hid hx
    have HA := Lib.hid ha
    clear hx ha hhv
    by_cases hk : p.kind = 1
    · go_wp2
      go_end0
      obtain ⟨hx2, ha2, b2⟩ := Box.setN (b := p.n + n) HX.out (by decide) (by decide) HA.out
      refine ⟨rfl, ?_, b1.trans b2, HR.out.trans (setN_fr HOS.out _)⟩
      rw [keepTo_t n hk]
      exact ⟨_, _, hx2, ha2, HOS.out⟩
    · go_wp2_with (at_builtin; refine wpList_append_lies _ rfl (.tmp 44) (.tmp 47) 26 rfl lo 80 i0 _ 3 40 Try.underlying26 hi0 hz0 hz1 hz2 rfl (by omega) (.slice (some ⟨gv, 0, none⟩) (r.length + 1) cap0) (r.length + 1) (cellsOf (r ++ [p]) us) rfl (HRW.out.alloc _) ⟨w1.heap.size, 0, none⟩ 1 1 [.int .i64 1, .int .i64 n, .slice none 0 0] rfl rfl (World.news_of_block (cs := #[.int .i64 1, .int .i64 n, .slice none 0 0]) (t := 80) (fr := (0, 0)) (heap_alloc_new w1 _)) (by simp [Value.oneCell']) (by omega) (by unfold maxLen; omega) (by omega) (by simp; omega) (w1.heap.size + 1) (by simp) ?_; intro gg cap w2 hown1 hgrow hat hlt; have hf := free_grown (o := 0) HX.out.box (below_new w1 _) hgrow hne; have hc : w2.cell? ⟨g, 0, none⟩ = some (.slice (some ⟨gv, 0, none⟩) (r.length + 1) cap0) := cell_grown 0 HX.out.box (below_new w1 _) hgrow hne)
      go_end0
      obtain ⟨hx2, ha2, b2⟩ := Box.push (p := ⟨1, n, []⟩) HX.out (by decide) (by decide) (Apart.bare 1 n HA.out) (below_new w1 _) (by rw [hrl]; exact hown1) hgrow
      rw [hrl] at hx2 ha2 b2
      refine ⟨rfl, ?_, b1.trans b2, HR.out.trans (push_fr HOS.out (below_new w1 _) hgrow _)⟩
      rw [keepTo_f n hk]
      exact ⟨_, _, hx2, ha2, HOS.out.push nil_own hat (HS.out _ (by have := HR.out.size; omega))⟩

theorem implDone_any (lo g : Nat) (ps : List Pt) (put : List Int) (d : Int) (w : World) (hb : BAt lo g 76 w ps put d) (hl : ps.length ≤ 4294967296) (hp : put.length ≤ 4294967296) :
    Calls Try.prog 58 #[.pointer (some ⟨g, 0, none⟩)] w (Gone lo (ps ++ putL put ++ dropL d) w) :=
  (implDone_f (fun _ => True) lo g ps put d w hb.all (fun _ _ => trivial) hl hp).mono fun e w' h => h.any

theorem implKeep_any (lo g : Nat) (ps : List Pt) (put : List Int) (d n : Int) (w : World) (hb : BAt lo g 76 w ps put d) (hl : ps.length ≤ 4294967296) (hp : put.length ≤ 4294967296) (hn : ¬ n = 0) (hn0 : 0 ≤ n) (hn1 : n ≤ 1048576)
    (hq : ∀ p ∈ ps ++ putL put ++ dropL d, 0 ≤ p.n ∧ p.n ≤ 4611686018427387904) (hql : (ps ++ putL put ++ dropL d).length ≤ 4294967298) :
    Calls Try.prog 57 #[.pointer (some ⟨g, 0, none⟩), .int .i64 n] w (Flushed lo g 76 w (keepTo (ps ++ putL put ++ dropL d) n)) :=
  (implKeep_f (fun _ => True) lo g ps put d n w hb.all (fun _ _ => trivial) hl hp hn hn0 hn1 hq hql).mono fun e w' h => h.any

set_option maxHeartbeats 1600000 in
theorem implKeep_zero (g : Nat) (w : World) : Calls Try.prog 57 #[.pointer (some ⟨g, 0, none⟩), .int .i64 0] w fun e w' => e = .returned (.tuple #[]) ∧ w = w' := by
  go_enter Try.func57, Try.ntmps57
  go_wp2
  first | go_end0 | (refine bodyPost_ret (results_none rfl _ _ _) rfl ?_)
  exact ⟨rfl, rfl⟩
end Go.Proofs.Ytmlkeflnnaabeaa.low


/-
  Contracts of the program's functions on operations that only read: impl.PartOk, partsOk, size, sizeOf, OpFrom, OpTo, OpOk, Puts, Drops.
-/
namespace Go.Proofs.Ytmlkeflnnaabeaa.low
open Go.RowKit
set_option linter.unusedVariables false

set_option maxHeartbeats 1600000 in
theorem implPartOk_any (p : Pt) (A : Option Addr) (c : Nat) (w : World) (hr : Row (Value.int .i64) w w.heap.size A p.signs) (hl : p.signs.length ≤ 4294967296) :
    Calls Try.prog 82 #[.agg #[.int .i64 p.kind, .int .i64 p.n, .slice A p.signs.length c]] w (Tells (okPt p) w) := by
  obtain ⟨k, n, zs⟩ := p
  have hr' : Row (Value.int .i64) w w.heap.size A zs := hr
  have hl' : zs.length ≤ 4294967296 := hl
  clear hr hl
  by_cases hk : k = 1 ∨ k = 3
  · by_cases h0 : 0 ≤ n
    · by_cases h1 : n ≤ 200
      · by_cases hz : zs.length = 0
        all_goals
          have HS := Lib.hid (show okPt ⟨k, n, zs⟩ = decide (zs.length = 0) by
            first
              | (rw [okPt_t (.inl ⟨hk, ⟨h0, h1⟩, hz⟩), decide_eq_true hz])
              | (rw [okPt_f (by simp only; omega), decide_eq_false hz]))
          have hzb : ((zs.length : Int) == 0) = decide (zs.length = 0) := by
            first
              | (rw [decide_eq_true hz, beq_iff_eq]; omega)
              | (rw [decide_eq_false hz, beq_eq_false_iff_ne]; omega)
          generalize decide (zs.length = 0) = bb at HS hzb
          clear hz
          rcases hk with rfl | rfl
          all_goals
            go_enter Try.func82, Try.ntmps82
            go_wp2
            go_ret
            exact ⟨ret_bool (by rw [HS.out]), alloc_below _ _⟩
      · have HS := Lib.hid (show okPt ⟨k, n, zs⟩ = false by rw [okPt_f (by simp only; omega)])
        rcases hk with rfl | rfl
        all_goals
          go_enter Try.func82, Try.ntmps82
          go_wp2
          go_ret
          exact ⟨ret_bool (by rw [HS.out]), alloc_below _ _⟩
    · have HS := Lib.hid (show okPt ⟨k, n, zs⟩ = false by rw [okPt_f (by simp only; omega)])
      rcases hk with rfl | rfl
      all_goals
        go_enter Try.func82, Try.ntmps82
        go_wp2
        go_ret
        exact ⟨ret_bool (by rw [HS.out]), alloc_below _ _⟩
  · have hk1 : (k == 1) = false := by rw [beq_eq_false_iff_ne]; omega
    have hk3 : (k == 3) = false := by rw [beq_eq_false_iff_ne]; omega
    by_cases hk2 : k = 2
    · have hk2' : (k == 2) = true := by rw [beq_iff_eq]; exact hk2
      by_cases hn : n = 0
      · have hn' : (n == 0) = true := by rw [beq_iff_eq]; exact hn
        have HS := Lib.hid (show okPt ⟨k, n, zs⟩ = (allB zs && decide (zs.length ≤ 200)) by
          unfold okPt
          simp [hk2, hn])
        clear hk hk2 hn
        by_cases hlen : zs.length ≤ 200
        · have HL := Lib.hid (decide_eq_true hlen)
          go_enter Try.func82, Try.ntmps82
          go_wp2_with (go_at_call 78; refine (implSignsOk_any A c zs _ (hr'.past_alloc _) hl').mono ?_; rintro e w' ⟨rfl, rfl⟩)
          go_ret
          refine ⟨ret_bool ?_, alloc_below _ _⟩
          rw [HS.out, HL.out, Bool.and_true]
        · have HL := Lib.hid (decide_eq_false hlen)
          go_enter Try.func82, Try.ntmps82
          go_wp2
          go_ret
          refine ⟨ret_bool ?_, alloc_below _ _⟩
          rw [HS.out, HL.out, Bool.and_false]
      · have hn' : (n == 0) = false := by rw [beq_eq_false_iff_ne]; exact hn
        have HS := Lib.hid (show okPt ⟨k, n, zs⟩ = false by rw [okPt_f (by simp only; omega)])
        clear hk hk2 hn
        go_enter Try.func82, Try.ntmps82
        go_wp2
        go_ret
        exact ⟨ret_bool (by rw [HS.out]), alloc_below _ _⟩
    · have hk2' : (k == 2) = false := by rw [beq_eq_false_iff_ne]; exact hk2
      have HS := Lib.hid (show okPt ⟨k, n, zs⟩ = false by rw [okPt_f (by simp only; omega)])
      clear hk hk2
      go_enter Try.func82, Try.ntmps82
      go_wp2
      go_ret
      exact ⟨ret_bool (by rw [HS.out]), alloc_below _ _⟩

set_option maxHeartbeats 1600000 in
theorem implParts_any (A : Option Addr) (c : Nat) (ps : List Pt) (w : World) (hr : PRow w w.heap.size A ps) (hl : ps.length ≤ 4294967296) (hls : ∀ p ∈ ps, p.signs.length ≤ 4294967296) :
    Calls Try.prog 53 #[.slice A ps.length c] w (Tells (partsB ps) w) := by
  by_cases h6 : ps.length ≤ 600
  · go_enter Try.func53, Try.ntmps53
    go_wp2
    go_loopw [10] (fun i wr => ∃ k : Nat, k ≤ ps.length ∧ i = .int .i64 k ∧ okPs (ps.take k) = true ∧ Below w.heap.size w wr) (fun i _ => ps.length - (intOf i).toNat)
    case atStart => exact ⟨0, Nat.zero_le _, rfl, rfl, Below.refl _ _⟩
    case round =>
      obtain ⟨k, hk, rfl, ha, hbel⟩ := hrel
      have HA := Lib.hid ha
      clear ha
      by_cases hlt : k < ps.length
      · obtain ⟨b, off, p, rfl, hb, hp, hc⟩ := hr.at_ hlt
        obtain ⟨x0, x1, A1, e1, x2, r1⟩ := hc.keep (w' := wr) hb (fun _ hq => hbel.cell hq)
        have hsp := hls p (List.mem_of_getElem? hp)
        have HP := Lib.hid hp
        clear hp hc
        cases hs : okPt p
        · go_wp2_with fail
          refine (implPartOk_any p A1 e1 _ ((r1.more hbel.size).past_alloc _) hsp).mono ?_
          rintro e w2 ⟨rfl, b2⟩
          go_wp2
          go_ret
          exact ⟨ret_bool (by unfold partsB; rw [okPs_f HP.out hs]; rfl), (hbel.trans ((alloc_below wr _).mono hbel.size)).trans (b2.mono (Nat.le_trans hbel.size (alloc_below wr _).size))⟩
        · go_wp2_with fail
          refine (implPartOk_any p A1 e1 _ ((r1.more hbel.size).past_alloc _) hsp).mono ?_
          rintro e w2 ⟨rfl, b2⟩
          go_wp2
          go_roundw
          case rel => exact ⟨k + 1, by omega, by go_num, okPs_snoc HP.out HA.out hs, (hbel.trans ((alloc_below wr _).mono hbel.size)).trans (b2.mono (Nat.le_trans hbel.size (alloc_below wr _).size))⟩
          case measure => simp [intOf]; omega
      · have HE := Lib.hid (show partsB ps = true by
          have h1 := HA.out
          rw [List.take_of_length_le (by omega)] at h1
          unfold partsB
          rw [h1, Bool.true_and]
          exact decide_eq_true h6)
        go_wp2
        go_ret
        refine ⟨ret_bool ?_, hbel⟩
        rw [HE.out]
  · have HE := Lib.hid (show partsB ps = false by unfold partsB; rw [decide_eq_false h6, Bool.and_false])
    go_enter Try.func53, Try.ntmps53
    go_wp2
    go_ret
    exact ⟨ret_bool (by rw [HE.out]), Below.refl _ _⟩

/-- the size of a part of the kind -/
def sizeK (kind : Int) (p : Pt) : Int := if p.kind = kind then p.n + (p.signs.length : Int) else 0
theorem sumOf_congr {f g : Pt → Int} : ∀ {ps : List Pt}, (∀ p ∈ ps, f p = g p) → sumOf f ps = sumOf g ps
  | [], _ => rfl
  | p :: ps, h => by
    have h1 := h p (List.mem_cons_self ..)
    have h2 := sumOf_congr (f := f) (g := g) (ps := ps) fun q hq => h q (List.mem_cons_of_mem _ hq)
    have e : ∀ f : Pt → Int, sumOf f (p :: ps) = f p + sumOf f ps := fun f => by simp [sumOf]
    rw [e, e, h1, h2]
theorem okPs_mem {ps : List Pt} (h : okPs ps = true) {p : Pt} (hp : p ∈ ps) : okPt p = true := by unfold okPs at h; exact List.all_eq_true.1 h p hp
theorem sizeK_keep {ps : List Pt} (h : okPs ps = true) : sumOf (sizeK 1) ps = sumOf keepOf ps := sumOf_congr fun p hp => by
  have := of_okPt (okPs_mem h hp)
  unfold sizeK keepOf
  split <;> omega
theorem sizeK_put {ps : List Pt} (h : okPs ps = true) : sumOf (sizeK 2) ps = sumOf putOf ps := sumOf_congr fun p hp => by
  have := of_okPt (okPs_mem h hp)
  unfold sizeK putOf
  split <;> omega
theorem sizeK_drop {ps : List Pt} (h : okPs ps = true) : sumOf (sizeK 3) ps = sumOf dropOf ps := sumOf_congr fun p hp => by
  have := of_okPt (okPs_mem h hp)
  unfold sizeK dropOf
  split <;> omega
theorem sizeK_bd {kind : Int} {ps : List Pt} (h : okPs ps = true) (hl : ps.length ≤ 600) : 0 ≤ sumOf (sizeK kind) ps ∧ sumOf (sizeK kind) ps ≤ 120000 := by
  have := sumOf_bd (f := sizeK kind) ps fun p hq => by
    have := of_okPt (okPs_mem h hq)
    unfold sizeK
    split <;> omega
  omega

set_option maxHeartbeats 400000 in
theorem implSize_any (k n : Int) (A : Option Addr) (len c : Nat) (w : World) (h0 : 0 ≤ n) (h1 : n ≤ 200) (h2 : len ≤ 200) :
    Calls Try.prog 83 #[.agg #[.int .i64 k, .int .i64 n, .slice A len c]] w (Nums1 (n + (len : Int)) w) := by
  go_enter Try.func83, Try.ntmps83
  go_wp2
  go_ret
  exact ⟨rfl, alloc_below _ _⟩

set_option maxRecDepth 100000 in
set_option maxHeartbeats 1600000 in
theorem implSizeOf_any (kind : Int) (A : Option Addr) (c : Nat) (ps : List Pt) (w : World) (hr : PRow w w.heap.size A ps) (hl : ps.length ≤ 600) (hok : okPs ps = true) :
    Calls Try.prog 54 #[.slice A ps.length c, .int .i64 kind] w (Nums1 (sumOf (sizeK kind) ps) w) := by
  have HOK := Lib.hid hok
  clear hok
  go_enter Try.func54, Try.ntmps54
  go_wp2
  go_loopw [5, 10] (fun a i wr => ∃ k : Nat, k ≤ ps.length ∧ i = .int .i64 k ∧ a = .int .i64 (sumOf (sizeK kind) (ps.take k)) ∧ Below w.heap.size w wr) (fun _ i _ => ps.length - (intOf i).toNat)
  case atStart => exact ⟨0, Nat.zero_le _, rfl, rfl, Below.refl _ _⟩
  case round =>
    obtain ⟨k, hk, rfl, rfl, hbel⟩ := hrel
    obtain ⟨s1, s2⟩ := sizeK_bd (kind := kind) (okPs_take HOK.out k) (by rw [List.length_take]; omega)
    by_cases hlt : k < ps.length
    · obtain ⟨b, off, p, rfl, hb, hp, hc⟩ := hr.at_ hlt
      obtain ⟨x0, x1, A1, e1, x2, r1⟩ := hc.keep (w' := wr) hb (fun _ hq => hbel.cell hq)
      have hok := of_okPt (okPs_at hp HOK.out)
      have K1 := Lib.hid (sumOf_snoc (f := sizeK kind) hp)
      clear hp hc
      generalize sumOf (sizeK kind) (ps.take k) = q1 at *
      obtain ⟨pk, pn, pz⟩ := p
      simp only at x0 x1 x2 hok
      have hn1 : 0 ≤ pn := by omega
      have hn2 : pn ≤ 200 := by omega
      have hn3 : pz.length ≤ 200 := by omega
      clear hok
      by_cases hkk : pk = kind
      · have hkb : (pk == kind) = true := by rw [beq_iff_eq]; exact hkk
        have HK := Lib.hid (show sizeK kind ⟨pk, pn, pz⟩ = pn + (pz.length : Int) by unfold sizeK; exact if_pos hkk)
        clear hkk
        go_wp2_with fail
        refine (implSize_any pk pn A1 pz.length e1 _ hn1 hn2 hn3).mono ?_
        rintro e w2 ⟨rfl, b2⟩
        go_wp2
        go_roundw
        case rel => exact ⟨k + 1, by omega, by go_num, by rw [K1.out, HK.out], (hbel.trans ((alloc_below wr _).mono hbel.size)).trans (b2.mono (Nat.le_trans hbel.size (alloc_below wr _).size))⟩
        case measure => simp [intOf]; omega
      · have hkb : (pk == kind) = false := by rw [beq_eq_false_iff_ne]; exact hkk
        have HK := Lib.hid (show sizeK kind ⟨pk, pn, pz⟩ = 0 by unfold sizeK; exact if_neg hkk)
        clear hkk
        go_wp2
        go_roundw
        case rel => exact ⟨k + 1, by omega, by go_num, by rw [K1.out, HK.out, Int.add_zero], hbel.trans ((alloc_below wr _).mono hbel.size)⟩
        case measure => simp [intOf]; omega
    · have hke : ps.take k = ps := List.take_of_length_le (by omega)
      rw [hke] at s1 s2 ⊢
      go_wp2
      go_ret
      exact ⟨rfl, hbel⟩

set_option maxHeartbeats 800000 in
theorem implOpFrom_any (A : Option Addr) (c : Nat) (ps : List Pt) (w : World) (hr : PRow w w.heap.size A ps) (hl : ps.length ≤ 4294967296) (hls : ∀ p ∈ ps, p.signs.length ≤ 4294967296) :
    Calls Try.prog 47 #[.slice A ps.length c] w (Nums1 (sumK ps + sumD ps) w) := by
  cases hpb : partsB ps
  · have HS := Lib.hid (sum_f hpb)
    go_enter Try.func47, Try.ntmps47
    go_wp2_with fail
    refine (implParts_any A c ps _ hr hl hls).mono ?_
    rintro e w1 ⟨rfl, b1⟩
    go_wp2
    go_ret
    rw [HS.out.1, HS.out.2.2]
    exact ⟨rfl, b1⟩
  · obtain ⟨t1, t2, t3⟩ := sum_t hpb
    obtain ⟨p1, p2⟩ := partsB_of hpb
    have HS := Lib.hid (show sumK ps + sumD ps = sumOf (sizeK 1) ps + sumOf (sizeK 3) ps by rw [t1, t3, sizeK_keep p1, sizeK_drop p1])
    obtain ⟨s1, s2⟩ := sizeK_bd (kind := 1) p1 p2
    obtain ⟨s3, s4⟩ := sizeK_bd (kind := 3) p1 p2
    clear t1 t2 t3
    go_enter Try.func47, Try.ntmps47
    go_wp2_with fail
    refine (implParts_any A c ps _ hr hl hls).mono ?_
    rintro e w1 ⟨rfl, b1⟩
    go_wp2_with fail
    refine (implSizeOf_any 1 A c ps _ (hr.past b1) p2 p1).mono ?_
    rintro e w2 ⟨rfl, b2⟩
    have d2 := b1.trans (b2.mono b1.size)
    go_wp2_with fail
    refine (implSizeOf_any 3 A c ps _ (hr.past d2) p2 p1).mono ?_
    rintro e w3 ⟨rfl, b3⟩
    have d3 := d2.trans (b3.mono d2.size)
    generalize sumOf (sizeK 1) ps = q1 at *
    generalize sumOf (sizeK 3) ps = q3 at *
    go_wp2
    go_ret
    rw [HS.out]
    exact ⟨rfl, d3⟩

set_option maxHeartbeats 800000 in
theorem implOpTo_any (A : Option Addr) (c : Nat) (ps : List Pt) (w : World) (hr : PRow w w.heap.size A ps) (hl : ps.length ≤ 4294967296) (hls : ∀ p ∈ ps, p.signs.length ≤ 4294967296) :
    Calls Try.prog 18 #[.slice A ps.length c] w (Nums1 (sumK ps + sumP ps) w) := by
  cases hpb : partsB ps
  · have HS := Lib.hid (sum_f hpb)
    go_enter Try.func18, Try.ntmps18
    go_wp2_with fail
    refine (implParts_any A c ps _ hr hl hls).mono ?_
    rintro e w1 ⟨rfl, b1⟩
    go_wp2
    go_ret
    rw [HS.out.1, HS.out.2.1]
    exact ⟨rfl, b1⟩
  · obtain ⟨t1, t2, t3⟩ := sum_t hpb
    obtain ⟨p1, p2⟩ := partsB_of hpb
    have HS := Lib.hid (show sumK ps + sumP ps = sumOf (sizeK 1) ps + sumOf (sizeK 2) ps by rw [t1, t2, sizeK_keep p1, sizeK_put p1])
    obtain ⟨s1, s2⟩ := sizeK_bd (kind := 1) p1 p2
    obtain ⟨s3, s4⟩ := sizeK_bd (kind := 2) p1 p2
    clear t1 t2 t3
    go_enter Try.func18, Try.ntmps18
    go_wp2_with fail
    refine (implParts_any A c ps _ hr hl hls).mono ?_
    rintro e w1 ⟨rfl, b1⟩
    go_wp2_with fail
    refine (implSizeOf_any 1 A c ps _ (hr.past b1) p2 p1).mono ?_
    rintro e w2 ⟨rfl, b2⟩
    have d2 := b1.trans (b2.mono b1.size)
    go_wp2_with fail
    refine (implSizeOf_any 2 A c ps _ (hr.past d2) p2 p1).mono ?_
    rintro e w3 ⟨rfl, b3⟩
    have d3 := d2.trans (b3.mono d2.size)
    generalize sumOf (sizeK 1) ps = q1 at *
    generalize sumOf (sizeK 2) ps = q3 at *
    go_wp2
    go_ret
    rw [HS.out]
    exact ⟨rfl, d3⟩

set_option maxHeartbeats 1600000 in
theorem implOpOk_any (A : Option Addr) (c : Nat) (ps : List Pt) (w : World) (hr : PRow w w.heap.size A ps) (hl : ps.length ≤ 4294967296) (hls : ∀ p ∈ ps, p.signs.length ≤ 4294967296) :
    Calls Try.prog 46 #[.slice A ps.length c] w (Tells (okOp ps) w) := by
  cases hpb : partsB ps
  · have HS := Lib.hid (show okOp ps = false by unfold okOp; rw [hpb]; rfl)
    go_enter Try.func46, Try.ntmps46
    go_wp2_with fail
    refine (implParts_any A c ps _ hr hl hls).mono ?_
    rintro e w1 ⟨rfl, b1⟩
    go_wp2
    go_ret
    exact ⟨ret_bool (by rw [HS.out]), b1⟩
  · by_cases hf : sumK ps + sumD ps ≤ 200
    · by_cases ht : sumK ps + sumP ps ≤ 200
      all_goals
        have HS := Lib.hid (show okOp ps = decide (sumK ps + sumP ps ≤ 200) by unfold okOp; rw [hpb, decide_eq_true hf]; rfl)
        go_enter Try.func46, Try.ntmps46
        go_wp2_with fail
        refine (implParts_any A c ps _ hr hl hls).mono ?_
        rintro e w1 ⟨rfl, b1⟩
        go_wp2_with fail
        refine (implOpFrom_any A c ps _ (hr.past b1) hl hls).mono ?_
        rintro e w2 ⟨rfl, b2⟩
        have d2 := b1.trans (b2.mono b1.size)
        go_wp2_with fail
        refine (implOpTo_any A c ps _ (hr.past d2) hl hls).mono ?_
        rintro e w3 ⟨rfl, b3⟩
        go_wp2
        go_ret
        refine ⟨ret_bool ?_, d2.trans (b3.mono d2.size)⟩
        rw [HS.out]
        first | done | (rw [decide_eq_true ht]) | (rw [decide_eq_false ht])
    · have HS := Lib.hid (show okOp ps = false by unfold okOp; rw [hpb, decide_eq_false hf]; rfl)
      go_enter Try.func46, Try.ntmps46
      go_wp2_with fail
      refine (implParts_any A c ps _ hr hl hls).mono ?_
      rintro e w1 ⟨rfl, b1⟩
      go_wp2_with fail
      refine (implOpFrom_any A c ps _ (hr.past b1) hl hls).mono ?_
      rintro e w2 ⟨rfl, b2⟩
      go_wp2
      go_ret
      exact ⟨ret_bool (by rw [HS.out]), b1.trans (b2.mono b1.size)⟩

theorem okOp_parts {ps : List Pt} (h : okOp ps = true) : partsB ps = true := by
  unfold okOp at h
  cases hp : partsB ps
  · rw [hp] at h; simp at h
  · rfl

set_option maxHeartbeats 800000 in
theorem implPuts_any (A : Option Addr) (c : Nat) (ps : List Pt) (w : World) (hr : PRow w w.heap.size A ps) (hl : ps.length ≤ 4294967296) (hls : ∀ p ∈ ps, p.signs.length ≤ 4294967296) :
    Calls Try.prog 22 #[.slice A ps.length c] w (Nums1 (putsN ps) w) := by
  cases ho : okOp ps
  · have HS := Lib.hid (show putsN ps = 0 by unfold putsN; rw [ho]; rfl)
    go_enter Try.func22, Try.ntmps22
    go_wp2_with fail
    refine (implOpOk_any A c ps _ hr hl hls).mono ?_
    rintro e w1 ⟨rfl, b1⟩
    go_wp2
    go_ret
    rw [HS.out]
    exact ⟨rfl, b1⟩
  · have hpb := okOp_parts ho
    obtain ⟨p1, p2⟩ := partsB_of hpb
    have HS := Lib.hid (show putsN ps = sumOf (sizeK 2) ps by unfold putsN; rw [ho, (sum_t hpb).2.1, sizeK_put p1]; rfl)
    clear hpb
    go_enter Try.func22, Try.ntmps22
    go_wp2_with fail
    refine (implOpOk_any A c ps _ hr hl hls).mono ?_
    rintro e w1 ⟨rfl, b1⟩
    go_wp2_with fail
    refine (implSizeOf_any 2 A c ps _ (hr.past b1) p2 p1).mono ?_
    rintro e w2 ⟨rfl, b2⟩
    go_wp2
    go_ret
    rw [HS.out]
    exact ⟨rfl, b1.trans (b2.mono b1.size)⟩

set_option maxHeartbeats 800000 in
theorem implDrops_any (A : Option Addr) (c : Nat) (ps : List Pt) (w : World) (hr : PRow w w.heap.size A ps) (hl : ps.length ≤ 4294967296) (hls : ∀ p ∈ ps, p.signs.length ≤ 4294967296) :
    Calls Try.prog 62 #[.slice A ps.length c] w (Nums1 (dropsN ps) w) := by
  cases ho : okOp ps
  · have HS := Lib.hid (show dropsN ps = 0 by unfold dropsN; rw [ho]; rfl)
    go_enter Try.func62, Try.ntmps62
    go_wp2_with fail
    refine (implOpOk_any A c ps _ hr hl hls).mono ?_
    rintro e w1 ⟨rfl, b1⟩
    go_wp2
    go_ret
    rw [HS.out]
    exact ⟨rfl, b1⟩
  · have hpb := okOp_parts ho
    obtain ⟨p1, p2⟩ := partsB_of hpb
    have HS := Lib.hid (show dropsN ps = sumOf (sizeK 3) ps by unfold dropsN; rw [ho, (sum_t hpb).2.2, sizeK_drop p1]; rfl)
    clear hpb
    go_enter Try.func62, Try.ntmps62
    go_wp2_with fail
    refine (implOpOk_any A c ps _ hr hl hls).mono ?_
    rintro e w1 ⟨rfl, b1⟩
    go_wp2_with fail
    refine (implSizeOf_any 3 A c ps _ (hr.past b1) p2 p1).mono ?_
    rintro e w2 ⟨rfl, b2⟩
    go_wp2
    go_ret
    rw [HS.out]
    exact ⟨rfl, b1.trans (b2.mono b1.size)⟩
end Go.Proofs.Ytmlkeflnnaabeaa.low


/-
  Contracts of impl.partSame, of the library's slices.EqualFunc at parts with impl.partSame, and of impl.OpSame.
-/
namespace Go.Proofs.Ytmlkeflnnaabeaa.low
open Go.RowKit
set_option linter.unusedVariables false

end Go.Proofs.Ytmlkeflnnaabeaa.low


/-
  Contracts of the program's add, of impl.OpNorm, impl.IsNorm and impl.Keeping.
-/
namespace Go.Proofs.Ytmlkeflnnaabeaa.low
open Go.RowKit
set_option linter.unusedVariables false

theorem sameB_comm (a b : List Int) : sameB a b = sameB b a := by
  by_cases h : a = b
  · subst h; rfl
  · have h' : ¬ b = a := fun e => h e.symm
    unfold sameB
    simp [h, h']
theorem samePt_comm (p q : Pt) : samePt p q = samePt q p := by
  unfold samePt
  rw [sameB_comm p.signs q.signs, Bool.beq_comm (a := p.kind), Bool.beq_comm (a := p.n)]
theorem samePs_comm : ∀ ps qs : List Pt, samePs ps qs = samePs qs ps
  | [], [] => rfl
  | [], _ :: _ => rfl
  | _ :: _, [] => rfl
  | p :: ps, q :: qs => by
    show (samePt p q && samePs ps qs) = (samePt q p && samePs qs ps)
    rw [samePt_comm p q, samePs_comm ps qs]

set_option maxHeartbeats 1600000 in
theorem implAdd_any (lo g : Nat) (qs : List Pt) (put : List Int) (d : Int) (p : Pt) (A : Option Addr) (c : Nat) (w : World) (hb : BAt lo g 76 w qs put d) (hr : Row (Value.int .i64) w w.heap.size A p.signs) (hok : okPt p = true)
    (hl : qs.length ≤ 4294967296) (hp : put.length ≤ 4294967296) (h0 : 0 ≤ d) (h1 : d ≤ 4611686018427387904)
    (hq : ∀ p ∈ qs ++ putL put ++ dropL d, 0 ≤ p.n ∧ p.n ≤ 4611686018427387904) (hql : (qs ++ putL put ++ dropL d).length ≤ 4294967298) :
    Calls Try.prog 81 #[.pointer (some ⟨g, 0, none⟩), .agg #[.int .i64 p.kind, .int .i64 p.n, .slice A p.signs.length c]] w (Built lo g 76 w (stepN (qs, put, d) p).1 (stepN (qs, put, d) p).2.1 (stepN (qs, put, d) p).2.2) := by
  have hlo : lo ≤ w.heap.size := by obtain ⟨v, u, us, hx, _⟩ := hb; exact Nat.le_trans hx.low (Nat.le_of_lt hx.lt)
  have hk := of_okPt hok
  clear hok
  obtain ⟨pk, pn, pz⟩ := p
  simp only at hk hr ⊢
  have hat := hb.past (alloc_below w (.cells #[.int .i64 pk, .int .i64 pn, .slice A pz.length c] 80))
  have bel : Below lo w (w.alloc (.cells #[.int .i64 pk, .int .i64 pn, .slice A pz.length c] 80)) := (alloc_below w _).mono hlo
  rcases (show pk = 1 ∨ pk = 2 ∨ pk = 3 by omega) with rfl | rfl | rfl
  · have hn1 : 0 ≤ pn := by omega
    have hn2 : pn ≤ 200 := by omega
    clear hk
    by_cases hz : pn = 0
    · subst hz
      go_enter Try.func81, Try.ntmps81
      go_wp2_with fail
      refine (implKeep_zero g _).mono ?_
      rintro e w' ⟨rfl, rfl⟩
      go_wp2
      go_end0
      exact ⟨rfl, hat, bel⟩
    · go_enter Try.func81, Try.ntmps81
      go_wp2_with fail
      refine (implKeep_any lo g qs put d pn _ hat hl hp hz hn1 (by omega) hq hql).mono ?_
      rintro e w3 ⟨rfl, hn3, b3⟩
      go_wp2
      go_end0
      refine ⟨rfl, ?_, bel.trans b3⟩
      simp only [stepN, if_neg hz]
      exact hn3.at_
  · have hl2 : pz.length ≤ 200 := by omega
    clear hk
    go_enter Try.func81, Try.ntmps81
    go_wp2_with fail
    refine (implPut_any lo g qs put d A c pz _ hat (hr.past_alloc _) hp (by omega)).mono ?_
    rintro e w3 ⟨rfl, hn3, b3⟩
    go_wp2
    go_end0
    exact ⟨rfl, hn3, bel.trans b3⟩
  · have hn1 : 0 ≤ pn := by omega
    have hn2 : pn ≤ 200 := by omega
    clear hk
    go_enter Try.func81, Try.ntmps81
    go_wp2_with fail
    refine (implDrop_any lo g qs put d pn _ hat h0 h1 hn1 (by omega)).mono ?_
    rintro e w3 ⟨rfl, hn3, b3⟩
    go_wp2
    go_end0
    exact ⟨rfl, hn3, bel.trans b3⟩

set_option maxRecDepth 100000 in
set_option maxHeartbeats 3200000 in
theorem implOpNorm_any (A : Option Addr) (c : Nat) (ps : List Pt) (w : World) (hr : PRow w w.heap.size A ps) (hl : ps.length ≤ 4294967296) (hls : ∀ p ∈ ps, p.signs.length ≤ 4294967296) (hss : signsIn ps ≤ 1048576) :
    Calls Try.prog 52 #[.slice A ps.length c] w (PsPost (normL ps) w) := by
  cases hok : okOp ps
  · have e1 : normL ps = [] := by simp [normL, hok]
    rw [e1]
    go_enter Try.func52, Try.ntmps52
    go_wp2_with fail
    refine (implOpOk_any A c ps _ hr hl hls).mono ?_
    rintro e w1 ⟨rfl, b1⟩
    rw [hok] at *
    go_wp2
    go_ret
    refine ⟨_, rfl, ⟨[], World.ownsRow_nil _ _ _ _, ⟨rfl, fun i p u hp _ => by simp at hp, fun i j k u v hu _ _ _ => by simp at hu⟩, fun k hk => by simp [Value.ownBlock] at hk, Nat.le_refl _, b1.size⟩, b1⟩
  · have e1 : normL ps = doneN (foldN ps) := by simp [normL, hok]
    rw [e1]
    have HPB := Lib.hid (partsB_of (okOp_parts hok))
    go_enter Try.func52, Try.ntmps52
    go_wp2_with fail
    refine (implOpOk_any A c ps _ hr hl hls).mono ?_
    rintro e w1 ⟨rfl, b1⟩
    rw [hok] at *
    clear hok
    go_wp2
    have hnew := BAt.new w.heap.size 76 w1 b1.size
    have hbn := b1.trans ((alloc_below w1 (.cells #[.slice none 0 0, .slice none 0 0, .int .i64 0] 76)).mono b1.size)
    have hgl : w.heap.size ≤ w1.heap.size := b1.size
    generalize w1.alloc (.cells #[.slice none 0 0, .slice none 0 0, .int .i64 0] 76) = w2 at *
    generalize w1.heap.size = g at *
    clear b1
    go_loopw [13] (fun i wr => ∃ k : Nat, k ≤ ps.length ∧ i = .int .i64 k ∧ BAt w.heap.size g 76 wr (foldN (ps.take k)).1 (foldN (ps.take k)).2.1 (foldN (ps.take k)).2.2 ∧ Below w.heap.size w wr) (fun i _ => ps.length - (intOf i).toNat)
    case atStart => exact ⟨0, Nat.zero_le _, rfl, hnew, hbn⟩
    case round =>
      obtain ⟨k, hk, rfl, hat, hbel⟩ := hrel
      clear hnew hbn
      have hfit := foldN_fit HPB.out.1 k hk
      have hpl := HPB.out.2
      by_cases hlt : k < ps.length
      · obtain ⟨b, off, p, rfl, hb, hp, hc⟩ := hr.at_ hlt
        obtain ⟨x0, x1, A1, e1, x2, r1⟩ := hc.keep (w' := wr) hb (fun _ hq => hbel.cell hq)
        have hokp := okPs_at hp HPB.out.1
        have K1 := Lib.hid (foldN_snoc hp)
        have hsg : signsIn (ps.take k) ≤ signsIn ps := signsIn_take ps k
        clear hp hc
        generalize foldN (ps.take k) = st at *
        obtain ⟨qs, put, d⟩ := st
        have hf1 := hfit.len
        have hf2 := hfit.signs
        have hf3 := hfit.d0
        have hf4 := hfit.d1
        have hdn := Lib.hid hfit.done
        simp only at hf1 hf2 hf3 hf4 hat
        go_wp2_with fail
        refine (implAdd_any w.heap.size g qs put d p A1 e1 _ (hat.past (alloc_below wr _)) (Row.past_alloc (r1.more hbel.size) _) hokp (by omega) (by omega) hf3 (by omega) (fun p hp => by have := hdn.out.2.2 p hp; omega) (by have := hdn.out.1; exact Nat.le_trans this (by omega))).mono ?_
        rintro e w3 ⟨rfl, hn3, b3⟩
        go_wp2
        go_roundw
        case rel => exact ⟨k + 1, by omega, by go_num, by rw [K1.out]; exact hn3, hbel.trans (((alloc_below wr _).mono hbel.size).trans b3)⟩
        case measure => simp [intOf]; omega
      · have hke : ps.take k = ps := List.take_of_length_le (by omega)
        rw [hke] at hat hfit
        have hf1 := hfit.len
        have hf2 := hfit.signs
        go_wp2_with fail
        refine (implDone_any w.heap.size g _ _ _ _ hat (by omega) (by omega)).mono ?_
        rintro e w3 ⟨v, rfl, p3, b3⟩
        change PBuf _ _ _ _ (doneN (foldN ps)) at p3
        generalize doneN (foldN ps) = L at *
        obtain ⟨B3, d3, rfl, q3⟩ := p3.slice
        have HP3 := Lib.hid p3
        clear p3
        go_wp2
        go_ret
        exact ⟨_, rfl, HP3.out, hbel.trans b3⟩

set_option maxHeartbeats 1600000 in
theorem implKeeping_any (n : Int) (w : World) : Calls Try.prog 20 #[.int .i64 n] w (PsPost (keepL n) w) := by
  have hnew := BAt.new w.heap.size 76 w (Nat.le_refl _)
  have hbn := alloc_below w (.cells #[.slice none 0 0, .slice none 0 0, .int .i64 0] 76)
  by_cases h0 : 0 ≤ n
  · by_cases h2 : n ≤ 200
    · by_cases h1 : n = 0
      · subst h1
        go_enter Try.func20, Try.ntmps20
        go_wp2_with fail
        refine (implKeep_zero w.heap.size _).mono ?_
        rintro e w' ⟨rfl, rfl⟩
        go_wp2_with fail
        refine (implDone_any w.heap.size w.heap.size [] [] 0 _ hnew (by simp) (by simp)).mono ?_
        rintro e w3 ⟨v, rfl, p3, b3⟩
        change PBuf _ _ _ _ [] at p3
        obtain ⟨B3, d3, rfl, q3⟩ := p3.slice
        have HP3 := Lib.hid p3
        clear p3
        go_wp2
        go_ret
        exact ⟨_, rfl, HP3.out, hbn.trans b3⟩
      · have e1 : keepL n = [⟨1, n, []⟩] := by unfold keepL; exact if_pos ⟨by omega, h2⟩
        rw [e1]
        go_enter Try.func20, Try.ntmps20
        go_wp2_with fail
        refine (implKeep_any w.heap.size w.heap.size [] [] 0 n _ hnew (by simp) (by simp) h1 h0 (by omega) (fun p hp => by simp [putL, dropL] at hp) (by simp [putL, dropL])).mono ?_
        rintro e w2 ⟨rfl, hn2, b2⟩
        have hn2' : BNil w.heap.size w.heap.size 76 w2 [⟨1, n, []⟩] := by simpa [putL, dropL, keepTo_nil] using hn2
        go_wp2_with fail
        refine (implDone_any w.heap.size w.heap.size [⟨1, n, []⟩] [] 0 _ hn2'.at_ (by simp) (by simp)).mono ?_
        rintro e w3 ⟨v, rfl, p3, b3⟩
        change PBuf _ _ _ _ [⟨1, n, []⟩] at p3
        obtain ⟨B3, d3, rfl, q3⟩ := p3.slice
        have HP3 := Lib.hid p3
        clear p3
        go_wp2
        go_ret
        exact ⟨_, rfl, HP3.out, hbn.trans (b2.trans b3)⟩
    · have e1 : keepL n = [] := by unfold keepL; exact if_neg (fun h => h2 h.2)
      rw [e1]
      go_enter Try.func20, Try.ntmps20
      go_wp2
      go_ret
      exact ⟨_, rfl, PBuf.nil w, Below.refl _ _⟩
  · have e1 : keepL n = [] := by unfold keepL; exact if_neg (fun h => by omega)
    rw [e1]
    go_enter Try.func20, Try.ntmps20
    go_wp2
    go_ret
    exact ⟨_, rfl, PBuf.nil w, Below.refl _ _⟩
end Go.Proofs.Ytmlkeflnnaabeaa.low


/-
  The program's side: contracts of impl.TextOk, impl.applies and of the reader's next.
-/
namespace Go.Proofs.Ytmlkeflnnaabeaa.low
open Go.RowKit
set_option linter.unusedVariables false

set_option maxHeartbeats 800000 in
theorem implTextOk_d (v : Value) (t : List Int) (w : World) (h : RdC w w.heap.size (encInts t) v) (hs : SmI t) : Calls Try.prog 49 #[v] w (Tells (okText t) w) := by
  obtain ⟨A, c, rfl, hr, _⟩ := ints_rd h
  have hl : t.length ≤ 1048576 := hs
  by_cases h2 : t.length ≤ 200
  · have HS := Lib.hid (show okText t = allB t by unfold okText; rw [decide_eq_true h2, Bool.and_true])
    go_enter Try.func49, Try.ntmps49
    go_wp2_with fail
    refine (implSignsOk_any A c t _ hr (by omega)).mono ?_
    rintro e w1 ⟨rfl, rfl⟩
    generalize allB t = q at *
    go_wp2
    go_ret
    exact ⟨ret_bool (by rw [HS.out]), Below.refl _ _⟩
  · have HS := Lib.hid (show okText t = false by unfold okText; rw [decide_eq_false h2, Bool.and_false])
    go_enter Try.func49, Try.ntmps49
    go_wp2
    go_ret
    exact ⟨ret_bool (by rw [HS.out]), Below.refl _ _⟩

set_option maxHeartbeats 1600000 in
theorem implFits_d (v v' : Value) (ps : List Pt) (t : List Int) (w : World) (h : RdC w w.heap.size (encPs ps) v) (h' : RdC w w.heap.size (encInts t) v') (hs : SmP ps) (hs' : SmI t) : Calls Try.prog 59 #[v, v'] w (Tells (fitsB ps t) w) := by
  obtain ⟨A, c, rfl, hr, _⟩ := parts_rd h
  obtain ⟨A', c', rfl, hr', _⟩ := ints_rd h'
  have hl := hs.1
  cases ho : okOp ps
  · have HS := Lib.hid (show fitsB ps t = false by unfold fitsB; rw [ho]; rfl)
    go_enter Try.func59, Try.ntmps59
    go_wp2_with fail
    refine (implOpOk_any A c ps _ hr (by omega) hs.all4).mono ?_
    rintro e w1 ⟨rfl, b1⟩
    rw [ho]
    go_wp2
    go_ret
    exact ⟨ret_bool (by rw [HS.out]), b1⟩
  · cases ht : okText t
    · have HS := Lib.hid (show fitsB ps t = false by unfold fitsB; rw [ho, ht]; rfl)
      go_enter Try.func59, Try.ntmps59
      go_wp2_with fail
      refine (implOpOk_any A c ps _ hr (by omega) hs.all4).mono ?_
      rintro e w1 ⟨rfl, b1⟩
      rw [ho]
      go_wp2_with fail
      refine (implTextOk_d _ t _ (h'.past b1) hs').mono ?_
      rintro e w2 ⟨rfl, b2⟩
      rw [ht]
      go_wp2
      go_ret
      exact ⟨ret_bool (by rw [HS.out]), b1.trans (b2.mono b1.size)⟩
    · have HS := Lib.hid (show fitsB ps t = (sumK ps + sumD ps == (t.length : Int)) by unfold fitsB; rw [ho, ht, Bool.true_and]; cases hq : (sumK ps + sumD ps == (t.length : Int)) <;> simp_all)
      go_enter Try.func59, Try.ntmps59
      go_wp2_with fail
      refine (implOpOk_any A c ps _ hr (by omega) hs.all4).mono ?_
      rintro e w1 ⟨rfl, b1⟩
      rw [ho]
      go_wp2_with fail
      refine (implTextOk_d _ t _ (h'.past b1) hs').mono ?_
      rintro e w2 ⟨rfl, b2⟩
      rw [ht]
      have d2 := b1.trans (b2.mono b1.size)
      go_wp2_with fail
      refine (implOpFrom_any A c ps _ (hr.past d2) (by omega) hs.all4).mono ?_
      rintro e w3 ⟨rfl, b3⟩
      generalize sumK ps + sumD ps = q at *
      go_wp2
      go_ret
      exact ⟨ret_bool (by rw [HS.out]), d2.trans (b3.mono d2.size)⟩

/-- the reader at block g: zs is left of the text, which lies in blocks below B -/
def Rdr (B g : Nat) (w : World) (zs : List Int) : Prop := ∃ A c, w.heap[g]? = some (.cells #[.slice A zs.length c] 84 (0, 0)) ∧ zs.length ≤ c ∧ Row (Value.int .i64) w B A zs ∧ B ≤ g
theorem Rdr.keep {B g : Nat} {w w' : World} {zs : List Int} (h : Rdr B g w zs) (hg : w'.heap[g]? = w.heap[g]?) (hk : ∀ p : Addr, p.block < B → w'.cell? p = w.cell? p) : Rdr B g w' zs := by
  obtain ⟨A, c, h1, h2, h3, h4⟩ := h
  exact ⟨A, c, hg.trans h1, h2, h3.keep hk, h4⟩
theorem Rdr.lt {B g : Nat} {w : World} {zs : List Int} (h : Rdr B g w zs) : g < w.heap.size := by
  obtain ⟨A, c, h1, _⟩ := h
  exact lt_of_some h1
theorem Rdr.past {B g : Nat} {w w' : World} {zs : List Int} (h : Rdr B g w zs) (hb : Below w.heap.size w w') : Rdr B g w' zs := by
  have hlt := h.lt
  have hB : B ≤ g := by obtain ⟨_, _, _, _, _, h4⟩ := h; exact h4
  exact h.keep (hb.block g hlt) (fun p hp => hb.cell (by omega))
theorem Rdr.touch {B g : Nat} {w w' : World} {zs : List Int} {T : Nat → Prop} (h : Rdr B g w zs) (ht : Touch T w w') (hT : ∀ b, T b → B ≤ b ∧ ¬ b = g) : Rdr B g w' zs :=
  h.keep (ht.block g (fun e => (hT g e).2 rfl)) (fun p hp => ht.cell (fun e => by have := (hT _ e).1; omega))
/-- next gives the first n numbers, and the reader goes on behind them -/
def NextP (B g : Nat) (zs : List Int) (n : Nat) (w : World) (e : Ending) (w' : World) : Prop := ∃ A, e = .returned (.slice A n n) ∧ Row (Value.int .i64) w' B A (zs.take n) ∧ Rdr B g w' (zs.drop n) ∧ Touch (fun b => b = g) w w'

theorem addr_add_add (p : Addr) (i j : Nat) : (p.add i).add j = p.add (i + j) := by
  unfold Addr.add
  by_cases hi : i = 0
  · subst hi; simp
  · by_cases hj : j = 0
    · subst hj; simp [hi]
    · simp [hi, hj, Nat.add_assoc]
theorem Row.init {w : World} {B : Nat} {A : Option Addr} {zs : List Int} (h : Row (Value.int .i64) w B A zs) (n : Nat) : Row (Value.int .i64) w B A (zs.take n) := fun hn => by
  have h0 : 0 < zs.length := by rw [List.length_take] at hn; omega
  obtain ⟨ad, e, hb, hc⟩ := h h0
  refine ⟨ad, e, hb, fun k z hz => ?_⟩
  rw [List.getElem?_take] at hz
  split at hz
  · exact hc k z hz
  · cases hz
theorem Row.tail {w : World} {B : Nat} {ad : Addr} {zs : List Int} (h : Row (Value.int .i64) w B (some ad) zs) (n : Nat) : Row (Value.int .i64) w B (some (ad.add n)) (zs.drop n) := fun hn => by
  have h0 : 0 < zs.length := by rw [List.length_drop] at hn; omega
  obtain ⟨ad', e, hb, hc⟩ := h h0
  injection e with e
  subst e
  refine ⟨_, rfl, by rw [block_of_add]; exact hb, fun k z hz => ?_⟩
  rw [List.getElem?_drop] at hz
  rw [addr_add_add]
  exact hc (n + k) z hz
theorem heap_set0 {w : World} {g : Nat} {T : TypeId} {u v : Value} (h : w.heap[g]? = some (.cells #[u] T (0, 0))) : (w.setCell ⟨g, 0, none⟩ v).heap[g]? = some (.cells #[v] T (0, 0)) := by
  rw [heap_setCell_same _ _ _ _ _ _ h]
  rfl

set_option maxHeartbeats 1600000 in
theorem implNext (B g n : Nat) (zs : List Int) (w : World) (h : Rdr B g w zs) (hn : n ≤ zs.length) (hz : zs.length ≤ 1000000) : Calls Try.prog 60 #[.pointer (some ⟨g, 0, none⟩), .int .i64 n] w (NextP B g zs n w) := by
  obtain ⟨A, c, h1, h2, h3, h4⟩ := h
  have hcell : w.cell? ⟨g, 0, none⟩ = some (.slice A zs.length c) := cell_of_row _ _ 0 _ _ _ h1
  have hfree : w.frozen? ⟨g, 0, none⟩ = false := by simp [World.frozen?, h1]
  have H1 := Lib.hid h1
  clear h1
  cases A with
  | none =>
    have h0 : zs = [] := by
      rcases Nat.eq_zero_or_pos zs.length with h | h
      · exact List.eq_nil_of_length_eq_zero h
      · obtain ⟨_, hn, _⟩ := h3 h
        cases hn
    subst h0
    obtain rfl : n = 0 := by simpa using hn
    go_enter Try.func60, Try.ntmps60
    go_wp2
    all_goals
      go_ret
      refine ⟨none, rfl, Row.nil, ⟨none, _, heap_set0 H1.out, ?_, Row.nil, h4⟩, (Touch.refl (fun b => b = g) _).setCell (p := ⟨g, 0, none⟩) rfl _⟩
      simp
  | some ad =>
    by_cases hc : n = c
    · obtain rfl : n = c := hc
      obtain rfl : n = zs.length := by omega
      go_enter Try.func60, Try.ntmps60
      have hd : zs.drop zs.length = [] := List.drop_length
      have HD := Lib.hid hd
      clear hd
      go_wp2
      go_ret
      refine ⟨some ad, rfl, (h3.init _).keep (fun p hp => ?_), ?_, (Touch.refl (fun b => b = g) _).setCell (p := ⟨g, 0, none⟩) rfl _⟩
      · exact ((Touch.refl (fun b => b = g) _).setCell (p := ⟨g, 0, none⟩) rfl _).cell (fun e => by omega)
      · rw [HD.out]
        exact ⟨some ad, 0, heap_set0 H1.out, Nat.le_refl _, Row.nil, h4⟩
    · go_enter Try.func60, Try.ntmps60
      go_wp2
      go_ret
      have hk : ∀ p : Addr, p.block < B → (w.setCell ⟨g, 0, none⟩ (.slice (some (ad.add n)) (zs.length - n) (c - n))).cell? p = w.cell? p := fun p hp => ((Touch.refl (fun b => b = g) w).setCell (p := ⟨g, 0, none⟩) rfl _).cell (fun e => by omega)
      refine ⟨some ad, rfl, (h3.init _).keep hk, ⟨some (ad.add n), c - n, ?_, by rw [List.length_drop]; omega, (h3.tail n).keep hk, h4⟩, (Touch.refl (fun b => b = g) _).setCell (p := ⟨g, 0, none⟩) rfl _⟩
      rw [List.length_drop]
      exact heap_set0 H1.out
end Go.Proofs.Ytmlkeflnnaabeaa.low


/-
  The program's side: contract of impl.Apply.
-/
namespace Go.Proofs.Ytmlkeflnnaabeaa.low
open Go.RowKit
set_option linter.unusedVariables false

theorem Rdr.drew {B g : Nat} {w : World} {zs : List Int} (h : Rdr B g w zs) : Rdr B g w.drew zs := h.keep rfl (fun _ _ => rfl)
theorem int_size : (Try.prog.info? 3).map (·.size) = some 1 := by kernel_rfl
theorem made_zero (n : Nat) : (madeCells (Value.cells (Value.int .i64 0)) (n * 1)).toList = fillR n [] := by
  unfold fillR
  simp [madeCells, Value.cells, Nat.mod_one, List.map_const']
theorem Row.src {w : World} {B : Nat} {A : Option Addr} {ys : List Int} (h : Row (Value.int .i64) w B A ys) (hp : 0 < (ys.map (Value.int .i64)).length) : ∃ ad, A = some ad ∧ ∀ j v, (ys.map (Value.int .i64))[j]? = some v → w.cell? (ad.add j) = some v := by
  obtain ⟨ad, e, _, hc⟩ := h (by simpa using hp)
  refine ⟨ad, e, fun j v hv => ?_⟩
  rw [List.getElem?_map] at hv
  obtain ⟨z, hz, rfl⟩ := Option.map_eq_some_iff.1 hv
  exact hc j z hz
theorem ints_one (ys : List Int) : ∀ v ∈ ys.map (Value.int .i64), v.oneCell' = true := by
  intro v hv
  obtain ⟨z, _, rfl⟩ := List.mem_map.1 hv
  rfl

set_option maxRecDepth 100000 in
set_option maxHeartbeats 3200000 in
theorem implApply_d (v v' : Value) (ps : List Pt) (t : List Int) (w : World) (h : RdC w w.heap.size (encPs ps) v) (h' : RdC w w.heap.size (encInts t) v') (hs : SmP ps) (hs' : SmI t) : Calls Try.prog 23 #[v, v'] w (ResB (encInts (applyT ps t)) (fitsB ps t) w) := by
  obtain ⟨A, c, rfl, hr, _⟩ := parts_rd h
  obtain ⟨A', c', rfl, hr', hcap⟩ := ints_rd h'
  obtain ⟨i0, hi0, hz0, hz1, hz2⟩ := info_parts ints_info
  cases hf : fitsB ps t
  · have e1 : applyT ps t = [] := by simp [applyT, hf]
    rw [e1]
    go_enter Try.func23, Try.ntmps23
    go_wp2_with fail
    refine (implFits_d _ _ ps t _ h h' hs hs').mono ?_
    rintro e w1 ⟨rfl, b1⟩
    rw [hf]
    go_wp2
    go_ret2
    exact ⟨_, rfl, ⟨[], ⟨[], [], World.ownsRow_nil _ _ _ _, ⟨rfl, rfl⟩, rfl⟩, by simp, fun b hb => by simp at hb, Nat.le_refl _, b1.size⟩, b1⟩
  · have e1 : applyT ps t = (foldA t ps).2 := by simp [applyT, hf]
    rw [e1]
    have HF := Lib.hid hf
    have HFO := Lib.hid (fits_of hf)
    have hl := HFO.out.2.1
    have ht := HFO.out.2.2.2.2.2.1
    obtain ⟨n, hn, hn2⟩ := fits_n hf
    have HN := Lib.hid hn
    clear hn
    have hl1 := hs.1
    go_enter Try.func23, Try.ntmps23
    go_wp2_with fail
    refine (implFits_d _ _ ps t _ h h' hs hs').mono ?_
    rintro e w1 ⟨rfl, b1⟩
    rw [hf]
    clear hf e1
    go_wp2_with fail
    have hrd : Rdr w.heap.size w1.heap.size (w1.alloc (.cells #[.slice A' t.length c'] 84)) t := ⟨A', c', heap_alloc_new w1 _, hcap, (hr'.below b1).keep (fun p hp => (alloc_below w1 _).cell (Nat.lt_of_lt_of_le hp b1.size)), b1.size⟩
    have hb2 := b1.trans ((alloc_below w1 (.cells #[.slice A' t.length c'] 84)).mono b1.size)
    generalize w1.alloc (.cells #[.slice A' t.length c'] 84) = w2 at *
    have hwg := b1.size
    generalize w1.heap.size = g at *
    clear b1
    refine (implOpTo_any A c ps w2 (hr.past hb2) (by omega) hs.all4).mono ?_
    rintro e w3 ⟨rfl, b3⟩
    rw [HN.out]
    have hrd3 := hrd.past b3
    have hb3 := hb2.trans (b3.mono hb2.size)
    clear hrd hb2 b3
    go_wp2_with (at_make; refine wpList_make_full _ rfl _ _ 23 rfl w3.heap.size 3 i0 (.int .i64 0) 1 Try.underlying23 hi0 hz0 hz1 _ _ _ _ n rfl rfl (by omega) (by omega) (by rw [hz2]; omega) (by unfold maxLen; omega) (Nat.le_refl _) ?_; intro w4 hown hg4)
    have hb4 := (Below.refl w3.heap.size w3).grown hg4 (Nat.le_refl _) (fun _ h => by cases h)
    rw [made_zero] at hown
    have hrow := (own_full hown).1
    have hrd4 := hrd3.past hb4
    have hgr := hrd3.lt
    have hbw := hb3.trans (hb4.mono hb3.size)
    have hwr := hb3.size
    generalize w3.heap.size = r at *
    have HRW := Lib.hid hrow
    have HRD := Lib.hid hrd4
    clear hown hg4 hb4 hrow hrd4 hrd3 hb3
    go_loopw [8, 23] (fun a i wr => ∃ k : Nat, k ≤ ps.length ∧ i = .int .i64 k ∧ a = .int .i64 ((foldA t (ps.take k)).2.length : Int) ∧ wr.heap[r]? = some (.cells (fillR n (foldA t (ps.take k)).2).toArray 3 (0, 0)) ∧ Rdr w.heap.size g wr (t.drop (foldA t (ps.take k)).1) ∧ Below w.heap.size w wr) (fun _ i _ => ps.length - (intOf i).toNat)
    case atStart => exact ⟨0, Nat.zero_le _, rfl, rfl, HRW.out, HRD.out, hbw⟩
    case round =>
      obtain ⟨k, hk, rfl, rfl, hrow, hrd, hbel⟩ := hrel
      clear HRW HRD hbw
      have hout := foldA_upto HF.out HN.out k hk
      have hfit := Lib.hid (foldA_fit (t := t) HFO.out.1 k hk)
      by_cases hlt : k < ps.length
      · obtain ⟨b, off, p, rfl, hb, hp, hc⟩ := hr.at_ hlt
        obtain ⟨x0, x1, A1, e1, x2, r1⟩ := hc.keep (w' := wr) hb (fun _ hq => hbel.cell hq)
        have hokp := okPs_at hp HFO.out.1
        have hok := of_okPt hokp
        have hout1 := foldA_upto HF.out HN.out (k + 1) hlt
        have hin := foldA_in HF.out hp
        rw [foldA_snoc (t := t) hp] at hout1
        have K1 := Lib.hid (foldA_snoc (t := t) hp)
        have hsl := hs.all p (List.mem_of_getElem? hp)
        clear hp hc
        have hat : (foldA t (ps.take k)).1 ≤ 200 := by
          have f := hfit.out
          have a1 := sumOf_take (f := keepOf) (ps := ps) (fun q hq => (ok_bd (okPs_mem' HFO.out.1 hq)).1.1) k
          have a3 := sumOf_take (f := dropOf) (ps := ps) (fun q hq => (ok_bd (okPs_mem' HFO.out.1 hq)).2.2.1) k
          have g1 := HFO.out.2.2.1
          omega
        generalize foldA t (ps.take k) = st at *
        obtain ⟨at_, out⟩ := st
        obtain ⟨pk, pn, pz⟩ := p
        simp only at x0 x1 x2 hok r1 hin hrow hrd hat hout
        rcases (show pk = 1 ∨ pk = 2 ∨ pk = 3 by omega) with rfl | rfl | rfl
        · have hn1 : 0 ≤ pn := by omega
          have hn2 : pn ≤ 200 := by omega
          have hin' := hin (.inl rfl)
          obtain ⟨m, rfl⟩ := Int.eq_ofNat_of_zero_le hn1
          have hlen : ((t.drop at_).take m).length = m := piece_len (by omega)
          have K2 := Lib.hid (show stepA t (at_, out) ⟨1, (m : Int), pz⟩ = (at_ + m, out ++ (t.drop at_).take m) by simp [stepA])
          rw [K2.out] at hout1
          have HY := Lib.hid (show (t.drop at_).take ((t.drop at_).take m).length = (t.drop at_).take m by rw [hlen])
          generalize (t.drop at_).take m = ys at *
          obtain rfl : ys.length = m := hlen
          have hn3 : out.length + ys.length ≤ n := by simpa using hout1
          clear hok hin hout1
          have bA := alloc_below wr (.cells #[.int .i64 1, .int .i64 (ys.length : Int), .slice A1 pz.length e1] 80)
          have HRD := Lib.hid (hrd.past bA)
          have hrl := lt_of_some hrow
          have HRW := Lib.hid ((bA.block r hrl).trans hrow)
          clear hrd hrow r1
          have hb0 := hbel.trans (bA.mono hbel.size)
          clear bA
          have hfl : (ys.map (Value.int .i64)).length = Nat.min ys.length (n - out.length) := by rw [List.length_map]; exact (Nat.min_eq_left (by omega)).symm
          have HFL := Lib.hid hfl
          clear hfl
          have hdst : 0 < (ys.map (Value.int .i64)).length → (if n = out.length then some (⟨r, 0, none⟩ : Addr) else some ⟨r, out.length, none⟩) = some ⟨r, out.length, none⟩ := fun hp => if_neg (by rw [List.length_map] at hp; omega)
          have HDST := Lib.hid hdst
          clear hdst
          have hz1 : ys.length ≤ (t.drop at_).length := by rw [List.length_drop]; omega
          have hz2' : (t.drop at_).length ≤ 1000000 := by rw [List.length_drop]; omega
          have HZ1 := Lib.hid hz1
          have HZ2 := Lib.hid hz2'
          clear hz1 hz2'
          have hw1 : IntKind.i64.wrap ((out.length : Int) + (ys.length : Int)) = (out.length : Int) + (ys.length : Int) := IntWalk.i64_in _ (by omega)
          go_wp2
          go_region_law (first | (refine step_copy_splice rfl (.tmp 34) (.tmp 38) 23 23 rfl 3 Try.underlying23 int_size (if n = out.length then some (⟨r, 0, none⟩ : Addr) else some ⟨r, out.length, none⟩) A4 (n - out.length) (n - out.length) ys.length ys.length rfl rfl r out.length (fillR n out) 3 (by exact hrw4.out) (ys.map (Value.int .i64)) (by exact HFL.out) (fun hp => ⟨HDST.out hp, r4.out.src hp⟩) (by rw [fill_len _ _ hout]; simpa using hn3) (ints_one _) r _ (Below.refl _ _) (Nat.le_refl _) ?_; intro w5 hg5 hb5) | (go_simp; go_at_call 60; refine (implNext w.heap.size g ys.length (t.drop at_) _ (by exact HRD.out.drew) (by exact HZ1.out) (by exact HZ2.out)).mono ?_; rintro e w4 ⟨A4, rfl, r4, rd4, t4⟩; rw [HY.out] at r4; replace r4 := Lib.hid r4; have HR4 := Lib.hid rd4; have hrw4 := Lib.hid ((t4.block r (by omega)).trans HRW.out); clear rd4))
          have hb4' : Below w.heap.size w w4 := hb0.drew.trans (t4.below (fun b hb => by have hb' : b = g := hb; omega))
          have hb5' : Below w.heap.size w w5 := hb4'.trans (hb5.mono hwr)
          have HR5 := Lib.hid (show w5.heap[r]? = some (.cells (fillR n (out ++ ys)).toArray 3 (0, 0)) by rw [hg5.out, fill_splice _ _ _ hn3])
          have HD5 := Lib.hid (HR4.out.keep (hb5.block g hgr) (fun p hp => hb5.cell (by omega)))
          clear hg5 hb5 HDST HFL hb4' t4
          go_wp2
          go_roundw
          case rel => exact ⟨k + 1, by omega, by go_num, by rw [K1.out, K2.out]; simp, by rw [K1.out, K2.out]; exact HR5.out, by rw [K1.out, K2.out]; have := HD5.out; rw [List.drop_drop] at this; exact this, hb5'⟩
          case measure => simp [intOf]; omega
        · have hn3 : out.length + pz.length ≤ n := by
            have := hout1
            simp [stepA] at this
            exact this
          clear hok hin hout1
          have bA := alloc_below wr (.cells #[.int .i64 2, .int .i64 pn, .slice A1 pz.length e1] 80)
          have HRD := Lib.hid (hrd.past bA)
          have hrl := lt_of_some hrow
          have HRW := Lib.hid ((bA.block r hrl).trans hrow)
          have hpc := Lib.hid (Row.past_alloc (r1.more hbel.size) (.cells #[.int .i64 2, .int .i64 pn, .slice A1 pz.length e1] 80))
          clear hrd hrow r1
          have hb0 := hbel.trans (bA.mono hbel.size)
          clear bA
          have hfl : (pz.map (Value.int .i64)).length = Nat.min pz.length (n - out.length) := by rw [List.length_map]; exact (Nat.min_eq_left (by omega)).symm
          have HFL := Lib.hid hfl
          clear hfl
          have hw1 : IntKind.i64.wrap ((out.length : Int) + (pz.length : Int)) = (out.length : Int) + (pz.length : Int) := IntWalk.i64_in _ (by omega)
          have hdst : 0 < (pz.map (Value.int .i64)).length → (if n = out.length then some (⟨r, 0, none⟩ : Addr) else some ⟨r, out.length, none⟩) = some ⟨r, out.length, none⟩ := fun hp => if_neg (by rw [List.length_map] at hp; omega)
          have HDST := Lib.hid hdst
          clear hdst
          go_wp2
          go_region_law (refine step_copy_splice rfl (.tmp 46) (.tmp 48) 23 23 rfl 3 Try.underlying23 int_size (if n = out.length then some (⟨r, 0, none⟩ : Addr) else some ⟨r, out.length, none⟩) A1 (n - out.length) (n - out.length) pz.length e1 rfl rfl r out.length (fillR n out) 3 (by exact HRW.out) (pz.map (Value.int .i64)) (by exact HFL.out) (fun hp => ⟨HDST.out hp, hpc.out.src hp⟩) (by rw [fill_len _ _ hout]; simpa using hn3) (ints_one _) r _ (Below.refl _ _) (Nat.le_refl _) ?_; intro w5 hg5 hb5)
          have hb5' : Below w.heap.size w w5 := hb0.drew.trans (hb5.mono hwr)
          have HR5 := Lib.hid (show w5.heap[r]? = some (.cells (fillR n (out ++ pz)).toArray 3 (0, 0)) by rw [hg5.out, fill_splice _ _ _ hn3])
          have HD5 := Lib.hid (HRD.out.drew.keep (hb5.block g hgr) (fun p hp => hb5.cell (by omega)))
          clear hg5 hb5 HDST HFL
          go_wp2
          go_roundw
          case rel => exact ⟨k + 1, by omega, by go_num, by rw [K1.out]; simp [stepA], by rw [K1.out]; exact HR5.out, by rw [K1.out]; exact HD5.out, hb5'⟩
          case measure => simp [intOf]; omega
        · have hn1 : 0 ≤ pn := by omega
          have hn2 : pn ≤ 200 := by omega
          have hin' := hin (.inr rfl)
          clear hok hin hout1
          obtain ⟨m, rfl⟩ := Int.eq_ofNat_of_zero_le hn1
          have bA := alloc_below wr (.cells #[.int .i64 3, .int .i64 (m : Int), .slice A1 pz.length e1] 80)
          have HRD := Lib.hid (hrd.past bA)
          have hrl := lt_of_some hrow
          have HRW := Lib.hid ((bA.block r hrl).trans hrow)
          clear hrd hrow
          have hb0 := hbel.trans (bA.mono hbel.size)
          clear bA
          go_wp2_with fail
          refine (implNext w.heap.size g m (t.drop at_) _ HRD.out (by rw [List.length_drop]; omega) (by rw [List.length_drop]; omega)).mono ?_
          rintro e w4 ⟨A4, rfl, r4, rd4, t4⟩
          have HR4 := Lib.hid rd4
          have hrw4 := Lib.hid ((t4.block r (by omega)).trans HRW.out)
          have hb4 := hb0.trans (t4.below (fun b hb => by have := hb; omega))
          clear r4 rd4 t4
          go_wp2
          go_roundw
          case rel => exact ⟨k + 1, by omega, by go_num, by rw [K1.out]; rfl, by rw [K1.out]; exact hrw4.out, by rw [K1.out]; have := HR4.out; rw [List.drop_drop] at this; simpa [stepA] using this, hb4⟩
          case measure => simp [intOf]; omega
      · have hke : ps.take k = ps := List.take_of_length_le (by omega)
        rw [hke] at hrow hrd ⊢
        have hall := foldA_all HF.out HN.out
        rw [fill_all _ _ hall] at hrow
        have HO := Lib.hid (full_own (base := w.heap.size) hrow hwr (by simpa using hall) (by omega))
        have HL := Lib.hid hall
        clear hrow hrd hall hke hout
        generalize (foldA t ps).2 = out at *
        go_wp2
        go_ret2
        have HO2 := HO.out
        rw [← HL.out] at HO2 ⊢
        exact ⟨_, rfl, ⟨_, ow_ints HO2, by simp [Value.ownBlock], fun b hb => by
          have hb' : b = r := by simpa [Value.ownBlock] using hb
          subst hb'
          exact ⟨hwr, own_in HO2 rfl⟩, Nat.le_refl _, hbel.size⟩, hbel⟩
end Go.Proofs.Ytmlkeflnnaabeaa.low


/-
  The program's side: contracts of impl.ApplyAll and impl.Idle.
-/
namespace Go.Proofs.Ytmlkeflnnaabeaa.low
open Go.RowKit
set_option linter.unusedVariables false

set_option maxHeartbeats 1600000 in
theorem implIdle_d (v : Value) (ps : List Pt) (w : World) (h : RdC w w.heap.size (encPs ps) v) (hs : SmP ps) : Calls Try.prog 27 #[v] w (Tells (idleB ps) w) := by
  obtain ⟨A, c, rfl, hr, _⟩ := parts_rd h
  have hl := hs.1
  cases ho : okOp ps
  · have HS := Lib.hid (show idleB ps = false by unfold idleB; rw [ho]; rfl)
    go_enter Try.func27, Try.ntmps27
    go_wp2_with fail
    refine (implOpOk_any A c ps _ hr (by omega) hs.all4).mono ?_
    rintro e w1 ⟨rfl, b1⟩
    rw [ho]
    go_wp2
    go_ret
    exact ⟨ret_bool (by rw [HS.out]), b1⟩
  · cases hp : (putsN ps == 0)
    · have HS := Lib.hid (show idleB ps = false by unfold idleB; rw [ho, hp]; rfl)
      go_enter Try.func27, Try.ntmps27
      go_wp2_with fail
      refine (implOpOk_any A c ps _ hr (by omega) hs.all4).mono ?_
      rintro e w1 ⟨rfl, b1⟩
      rw [ho]
      go_wp2_with fail
      refine (implPuts_any A c ps _ (hr.past b1) (by omega) hs.all4).mono ?_
      rintro e w2 ⟨rfl, b2⟩
      go_wp2
      go_ret
      exact ⟨ret_bool (by rw [HS.out]), b1.trans (b2.mono b1.size)⟩
    · have HS := Lib.hid (show idleB ps = (dropsN ps == 0) by unfold idleB; rw [ho, hp]; rfl)
      go_enter Try.func27, Try.ntmps27
      go_wp2_with fail
      refine (implOpOk_any A c ps _ hr (by omega) hs.all4).mono ?_
      rintro e w1 ⟨rfl, b1⟩
      rw [ho]
      go_wp2_with fail
      refine (implPuts_any A c ps _ (hr.past b1) (by omega) hs.all4).mono ?_
      rintro e w2 ⟨rfl, b2⟩
      have d2 := b1.trans (b2.mono b1.size)
      go_wp2_with fail
      refine (implDrops_any A c ps _ (hr.past d2) (by omega) hs.all4).mono ?_
      rintro e w3 ⟨rfl, b3⟩
      go_wp2
      go_ret
      exact ⟨ret_bool (by rw [HS.out]), d2.trans (b3.mono d2.size)⟩

set_option maxRecDepth 100000 in
set_option maxHeartbeats 3200000 in
theorem implApplyAll_d (v v' : Value) (l : List (List Pt)) (t : List Int) (w : World) (h : RdC w w.heap.size (encPss l) v) (h' : RdC w w.heap.size (encInts t) v') (hs : SmPP l) (hs' : SmI t) : Calls Try.prog 15 #[v, v'] w (ResB (encInts (applyAllT l t)) (applyAllB l t) w) := by
  obtain ⟨A, c, rfl⟩ := pss_len h
  obtain ⟨A', c', rfl, hr', _⟩ := ints_rd h'
  obtain ⟨i0, hi0, hz0, hz1, hz2⟩ := info_parts ints_info
  have hl := hs.1
  have ht : t.length ≤ 1048576 := hs'
  cases htx : okText t
  · have HN := Lib.hid (show applyAllB l t = false ∧ applyAllT l t = [] by
      have e1 : applyAllB l t = false := by unfold applyAllB; rw [htx, Bool.and_false]
      exact ⟨e1, by unfold applyAllT; rw [e1]; rfl⟩)
    go_enter Try.func15, Try.ntmps15
    go_wp2_with fail
    refine (implTextOk_d _ t _ h' hs').mono ?_
    rintro e w1 ⟨rfl, b1⟩
    rw [htx]
    go_wp2
    go_ret2
    rw [HN.out.1, HN.out.2]
    exact ⟨_, rfl, nilOwn _ _ rfl b1.size, b1⟩
  · have HTX := Lib.hid htx
    have hsrc : Nat.min t.length t.length = t.length := Nat.min_self _
    have hfl : (t.map (Value.int .i64)).length = Nat.min t.length t.length := by rw [List.length_map, hsrc]
    have HFL := Lib.hid hfl
    clear hfl hsrc
    go_enter Try.func15, Try.ntmps15
    go_wp2_with fail
    refine (implTextOk_d _ t _ h' hs').mono ?_
    rintro e w1 ⟨rfl, b1⟩
    rw [htx]
    clear htx
    go_wp2_with (first | (at_make; refine wpList_make_full _ rfl _ _ 23 rfl w1.heap.size 3 i0 (.int .i64 0) 1 Try.underlying23 hi0 hz0 hz1 _ _ _ _ t.length rfl rfl (by omega) (by omega) (by rw [hz2]; omega) (by unfold maxLen; omega) (Nat.le_refl _) ?_; intro w2 hown hg2; rw [made_zero] at hown; have HROW := Lib.hid (own_full hown).1; have hb2 := (Below.refl w1.heap.size w1).grown hg2 (Nat.le_refl _) (fun _ h => by cases h); have hsr := Lib.hid ((hr'.past b1).past hb2); clear hown hg2) | (refine wpList_copy_splice (o := ⟨some 19, _, _, _, _, _⟩) rfl (.tmp 17) (.tmp 18) 23 23 rfl 3 Try.underlying23 int_size (some ⟨w1.heap.size, 0, none⟩) A' t.length t.length t.length c' rfl rfl w1.heap.size 0 (fillR t.length []) 3 HROW.out (t.map (Value.int .i64)) HFL.out (fun hp => ⟨rfl, hsr.out.src hp⟩) (by rw [fill_len _ _ (Nat.zero_le _)]; simp) (ints_one _) w1.heap.size _ (Below.refl _ _) (Nat.le_refl _) ?_; intro w3 hg3 hb3))
    have hbn := b1.trans ((hb2.trans hb3).mono b1.size)
    have hrow3 : w3.heap[w1.heap.size]? = some (.cells (t.map (Value.int .i64)).toArray 3 (0, 0)) := by
      have e := fill_splice t.length [] t (by simp)
      rw [List.nil_append, List.length_nil] at e
      rw [hg3.out, e, fill_all _ _ rfl]
    have HON := Lib.hid (ownInts (full_own (base := w.heap.size) hrow3 b1.size (by simp) (by omega)) hbn.size)
    clear hrow3 hg3 hb3 hb2 b1 HROW hsr HFL
    generalize w1.heap.size = r at *
    go_loopw [6, 22] (fun o i wr => ∃ (k : Nat) (cur : List Int), k ≤ l.length ∧ i = .int .i64 k ∧ foldAll (l.take k) t = some cur ∧ Own w.heap.size wr.heap.size wr (encInts cur) o ∧ Below w.heap.size w wr) (fun _ i _ => l.length - (intOf i).toNat)
    case atStart => exact ⟨0, t, Nat.zero_le _, rfl, rfl, HON.out, hbn⟩
    case round =>
      obtain ⟨k, cur, hk, rfl, hf, ho, hbel⟩ := hrel
      clear HON hbn
      have HF := Lib.hid hf
      have hcl := foldAll_len hk hf
      clear hf
      by_cases hlt : k < l.length
      · obtain ⟨ad, ps, A1, c1, rfl, hb, hp, hc, hpr⟩ := pss_at (h.below hbel) hlt
        have K1 := Lib.hid (foldAll_snoc (t := t) hp)
        rw [HF.out] at K1
        have hsp := hs.all ps (List.mem_of_getElem? hp)
        clear hp
        obtain ⟨Ao, co, rfl⟩ := sliceI ho.read
        have HO := Lib.hid ho
        have HPR := Lib.hid (RdC.more hbel.size _ _ hpr)
        clear ho hpr
        have hsc : SmI cur := by unfold SmI; omega
        go_wp2_with fail
        refine (implApply_d _ _ ps cur _ HPR.out HO.out.read hsp hsc).mono ?_
        rintro e w1 ⟨v1, rfl, o1, b1⟩
        obtain ⟨A3, c3, rfl⟩ := sliceI o1.read
        have HO1 := Lib.hid o1
        clear o1
        cases hfit : fitsB ps cur
        · have HN := Lib.hid (show applyAllB l t = false ∧ applyAllT l t = [] by
            have : foldAll l t = none := foldAll_none (k := k + 1) (by rw [K1.out]; simp [stepAll, hfit])
            have e1 : applyAllB l t = false := by unfold applyAllB; rw [this]; rfl
            exact ⟨e1, by unfold applyAllT; rw [e1]; rfl⟩)
          go_wp2
          go_ret2
          rw [HN.out.1, HN.out.2]
          exact ⟨_, rfl, nilOwn _ _ rfl (hbel.trans (b1.mono hbel.size)).size, hbel.trans (b1.mono hbel.size)⟩
        · have K2 := Lib.hid (show foldAll (l.take (k + 1)) t = some (applyT ps cur) by rw [K1.out]; simp [stepAll, hfit])
          go_wp2
          go_roundw
          case rel => exact ⟨k + 1, applyT ps cur, by omega, by go_num, K2.out, HO1.out.wide hbel.size (Nat.le_refl _) (Nat.le_refl _), hbel.trans (b1.mono hbel.size)⟩
          case measure => simp [intOf]; omega

      · have hke : l.take k = l := List.take_of_length_le (by omega)
        have HF2 := Lib.hid (show foldAll l t = some cur by rw [← HF.out, hke])
        obtain ⟨Ao, co, rfl⟩ := sliceI ho.read
        have HO := Lib.hid ho
        clear ho
        have HN := Lib.hid (show applyAllB l t = true ∧ applyAllT l t = cur by
          have e1 : applyAllB l t = true := by unfold applyAllB; rw [HTX.out, HF2.out]; rfl
          exact ⟨e1, by unfold applyAllT; rw [if_pos e1, HF2.out]; rfl⟩)
        go_wp2
        go_ret2
        rw [HN.out.1, HN.out.2]
        exact ⟨_, rfl, HO.out, hbel⟩
end Go.Proofs.Ytmlkeflnnaabeaa.low


/-
  The program's side of SpecBld.
-/
namespace Go.Proofs.Ytmlkeflnnaabeaa.low
open Go.RowKit
set_option linter.unusedVariables false

theorem implKeepB (O : Nat → Prop) (lo g : Nat) (L : List Pt) (n : Int) (w : World) (hb : Bld O lo g 76 w L) (h0 : 0 ≤ n) (h1 : n ≤ 200) (hl : L.length < 100000) :
    Calls Try.prog 57 #[.pointer (some ⟨g, 0, none⟩), .int .i64 n] w (BldP O lo g 76 (L ++ [⟨1, n, []⟩]) w) := by
  have hz : szP_ ⟨1, n, []⟩ := ⟨.inl rfl, h0, h1, by simp⟩
  by_cases hn : n = 0
  · subst hn
    refine (implKeep_zero g w).mono ?_
    rintro e w' ⟨rfl, rfl⟩
    exact ⟨rfl, hb.add hl hz (Below.refl _ _) (Fr.refl _ _) (hb.at_.mono (fun b h => .inl h))⟩
  · have hf := hb.fit
    have hd := hf.done
    have hsg := signsIn_le hb.sz
    have f1 := hf.len
    have f2 := hf.signs
    have hlen := hb.len
    refine (implKeep_f (fun b => O b ∨ w.heap.size ≤ b) lo g _ _ _ n w (hb.at_.mono (fun b h => .inl h)) (fun b h => .inr h) (by omega) (by omega) hn h0 (by omega) (fun p hp => by have := hd.2.2 p hp; omega) (by have := hd.1; exact Nat.le_trans this (by omega))).mono ?_
    rintro e w' ⟨rfl, hn', b, fr⟩
    refine ⟨rfl, hb.add hl hz b fr ?_⟩
    simp only [stepN, if_neg hn]
    exact hn'.at_
theorem implPutB (O : Nat → Prop) (lo g : Nat) (L : List Pt) (A : Option Addr) (c m : Nat) (zs : List Int) (w : World) (hb : Bld O lo g 76 w L) (hr : Row (Value.int .i64) w w.heap.size A zs) (hm : zs.length = m) (h1 : zs.length ≤ 200) (hl : L.length < 100000) :
    Calls Try.prog 74 #[.pointer (some ⟨g, 0, none⟩), .slice A m c] w (BldP O lo g 76 (L ++ [⟨2, 0, zs⟩]) w) := by
  subst hm
  have hz : szP_ ⟨2, 0, zs⟩ := ⟨.inr (.inl rfl), by simp, by simp, h1⟩
  have hsg := signsIn_le hb.sz
  have f2 := hb.fit.signs
  have hlen := hb.len
  refine (implPut_f (fun b => O b ∨ w.heap.size ≤ b) lo g _ _ _ A c zs w (hb.at_.mono (fun b h => .inl h)) (fun b h => .inr h) hr (by omega) (by omega)).mono ?_
  rintro e w' ⟨rfl, ha, b, fr⟩
  exact ⟨rfl, hb.add hl hz b fr ha⟩
theorem implDropB (O : Nat → Prop) (lo g : Nat) (L : List Pt) (n : Int) (w : World) (hb : Bld O lo g 76 w L) (h0 : 0 ≤ n) (h1 : n ≤ 200) (hl : L.length < 100000) :
    Calls Try.prog 75 #[.pointer (some ⟨g, 0, none⟩), .int .i64 n] w (BldP O lo g 76 (L ++ [⟨3, n, []⟩]) w) := by
  have hz : szP_ ⟨3, n, []⟩ := ⟨.inr (.inr rfl), h0, h1, by simp⟩
  have f3 := hb.fit.d0
  have f4 := hb.fit.d1
  have hlen := hb.len
  refine (implDrop_f (fun b => O b ∨ w.heap.size ≤ b) lo g _ _ _ n w (hb.at_.mono (fun b h => .inl h)) (fun b h => .inr h) f3 (by omega) h0 (by omega)).mono ?_
  rintro e w' ⟨rfl, ha, b, fr⟩
  exact ⟨rfl, hb.add hl hz b fr ha⟩
theorem implDoneB (O : Nat → Prop) (lo g : Nat) (L : List Pt) (w : World) (hb : Bld O lo g 76 w L) :
    Calls Try.prog 58 #[.pointer (some ⟨g, 0, none⟩)] w (DoneP O lo L w) := by
  have f1 := hb.fit.len
  have hlen := hb.len
  have hsg := signsIn_le hb.sz
  have f2 := hb.fit.signs
  refine (implDone_f (fun b => O b ∨ w.heap.size ≤ b) lo g _ _ _ w (hb.at_.mono (fun b h => .inl h)) (fun b h => .inr h) (by omega) (by omega)).mono ?_
  intro e w' h
  exact GoneS.done h
end Go.Proofs.Ytmlkeflnnaabeaa.low


/-
  The program's side: contract of impl.Invert.
-/
namespace Go.Proofs.Ytmlkeflnnaabeaa.low
open Go.RowKit
set_option linter.unusedVariables false

theorem implOpNorm_d (v : Value) (ps : List Pt) (w : World) (h : RdC w w.heap.size (encPs ps) v) (hs : SmP ps) : Calls Try.prog 52 #[v] w (OwnPost (encPs (normL ps)) w) := by
  obtain ⟨A, c, rfl, hr, _⟩ := parts_rd h
  have hl := hs.1
  refine (implOpNorm_any A c ps w hr (by omega) hs.all4 hs.2).mono ?_
  rintro e w1 ⟨v1, rfl, p1, b1⟩
  exact ⟨v1, rfl, own_parts p1, b1⟩

/-- the state of Invert's loop: the reader at gr, the builder at g with its blocks O, the normal form in blocks from z2 to z3 -/
structure InvS (B gr g z2 z3 : Nat) (t : List Int) (qs : List Pt) (Qv : Value) (bq : List Nat) (O : Nat → Prop) (at_ : Nat) (L : List Pt) (w0 wr : World) : Prop where
  rd : Rdr B gr wr (t.drop at_)
  bd : Bld O B g 76 wr L
  far : ∀ x, O x → (x < z2 ∨ z3 ≤ x) ∧ ¬ x = gr
  ow : OwB z2 z3 wr (encPs qs) Qv bq
  low : gr < z2
  bel : Below B w0 wr
theorem InvS.base {B gr g z2 z3 : Nat} {t : List Int} {qs : List Pt} {Qv : Value} {bq : List Nat} {O : Nat → Prop} {at_ : Nat} {L : List Pt} {w0 wr : World} (h : InvS B gr g z2 z3 t qs Qv bq O at_ L w0 wr) : B ≤ gr := by
  obtain ⟨_, _, _, _, _, h4⟩ := h.rd
  exact h4
theorem InvS.past {B gr g z2 z3 : Nat} {t : List Int} {qs : List Pt} {Qv : Value} {bq : List Nat} {O : Nat → Prop} {at_ : Nat} {L : List Pt} {w0 wr w' : World} (h : InvS B gr g z2 z3 t qs Qv bq O at_ L w0 wr) (hb : Below wr.heap.size wr w') (hB : B ≤ wr.heap.size) : InvS B gr g z2 z3 t qs Qv bq O at_ L w0 w' :=
  ⟨h.rd.past hb, h.bd.past hb, h.far, h.ow.past hb, h.low, h.bel.trans (hb.mono hB)⟩
/-- the reader goes on -/
theorem InvS.next {B gr g z2 z3 : Nat} {t : List Int} {qs : List Pt} {Qv : Value} {bq : List Nat} {O : Nat → Prop} {at_ m : Nat} {L : List Pt} {w0 wr w' : World} (h : InvS B gr g z2 z3 t qs Qv bq O at_ L w0 wr) (hr : Rdr B gr w' ((t.drop at_).drop m)) (ht : Touch (fun b => b = gr) wr w') : InvS B gr g z2 z3 t qs Qv bq O (at_ + m) L w0 w' := by
  have hB := h.base
  have hl := h.low
  exact ⟨by rw [List.drop_drop] at hr; exact hr, h.bd.keep (by rw [ht.size]; exact Nat.le_refl _) (fun b _ hO => ht.block b (h.far b hO).2), h.far, h.ow.touch ht (fun x hx e => by have := h.ow.rng x hx; have e' : x = gr := e; omega), h.low, h.bel.trans (ht.below (fun b hb => by have e' : b = gr := hb; omega))⟩
/-- the builder has grown -/
theorem InvS.grow {B gr g z2 z3 : Nat} {t : List Int} {qs : List Pt} {Qv : Value} {bq : List Nat} {O O' : Nat → Prop} {at_ : Nat} {L L' : List Pt} {w0 wr w' : World} (h : InvS B gr g z2 z3 t qs Qv bq O at_ L w0 wr) (hb : Bld O' B g 76 w' L') (b : Below B wr w') (hg : Grew O O' wr w') : InvS B gr g z2 z3 t qs Qv bq O' at_ L' w0 w' := by
  have hlt := h.rd.lt
  refine ⟨h.rd.keep (hg.block gr hlt (fun ho => (h.far gr ho).2 rfl)) (fun p hp => b.cell hp), hb, fun x hx => ?_, h.ow.grew hg (fun x hx => (h.far x hx).1), h.low, h.bel.trans b⟩
  rcases hg.more x hx with h1 | h1
  · exact h.far x h1
  · exact ⟨.inr (Nat.le_trans h.ow.top h1), by omega⟩

end Go.Proofs.Ytmlkeflnnaabeaa.low


/-
  The program's closure that moves a position along: mover, its function, and moved.
-/
namespace Go.Proofs.Ytmlkeflnnaabeaa.low
open Go.RowKit
set_option linter.unusedVariables false

/-- the variables that the closure has captured, in four blocks one behind the other -/
structure Cap (lo b : Nat) (x f t : Int) (af : Bool) (w : World) : Prop where
  c1 : w.heap[b]? = some (.cells #[.int .i64 x] 3 (0, 0))
  c2 : w.heap[b + 1]? = some (.cells #[.bool af] 4 (0, 0))
  c3 : w.heap[b + 2]? = some (.cells #[.int .i64 f] 3 (0, 0))
  c4 : w.heap[b + 3]? = some (.cells #[.int .i64 t] 3 (0, 0))
  lo : lo ≤ b
theorem Cap.lt {lo b : Nat} {x f t : Int} {af : Bool} {w : World} (h : Cap lo b x f t af w) : b + 3 < w.heap.size := lt_of_some h.c4
theorem Cap.past {lo b : Nat} {x f t : Int} {af : Bool} {w w' : World} (h : Cap lo b x f t af w) (hb : Below w.heap.size w w') : Cap lo b x f t af w' := by
  have := h.lt
  exact ⟨(hb.block _ (by omega)).trans h.c1, (hb.block _ (by omega)).trans h.c2, (hb.block _ (by omega)).trans h.c3, (hb.block _ (by omega)).trans h.c4, h.lo⟩
theorem Cap.setF {lo b : Nat} {x f t : Int} {af : Bool} {w : World} (h : Cap lo b x f t af w) (f' : Int) : Cap lo b x f' t af (w.setCell ⟨b + 2, 0, none⟩ (.int .i64 f')) :=
  ⟨(Below.heap_setCell _ _ _ _ (by simp)).trans h.c1, (Below.heap_setCell _ _ _ _ (by simp)).trans h.c2, by rw [heap_setCell_same _ _ _ _ _ _ h.c3]; rfl, (Below.heap_setCell _ _ _ _ (by simp)).trans h.c4, h.lo⟩
theorem Cap.setT {lo b : Nat} {x f t : Int} {af : Bool} {w : World} (h : Cap lo b x f t af w) (t' : Int) : Cap lo b x f t' af (w.setCell ⟨b + 3, 0, none⟩ (.int .i64 t')) :=
  ⟨(Below.heap_setCell _ _ _ _ (by simp)).trans h.c1, (Below.heap_setCell _ _ _ _ (by simp)).trans h.c2, (Below.heap_setCell _ _ _ _ (by simp)).trans h.c3, by rw [heap_setCell_same _ _ _ _ _ _ h.c4]; rfl, h.lo⟩
set_option maxRecDepth 100000 in
set_option maxHeartbeats 1600000 in
theorem implMover (x : Int) (af : Bool) (w : World) : Calls Try.prog 80 #[.int .i64 x, .bool af] w (fun e w' => e = .returned (.func (.func 102) #[] #[.pointer (some ⟨w.heap.size, 0, none⟩), .pointer (some ⟨w.heap.size + 2, 0, none⟩), .pointer (some ⟨w.heap.size + 3, 0, none⟩), .pointer (some ⟨w.heap.size + 1, 0, none⟩)]) ∧ Cap w.heap.size w.heap.size x 0 0 af w' ∧ Below w.heap.size w w') := by
  have hmf : ∀ (fn : Fn) (first cap : Array Value) (w : World), (Instr.makeFunc fn first cap).run Try.prog w = .ok (.func fn first cap) w := fun _ _ _ _ => rfl
  go_enter Try.func80, Try.ntmps80
  go_wp2
  go_ret
  have z (v : World) (o : Obj) : (v.alloc o).heap.size = v.heap.size + 1 := World.size_alloc _ _
  have e1 := heap_alloc_new w (.cells #[.int .i64 x] 3)
  have e2 := heap_alloc_new (w.alloc (.cells #[.int .i64 x] 3)) (.cells #[.bool af] 4)
  have e3 := heap_alloc_new ((w.alloc (.cells #[.int .i64 x] 3)).alloc (.cells #[.bool af] 4)) (.cells #[.int .i64 0] 3)
  have e4 := heap_alloc_new (((w.alloc (.cells #[.int .i64 x] 3)).alloc (.cells #[.bool af] 4)).alloc (.cells #[.int .i64 0] 3)) (.cells #[.int .i64 0] 3)
  rw [z] at e2
  rw [z, z] at e3
  rw [z, z, z] at e4
  refine ⟨rfl, ⟨heap_old _ _ (heap_old _ _ (heap_old _ _ e1)), heap_old _ _ (heap_old _ _ e2), heap_old _ _ e3, e4, Nat.le_refl _⟩, ?_⟩
  exact ((((Below.refl _ _).alloc (Nat.le_refl _) _).alloc (by rw [z]; omega) _).alloc (by rw [z, z]; omega) _).alloc (by rw [z, z, z]; omega) _

/-- what the function answers, told by the loop's word -/
def MoveP (lo b : Nat) (x : Int) (af : Bool) (qs : List Pt) (R : Int) (j : Nat) (w : World) (e : Ending) (w' : World) : Prop := ∃ (f t r : Int) (fin : Bool), e = .returned (.tuple #[.int .i64 r, .bool fin]) ∧ Cap lo b x f t af w' ∧ Below lo w w' ∧ (fin = true → r = R) ∧ (fin = false → r = t ∧ ShiftI x af qs R f t (j + 1))
set_option maxRecDepth 100000 in
set_option maxHeartbeats 1600000 in
theorem implMove (lo b : Nat) (x f t : Int) (af : Bool) (qs : List Pt) (R : Int) (j : Nat) (p : Pt) (A : Option Addr) (c : Nat) (w : World) (hc : Cap lo b x f t af w) (hi : ShiftI x af qs R f t j) (hp : qs[j]? = some p) (hq : okPs qs = true) (hx : x ≤ 200) :
    Calls Try.prog 102 #[.agg #[.int .i64 p.kind, .int .i64 p.n, .slice A p.signs.length c], .pointer (some ⟨b, 0, none⟩), .pointer (some ⟨b + 2, 0, none⟩), .pointer (some ⟨b + 3, 0, none⟩), .pointer (some ⟨b + 1, 0, none⟩)] w (MoveP lo b x af qs R j w) := by
  obtain ⟨hf0, hf1, ht0, ht1⟩ := hi.bd hq
  have HI := Lib.hid hi
  have HP := Lib.hid hp
  have hok := of_okPt (okPs_mem' hq (List.mem_of_getElem? hp))
  obtain ⟨pk, pn, pz⟩ := p
  simp only at hok ⊢
  have k1 : w.cell? ⟨b, 0, none⟩ = some (.int .i64 x) := cell_of_row _ _ 0 _ _ _ hc.c1
  have k2 : w.cell? ⟨b + 1, 0, none⟩ = some (.bool af) := cell_of_row _ _ 0 _ _ _ hc.c2
  have k3 : w.cell? ⟨b + 2, 0, none⟩ = some (.int .i64 f) := cell_of_row _ _ 0 _ _ _ hc.c3
  have k4 : w.cell? ⟨b + 3, 0, none⟩ = some (.int .i64 t) := cell_of_row _ _ 0 _ _ _ hc.c4
  have f3 : w.frozen? ⟨b + 2, 0, none⟩ = false := by simp [World.frozen?, hc.c3]
  have f4 : w.frozen? ⟨b + 3, 0, none⟩ = false := by simp [World.frozen?, hc.c4]
  have hlo := hc.lo
  have hlo2 : lo ≤ b + 2 := by omega
  have hlo3 : lo ≤ b + 3 := by omega
  have z0 := hc.lt
  have z1 : b < w.heap.size := by omega
  have z2 : b + 1 < w.heap.size := by omega
  have z3 : b + 2 < w.heap.size := by omega
  have y3 : ¬ b + 2 = w.heap.size := by omega
  have y4 : ¬ b + 3 = w.heap.size := by omega
  have HC := Lib.hid hc
  have bA := alloc_below w (.cells #[.int .i64 pk, .int .i64 pn, .slice A pz.length c] 80)
  have bL := bA.mono (show lo ≤ w.heap.size by have := hc.lo; omega)
  clear hc hi hp hq
  rcases (show pk = 1 ∨ pk = 2 ∨ pk = 3 by omega) with rfl | rfl | rfl
  · have hn1 : 0 ≤ pn := by omega
    have hn2 : pn ≤ 200 := by omega
    clear hok
    by_cases hxf : x < f + pn
    · have HR := Lib.hid (HI.out.k1 HP.out hxf)
      go_enter Try.func102, Try.ntmps102
      go_wp2
      go_ret2
      exact ⟨f, t, _, true, rfl, HC.out.past bA, bL, fun _ => HR.out.symm, fun h => by simp at h⟩
    · have HI2 := Lib.hid (HI.out.k2 HP.out hn1 hxf)
      go_enter Try.func102, Try.ntmps102
      go_wp2
      go_ret2
      exact ⟨f + pn, t + pn, t + pn, false, rfl, ((HC.out.setF (f + pn)).setT (t + pn)).past (alloc_below _ _), (((Below.refl lo w).setCell (p := ⟨b + 2, 0, none⟩) hlo2 _).setCell (p := ⟨b + 3, 0, none⟩) hlo3 _).alloc (by simp; omega) _, fun h => by simp at h, fun _ => ⟨rfl, HI2.out⟩⟩
  · have hn3 : pz.length ≤ 200 := by omega
    clear hok
    by_cases hxf : x = f
    · have g1 : (x == f) = true := by simp [hxf]
      cases haf : af
      · have HR := Lib.hid (HI.out.p1 HP.out ⟨hxf.symm, haf⟩)
        subst haf
        clear hxf
        go_enter Try.func102, Try.ntmps102
        go_wp2
        go_ret2
        exact ⟨f, t, _, true, rfl, HC.out.past bA, bL, fun _ => HR.out.symm, fun h => by simp at h⟩
      · have HI2 := Lib.hid (HI.out.p2 HP.out (by rw [haf]; simp))
        subst haf
        clear hxf
        go_enter Try.func102, Try.ntmps102
        go_wp2
        go_ret2
        exact ⟨f, t + (pz.length : Int), _, false, rfl, (HC.out.setT (t + (pz.length : Int))).past (alloc_below _ _), ((Below.refl lo w).setCell (p := ⟨b + 3, 0, none⟩) hlo3 _).alloc (by simp; omega) _, fun h => by simp at h, fun _ => ⟨rfl, HI2.out⟩⟩
    · have g1 : (x == f) = false := by simp [hxf]
      have HI2 := Lib.hid (HI.out.p2 HP.out (fun h => hxf h.1.symm))
      clear hxf
      go_enter Try.func102, Try.ntmps102
      go_wp2
      go_ret2
      exact ⟨f, t + (pz.length : Int), _, false, rfl, (HC.out.setT (t + (pz.length : Int))).past (alloc_below _ _), ((Below.refl lo w).setCell (p := ⟨b + 3, 0, none⟩) hlo3 _).alloc (by simp; omega) _, fun h => by simp at h, fun _ => ⟨rfl, HI2.out⟩⟩
  · have hn1 : 0 ≤ pn := by omega
    have hn2 : pn ≤ 200 := by omega
    clear hok
    by_cases hxf : x < f + pn
    · have HR := Lib.hid (HI.out.d1 HP.out hxf)
      go_enter Try.func102, Try.ntmps102
      go_wp2
      go_ret2
      exact ⟨f, t, _, true, rfl, HC.out.past bA, bL, fun _ => HR.out.symm, fun h => by simp at h⟩
    · have HI2 := Lib.hid (HI.out.d2 HP.out hn1 hxf)
      go_enter Try.func102, Try.ntmps102
      go_wp2
      go_ret2
      exact ⟨f + pn, t, _, false, rfl, (HC.out.setF (f + pn)).past (alloc_below _ _), ((Below.refl lo w).setCell (p := ⟨b + 2, 0, none⟩) hlo2 _).alloc (by simp; omega) _, fun h => by simp at h, fun _ => ⟨rfl, HI2.out⟩⟩

set_option maxRecDepth 100000 in
set_option maxHeartbeats 1600000 in
theorem implMoved (Q : Option Addr) (cq : Nat) (qs : List Pt) (x : Int) (af : Bool) (w : World) (hq : PRow w w.heap.size Q qs) (hok : okPs qs = true) (hql : qs.length ≤ 600) (hx : x ≤ 200) (hi : ShiftI x af qs (shiftGo x af qs 0 0) 0 0 0) :
    Calls Try.prog 51 #[.slice Q qs.length cq, .int .i64 x, .bool af] w (fun e w' => e = .returned (.int .i64 (shiftGo x af qs 0 0)) ∧ Below w.heap.size w w') := by
  have HOK := Lib.hid hok
  have HI0 := Lib.hid hi
  have HQ := Lib.hid hq
  clear hok hi hq
  go_enter Try.func51, Try.ntmps51
  go_wp2_with fail
  refine (implMover x af w).mono ?_
  rintro e w1 ⟨rfl, hc1, b1⟩
  have HC1 := Lib.hid hc1
  clear hc1
  generalize hR : shiftGo x af qs 0 0 = R at *
  go_wp2
  go_loopw [8, 9, 17] (fun pv fv i wr => ∃ (j : Nat) (f t : Int), j ≤ qs.length ∧ i = .int .i64 j ∧ pv = .int .i64 t ∧ fv = .bool false ∧ ShiftI x af qs R f t j ∧ Cap w.heap.size w.heap.size x f t af wr ∧ Below w.heap.size w wr) (fun _ _ i _ => qs.length - (intOf i).toNat)
  case atStart => exact ⟨0, 0, 0, Nat.zero_le _, rfl, rfl, rfl, HI0.out, HC1.out, b1⟩
  case round =>
    obtain ⟨j, f, t, hj, rfl, rfl, rfl, hi, hc, hbel⟩ := hrel
    clear HI0 HC1
    have HI := Lib.hid hi
    have HC := Lib.hid hc
    clear hi hc
    by_cases hlt : j < qs.length
    · obtain ⟨b, off, p, rfl, hb, hp, hcl⟩ := HQ.out.at_ hlt
      obtain ⟨x0, x1, A1, e1, x2, r1⟩ := hcl.keep (w' := wr) hb (fun _ hq => hbel.cell hq)
      have HP := Lib.hid hp
      have bA := alloc_below wr (.cells #[.int .i64 p.kind, .int .i64 p.n, .slice A1 p.signs.length e1] 80)
      have hbA := hbel.trans (bA.mono hbel.size)
      have HC2 := Lib.hid (HC.out.past bA)
      clear hp hcl bA HC
      go_wp2_with fail
      refine (implMove w.heap.size w.heap.size x f t af qs R j p A1 e1 _ HC2.out HI.out HP.out HOK.out hx).mono ?_
      rintro e w2 ⟨f2, t2, r, fin, rfl, hc2, b2, g1, g2⟩
      have hb2 := hbA.trans b2
      have HC3 := Lib.hid hc2
      clear hc2 b2
      cases fin
      · obtain ⟨rfl, hi2⟩ := g2 rfl
        have HI2 := Lib.hid hi2
        clear g1 g2 hi2
        go_wp2
        go_roundw
        case rel => exact ⟨j + 1, f2, r, by omega, by go_num, rfl, rfl, HI2.out, HC3.out, hb2⟩
        case measure => simp [intOf]; omega
      · have HR := Lib.hid (g1 rfl)
        clear g1 g2
        go_wp2
        go_ret
        rw [hR, HR.out]
        exact ⟨rfl, hb2⟩
    · have HR := Lib.hid (HI.out.all (by omega))
      go_wp2
      go_ret
      rw [hR, HR.out]
      exact ⟨rfl, hbel⟩
end Go.Proofs.Ytmlkeflnnaabeaa.low


/-
  The program's side of SpecPlace: Shift and Back (a search by a closure).
-/
namespace Go.Proofs.Ytmlkeflnnaabeaa.low
open Go.RowKit
set_option linter.unusedVariables false

set_option maxRecDepth 100000 in
set_option maxHeartbeats 1600000 in
theorem implShift_d (v : Value) (ps : List Pt) (x : Int) (af : Bool) (w : World) (h : RdC w w.heap.size (encPs ps) v) (hs : SmP ps) : Calls Try.prog 17 #[v, .int .i64 x, .bool af] w (NumB (shiftT ps x af) (shiftB ps x) w) := by
  obtain ⟨A, c, rfl, hra, _⟩ := parts_rd h
  have hl := hs.1
  cases hoa : okOp ps
  · have HN := Lib.hid (show shiftB ps x = false ∧ shiftT ps x af = 0 by have e : shiftB ps x = false := by { unfold shiftB; rw [hoa]; rfl }; exact ⟨e, by unfold shiftT; rw [e]; rfl⟩)
    go_enter Try.func17, Try.ntmps17
    go_wp2_with fail
    refine (implOpOk_any A c ps _ hra (by omega) hs.all4).mono ?_
    rintro e w1 ⟨rfl, b1⟩
    rw [hoa]
    go_wp2
    go_ret2
    rw [HN.out.1, HN.out.2]
    exact ⟨rfl, b1⟩
  by_cases hx0 : x < 0
  · have HN := Lib.hid (show shiftB ps x = false ∧ shiftT ps x af = 0 by have e : shiftB ps x = false := by { unfold shiftB inB; rw [hoa]; simp; omega }; exact ⟨e, by unfold shiftT; rw [e]; rfl⟩)
    go_enter Try.func17, Try.ntmps17
    go_wp2_with fail
    refine (implOpOk_any A c ps _ hra (by omega) hs.all4).mono ?_
    rintro e w1 ⟨rfl, b1⟩
    rw [hoa]
    go_wp2
    go_ret2
    rw [HN.out.1, HN.out.2]
    exact ⟨rfl, b1⟩
  by_cases hx1 : sumK ps + sumD ps < x
  · have HN := Lib.hid (show shiftB ps x = false ∧ shiftT ps x af = 0 by have e : shiftB ps x = false := by { unfold shiftB inB; rw [hoa]; simp; omega }; exact ⟨e, by unfold shiftT; rw [e]; rfl⟩)
    go_enter Try.func17, Try.ntmps17
    go_wp2_with fail
    refine (implOpOk_any A c ps _ hra (by omega) hs.all4).mono ?_
    rintro e w1 ⟨rfl, b1⟩
    rw [hoa]
    go_wp2_with fail
    refine (implOpFrom_any A c ps _ (hra.past b1) (by omega) hs.all4).mono ?_
    rintro e w2 ⟨rfl, b2⟩
    have d2 := b1.trans (b2.mono b1.size)
    go_wp2
    go_ret2
    rw [HN.out.1, HN.out.2]
    exact ⟨rfl, d2⟩
  · have hx2 : x ≤ 200 := by
      obtain ⟨_, _, o3, _⟩ := okOp_of hoa
      obtain ⟨t1, _, t3⟩ := sum_t (okOp_partsB hoa)
      omega
    have HN := Lib.hid (show shiftB ps x = true ∧ shiftT ps x af = shiftGo x af (normL ps) 0 0 by have e : shiftB ps x = true := by { unfold shiftB inB; rw [hoa]; simp; omega }; exact ⟨e, by unfold shiftT; rw [e]; rfl⟩)
    have HI0 := Lib.hid (ShiftI.start (x := x) (af := af) hoa (by omega))
    have HOK := Lib.hid (okOp_of (norm_ok hoa).1)
    go_enter Try.func17, Try.ntmps17
    go_wp2_with fail
    refine (implOpOk_any A c ps _ hra (by omega) hs.all4).mono ?_
    rintro e w1 ⟨rfl, b1⟩
    rw [hoa]
    go_wp2_with fail
    refine (implOpFrom_any A c ps _ (hra.past b1) (by omega) hs.all4).mono ?_
    rintro e w2 ⟨rfl, b2⟩
    have d2 := b1.trans (b2.mono b1.size)
    clear b1 b2
    go_wp2_with fail
    refine (implOpNorm_d _ ps w2 (h.past d2) hs).mono ?_
    rintro e w3 ⟨v3, rfl, o3, b3⟩
    have d3 := d2.trans (b3.mono d2.size)
    have hrd := o3.read
    clear o3 b3 d2 hoa
    generalize normL ps = qs at *
    obtain ⟨Q, cq, rfl, hq, _⟩ := parts_rd hrd
    clear hrd
    go_wp2_with fail
    refine (implMoved Q cq qs x af _ hq HOK.out.1 HOK.out.2.1 hx2 HI0.out).mono ?_
    rintro e w4 ⟨rfl, b4⟩
    have d4 := d3.trans (b4.mono d3.size)
    go_wp2
    go_ret2
    rw [HN.out.1, HN.out.2]
    exact ⟨rfl, d4⟩

/-- what the function that Back hands to the search finds in memory -/
def NxS (w : World) (b1 b2 : Nat) (v1 : Value) (y : Int) (W : World) : Prop := W.cell? ⟨b1, 0, none⟩ = some v1 ∧ W.cell? ⟨b2, 0, none⟩ = some (.int .i64 y) ∧ KS w W
theorem nx_past {w W W' : World} {b1 b2 : Nat} {v1 : Value} {y : Int} (h1 : b1 < w.heap.size) (h2 : b2 < w.heap.size) (h : W.cell? ⟨b1, 0, none⟩ = some v1 ∧ W.cell? ⟨b2, 0, none⟩ = some (.int .i64 y) ∧ KS w W) (hb : Below W.heap.size W W') : W'.cell? ⟨b1, 0, none⟩ = some v1 ∧ W'.cell? ⟨b2, 0, none⟩ = some (.int .i64 y) ∧ KS w W' := by
  obtain ⟨a0, a1, hk⟩ := h
  have hs := hk.size
  exact ⟨(hb.cell (p := ⟨b1, 0, none⟩) (Nat.lt_of_lt_of_le h1 hs)).trans a0, (hb.cell (p := ⟨b2, 0, none⟩) (Nat.lt_of_lt_of_le h2 hs)).trans a1, hk.trans (hb.mono hs)⟩
theorem nx_row {w W : World} {A : Option Addr} {ps : List Pt} (h : PRow w w.heap.size A ps) {P Q : Prop} (hS : P ∧ Q ∧ KS w W) : PRow W W.heap.size A ps := h.past hS.2.2
set_option maxRecDepth 100000 in
set_option maxHeartbeats 1600000 in
theorem implNextIs (Q : Option Addr) (cq : Nat) (qs : List Pt) (y : Int) (b1 b2 i : Nat) (w : World) (h1 : w.cell? ⟨b1, 0, none⟩ = some (.slice Q qs.length cq)) (h2 : w.cell? ⟨b2, 0, none⟩ = some (.int .i64 y)) (l1 : b1 < w.heap.size) (l2 : b2 < w.heap.size) (hq : PRow w w.heap.size Q qs) (hok : okPs qs = true) (hql : qs.length ≤ 600) (hsum : keepS qs + putS qs ≤ 200) (hi : i < 200) :
    Calls Try.prog 55 #[.int .i64 (i : Int), .pointer (some ⟨b1, 0, none⟩), .pointer (some ⟨b2, 0, none⟩)] w (fun e w' => e = .returned (.bool (decide (y < shiftGo ((i : Int) + 1) false qs 0 0))) ∧ Below w.heap.size w w') := by
  have HQ := Lib.hid hq
  have HOK := Lib.hid hok
  have hk0 := KS.start w
  have hw1 : IntKind.i64.wrap ((i : Int) + 1) = (i : Int) + 1 := IntWalk.i64_in _ (by omega)
  have HI0 := Lib.hid (show ShiftI ((i : Int) + 1) false qs (shiftGo ((i : Int) + 1) false qs 0 0) 0 0 0 from ⟨by omega, by omega, by omega, by simpa using hsum, rfl⟩)
  clear hq hok hsum
  go_enter Try.func55, Try.ntmps55
  go_wp2
  go_region_held3 (fun W => W.cell? ⟨b1, 0, none⟩ = some (.slice Q qs.length cq) ∧ W.cell? ⟨b2, 0, none⟩ = some (.int .i64 y) ∧ KS w W)
    (first | go_keep | (exact nx_past l1 l2 (by assumption) b2))
    (first | (go_at_call 51; refine (implMoved Q cq qs ((i : Int) + 1) false _ (nx_row HQ.out (by assumption)) HOK.out hql (by omega) HI0.out).mono ?_; rintro e w2 ⟨rfl, b2⟩))
  rename_i hS2
  have HS := Lib.hid hS2.2.2
  clear hS2 b2
  go_wp2
  go_ret
  exact ⟨rfl, HS.out⟩

/-- the search's answer -/
def SearchP (n : Nat) (p : Nat → Bool) (w : World) (e : Ending) (w' : World) : Prop := ∃ r : Nat, e = .returned (.int .i64 (r : Int)) ∧ r ≤ n ∧ (0 < r → p (r - 1) = false) ∧ (r < n → p r = true) ∧ Below w.heap.size w w'
set_option maxRecDepth 100000 in
set_option maxHeartbeats 1600000 in
theorem implSearch (n : Nat) (hn : n ≤ 200) (p : Nat → Bool) (b1 b2 : Nat) (w : World) (hf : ∀ (i : Nat) (w' : World), i < n → Below w.heap.size w w' → Calls Try.prog 55 #[.int .i64 (i : Int), .pointer (some ⟨b1, 0, none⟩), .pointer (some ⟨b2, 0, none⟩)] w' (fun e w'' => e = .returned (.bool (p i)) ∧ Below w'.heap.size w' w'')) :
    Calls Try.prog 56 #[.int .i64 (n : Int), .func (.func 55) #[] #[.pointer (some ⟨b1, 0, none⟩), .pointer (some ⟨b2, 0, none⟩)]] w (SearchP n p w) := by
  have HF := Lib.hid hf
  clear hf
  go_enter Try.func56, Try.ntmps56
  go_wp2
  go_loopw [5, 6] (fun iv jv wr => ∃ i j : Nat, i ≤ j ∧ j ≤ n ∧ iv = .int .i64 (i : Int) ∧ jv = .int .i64 (j : Int) ∧ (0 < i → p (i - 1) = false) ∧ (j < n → p j = true) ∧ Below w.heap.size w wr) (fun iv jv _ => (intOf jv).toNat - (intOf iv).toNat)
  case atStart => exact ⟨0, n, Nat.zero_le _, Nat.le_refl _, rfl, rfl, fun h => by omega, fun h => by omega, Below.refl _ _⟩
  case round =>
    obtain ⟨i, j, hij, hjn, rfl, rfl, h1, h2, hbel⟩ := hrel
    have H1 := Lib.hid h1
    have H2 := Lib.hid h2
    clear h1 h2
    by_cases hlt : i < j
    · go_wp2_with fail
      obtain ⟨m, hm⟩ : ∃ m, m = (i + j) / 2 := ⟨_, rfl⟩
      rw [show ((i : Int) + (j : Int)) / 2 = (m : Int) by omega]
      have hm1 : i ≤ m := by omega
      have hm2 : m < j := by omega
      clear hm
      refine (HF.out m _ (by omega) hbel).mono ?_
      rintro e w2 ⟨rfl, b2⟩
      have hb2 := hbel.trans (b2.mono hbel.size)
      clear b2
      cases hpm : p m
      · have HPM := Lib.hid hpm
        clear hpm
        go_wp2
        go_roundw
        case rel => exact ⟨m + 1, j, by omega, hjn, by go_num, rfl, fun _ => HPM.out, H2.out, hb2⟩
        case measure => simp [intOf]; omega
      · have HPM := Lib.hid hpm
        clear hpm
        go_wp2
        go_roundw
        case rel => exact ⟨i, m, hm1, by omega, rfl, rfl, H1.out, fun _ => HPM.out, hb2⟩
        case measure => simp [intOf]; omega
    · have e : i = j := by omega
      subst e
      go_wp2
      go_ret
      exact ⟨i, rfl, hjn, H1.out, H2.out, hbel⟩

theorem search_back {L : List Pt} {y : Int} {n r : Nat} (hL : Nn L) (hr : r ≤ n) (h1 : 0 < r → decide (y < shiftGo (((r - 1 : Nat) : Int) + 1) false L 0 0) = false) (h2 : r < n → decide (y < shiftGo ((r : Int) + 1) false L 0 0) = true) : (r : Int) = backGo L y n := by
  obtain ⟨b1, b2⟩ := back_bd L y n
  obtain ⟨i1, i2⟩ := back_is L y n
  obtain ⟨B, hB⟩ := Int.eq_ofNat_of_zero_le b1
  rw [hB] at i1 i2 b2 ⊢
  rcases Nat.lt_trichotomy r B with h | h | h
  · have h3 := of_decide_eq_true (h2 (by omega))
    have h4 := i1 (by omega)
    have h5 := shift_mono ((r : Int) + 1) (B : Int) (by omega) L 0 0 hL (by omega)
    omega
  · rw [h]
  · have h3 := of_decide_eq_false (h1 (by omega))
    have h4 := i2 r (by omega) hr
    rw [show (((r - 1 : Nat) : Int) + 1) = (r : Int) by omega] at h3
    omega
theorem bk_row {w W : World} {A : Option Addr} {ps : List Pt} (h : PRow w w.heap.size A ps) {P : Prop} (hS : P ∧ KS w W) : PRow W W.heap.size A ps := h.past hS.2
theorem bk_past {w W W' : World} {g : Nat} {y : Int} (hg : g < w.heap.size) (h : W.cell? ⟨g, 0, none⟩ = some (.int .i64 y) ∧ KS w W) (hb : Below W.heap.size W W') : W'.cell? ⟨g, 0, none⟩ = some (.int .i64 y) ∧ KS w W' := by
  obtain ⟨a0, hk⟩ := h
  exact ⟨(hb.cell (p := ⟨g, 0, none⟩) (Nat.lt_of_lt_of_le hg hk.size)).trans a0, hk.trans (hb.mono hk.size)⟩
set_option maxRecDepth 100000 in
set_option maxHeartbeats 1600000 in
theorem implBack_d (v : Value) (ps : List Pt) (y : Int) (w : World) (h : RdC w w.heap.size (encPs ps) v) (hs : SmP ps) : Calls Try.prog 19 #[v, .int .i64 y] w (NumB (backT ps y) (backB ps y) w) := by
  obtain ⟨A, c, rfl, hra, _⟩ := parts_rd h
  have hl := hs.1
  have hl4 := hs.all4
  have bA := alloc_below w (.cells #[.int .i64 y] 3)
  have HRA := Lib.hid (show PRow (w.alloc (.cells #[.int .i64 y] 3)) (w.alloc (.cells #[.int .i64 y] 3)).heap.size A ps from hra.past bA)
  have hg : w.heap.size < (w.alloc (.cells #[.int .i64 y] 3)).heap.size := by rw [World.size_alloc]; omega
  have hcy : (w.alloc (.cells #[.int .i64 y] 3)).cell? ⟨w.heap.size, 0, none⟩ = some (.int .i64 y) := cell_of_row _ _ 0 _ _ _ (heap_alloc_new w _)
  have HRD := Lib.hid (show PRow (w.alloc (.cells #[.int .i64 y] 3)).drew (w.alloc (.cells #[.int .i64 y] 3)).drew.heap.size A ps from HRA.out.past (Below.refl _ _).drew)
  have BD := Lib.hid (show Below w.heap.size w (w.alloc (.cells #[.int .i64 y] 3)).drew from bA.trans ((Below.refl _ _).drew.mono bA.size))
  have HRA0 := Lib.hid hra
  clear hra
  cases hoa : okOp ps
  · have HN := Lib.hid (show backB ps y = false ∧ backT ps y = 0 by have e : backB ps y = false := by { unfold backB; rw [hoa]; rfl }; exact ⟨e, by unfold backT; rw [e]; rfl⟩)
    go_enter Try.func19, Try.ntmps19
    go_wp2
    first | (go_region_with (go_at_call 46; refine (implOpOk_any A c ps _ (by exact HRD.out) (by omega) hl4).mono ?_; rw [hoa]; rintro e w2 ⟨rfl, b2⟩)) | fail
    all_goals
      go_wp2
      go_ret2
      rw [HN.out.1, HN.out.2]
      exact ⟨rfl, BD.out.trans (b2.mono BD.out.size)⟩
  by_cases hy0 : y < 0
  · have HN := Lib.hid (show backB ps y = false ∧ backT ps y = 0 by have e : backB ps y = false := by { unfold backB inB; rw [hoa]; simp; omega }; exact ⟨e, by unfold backT; rw [e]; rfl⟩)
    have hd0 : decide (y < 0) = true := decide_eq_true hy0
    go_enter Try.func19, Try.ntmps19
    go_wp2
    first | (go_region_with (go_at_call 46; refine (implOpOk_any A c ps _ (by exact HRD.out) (by omega) hl4).mono ?_; rw [hoa]; rintro e w2 ⟨rfl, b2⟩; have hcy2 : w2.cell? ⟨w.heap.size, 0, none⟩ = some (.int .i64 y) := (b2.cell (p := ⟨w.heap.size, 0, none⟩) hg).trans hcy)) | fail
    all_goals
      go_wp2
      go_ret2
      rw [HN.out.1, HN.out.2]
      exact ⟨rfl, BD.out.trans (b2.mono BD.out.size)⟩
  have hd0 : decide (y < 0) = false := decide_eq_false hy0
  have hS0 : (w.alloc (.cells #[.int .i64 y] 3)).drew.cell? ⟨w.heap.size, 0, none⟩ = some (.int .i64 y) ∧ KS (w.alloc (.cells #[.int .i64 y] 3)) (w.alloc (.cells #[.int .i64 y] 3)).drew := ⟨hcy, KS.start _⟩
  by_cases hy1 : sumK ps + sumP ps < y
  · have HN := Lib.hid (show backB ps y = false ∧ backT ps y = 0 by have e : backB ps y = false := by { unfold backB inB; rw [hoa]; simp; omega }; exact ⟨e, by unfold backT; rw [e]; rfl⟩)
    have hd1 : decide (sumK ps + sumP ps < y) = true := decide_eq_true hy1
    go_enter Try.func19, Try.ntmps19
    go_wp2
    first | (go_region_held3 (fun W => W.cell? ⟨w.heap.size, 0, none⟩ = some (.int .i64 y) ∧ KS (w.alloc (.cells #[.int .i64 y] 3)) W)
      (first | assumption | exact hS0 | (exact bk_past hg (by assumption) b2))
      (first | (go_at_call 46; refine (implOpOk_any A c ps _ (bk_row HRA.out (by assumption)) (by omega) hl4).mono ?_; rw [hoa]; rintro e w2 ⟨rfl, b2⟩) | (go_at_call 18; refine (implOpTo_any A c ps _ (bk_row HRA.out (by assumption)) (by omega) hl4).mono ?_; rintro e w3 ⟨rfl, b2⟩))) | fail
    rename_i hS2
    have HB := Lib.hid (bA.trans (hS2.2.mono bA.size))
    clear hS2 hS0
    go_wp2
    go_ret2
    rw [HN.out.1, HN.out.2]
    exact ⟨rfl, HB.out⟩
  · have HN := Lib.hid (show backB ps y = true ∧ backT ps y = backGo (normL ps) y (sumK ps + sumD ps).toNat by have e : backB ps y = true := by { unfold backB inB; rw [hoa]; simp; omega }; exact ⟨e, by unfold backT; rw [e]; rfl⟩)
    have hd1 : decide (sumK ps + sumP ps < y) = false := decide_eq_false hy1
    have hK : 0 ≤ sumK ps + sumD ps ∧ sumK ps + sumD ps ≤ 200 := by
      obtain ⟨_, _, o3, _, o5, _, o7⟩ := okOp_of hoa
      obtain ⟨t1, _, t3⟩ := sum_t (okOp_partsB hoa)
      omega
    have HOK := Lib.hid (okOp_of (norm_ok hoa).1)
    have hmf : ∀ (fn : Fn) (first cap : Array Value) (w : World), (Instr.makeFunc fn first cap).run Try.prog w = .ok (.func fn first cap) w := fun _ _ _ _ => rfl
    go_enter Try.func19, Try.ntmps19
    go_wp2
    first | (go_region_held3 (fun W => W.cell? ⟨w.heap.size, 0, none⟩ = some (.int .i64 y) ∧ KS (w.alloc (.cells #[.int .i64 y] 3)) W)
      (first | assumption | exact hS0 | (exact bk_past hg (by assumption) b2))
      (first | (go_at_call 46; refine (implOpOk_any A c ps _ (bk_row HRA.out (by assumption)) (by omega) hl4).mono ?_; rw [hoa]; rintro e w2 ⟨rfl, b2⟩) | (go_at_call 18; refine (implOpTo_any A c ps _ (bk_row HRA.out (by assumption)) (by omega) hl4).mono ?_; rintro e w3 ⟨rfl, b2⟩))) | fail
    rename_i hS2
    have hbw := bA.trans (hS2.2.mono bA.size)
    have hcy3 := hS2.1
    have hlw : w.heap.size < w3.heap.size := Nat.lt_of_lt_of_le hg hS2.2.size
    clear hS2 hS0 hcy HRD BD b2 bA
    go_wp2_with fail
    refine (implOpNorm_d _ ps w3 (h.past hbw) hs).mono ?_
    rintro e w4 ⟨v4, rfl, o4, b4⟩
    have d4 := hbw.trans (b4.mono hbw.size)
    have hcy4 := (b4.cell (p := ⟨w.heap.size, 0, none⟩) hlw).trans hcy3
    have hlw4 : w.heap.size < w4.heap.size := Nat.lt_of_lt_of_le hlw b4.size
    have hrd := o4.read
    clear o4 b4 hcy3 hbw hlw hoa hd0 hd1
    generalize normL ps = qs at *
    obtain ⟨Q, cq, rfl, hq, _⟩ := parts_rd hrd
    clear hrd
    have b5 := alloc_below w4 (.cells #[.slice Q qs.length cq] 26)
    have d5 := d4.trans (b5.mono d4.size)
    go_wp2_with fail
    refine (implOpFrom_any A c ps _ (HRA0.out.past d5) (by omega) hl4).mono ?_
    rintro e w6 ⟨rfl, b6⟩
    have d6 := d5.trans (b6.mono d5.size)
    have hz : (w4.alloc (.cells #[.slice Q qs.length cq] 26)).heap.size = w4.heap.size + 1 := World.size_alloc _ _
    have q1 : w6.cell? ⟨w4.heap.size, 0, none⟩ = some (.slice Q qs.length cq) := (b6.cell (p := ⟨w4.heap.size, 0, none⟩) (by show w4.heap.size < _; omega)).trans (cell_of_row _ _ 0 _ _ _ (heap_alloc_new w4 _))
    have q2 : w6.cell? ⟨w.heap.size, 0, none⟩ = some (.int .i64 y) := (b6.cell (p := ⟨w.heap.size, 0, none⟩) (by show w.heap.size < _; omega)).trans ((b5.cell (p := ⟨w.heap.size, 0, none⟩) hlw4).trans hcy4)
    have l1 : w4.heap.size < w6.heap.size := Nat.lt_of_lt_of_le (by omega) b6.size
    have l2 : w.heap.size < w6.heap.size := by omega
    have hq6 : PRow w6 w6.heap.size Q qs := (hq.past b5).past b6
    obtain ⟨K, hKe⟩ := Int.eq_ofNat_of_zero_le hK.1
    have HKE := Lib.hid hKe
    have hK2 : K ≤ 200 := by omega
    have HF := Lib.hid (show ∀ (i : Nat) (w' : World), i < K → Below w6.heap.size w6 w' → Calls Try.prog 55 #[.int .i64 (i : Int), .pointer (some ⟨w4.heap.size, 0, none⟩), .pointer (some ⟨w.heap.size, 0, none⟩)] w' (fun e w'' => e = .returned (.bool ((fun i : Nat => decide (y < shiftGo ((i : Int) + 1) false qs 0 0)) i)) ∧ Below w'.heap.size w' w'') from fun i w' hi hb =>
      implNextIs Q cq qs y w4.heap.size w.heap.size i w' ((hb.cell (p := ⟨w4.heap.size, 0, none⟩) l1).trans q1) ((hb.cell (p := ⟨w.heap.size, 0, none⟩) l2).trans q2) (Nat.lt_of_lt_of_le l1 hb.size) (Nat.lt_of_lt_of_le l2 hb.size) (hq6.past hb) HOK.out.1 HOK.out.2.1 (by have := HOK.out.2.2.2.1; rw [keepS_eq, putS_eq]; exact this) (by omega))
    rw [hKe]
    clear hKe hK hcy4 hq hz q1 q2 hq6 l1 l2 b5 b6 d5 d4
    go_wp2_with fail
    refine (implSearch K hK2 _ w4.heap.size w.heap.size w6 HF.out).mono ?_
    rintro e w7 ⟨r, rfl, hr, s1, s2, b7⟩
    have HR := Lib.hid (search_back (Nn.of HOK.out.1) hr s1 s2)
    clear s1 s2 HF
    go_wp2
    go_ret2
    rw [HN.out.1, HN.out.2]
    exact ⟨ret_nb (by rw [HKE.out]; simp only [Int.toNat_natCast]; exact HR.out), d6.trans (b7.mono d6.size)⟩
end Go.Proofs.Ytmlkeflnnaabeaa.low


/-
  The program's Spans.
-/
namespace Go.Proofs.Ytmlkeflnnaabeaa.low
open Go.RowKit
set_option linter.unusedVariables false

set_option maxRecDepth 100000 in
set_option maxHeartbeats 1600000 in
theorem implSpans_d (v : Value) (ps : List Pt) (w : World) (h : RdC w w.heap.size (encPs ps) v) (hs : SmP ps) : Calls Try.prog 21 #[v] w (OwnPost (encInts (spansT ps)) w) := by
  obtain ⟨A, c, rfl, hra, _⟩ := parts_rd h
  have hl := hs.1
  have HOK := Lib.hid (norm_any ps)
  have HT := Lib.hid (show spansT ps = spansGo (normL ps) 0 from rfl)
  go_enter Try.func21, Try.ntmps21
  go_wp2_with fail
  refine (implOpNorm_d _ ps _ h hs).mono ?_
  rintro e w3 ⟨v3, rfl, o3, d3⟩
  have hib3 : w3.ownsRow w.heap.size 3 1 (.slice none 0 0) 0 [] := World.ownsRow_nil _ _ _ _
  obtain ⟨bq, oq⟩ := o3.blocks
  clear o3
  generalize normL ps = qs at *
  obtain ⟨Q, cq, rfl⟩ := sliceP oq.read
  have hql : qs.length ≤ 600 := HOK.out.2.1
  generalize hz : w3.heap.size = z3 at oq
  have hz3 : w.heap.size ≤ z3 := oq.le
  have HOQ := Lib.hid oq
  have HIB := Lib.hid hib3
  clear oq hib3
  go_wp2
  go_loopw [3, 4, 11] (fun o tv i wr => ∃ (j : Nat) (acc : List Int) (t : Int), j ≤ qs.length ∧ i = .int .i64 j ∧ tv = .int .i64 t ∧ SpansI qs acc t j ∧ wr.ownsRow w.heap.size 3 1 o acc.length (acc.map (Value.int .i64)) ∧ (∀ k, o.ownBlock = some k → k < w.heap.size ∨ z3 ≤ k) ∧ OwB w.heap.size z3 wr (encPs qs) (.slice Q qs.length cq) bq ∧ Below w.heap.size w wr) (fun _ _ i _ => qs.length - (intOf i).toNat)
  case atStart => exact ⟨0, [], 0, Nat.zero_le _, rfl, rfl, HOK.out.2.2, HIB.out, fun k hk => by simp [Value.ownBlock] at hk, HOQ.out, d3⟩
  case round =>
    obtain ⟨j, acc, t, hj, rfl, rfl, hi, ho, hob, hoq, hbel⟩ := hrel
    clear HIB HOQ d3 hz
    obtain ⟨ht0, ht1⟩ := hi.bd HOK.out.1
    have hal : acc.length ≤ 2 * j := hi.2.2.2
    have HI := Lib.hid hi
    obtain ⟨Ao, co, rfl⟩ := own_form ho
    obtain ⟨Q', cq', eQ, hq, _⟩ := parts_rd hoq.read
    obtain ⟨rfl, rfl⟩ : Q' = Q ∧ cq' = cq := by injection eQ with e1 _ e3; exact ⟨e1.symm, e3.symm⟩
    have HO := Lib.hid ho
    have HOB := Lib.hid hob
    have HOQ := Lib.hid hoq
    have htop := hoq.top
    clear hi ho hob hoq eQ
    by_cases hlt : j < qs.length
    · obtain ⟨b, off, p, rfl, hb, hp, hc⟩ := hq.at_ hlt
      obtain ⟨x0, x1, A1, e1, x2, r1⟩ := hc
      have hok := of_okPt (okPs_mem' HOK.out.1 (List.mem_of_getElem? hp))
      obtain ⟨pk, pn, pz⟩ := p
      simp only at x0 x1 x2 hok r1
      have HP := Lib.hid hp
      clear hp hq
      have bA := alloc_below wr (.cells #[.int .i64 pk, .int .i64 pn, .slice A1 pz.length e1] 80)
      have hb1 := hbel.trans (bA.mono hbel.size)
      have OQ1 := Lib.hid (HOQ.out.past bA)
      have OW1 := Lib.hid (HO.out.alloc (.cells #[.int .i64 pk, .int .i64 pn, .slice A1 pz.length e1] 80))
      rcases (show pk = 1 ∨ pk = 2 ∨ pk = 3 by omega) with rfl | rfl | rfl
      · have hn1 : 0 ≤ pn := by omega
        have hn2 : pn ≤ 200 := by omega
        clear hok
        have HI2 := Lib.hid (HI.out.k HP.out hn1)
        go_wp2
        go_roundw
        case rel => exact ⟨j + 1, acc, t + pn, by omega, by go_num, rfl, HI2.out, OW1.out, HOB.out, OQ1.out, hb1⟩
        case measure => simp [intOf]; omega
      · have hn3 : pz.length ≤ 200 := by omega
        clear hok
        have HI2 := Lib.hid (HI.out.p HP.out)
        have hz2 : (wr.alloc (.cells #[.int .i64 2, .int .i64 pn, .slice A1 pz.length e1] 80)).heap.size = wr.heap.size + 1 := World.size_alloc _ _
        have bB := alloc_below (wr.alloc (.cells #[.int .i64 2, .int .i64 pn, .slice A1 pz.length e1] 80)) (.cells #[.int .i64 t, .int .i64 (t + (pz.length : Int))] 3)
        have HROW := Lib.hid (show Row (Value.int .i64) ((wr.alloc (.cells #[.int .i64 2, .int .i64 pn, .slice A1 pz.length e1] 80)).alloc (.cells #[.int .i64 t, .int .i64 (t + (pz.length : Int))] 3)) ((wr.alloc (.cells #[.int .i64 2, .int .i64 pn, .slice A1 pz.length e1] 80)).alloc (.cells #[.int .i64 t, .int .i64 (t + (pz.length : Int))] 3)).heap.size (some ⟨wr.heap.size + 1, 0, none⟩) [t, t + (pz.length : Int)] by rw [← hz2]; exact row_two _ _ _ _)
        have OW2 := Lib.hid (OW1.out.alloc (.cells #[.int .i64 t, .int .i64 (t + (pz.length : Int))] 3))
        have OQ2 := Lib.hid (OQ1.out.past bB)
        have hb2 := hb1.trans (bB.mono hb1.size)
        clear bA bB hz2
        go_wp2_with (at_builtin; refine wpList_append_ints2 rfl (.tmp 30) (.tmp 33) rfl w.heap.size (.slice Ao acc.length co) acc rfl OW2.out (some ⟨wr.heap.size + 1, 0, none⟩) 2 2 [t, t + (pz.length : Int)] rfl rfl (by omega) HROW.out (by omega) hb2.size ?_; intro gn cn wn hon hgn hor; have HON := Lib.hid hon; have HGN := Lib.hid hgn; have HOR := Lib.hid hor; clear hon hgn hor)
        go_roundw
        case rel =>
          have hg := HGN.out
          refine ⟨j + 1, acc ++ [t, t + (pz.length : Int)], t + (pz.length : Int), by omega, by go_num, rfl, HI2.out, by simpa using HON.out, fun k hk => ?_, OQ2.out.apartGrown hg (fun k hk => HOB.out k hk), hb2.grown hg hb2.size (fun q hq => own_ge HO.out q hq)⟩
          have hk' : gn = k := by simpa [Value.ownBlock] using hk
          subst hk'
          rcases HOR.out with h | h
          · exact HOB.out _ h
          · simp at h
            omega
        case measure => simp [intOf]; omega
      · clear hok
        have HI2 := Lib.hid (HI.out.d HP.out)
        go_wp2
        go_roundw
        case rel => exact ⟨j + 1, acc, t, by omega, by go_num, rfl, HI2.out, OW1.out, HOB.out, OQ1.out, hb1⟩
        case measure => simp [intOf]; omega
    · have HR := Lib.hid (HI.out.all (by omega))
      go_wp2
      go_ret
      rw [HT.out, ← HR.out]
      exact ⟨_, rfl, ownInts HO.out hbel.size, hbel⟩

end Go.Proofs.Ytmlkeflnnaabeaa.low


/-
  The program's builder at numbers of whatever size, as long as no sum leaves int's range.
-/
namespace Go.Proofs.Ytmlkeflnnaabeaa.low
open Go.RowKit
set_option linter.unusedVariables false

set_option maxHeartbeats 1600000 in
theorem implDropW (S : Nat → Prop) (lo g : Nat) (ps : List Pt) (put : List Int) (d n : Int) (w : World) (hb : BAtS S lo g 76 w ps put d) (hS : ∀ b, w.heap.size ≤ b → S b) (h0 : 0 ≤ d) (h2 : 0 ≤ n) (h3 : d + n < 9223372036854775808) :
    Calls Try.prog 75 #[.pointer (some ⟨g, 0, none⟩), .int .i64 n] w (BuiltS S lo g 76 w ps put (d + n)) := by
  obtain ⟨v, u, us, hx, ha, hos⟩ := hb
  have HS := Lib.hid hS
  have HOS := Lib.hid hos
  clear hS hos
  have c2 := hx.cell2
  have f2 := hx.free 2
  have HX := Lib.hid hx
  have HA := Lib.hid ha
  clear hx ha
  go_enter Try.func75, Try.ntmps75
  go_wp2
  go_end0
  obtain ⟨r1, r2, r3⟩ := HX.out.dropS (d' := d + n) (by decide) (by decide) HA.out HOS.out
  exact ⟨rfl, r1, r2, r3⟩

set_option maxRecDepth 100000 in
set_option maxHeartbeats 3200000 in
theorem implKeepW (S : Nat → Prop) (lo g : Nat) (ps : List Pt) (put : List Int) (d n : Int) (w : World) (hb : BAtS S lo g 76 w ps put d) (hS : ∀ b, w.heap.size ≤ b → S b) (hl : ps.length ≤ 4294967296) (hp : put.length ≤ 4294967296) (hn : ¬ n = 0) (hn0 : 0 ≤ n) (hn1 : n < 9223372036854775808)
    (hq : ∀ p ∈ ps ++ putL put ++ dropL d, 0 ≤ p.n ∧ p.n + n < 9223372036854775808) (hql : (ps ++ putL put ++ dropL d).length ≤ 4294967298) :
    Calls Try.prog 57 #[.pointer (some ⟨g, 0, none⟩), .int .i64 n] w (FlushedS S lo g 76 w (keepTo (ps ++ putL put ++ dropL d) n)) := by
  obtain ⟨i0, hi0, hz0, hz1, hz2⟩ := info_parts part_info
  go_enter Try.func57, Try.ntmps57
  go_wp2_with fail
  refine (implFlush_f S lo g ps put d w hb hS hl hp).mono ?_
  rintro e w1 ⟨rfl, ⟨v, us, hx, ha, hos⟩, b1, fr1⟩
  have HS := Lib.hid hS
  have HOS := Lib.hid hos
  have HR := Lib.hid fr1
  clear hS hos fr1
  generalize ps ++ putL put ++ dropL d = q at *
  have c0 := hx.cell0
  have f0 := hx.free 0
  have hne := own_far hx.row hx.box (by decide)
  have hlo : lo ≤ w1.heap.size := Nat.le_trans hx.low (Nat.le_of_lt hx.lt)
  rcases q.eq_nil_or_concat with rfl | ⟨r, p, rfl⟩
  · obtain ⟨Av, cv, rfl⟩ := own_form hx.row
    have HX := Lib.hid hx
    have HA := Lib.hid ha
    clear hx ha
    go_wp2_with (at_builtin; refine wpList_append_lies _ rfl (.tmp 44) (.tmp 47) 26 rfl lo 80 i0 _ 3 40 Try.underlying26 hi0 hz0 hz1 hz2 rfl (by omega) (.slice Av 0 cv) 0 (cellsOf [] us) rfl (HX.out.row.alloc _) ⟨w1.heap.size, 0, none⟩ 1 1 [.int .i64 1, .int .i64 n, .slice none 0 0] rfl rfl (World.news_of_block (cs := #[.int .i64 1, .int .i64 n, .slice none 0 0]) (t := 80) (fr := (0, 0)) (heap_alloc_new w1 _)) (by simp [Value.oneCell']) (by omega) (by unfold maxLen; omega) (by omega) (by simp; omega) (w1.heap.size + 1) (by simp) ?_; intro gg cap w2 hown1 hgrow hat hlt; have hf := free_grown (o := 0) HX.out.box (below_new w1 _) hgrow hne; have hc : w2.cell? ⟨g, 0, none⟩ = some (.slice Av 0 cv) := cell_grown 0 HX.out.box (below_new w1 _) hgrow hne)
    go_end0
    obtain ⟨hx2, ha2, b2⟩ := Box.push (p := ⟨1, n, []⟩) HX.out (by decide) (by decide) (Apart.bare 1 n HA.out) (below_new w1 _) hown1 hgrow
    refine ⟨rfl, ?_, b1.trans b2, HR.out.trans (push_fr HOS.out (below_new w1 _) hgrow _)⟩
    rw [keepTo_nil]
    exact ⟨_, _, hx2, ha2, HOS.out.push nil_own hat (HS.out _ (by have := HR.out.size; omega))⟩
  · rw [List.concat_eq_append] at *
    have hrl : (r ++ [p]).length = r.length + 1 := by simp
    rw [hrl] at hql
    have hp0 := hq p (by simp)
    clear hq
    rcases hx.row.2 with ⟨_, h0⟩ | ⟨gv, cap0, cur, rfl, hgv, hhv, hcap, hcap2, _, _⟩
    · simp at h0
    rw [hrl] at c0 hne hcap hx
    have hrow : w1.ownsRow lo 80 3 (.slice (some ⟨gv, 0, none⟩) (r.length + 1) cap0) (r.length + 1) (cellsOf (r ++ [p]) us) := by have := hx.row; rwa [hrl] at this
    have k0 : w1.cell? ⟨gv, r.length * 3, none⟩ = some (.int .i64 p.kind) := by
      have := hrow.cellAt (r.length * 3) (by omega)
      obtain ⟨u, hu⟩ := idx_some (l := us) (i := r.length) (by rw [hx.len]; simp)
      rw [this, (cellsOf_at (r ++ [p]) us r.length p u (by simp) hu).1]
    have k1 : w1.cell? ⟨gv, r.length * 3 + 1, none⟩ = some (.int .i64 p.n) := by
      have := hrow.cellAt (r.length * 3 + 1) (by omega)
      obtain ⟨u, hu⟩ := idx_some (l := us) (i := r.length) (by rw [hx.len]; simp)
      rw [this, (cellsOf_at (r ++ [p]) us r.length p u (by simp) hu).2.1]
    have fv := hrow.frozenAt (r.length * 3 + 1)
    have HRW := Lib.hid hrow
    clear hrow
    have HX := Lib.hid hx
    have HA := Lib.hid ha
    clear hx ha hhv
    by_cases hk : p.kind = 1
    · go_wp2
      go_end0
      obtain ⟨hx2, ha2, b2⟩ := Box.setN (b := p.n + n) HX.out (by decide) (by decide) HA.out
      refine ⟨rfl, ?_, b1.trans b2, HR.out.trans (setN_fr HOS.out _)⟩
      rw [keepTo_t n hk]
      exact ⟨_, _, hx2, ha2, HOS.out⟩
    · go_wp2_with (at_builtin; refine wpList_append_lies _ rfl (.tmp 44) (.tmp 47) 26 rfl lo 80 i0 _ 3 40 Try.underlying26 hi0 hz0 hz1 hz2 rfl (by omega) (.slice (some ⟨gv, 0, none⟩) (r.length + 1) cap0) (r.length + 1) (cellsOf (r ++ [p]) us) rfl (HRW.out.alloc _) ⟨w1.heap.size, 0, none⟩ 1 1 [.int .i64 1, .int .i64 n, .slice none 0 0] rfl rfl (World.news_of_block (cs := #[.int .i64 1, .int .i64 n, .slice none 0 0]) (t := 80) (fr := (0, 0)) (heap_alloc_new w1 _)) (by simp [Value.oneCell']) (by omega) (by unfold maxLen; omega) (by omega) (by simp; omega) (w1.heap.size + 1) (by simp) ?_; intro gg cap w2 hown1 hgrow hat hlt; have hf := free_grown (o := 0) HX.out.box (below_new w1 _) hgrow hne; have hc : w2.cell? ⟨g, 0, none⟩ = some (.slice (some ⟨gv, 0, none⟩) (r.length + 1) cap0) := cell_grown 0 HX.out.box (below_new w1 _) hgrow hne)
      go_end0
      obtain ⟨hx2, ha2, b2⟩ := Box.push (p := ⟨1, n, []⟩) HX.out (by decide) (by decide) (Apart.bare 1 n HA.out) (below_new w1 _) (by rw [hrl]; exact hown1) hgrow
      rw [hrl] at hx2 ha2 b2
      refine ⟨rfl, ?_, b1.trans b2, HR.out.trans (push_fr HOS.out (below_new w1 _) hgrow _)⟩
      rw [keepTo_f n hk]
      exact ⟨_, _, hx2, ha2, HOS.out.push nil_own hat (HS.out _ (by have := HR.out.size; omega))⟩

end Go.Proofs.Ytmlkeflnnaabeaa.low


/-
  PutAt and DropAt at numbers of whatever size: what the builder makes of them is not valid where the numbers are too great.
-/
namespace Go.Proofs.Ytmlkeflnnaabeaa.low
open Go.RowKit
set_option linter.unusedVariables false

/-- what the builder holds ahead of the last run of kept characters -/
def preAt (x : Int) (l : List Int) (m : Int) : List Pt := (if x = 0 then [] else [⟨1, x, []⟩]) ++ putL l ++ dropL m
theorem opAtL_eq (n x : Int) (l : List Int) (m : Int) : opAtL n x l m = if n - x - m = 0 then preAt x l m else keepTo (preAt x l m) (n - x - m) := by
  unfold opAtL preAt
  generalize n - x - m = r
  by_cases hr : r = 0 <;> by_cases hx : x = 0 <;> simp [foldN, stepN, doneN, hr, hx, putL, dropL, keepTo_nil]
theorem preAt_mem {x : Int} {l : List Int} {m : Int} {p : Pt} (h : p ∈ preAt x l m) : p = ⟨1, x, []⟩ ∨ p = ⟨2, 0, l⟩ ∨ p = ⟨3, m, []⟩ := by
  unfold preAt putL dropL at h
  rw [List.mem_append, List.mem_append] at h
  rcases h with (h | h) | h <;> split at h <;> simp at h <;> simp [h]
theorem preAt_len (x : Int) (l : List Int) (m : Int) : (preAt x l m).length ≤ 3 := by
  unfold preAt putL dropL
  split <;> split <;> split <;> simp
theorem keepTo_ok {q : List Pt} {r : Int} : (keepTo q r).length ≤ q.length + 1 ∧ ∀ p ∈ keepTo q r, p.signs = [] ∨ p ∈ q ∨ ∃ p' ∈ q, p.signs = p'.signs := by
  rcases q.eq_nil_or_concat with rfl | ⟨s, p, rfl⟩
  · rw [keepTo_nil]
    exact ⟨by simp, fun p hp => by simp at hp; subst hp; exact .inl rfl⟩
  · rw [List.concat_eq_append]
    by_cases hk : p.kind = 1
    · rw [keepTo_t r hk]
      refine ⟨by simp, fun p' hp' => ?_⟩
      rcases List.mem_append.1 hp' with h | h
      · exact .inr (.inl (by simp [h]))
      · simp at h
        subst h
        exact .inr (.inr ⟨p, by simp, rfl⟩)
    · rw [keepTo_f r hk]
      refine ⟨by simp, fun p' hp' => ?_⟩
      rcases List.mem_append.1 hp' with h | h
      · exact .inr (.inl h)
      · simp at h
        subst h
        exact .inl rfl
theorem opAtL_sm (n x : Int) (l : List Int) (m : Int) : (opAtL n x l m).length ≤ 4 ∧ ∀ p ∈ opAtL n x l m, p.signs.length ≤ l.length := by
  have h1 := preAt_len x l m
  have hm : ∀ p ∈ preAt x l m, p.signs.length ≤ l.length := fun p hp => by
    rcases preAt_mem hp with rfl | rfl | rfl <;> simp
  rw [opAtL_eq]
  split
  · exact ⟨by omega, hm⟩
  · obtain ⟨k1, k2⟩ := keepTo_ok (q := preAt x l m) (r := n - x - m)
    refine ⟨by omega, fun p hp => ?_⟩
    rcases k2 p hp with h | h | ⟨p', h, e⟩
    · rw [h]; simp
    · exact hm p h
    · rw [e]; exact hm p' h
theorem keepTo_sum {q : List Pt} {r : Int} : keepS (keepTo q r) = keepS q + r ∧ dropS (keepTo q r) = dropS q := by
  rw [keepS_eq, dropS_eq, keepS_eq, dropS_eq]
  rcases q.eq_nil_or_concat with rfl | ⟨s, p, rfl⟩
  · rw [keepTo_nil]
    simp [sumOf, keepOf, dropOf]
  · rw [List.concat_eq_append]
    by_cases hk : p.kind = 1
    · rw [keepTo_t r hk, sumOf_app, sumOf_app, sumOf_app, sumOf_app]
      simp [sumOf, keepOf, dropOf, hk]
      omega
    · rw [keepTo_f r hk, sumOf_app, sumOf_app, sumOf_app, sumOf_app]
      simp [sumOf, keepOf, dropOf]
theorem preAt_sum {x : Int} {l : List Int} {m : Int} (hm : 0 ≤ m) : keepS (preAt x l m) + dropS (preAt x l m) = x + m := by
  unfold preAt putL dropL
  by_cases h1 : x = 0 <;> by_cases h2 : l.length = 0 <;> by_cases h3 : 0 < m <;> simp [h1, h2, h3, keepS, dropS] <;> omega
theorem put_stays {x r : Int} {l : List Int} {m : Int} (hl : ¬ l.length = 0) : (⟨2, 0, l⟩ : Pt) ∈ preAt x l m ∧ (⟨2, 0, l⟩ : Pt) ∈ keepTo (preAt x l m) r := by
  have e : putL l = [⟨2, 0, l⟩] := by unfold putL; rw [if_neg hl]
  have hp : (⟨2, 0, l⟩ : Pt) ∈ preAt x l m := by unfold preAt; rw [e]; simp
  refine ⟨hp, ?_⟩
  generalize preAt x l m = q at hp
  rcases q.eq_nil_or_concat with rfl | ⟨s, p, rfl⟩
  · simp at hp
  · rw [List.concat_eq_append] at *
    by_cases hk : p.kind = 1
    · rw [keepTo_t r hk]
      rcases List.mem_append.1 hp with h | h
      · simp [h]
      · simp at h
        rw [← h] at hk
        simp at hk
    · rw [keepTo_f r hk]
      exact List.mem_append.2 (.inl hp)
theorem opAt_lim {n x m : Int} {l : List Int} (hm : 0 ≤ m) (h : okOp (opAtL n x l m) = true) : n ≤ 200 ∧ allB l = true ∧ l.length ≤ 200 := by
  obtain ⟨o1, o2, o3, _⟩ := okOp_of h
  have hs : keepS (opAtL n x l m) + dropS (opAtL n x l m) = n := by
    rw [opAtL_eq]
    have h1 := preAt_sum (x := x) (l := l) hm
    split
    · omega
    · rw [keepTo_sum.1, keepTo_sum.2]
      omega
  refine ⟨by rw [keepS_eq, dropS_eq] at hs; omega, ?_⟩
  by_cases hl : l.length = 0
  · have e : l = [] := List.eq_nil_of_length_eq_zero hl
    subst e
    exact ⟨rfl, by simp⟩
  · have hp : (⟨2, 0, l⟩ : Pt) ∈ opAtL n x l m := by
      rw [opAtL_eq]
      split
      · exact (put_stays (r := 0) hl).1
      · exact (put_stays hl).2
    have := of_okPt (okPs_mem' o1 hp)
    simp at this
    exact this
end Go.Proofs.Ytmlkeflnnaabeaa.low


/-
  The program's PutAt and DropAt (replacing), at numbers of whatever size.
-/
namespace Go.Proofs.Ytmlkeflnnaabeaa.low
open Go.RowKit
set_option linter.unusedVariables false

/-- the builder holds the triple s -/
abbrev BT (lo g : Nat) (w : World) (s : List Pt × List Int × Int) : Prop := BAtS (fun _ => True) lo g 76 w s.1 s.2.1 s.2.2
theorem BT.new (w : World) : BT w.heap.size w.heap.size (w.alloc (.cells #[.slice none 0 0, .slice none 0 0, .int .i64 0] 76)) ([], [], 0) :=
  (Bld.new w.heap.size 76 w (Nat.le_refl _)).at_.mono (fun _ _ => trivial)
def BTP (lo g : Nat) (w : World) (s : List Pt × List Int × Int) (e : Ending) (w' : World) : Prop := e = .returned (.tuple #[]) ∧ BT lo g w' s ∧ Below lo w w'
theorem btKeep (lo g : Nat) (s : List Pt × List Int × Int) (n : Int) (w : World) (hb : BT lo g w s) (h0 : 0 ≤ n) (hn1 : n < 9223372036854775808) (hl : s.1.length ≤ 4294967296) (hp : s.2.1.length ≤ 4294967296) (hq : ∀ p ∈ doneN s, 0 ≤ p.n ∧ p.n + n < 9223372036854775808) (hql : (doneN s).length ≤ 4294967298) :
    Calls Try.prog 57 #[.pointer (some ⟨g, 0, none⟩), .int .i64 n] w (BTP lo g w (stepN s ⟨1, n, []⟩)) := by
  by_cases hn : n = 0
  · subst hn
    refine (implKeep_zero g w).mono ?_
    rintro e w' ⟨rfl, rfl⟩
    exact ⟨rfl, by simpa [stepN] using hb, Below.refl _ _⟩
  · refine (implKeepW (fun _ => True) lo g s.1 s.2.1 s.2.2 n w hb (fun _ _ => trivial) hl hp hn h0 hn1 hq hql).mono ?_
    rintro e w' ⟨rfl, hn', b, _⟩
    refine ⟨rfl, ?_, b⟩
    simp only [stepN, ↓reduceIte, if_neg hn]
    exact hn'.at_
set_option maxRecDepth 100000 in
set_option maxHeartbeats 1600000 in
theorem implRepl (v : Value) (l : List Int) (n x m : Int) (w : World) (h : RdC w w.heap.size (encInts l) v) (hs : SmI l) (hn : n < 9223372036854775808) : Calls Try.prog 45 #[.int .i64 n, .int .i64 x, .int .i64 m, v] w (ResB (encPs (opAtT n x l m)) (opAtB n x l m) w) := by
  obtain ⟨A, c, rfl, hr, _⟩ := ints_rd h
  have hl := hs
  unfold SmI at hl
  by_cases h1 : x < 0
  · have HN := Lib.hid (opAt_f (n := n) (x := x) (m := m) (l := l) (by unfold opAtC inB; simp; omega))
    go_enter Try.func45, Try.ntmps45
    go_wp2
    go_ret2
    rw [HN.out.1, HN.out.2]
    exact ⟨_, rfl, nilOwn _ _ rfl (Nat.le_refl _), Below.refl _ _⟩
  by_cases h2 : n < x
  · have HN := Lib.hid (opAt_f (n := n) (x := x) (m := m) (l := l) (by unfold opAtC inB; simp; omega))
    go_enter Try.func45, Try.ntmps45
    go_wp2
    go_ret2
    rw [HN.out.1, HN.out.2]
    exact ⟨_, rfl, nilOwn _ _ rfl (Nat.le_refl _), Below.refl _ _⟩
  by_cases h3 : m < 0
  · have HN := Lib.hid (opAt_f (n := n) (x := x) (m := m) (l := l) (by unfold opAtC inB; simp; omega))
    go_enter Try.func45, Try.ntmps45
    go_wp2
    go_ret2
    rw [HN.out.1, HN.out.2]
    exact ⟨_, rfl, nilOwn _ _ rfl (Nat.le_refl _), Below.refl _ _⟩
  by_cases h4 : n - x < m
  · have HN := Lib.hid (opAt_f (n := n) (x := x) (m := m) (l := l) (by unfold opAtC inB; simp; omega))
    go_enter Try.func45, Try.ntmps45
    go_wp2
    go_ret2
    rw [HN.out.1, HN.out.2]
    exact ⟨_, rfl, nilOwn _ _ rfl (Nat.le_refl _), Below.refl _ _⟩
  obtain ⟨q, hq⟩ : ∃ q : List Pt, q = if x = 0 then [] else [⟨1, x, []⟩] := ⟨_, rfl⟩
  have HS1 := Lib.hid (show stepN ([], [], 0) ⟨1, x, []⟩ = (q, [], 0) by rw [hq]; by_cases e : x = 0 <;> simp [stepN, e, putL, dropL, keepTo_nil])
  have HQL := Lib.hid (show q.length ≤ 1 by rw [hq]; split <;> simp)
  have HPRE := Lib.hid (show q ++ putL l ++ dropL m = preAt x l m by rw [hq]; rfl)
  have HDONE := Lib.hid (show doneN (stepN (q, l, m) ⟨1, n - x - m, []⟩) = opAtL n x l m by
    have e1 : stepN (stepN (q, [], 0) ⟨2, 0, l⟩) ⟨3, m, []⟩ = (q, l, m) := by simp [stepN]
    rw [← e1, ← HS1.out]; rfl)
  have HSM := Lib.hid (opAtL_sm n x l m)
  clear hq
  have hx0 : 0 ≤ x := by omega
  have hm0 : 0 ≤ m := by omega
  have hk0 : 0 ≤ n - x - m := by omega
  have b0 := alloc_below w (.cells #[.slice none 0 0, .slice none 0 0, .int .i64 0] 76)
  go_enter Try.func45, Try.ntmps45
  go_wp2_with fail
  refine (btKeep w.heap.size w.heap.size ([], [], 0) x _ (BT.new w) hx0 (by omega) (by simp) (by simp) (fun p hp => by simp [doneN, putL, dropL] at hp) (by simp [doneN, putL, dropL])).mono ?_
  rw [HS1.out]
  rintro e w2 ⟨rfl, hb2, b2⟩
  have d2 := b0.trans b2
  have B2 := Lib.hid hb2
  clear hb2 b2 b0
  go_wp2_with fail
  refine (implPut_f (fun _ => True) w.heap.size w.heap.size q [] 0 A c l _ B2.out (fun _ _ => trivial) (hr.past d2) (by simp) (by omega)).mono ?_
  rintro e w3 ⟨rfl, hb3, b3, _⟩
  have d3 := d2.trans b3
  have B3 := Lib.hid (show BT w.heap.size w.heap.size w3 (q, l, 0) by simpa using hb3)
  clear hb3 b3 B2 d2
  go_wp2_with fail
  refine (implDropW (fun _ => True) w.heap.size w.heap.size q l 0 m _ B3.out (fun _ _ => trivial) (by omega) hm0 (by omega)).mono ?_
  rintro e w4 ⟨rfl, hb4, b4, _⟩
  have d4 := d3.trans b4
  have B4 := Lib.hid (show BT w.heap.size w.heap.size w4 (q, l, m) by simpa using hb4)
  clear hb4 b4 B3 d3
  go_wp2_with fail
  refine (btKeep w.heap.size w.heap.size (q, l, m) (n - x - m) _ B4.out hk0 (by omega) (by have := HQL.out; simp; omega) (by simp; omega) (fun p hp => by
    have hp' : p ∈ preAt x l m := by rw [← HPRE.out]; exact hp
    rcases preAt_mem hp' with rfl | rfl | rfl <;> simp <;> omega) (by
    have := preAt_len x l m
    rw [← HPRE.out] at this
    exact Nat.le_trans this (by omega))).mono ?_
  rintro e w5 ⟨rfl, hb5, b5⟩
  have d5 := d4.trans b5
  have B5 := Lib.hid hb5
  have HL5 := Lib.hid (show doneN (stepN (q, l, m) ⟨1, n - x - m, []⟩) = opAtL n x l m from HDONE.out)
  clear hb5 b5 B4 d4
  have hs5 : (stepN (q, l, m) ⟨1, n - x - m, []⟩).1.length ≤ 4 ∧ (stepN (q, l, m) ⟨1, n - x - m, []⟩).2.1.length ≤ 1048576 := by
    by_cases e : n - x - m = 0
    · have := HQL.out
      simp only [stepN, e, ↓reduceIte]
      exact ⟨by omega, hl⟩
    · have k1 := (keepTo_ok (q := q ++ putL l ++ dropL m) (r := n - x - m)).1
      have k2 := preAt_len x l m
      rw [HPRE.out] at k1
      simp only [stepN, if_neg e, ↓reduceIte]
      rw [HPRE.out]
      exact ⟨by omega, by simp⟩
  generalize stepN (q, l, m) ⟨1, n - x - m, []⟩ = s5 at *
  go_wp2_with fail
  refine (implDone_f (fun _ => True) w.heap.size w.heap.size s5.1 s5.2.1 s5.2.2 _ B5.out (fun _ _ => trivial) (by omega) (by omega)).mono ?_
  rintro e w6 ⟨v6, us, rfl, hp6, b6, _⟩
  have d6 := d5.trans b6
  have o6 : Own w.heap.size w6.heap.size w6 (encPs (opAtL n x l m)) v6 := by rw [← HL5.out]; exact own_parts hp6
  obtain ⟨A6, c6, rfl, r6, _⟩ := parts_rd o6.read
  have O6 := Lib.hid o6
  clear o6 b6 B5 d5 HDONE HL5 hp6
  have hsm1 := HSM.out.1
  go_wp2_with fail
  refine (implOpOk_any A6 c6 (opAtL n x l m) _ r6 (by omega) (fun p hp => by have := HSM.out.2 p hp; omega)).mono ?_
  rintro e w7 ⟨rfl, b7⟩
  have d7 := d6.trans (b7.mono d6.size)
  cases hoc : okOp (opAtL n x l m)
  · have HN := Lib.hid (show opAtB n x l m = false ∧ opAtT n x l m = [] by have e : opAtB n x l m = false := by { unfold opAtB; rw [hoc]; simp }; exact ⟨e, by unfold opAtT; rw [e]; rfl⟩)
    go_wp2
    go_ret2
    rw [HN.out.1, HN.out.2]
    exact ⟨_, rfl, nilOwn _ _ rfl d7.size, d7⟩
  · have hc : opAtC n x l m = true := by
      obtain ⟨k1, k2, k3⟩ := opAt_lim hm0 hoc
      unfold opAtC inB
      simp [k2, k3]
      omega
    have HN := Lib.hid (show opAtB n x l m = true ∧ opAtT n x l m = opAtL n x l m by have e : opAtB n x l m = true := by { unfold opAtB; rw [hc, hoc]; rfl }; exact ⟨e, by unfold opAtT; rw [e]; rfl⟩)
    clear hc
    go_wp2
    go_ret2
    rw [HN.out.1, HN.out.2]
    obtain ⟨k6, o6⟩ := O6.out.blocks
    have o10 := o6.past b7
    exact ⟨_, rfl, ⟨k6, o10.ow, o10.nd, fun q hq => ⟨(o10.rng q hq).1, Nat.lt_of_lt_of_le (o10.rng q hq).2 b7.size⟩, Nat.le_refl _, d7.size⟩, d7⟩
theorem implPutAt_d (v : Value) (n x : Int) (l : List Int) (w : World) (h : RdC w w.heap.size (encInts l) v) (hs : SmI l) (hn : n < 9223372036854775808) : Calls Try.prog 13 #[.int .i64 n, .int .i64 x, v] w (ResB (encPs (opAtT n x l 0)) (opAtB n x l 0) w) := by
  obtain ⟨A, c, rfl⟩ := sliceI h
  go_enter Try.func13, Try.ntmps13
  go_wp2_with fail
  refine (implRepl _ l n x 0 _ h hs hn).mono ?_
  rintro e w1 ⟨v1, rfl, o1, b1⟩
  have O1 := Lib.hid o1
  clear o1
  go_wp2
  go_ret2
  exact ⟨_, rfl, O1.out, b1⟩
theorem implDropAt_d (n x m : Int) (w : World) (hn : n < 9223372036854775808) : Calls Try.prog 24 #[.int .i64 n, .int .i64 x, .int .i64 m] w (ResB (encPs (opAtT n x [] m)) (opAtB n x [] m) w) := by
  have h : RdC w w.heap.size (encInts []) (.slice none 0 0) := ⟨none, 0, by simp, by simp, fun h => by simp at h⟩
  go_enter Try.func24, Try.ntmps24
  go_wp2_with fail
  refine (implRepl _ [] n x m _ h (by unfold SmI; simp) hn).mono ?_
  rintro e w1 ⟨v1, rfl, o1, b1⟩
  have O1 := Lib.hid o1
  clear o1
  go_wp2
  go_ret2
  exact ⟨_, rfl, O1.out, b1⟩
end Go.Proofs.Ytmlkeflnnaabeaa.low


/-
  The program's side of SpecPlace and SpecPlace2: Shift, Back, Spans, PutAt, DropAt.
-/
namespace Go.Proofs.Ytmlkeflnnaabeaa.low
open Go.RowKit
theorem rng_int {n : Int} (h : (Lit.int .i64 n).wf = true) : n < 9223372036854775808 := by
  have h64 : -9223372036854775808 ≤ n ∧ n ≤ 9223372036854775807 := by simpa [Lit.wf, IntKind.min, IntKind.max, IntKind.signed, IntKind.bits] using h
  omega
end Go.Proofs.Ytmlkeflnnaabeaa.low


/-
  For laws over several calls: a law's bytes opened; calls whose answer is true.
-/
namespace Go.Proofs.Ytmlkeflnnaabeaa.low
open Go.RowKit Go.ChangeShapes Go.WideShapes Go.Deep
set_option linter.unusedVariables false

theorem cellsU8 : Try.prog.cellsOf 5 = 1 := by kernel_rfl
section
variable {H : Type} {enc : TypeId × Value → H} {w : World} {base : Nat} {spare : Nat → Bool} {held : Bool}
theorem read_bytes {fuel : Nat} {cs : List Value} {x : DataW H × List MemPlace} (h : DataW.trod enc Try.prog w base spare held fuel 22 cs = some x) :
    ∃ A c, ∃ zs : List Int, cs = [.slice A zs.length c] ∧ Row (Value.int .u8) w w.heap.size A zs ∧ zs.length ≤ maxLen ∧ ∀ z ∈ zs, 0 ≤ z ∧ z < 256 := by
  rcases open_ints Try.underlying22 Try.underlying5 cellsU8 h with ⟨hcs, _⟩ | ⟨a, len, cap, zs, hcs, _, hl, hm, hz, _, hc, hw⟩
  · exact ⟨none, 0, [], hcs, Row.nil, Nat.zero_le _, by simp⟩
  · have hzl : len ≤ zs.length := by rw [hz]; split <;> omega
    refine ⟨some a, cap, zs.take len, by rw [hcs, List.length_take, Nat.min_eq_left hzl], fun hn => ?_, by rw [List.length_take]; omega, fun z hz' => ?_⟩
    · have h0 := cell_lt (hc 0 (by simp at hn; omega))
      rw [block_of_add] at h0
      refine ⟨a, rfl, h0, fun k z hk => ?_⟩
      have hk' : k < zs.length := by
        rcases Nat.lt_or_ge k zs.length with h | h
        · exact h
        · rw [List.getElem?_eq_none (by simp; omega)] at hk; cases hk
      have hk2 : zs[k]? = some z := by
        rw [List.getElem?_take] at hk
        split at hk
        · exact hk
        · cases hk
      rw [hc k hk']
      simp [List.getD, hk2]
    · have := hw z (List.mem_of_mem_take hz')
      simp [Lit.wf, IntKind.min, IntKind.max, IntKind.signed, IntKind.bits] at this
      omega
end
theorem signsSame_t (v v' : Value) (t t' : List Int) (w : World) (h : RdC w w.heap.size (encInts t) v) (h' : RdC w w.heap.size (encInts t') v') (hs : SmI t) (e : t = t') : Calls Try.prog 25 #[v, v'] w (Tells true w) := by
  subst e
  obtain ⟨A, c, rfl, hr, _⟩ := ints_rd h
  obtain ⟨B, d, rfl, hr', _⟩ := ints_rd h'
  unfold SmI at hs
  refine (implSignsSame_any A B c d t t w hr hr' (by omega) (by omega)).mono ?_
  intro e w1 h1
  rw [sameB_self] at h1
  exact says_tells h1
theorem smI_text {t : List Int} (h : okText t = true) : SmI t := by have := okText_len' h; unfold SmI; omega
theorem smP_op {a : List Pt} (h : okOp a = true) : SmP a := by
  obtain ⟨_, h1, h2⟩ := okOp_units h
  have := signsIn_le h1
  exact ⟨by omega, by omega⟩
end Go.Proofs.Ytmlkeflnnaabeaa.low


/-
  The specification's draws: a cursor over the bytes of a draw (DC), a byte, a number below n.
-/
namespace Go.Proofs.Ytmlkeflnnaabeaa.low
open Go.RowKit
set_option linter.unusedVariables false

theorem and255 (n : Int) : bits .and .i64 n 255 = n % 256 := by
  have h127 : (BitVec.ofInt 64 255).toNat = 2 ^ 8 - 1 := by decide
  have key : (BitVec.ofInt 64 n &&& BitVec.ofInt 64 255).toNat = (n % ((2 ^ 64 : Nat) : Int)).toNat % 2 ^ 8 := by
    rw [BitVec.toNat_and, BitVec.toNat_ofInt, h127, Nat.and_two_pow_sub_one_eq_mod]
  show IntKind.i64.wrap ((BitVec.ofInt 64 n &&& BitVec.ofInt 64 255).toNat : Nat) = n % 256
  rw [key, IntKind.wrap_i64]
  omega
theorem and255_bd (n : Int) : 0 ≤ bits .and .i64 n 255 ∧ bits .and .i64 n 255 ≤ 255 := by rw [and255]; omega

/-- the cursor of a draw at block g; its bytes lie in blocks below B -/
def DC (B g : Nat) (w : World) : Prop := ∃ (A : Option Addr) (c : Nat) (zs : List Int) (i : Nat) (h : Int), w.heap[g]? = some (.cells #[.slice A zs.length c, .int .i64 (i : Int), .int .i64 h] 62 (0, 0)) ∧ zs.length ≤ 1048576 ∧ Row (Value.int .u8) w B A zs ∧ (∀ z ∈ zs, 0 ≤ z ∧ z < 256) ∧ B ≤ g
theorem DC.keep {B g : Nat} {w w' : World} (h : DC B g w) (hg : w'.heap[g]? = w.heap[g]?) (hk : ∀ p : Addr, p.block < B → w'.cell? p = w.cell? p) : DC B g w' := by
  obtain ⟨A, c, zs, i, x, h1, h2, h3, h4, h5⟩ := h
  exact ⟨A, c, zs, i, x, hg.trans h1, h2, h3.keep hk, h4, h5⟩
theorem DC.lt {B g : Nat} {w : World} (h : DC B g w) : g < w.heap.size := by
  obtain ⟨A, c, zs, i, x, h1, _⟩ := h
  exact lt_of_some h1
theorem DC.low {B g : Nat} {w : World} (h : DC B g w) : B ≤ g := by
  obtain ⟨A, c, zs, i, x, _, _, _, _, h5⟩ := h
  exact h5
theorem DC.past {B g : Nat} {w w' : World} (h : DC B g w) (hb : Below w.heap.size w w') : DC B g w' := h.keep (hb.block g h.lt) (fun p hp => hb.cell (by have := h.lt; have := h.low; omega))
theorem DC.grew {B g : Nat} {O O' : Nat → Prop} {w w' : World} (h : DC B g w) (hg : Grew O O' w w') (hb : Below B w w') (ho : ¬ O g) : DC B g w' := h.keep (hg.block g h.lt ho) (fun p hp => hb.cell hp)
/-- behind a draw: a number with P, the cursor moved, nothing else turned -/
def DrawP (P : Int → Prop) (B g : Nat) (w : World) (e : Ending) (w' : World) : Prop := ∃ x, e = .returned (.int .i64 x) ∧ P x ∧ DC B g w' ∧ Fr (fun q => q = g) w w' ∧ Below B w w'

theorem set2_row {w : World} {g : Nat} {T : TypeId} {a b c v : Value} {n : Nat} (h : w.heap[g]? = some (.cells #[a, b, c] T (0, 0))) : ((w.setCell ⟨g, 2, none⟩ v).drewN n).heap[g]? = some (.cells #[a, b, v] T (0, 0)) := by
  show (w.setCell ⟨g, 2, none⟩ v).heap[g]? = _
  rw [heap_setCell_same _ _ _ _ _ _ h]
  rfl
theorem set1_row {w : World} {g : Nat} {T : TypeId} {a b c v : Value} (h : w.heap[g]? = some (.cells #[a, b, c] T (0, 0))) : (w.setCell ⟨g, 1, none⟩ v).heap[g]? = some (.cells #[a, v, c] T (0, 0)) := by
  rw [heap_setCell_same _ _ _ _ _ _ h]
  rfl
theorem fr_drewN' {S : Nat → Prop} {n : Nat} {w wr : World} (h : Fr S w wr) : Fr S w (wr.drewN n) := ⟨h.size, h.block⟩
theorem below_drewN' {lo n : Nat} {w wr : World} (h : Below lo w wr) : Below lo w (wr.drewN n) := ⟨h.os, h.tape, h.output, h.size, h.block⟩

set_option maxRecDepth 100000 in
set_option maxHeartbeats 1600000 in
theorem specByte_d (B g : Nat) (w : World) (h : DC B g w) : Calls Try.prog 73 #[.pointer (some ⟨g, 0, none⟩)] w (DrawP (fun x => 0 ≤ x ∧ x ≤ 255) B g w) := by
  obtain ⟨A, c, zs, i, x, h1, h2, h3, h4, h5⟩ := h
  have c0 : w.cell? ⟨g, 0, none⟩ = some (.slice A zs.length c) := cell_of_row _ _ 0 _ _ _ h1
  have c1 : w.cell? ⟨g, 1, none⟩ = some (.int .i64 (i : Int)) := cell_of_row _ _ 1 _ _ _ h1
  have c2 : w.cell? ⟨g, 2, none⟩ = some (.int .i64 x) := cell_of_row _ _ 2 _ _ _ h1
  have f1 : w.frozen? ⟨g, 1, none⟩ = false := by simp [World.frozen?, h1]
  have f2 : w.frozen? ⟨g, 2, none⟩ = false := by simp [World.frozen?, h1]
  have H1 := Lib.hid h1
  have H4 := Lib.hid h4
  clear h1 h4
  by_cases hlt : i < zs.length
  · obtain ⟨ad, z, rfl, hbl, hz, hc⟩ := h3.at_ hlt
    have hzz := H4.out z (List.mem_of_getElem? hz)
    clear hz
    have hcx : ∀ v, (w.setCell ⟨g, 2, none⟩ v).cell? (ad.add i) = some (.int .u8 z) := fun v => (World.cell?_of_block (heap_setCell_other _ _ _ _ (fun e => by have e' : (ad.add i).block = g := e; rw [block_of_add] at e'; omega))).trans hc
    go_enter Try.func73, Try.ntmps73
    go_wp2
    go_quiet (fail)
    go_wp2
    go_quiet (fail)
    go_wp2
    go_quiet (fail)
    go_wp2
    go_ret
    refine ⟨_, rfl, and255_bd _, ⟨some ad, c, zs, i + 1, wrap64 (wrap64 (x * 6364136223846793005) + 1442695040888963407), set1_row (set2_row H1.out), h2, h3.keep (fun p hp => ?_), H4.out, h5⟩, ?_, ?_⟩
    · exact (World.cell?_of_block (heap_setCell_other _ _ _ _ (fun e => by have e' : p.block = g := e; omega))).trans (World.cell?_of_block (heap_setCell_other _ _ _ _ (fun e => by have e' : p.block = g := e; omega)))
    · exact (fr_drewN' ((Fr.refl (fun q => q = g) w).setCell (p := ⟨g, 2, none⟩) rfl _)).setCell (p := ⟨g, 1, none⟩) rfl _
    · exact (below_drewN' ((Below.refl B w).setCell (p := ⟨g, 2, none⟩) h5 _)).setCell (p := ⟨g, 1, none⟩) h5 _
  · go_enter Try.func73, Try.ntmps73
    go_wp2
    go_quiet (fail)
    go_wp2
    go_quiet (fail)
    go_wp2
    go_ret
    refine ⟨_, rfl, and255_bd _, ⟨A, c, zs, i, wrap64 (wrap64 (x * 6364136223846793005) + 1442695040888963407), set2_row (n := 0) H1.out, h2, h3.keep (fun p hp => ?_), H4.out, h5⟩, ?_, ?_⟩
    · exact World.cell?_of_block (heap_setCell_other _ _ _ _ (fun e => by have e' : p.block = g := e; omega))
    · exact fr_drewN' (fr_drewN' ((Fr.refl (fun q => q = g) w).setCell (p := ⟨g, 2, none⟩) rfl _))
    · exact below_drewN' (below_drewN' ((Below.refl B w).setCell (p := ⟨g, 2, none⟩) h5 _))

theorem DrawP.mono {P P' : Int → Prop} {B g : Nat} {w w' : World} {e : Ending} (h : DrawP P B g w e w') (hp : ∀ x, P x → P' x) : DrawP P' B g w e w' := by
  obtain ⟨x, h1, h2, h3⟩ := h
  exact ⟨x, h1, hp x h2, h3⟩
set_option maxHeartbeats 1600000 in
theorem specBelow_d (B g : Nat) (n : Int) (w : World) (h : DC B g w) (hn : n ≤ 2147483648) : Calls Try.prog 44 #[.pointer (some ⟨g, 0, none⟩), .int .i64 n] w (DrawP (fun x => 0 ≤ x ∧ (0 < n → x < n) ∧ (n ≤ 0 → x = 0)) B g w) := by
  by_cases h0 : n ≤ 0
  · go_enter Try.func44, Try.ntmps44
    go_wp2
    go_ret
    exact ⟨0, rfl, ⟨by omega, fun h => by omega, fun _ => rfl⟩, h, Fr.refl _ _, Below.refl _ _⟩
  · have h0' : 0 < n := by omega
    by_cases h1 : n ≤ 256
    · go_enter Try.func44, Try.ntmps44
      go_wp2_with fail
      refine (specByte_d B g _ h).mono ?_
      rintro e w1 ⟨x, rfl, ⟨x1, x2⟩, dc, fr, bl⟩
      have hz : ¬ n = 0 := by omega
      go_wp2
      go_ret
      exact ⟨_, rfl, ⟨Int.emod_nonneg _ (by omega), fun _ => Int.emod_lt_of_pos _ h0', fun h => by omega⟩, dc, fr, bl⟩
    · go_enter Try.func44, Try.ntmps44
      go_wp2_with fail
      refine (specByte_d B g _ h).mono ?_
      rintro e w1 ⟨x, rfl, ⟨x1, x2⟩, dc, fr, bl⟩
      go_wp2_with fail
      refine (specByte_d B g _ dc).mono ?_
      rintro e w2 ⟨y, rfl, ⟨y1, y2⟩, dc2, fr2, bl2⟩
      go_wp2_with fail
      refine (specByte_d B g _ dc2).mono ?_
      rintro e w3 ⟨z, rfl, ⟨z1, z2⟩, dc3, fr3, bl3⟩
      go_wp2_with fail
      refine (specByte_d B g _ dc3).mono ?_
      rintro e w4 ⟨t, rfl, ⟨t1, t2⟩, dc4, fr4, bl4⟩
      have hz : ¬ n = 0 := by omega
      go_wp2
      go_ret
      exact ⟨_, rfl, ⟨Int.emod_nonneg _ (by omega), fun _ => Int.emod_lt_of_pos _ h0', fun h => by omega⟩, dc4, ((fr.trans fr2).trans fr3).trans fr4, ((bl.trans bl2).trans bl3).trans bl4⟩
end Go.Proofs.Ytmlkeflnnaabeaa.low


/-
  append(out, x) where out is an owned slice of whatever rows and x is one row of data of the caller's own.
-/
namespace Go.Proofs.Ytmlkeflnnaabeaa.low
open Go.RowKit
set_option linter.unusedVariables false

theorem wpList_append_row {w : World} {ops : Array Oper} {rest : List Oper} {o : Oper} {a : Act} {Q : Exit → Act → World → Prop} (hgd : o.guard = none) (s x : Operand) (t : TypeId)
    (ho : o.op = .call { callee := .builtin .append, args := #[s, x], argTypes := #[t, t] }) (e : TypeId) (i : TypeInfo) (z : Value) (sz bytes : Nat) (ht : Try.prog.underlying t = some (.slice e)) (hi : Try.prog.info? e = some i) (hz : i.zero = some z) (hsize : i.size = sz) (hby : i.bytes = bytes) (hzs : z.cells.size = sz) (hsz : 0 < sz) (hbm : bytes ≤ 100000)
    (lo hi' : Nat) (v : Value) (ds : List (List Dat)) (b : List Nat) (h : OwB lo hi' w (.rows e sz ds) v b) (hs : a.eval s = v) (hlen : ds.length ≤ 2000000)
    (ad : Addr) (c0 : Nat) (ys : List Value) (hx : a.eval x = .slice (some ad) 1 c0) (hl : ys.length = sz) (hnews : ∀ j u, ys[j]? = some u → w.cell? (ad.add j) = some u) (h1 : ∀ u ∈ ys, u.oneCell' = true)
    (r : List Dat) (c : List Nat) (hr : OwL w r ys c) (hcn : c.Nodup) (hbc : ∀ q ∈ b, q ∉ c) (hcr : ∀ q ∈ c, lo ≤ q)
    (K : ∀ A' c' w' b', OwB lo w'.heap.size w' (.rows e sz (ds ++ [r])) (.slice A' (ds.length + 1) c') b' → (∀ q ∈ b', q ∈ b ∨ q ∈ c ∨ w.heap.size ≤ q) → Grew (fun q => q ∈ b) (fun q => q ∈ b ∨ w.heap.size ≤ q) w w' → Below lo w w' → wpList Try.prog ops Q rest (a.put o.dst (.slice A' (ds.length + 1) c')) w') : wpList Try.prog ops Q (o :: rest) a w := by
  have hnd := h.nd
  have hrg := h.rng
  obtain ⟨xs, cs, ho', hor, hb⟩ := h.ow
  refine wpList_append_lies _ hgd s x t ho 0 e i z sz bytes ht hi hz hsize hby hzs hsz v ds.length xs hs ho' ad 1 c0 ys hx (by simp [hl]) hnews h1 (by omega) (by unfold maxLen; omega) ?_ (Nat.zero_le _) _ rfl ?_
  · have : (ds.length + 1) * bytes ≤ 2000001 * 100000 := Nat.mul_le_mul (by omega) hbm
    omega
  intro g cap w' hown hg hat hlt
  rw [hb] at hnd
  obtain ⟨n1, n2, n3⟩ := List.nodup_append.1 hnd
  have own_mem : ∀ q, v.ownBlock = some q → q ∈ b := fun q hq => by rw [hb, hq]; simp
  have hcs : ∀ q ∈ cs, w'.heap[q]? = w.heap[q]? := fun q hq => hg.block q (OwR.lt sz _ _ _ hor q hq) (fun e => n3 q (by rw [← e]; simp) q hq rfl)
  have hcc : ∀ q ∈ c, w'.heap[q]? = w.heap[q]? := fun q hq => hg.block q (OwL.lt _ _ _ hr q hq) (fun e => hbc q (own_mem q e.symm) hq)
  have hor' := (OwR.keep sz _ _ _ hor hcs).append (OwR.one (OwL.keep _ _ _ hr hcc) hl)
  have g1 : g ∉ cs := fun hq => by
    rcases hat with e | e
    · exact n3 g (by rw [e]; simp) g hq rfl
    · have := OwR.lt sz _ _ _ hor g hq; omega
  have g2 : g ∉ c := fun hq => by
    rcases hat with e | e
    · exact hbc g (own_mem g e) hq
    · have := OwL.lt _ _ _ hr g hq; omega
  have g3 : lo ≤ g ∧ (g ∈ b ∨ w.heap.size ≤ g) := by
    rcases hat with e | e
    · exact ⟨(hrg g (own_mem g e)).1, .inl (own_mem g e)⟩
    · have := h.top; have := h.le; exact ⟨by omega, .inr (by omega)⟩
  have hsz' := hg.size
  have ht' := h.top
  refine K _ cap w' (g :: (cs ++ c)) ⟨⟨xs ++ ys, cs ++ c, by rw [List.length_append]; exact hown, hor', rfl⟩, ?_, ?_, Nat.le_refl _, by have := h.le; omega⟩ ?_ ⟨hg.size, fun q hq hn => hg.block q hq (fun e => hn (own_mem q e.symm)), fun q hq => hq⟩ ?_
  · refine List.nodup_cons.2 ⟨fun hq => ?_, List.nodup_append.2 ⟨n2, hcn, fun q hq q' hq' e => ?_⟩⟩
    · rcases List.mem_append.1 hq with hq | hq
      · exact g1 hq
      · exact g2 hq
    · subst e
      exact hbc q (by rw [hb]; simp [hq]) hq'
  · intro q hq
    rcases List.mem_cons.1 hq with rfl | hq
    · exact ⟨g3.1, hlt⟩
    · rcases List.mem_append.1 hq with hq | hq
      · have := hrg q (by rw [hb]; simp [hq]); exact ⟨this.1, by omega⟩
      · have := OwL.lt _ _ _ hr q hq; exact ⟨hcr q hq, by omega⟩
  · intro q hq
    rcases List.mem_cons.1 hq with rfl | hq
    · rcases g3.2 with h | h
      · exact .inl h
      · exact .inr (.inr h)
    · rcases List.mem_append.1 hq with hq | hq
      · exact .inl (by rw [hb]; simp [hq])
      · exact .inr (.inl hq)
  · exact (Below.refl lo w).grown hg (by have := h.le; omega) (fun k hk => (hrg k (own_mem k hk)).1)
/-- one cell that owns a datum -/
theorem OwC.row1 {w : World} {d : Dat} {v : Value} {b : List Nat} (h : OwC w d v b) : OwL w [d] [v] b := ⟨v, [], b, [], rfl, by simp, h, rfl, rfl⟩
end Go.Proofs.Ytmlkeflnnaabeaa.low


/-
  The specification's draws: the cursor made; once; one of a list; a character; characters. append(out, p) of one part.
-/
namespace Go.Proofs.Ytmlkeflnnaabeaa.low
open Go.RowKit
set_option linter.unusedVariables false

def OnceP (B g : Nat) (w : World) (e : Ending) (w' : World) : Prop := ∃ q : Bool, e = .returned (.bool q) ∧ DC B g w' ∧ Fr (fun q => q = g) w w' ∧ Below B w w'
set_option maxHeartbeats 800000 in
theorem specOnce_d (B g : Nat) (n : Int) (w : World) (h : DC B g w) (hn : n ≤ 2147483648) : Calls Try.prog 79 #[.pointer (some ⟨g, 0, none⟩), .int .i64 n] w (OnceP B g w) := by
  go_enter Try.func79, Try.ntmps79
  go_wp2_with fail
  refine (specBelow_d B g n _ h hn).mono ?_
  rintro e w1 ⟨x, rfl, _, dc, fr, bl⟩
  go_wp2
  go_ret
  exact ⟨_, rfl, dc, fr, bl⟩

set_option maxHeartbeats 800000 in
theorem specPick_d (B g : Nat) (A : Option Addr) (c : Nat) (zs : List Int) (w : World) (h : DC B g w) (hr : Row (Value.int .i64) w w.heap.size A zs) (hz : 0 < zs.length) (hl : zs.length ≤ 1000) (P : Int → Prop) (hp : ∀ z ∈ zs, P z) (hg : ∀ ad, A = some ad → ¬ ad.block = g) :
    Calls Try.prog 93 #[.pointer (some ⟨g, 0, none⟩), .slice A zs.length c] w (DrawP P B g w) := by
  go_enter Try.func93, Try.ntmps93
  go_wp2_with fail
  refine (specBelow_d B g (zs.length : Int) _ h (by omega)).mono ?_
  rintro e w1 ⟨x, rfl, ⟨x1, x2, _⟩, dc, fr, bl⟩
  have x2 := x2 (by omega)
  obtain ⟨k, rfl⟩ := Int.eq_ofNat_of_zero_le x1
  obtain ⟨ad, z, rfl, hb, hzk, hc⟩ := hr.at_ (k := k) (by omega)
  have hc' : w1.cell? (ad.add k) = some (.int .i64 z) := by
    rw [World.cell?_of_block (w := w) (fr.block _ (by rw [block_of_add]; exact hb) (by rw [block_of_add]; exact hg ad rfl))]
    exact hc
  have HP := Lib.hid (hp z (List.mem_of_getElem? hzk))
  clear hzk
  have hlt : k < zs.length := by omega
  go_wp2
  go_ret
  exact ⟨z, rfl, HP.out, dc, fr, bl⟩
theorem pickList_ok : ∀ z ∈ ([0, 127, 128, 2047, 2048, 55295, 57344, 65535, 65536, 1114111, 10, 32] : List Int), signB z = true := by decide
set_option maxRecDepth 100000 in
set_option maxHeartbeats 1600000 in
theorem specSign_d (B g : Nat) (w : World) (h : DC B g w) : Calls Try.prog 72 #[.pointer (some ⟨g, 0, none⟩)] w (DrawP (fun x => signB x = true) B g w) := by
  go_enter Try.func72, Try.ntmps72
  go_wp2_with fail
  refine (specOnce_d B g 8 _ h (by omega)).mono ?_
  rintro e w1 ⟨q, rfl, dc, fr, bl⟩
  cases q
  · go_wp2_with fail
    refine (specBelow_d B g 6 _ dc (by omega)).mono ?_
    rintro e w2 ⟨x, rfl, ⟨x1, x2, _⟩, dc2, fr2, bl2⟩
    have x2 := x2 (by omega)
    go_wp2
    go_ret
    exact ⟨_, rfl, by simp only [signB, decide_eq_true_eq]; omega, dc2, fr.trans fr2, bl.trans bl2⟩
  · go_wp2_with fail
    have hB := dc.lt
    have hBg := dc.low
    have bA := alloc_below w1 (.cells #[.int .i64 0, .int .i64 127, .int .i64 128, .int .i64 2047, .int .i64 2048, .int .i64 55295, .int .i64 57344, .int .i64 65535, .int .i64 65536, .int .i64 1114111, .int .i64 10, .int .i64 32] 3)
    have hrow : Row (Value.int .i64) (w1.alloc (.cells #[.int .i64 0, .int .i64 127, .int .i64 128, .int .i64 2047, .int .i64 2048, .int .i64 55295, .int .i64 57344, .int .i64 65535, .int .i64 65536, .int .i64 1114111, .int .i64 10, .int .i64 32] 3)) (w1.alloc (.cells #[.int .i64 0, .int .i64 127, .int .i64 128, .int .i64 2047, .int .i64 2048, .int .i64 55295, .int .i64 57344, .int .i64 65535, .int .i64 65536, .int .i64 1114111, .int .i64 10, .int .i64 32] 3)).heap.size (some ⟨w1.heap.size, 0, none⟩) [0, 127, 128, 2047, 2048, 55295, 57344, 65535, 65536, 1114111, 10, 32] := fun _ => by
      refine ⟨_, rfl, lt_of_some (heap_alloc_new w1 _), fun k z hz => ?_⟩
      rw [add_plain0]
      have hk := idx_lt hz
      rw [cell_of_row _ _ k _ _ _ (heap_alloc_new w1 _)]
      have : (#[Value.int .i64 0, .int .i64 127, .int .i64 128, .int .i64 2047, .int .i64 2048, .int .i64 55295, .int .i64 57344, .int .i64 65535, .int .i64 65536, .int .i64 1114111, .int .i64 10, .int .i64 32] : Array Value) = (([0, 127, 128, 2047, 2048, 55295, 57344, 65535, 65536, 1114111, 10, 32] : List Int).map (Value.int .i64)).toArray := rfl
      rw [this]
      simp only [List.getElem?_toArray, List.getElem?_map, hz, Option.map_some]
    refine (specPick_d B g _ _ _ _ (dc.past bA) hrow (by decide) (by decide) (fun x => signB x = true) pickList_ok (fun ad e => by injection e with e; subst e; show ¬ w1.heap.size = g; omega)).mono ?_
    rintro e w2 ⟨x, rfl, hx, dc2, fr2, bl2⟩
    have fA : Fr (fun q => q = g) w1 _ := Fr.below bA
    have HX := Lib.hid hx
    go_wp2
    go_ret
    exact ⟨x, rfl, HX.out, dc2, (fr.trans fA).trans fr2, (bl.trans (bA.mono (by omega))).trans bl2⟩
/-- behind a draw of characters: a text of its own -/
def SignsP (most B g : Nat) (w : World) (e : Ending) (w' : World) : Prop := ∃ t v b, e = .returned v ∧ t.length ≤ most ∧ allB t = true ∧ OwB w.heap.size w'.heap.size w' (encInts t) v b ∧ DC B g w' ∧ Fr (fun q => q = g) w w' ∧ Below B w w'
theorem Fr.old {S : Nat → Prop} {w w1 w2 : World} {O O' : Nat → Prop} (h : Fr S w w1) (hg : Grew O O' w1 w2) (hO : ∀ q, O q → w.heap.size ≤ q) : Fr S w w2 :=
  ⟨Nat.le_trans h.size hg.size, fun q hq hs => (hg.block q (Nat.lt_of_lt_of_le hq h.size) (fun ho => by have := hO q ho; omega)).trans (h.block q hq hs)⟩
theorem OwB.fr {lo hi g : Nat} {w w' : World} {d : Dat} {v : Value} {b : List Nat} (h : OwB lo hi w d v b) (hf : Fr (fun q => q = g) w w') (hg : g < lo) : OwB lo hi w' d v b :=
  ⟨OwC.keep d v b h.ow (fun x hx => hf.block x (OwC.lt d v b h.ow x hx) (fun e => by have e' : x = g := e; have := (h.rng x hx).1; omega)), h.nd, h.rng, Nat.le_trans h.top hf.size, h.le⟩
theorem allB_add {t : List Int} {x : Int} (h : allB t = true) (hx : signB x = true) : allB (t ++ [x]) = true := by rw [allB_app, h]; simp [allB, hx]
set_option maxRecDepth 100000 in
set_option maxHeartbeats 3200000 in
theorem specSigns_d (B g most : Nat) (w : World) (h : DC B g w) (hm : most ≤ 1000) : Calls Try.prog 43 #[.pointer (some ⟨g, 0, none⟩), .int .i64 (most : Int)] w (SignsP most B g w) := by
  obtain ⟨i0, hi0, hz0, hz1, hz2⟩ := info_parts ints_info
  have hgl := h.lt
  have hBg := h.low
  go_enter Try.func43, Try.ntmps43
  go_wp2_with fail
  have bA := alloc_below w (.cells #[] 3)
  have hib : OwB w.heap.size (w.alloc (.cells #[] 3)).heap.size (w.alloc (.cells #[] 3)) (encInts []) (.slice (some ⟨w.heap.size, 0, none⟩) 0 0) [w.heap.size] :=
    ⟨⟨[], [], ⟨rfl, .inr ⟨w.heap.size, 0, #[], rfl, Nat.zero_le _, heap_alloc_new w _, Nat.le_refl _, by unfold maxLen; omega, rfl, rfl⟩⟩, ⟨rfl, rfl⟩, rfl⟩, by simp, fun x hx => by obtain rfl : x = w.heap.size := (by simpa using hx); exact ⟨Nat.le_refl _, lt_of_some (heap_alloc_new w _)⟩, Nat.le_refl _, bA.size⟩
  have hdc := h.past bA
  have fA : Fr (fun q => q = g) w _ := Fr.below bA
  generalize w.alloc (.cells #[] 3) = w1 at *
  generalize (Value.slice (some ⟨w.heap.size, 0, none⟩) 0 0) = v0 at *
  refine (specBelow_d B g ((most : Int) + 1) _ hdc (by omega)).mono ?_
  rintro e w2 ⟨x, rfl, ⟨x1, x2, _⟩, dc, fr, bl⟩
  have x2 := x2 (by omega)
  obtain ⟨m, rfl⟩ := Int.eq_ofNat_of_zero_le x1
  have hib2 := (hib.fr fr hgl).upto fr.size (Nat.le_refl _)
  have HR0 := Lib.hid hib2
  have F0 := fA.trans fr
  have D0 := (bA.mono (show B ≤ w.heap.size by omega)).trans bl
  clear hib hib2 hdc fA fr bl bA
  go_wp2
  go_loopw [5, 6] (fun o i wr => ∃ (k : Nat) (t : List Int) (b : List Nat), t.length + k ≤ most ∧ i = .int .i64 k ∧ allB t = true ∧ OwB w.heap.size wr.heap.size wr (encInts t) o b ∧ DC B g wr ∧ Fr (fun q => q = g) w wr ∧ Below B w wr) (fun _ i _ => (intOf i).toNat)
  case atStart => exact ⟨m, [], _, by simp; omega, rfl, rfl, HR0.out, dc, F0, D0⟩
  case round =>
    obtain ⟨k, t, b, hk, rfl, ha, ho, dc, fr, bl⟩ := hrel
    clear HR0 F0 D0
    have HO := Lib.hid ho
    have HA := Lib.hid ha
    obtain ⟨A1, c1, rfl⟩ := sliceI ho.read
    clear ho ha
    by_cases hk0 : 0 < k
    · have hz := bl.size
      go_wp2_with fail
      refine (specSign_d B g _ dc).mono ?_
      rintro e w3 ⟨x, rfl, hx, dc3, fr3, bl3⟩
      have HX := Lib.hid hx
      have HO3 := Lib.hid ((HO.out.fr fr3 hgl).upto fr3.size (Nat.le_refl _))
      have bA := alloc_below w3 (.cells #[.int .i64 x] 3)
      have HO4 := Lib.hid (HO3.out.past bA)
      have hnews : ∀ (j : Nat) (u : Value), [Value.int .i64 x][j]? = some u → (w3.alloc (.cells #[.int .i64 x] 3)).cell? ((⟨w3.heap.size, 0, none⟩ : Addr).add j) = some u := fun j u hu => by
        cases j with
        | zero =>
          simp at hu
          subst hu
          exact cell_of_row _ _ 0 _ _ _ (heap_alloc_new w3 _)
        | succ j => simp at hu
      have HNW := Lib.hid hnews
      have hlx : (t.map fun z => [Dat.int z]).length ≤ 2000000 := by rw [List.length_map]; omega
      have dc4 := dc3.past bA
      have fr4 : Fr (fun q => q = g) w _ := (fr.trans fr3).trans (Fr.below bA)
      have bl4 := (bl.trans bl3).trans (bA.mono (by have := dc3.lt; omega))
      have hgn : g < w.heap.size := hgl
      clear hnews hx fr3 bl3 dc3 dc fr bl bA
      go_wp2_with (at_builtin; refine wpList_append_row rfl (.tmp 16) (.tmp 19) 23 rfl 3 i0 (.int .i64 0) 1 8 Try.underlying23 hi0 hz0 hz1 hz2 rfl (by decide) (by decide) w.heap.size _ (.slice A1 t.length c1) (t.map fun z => [Dat.int z]) b HO4.out rfl hlx ⟨w3.heap.size, 0, none⟩ _ [.int .i64 x] rfl rfl HNW.out (by simp [Value.oneCell']) [.int x] [] ⟨_, [], [], [], rfl, rfl, ⟨rfl, rfl⟩, rfl, rfl⟩ (by simp) (by simp) (by simp) ?_; intro A7 c7 w7 b7 o7 in7 g7 bl7)
      have HO7 : OwB w.heap.size w7.heap.size w7 (encInts (t ++ [x])) (.slice A7 (t.length + 1) c7) b7 := by
        have e : encInts (t ++ [x]) = .rows 3 1 ((t.map fun z => [Dat.int z]) ++ [[Dat.int x]]) := by unfold encInts; rw [List.map_append]; rfl
        rw [e]
        simpa using o7
      replace HO7 := Lib.hid HO7
      have fr7 := fr4.old g7 (fun q hq => (HO4.out.rng q hq).1)
      have dc7 := dc4.grew g7 (bl7.mono (show B ≤ w.heap.size by omega)) (fun hq => by have := (HO4.out.rng g hq).1; omega)
      have bl7' := bl4.trans (bl7.mono (show B ≤ w.heap.size by omega))
      clear o7 in7 g7 bl7 HO4 HO3 HNW dc4 fr4 bl4
      go_wp2
      go_roundw
      case rel => exact ⟨k - 1, t ++ [x], b7, by simp; omega, by rw [Int.natCast_sub (by omega)]; rfl, allB_add HA.out HX.out, by simpa using HO7.out, dc7, fr7, bl7'⟩
      case measure => simp [intOf]; omega
    · obtain rfl : k = 0 := by omega
      go_wp2
      go_ret
      exact ⟨t, _, b, rfl, by omega, HA.out, HO.out, dc, fr, bl⟩

/-- append(out, p) of one part, its characters of the caller's own -/
theorem wpList_append_part {w : World} {ops : Array Oper} {rest : List Oper} {o : Oper} {a : Act} {Q : Exit → Act → World → Prop} (hgd : o.guard = none) (s x : Operand)
    (ho : o.op = .call { callee := .builtin .append, args := #[s, x], argTypes := #[26, 26] })
    (lo hi' : Nat) (v : Value) (L : List Pt) (b : List Nat) (h : OwB lo hi' w (encPs L) v b) (hs : a.eval s = v) (hlen : L.length ≤ 2000000)
    (g0 c0 : Nat) (p : Pt) (u : Value) (c : List Nat) (hx : a.eval x = .slice (some ⟨g0, 0, none⟩) 1 c0) (hcell : w.heap[g0]? = some (.cells #[.int .i64 p.kind, .int .i64 p.n, u] 80 (0, 0)))
    (hu : OwC w (encInts p.signs) u c) (hcn : c.Nodup) (hbc : ∀ q ∈ b, q ∉ c) (hcr : ∀ q ∈ c, lo ≤ q)
    (K : ∀ A' c' w' b', OwB lo w'.heap.size w' (encPs (L ++ [p])) (.slice A' (L.length + 1) c') b' → (∀ q ∈ b', q ∈ b ∨ q ∈ c ∨ w.heap.size ≤ q) → Grew (fun q => q ∈ b) (fun q => q ∈ b ∨ w.heap.size ≤ q) w w' → Below lo w w' → wpList Try.prog ops Q rest (a.put o.dst (.slice A' (L.length + 1) c')) w') : wpList Try.prog ops Q (o :: rest) a w := by
  obtain ⟨i0, hi0, hz0, hz1, hz2⟩ := info_parts part_info
  have hone : ∀ y ∈ [Value.int .i64 p.kind, .int .i64 p.n, u], y.oneCell' = true := by
    intro y hy
    obtain ⟨A, cc, rfl, _⟩ : ∃ A cc, u = .slice A p.signs.length cc ∧ True := by
      obtain ⟨xs, cs, hox, _⟩ := hu
      obtain ⟨A, cc, e⟩ := own_form hox
      exact ⟨A, cc, by simpa using e, trivial⟩
    simp at hy
    rcases hy with rfl | rfl | rfl <;> rfl
  refine wpList_append_row hgd s x 26 ho 80 i0 _ 3 40 Try.underlying26 hi0 hz0 hz1 hz2 rfl (by decide) (by decide) lo hi' v (L.map encPt) b h hs (by rw [List.length_map]; exact hlen) ⟨g0, 0, none⟩ c0 [.int .i64 p.kind, .int .i64 p.n, u] hx rfl (fun j y hy => ?_) hone (encPt p) c ⟨_, _, [], c, rfl, by simp, ⟨rfl, rfl⟩, _, _, [], c, rfl, by simp, ⟨rfl, rfl⟩, _, [], c, [], rfl, by simp, hu, rfl, rfl⟩ hcn hbc hcr ?_
  · rw [add_plain0, cell_of_row _ _ j _ _ _ hcell]
    rw [← hy]
    simp
  · intro A' c' w' b' o1 h1 h2 h3
    rw [List.length_map] at o1 ⊢
    refine K A' c' w' b' ?_ h1 h2 h3
    have e : encPs (L ++ [p]) = .rows 80 3 (L.map encPt ++ [encPt p]) := by unfold encPs; rw [List.map_append]; rfl
    rw [e]
    exact o1
end Go.Proofs.Ytmlkeflnnaabeaa.low

