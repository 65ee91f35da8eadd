
/-
  Contracts of the laws' own markPartS (it writes ascending numbers into every field of a slice of parts) and heldPartS (it asks whether they still stand there); what a write to some blocks leaves alone.
-/
import Derived.Test.YtemhhjagdfkmfaaPBuf
import Derived.Test.YtemhhjagdfkmfaaMarks
namespace Go.Proofs.Ytemhhjagdfkmfaa.low
open Go.RowKit
set_option linter.unusedVariables false

/-- only blocks of T have been written; none is new -/
structure Touch (T : Nat → Prop) (w w' : World) : Prop where
  os : w'.os = w.os
  tape : w'.tape = w.tape
  output : w'.output = w.output
  size : w'.heap.size = w.heap.size
  block : ∀ b, ¬ T b → w'.heap[b]? = w.heap[b]?
theorem Touch.refl (T : Nat → Prop) (w : World) : Touch T w w := ⟨rfl, rfl, rfl, rfl, fun _ _ => rfl⟩
theorem Touch.trans {T : Nat → Prop} {a b c : World} (h : Touch T a b) (k : Touch T b c) : Touch T a c :=
  ⟨k.os.trans h.os, k.tape.trans h.tape, k.output.trans h.output, k.size.trans h.size, fun i hi => (k.block i hi).trans (h.block i hi)⟩
theorem Touch.mono {T T' : Nat → Prop} {w w' : World} (h : Touch T w w') (hT : ∀ b, T b → T' b) : Touch T' w w' := ⟨h.os, h.tape, h.output, h.size, fun b hb => h.block b fun ht => hb (hT b ht)⟩
theorem Touch.setCell {T : Nat → Prop} {a w : World} (h : Touch T a w) {p : Addr} (hp : T p.block) (u : Value) : Touch T a (w.setCell p u) :=
  h.trans ⟨rfl, rfl, rfl, by simp [World.setCell], fun b hb => Below.heap_setCell _ _ _ _ (fun e => hb (by rw [e]; exact hp))⟩
theorem Touch.below {T : Nat → Prop} {B : Nat} {w w' : World} (h : Touch T w w') (hT : ∀ b, T b → B ≤ b) : Below B w w' :=
  ⟨h.os, h.tape, h.output, Nat.le_of_eq h.size.symm, fun k hk => h.block k fun ht => by have := hT k ht; omega⟩
theorem Touch.cell {T : Nat → Prop} {w w' : World} (h : Touch T w w') {p : Addr} (hp : ¬ T p.block) : w'.cell? p = w.cell? p := World.cell?_of_block (w := w) (h.block p.block hp)
theorem own_touch {base n size : Nat} {w w' : World} {T : Nat → Prop} {v : Value} {e : TypeId} {xs : List Value} (h : w.ownsRow base e size v n xs) (ht : Touch T w w') (hn : ∀ k, v.ownBlock = some k → ¬ T k) : w'.ownsRow base e size v n xs :=
  own_keep h fun k hk _ => ht.block k (hn k hk)

/-- the blocks of a value that owns its row -/
def Its (v : Value) (b : Nat) : Prop := v.ownBlock = some b

set_option maxHeartbeats 1600000 in
theorem markIntS_t (base n : Nat) (v : Value) (xs0 : List Value) (k : Int) (w : World) (hown : w.ownsRow base 3 1 v n xs0) (h0 : 0 ≤ k) (h1 : k ≤ 4294967296) (hn : n ≤ 4294967296) :
    Calls Try.prog 19 #[v, .int .i64 k] w fun e w' => e = .returned (.int .i64 (k + (n : Int))) ∧ w'.ownsRow base 3 1 v n ((marks k n).map (Value.int .i64)) ∧ Touch (Its v) w w' := by
  rcases hown.2 with ⟨rfl, rfl⟩ | ⟨g, cap, cur, rfl, hge, _⟩
  · go_enter Try.func19, Try.ntmps19
    go_wp2
    refine wp_loop_rounds 1 ?_
    rw [rounds_succ]
    go_wp2
    go_ret
    exact ⟨by simp, World.ownsRow_nil _ _ _ _, Touch.refl _ _⟩
  · have hxl := hown.1
    go_enter Try.func19, Try.ntmps19
    go_wp2
    go_loopw [1, 5] (fun kk i wr => ∃ (j : Nat) (xs : List Value), j ≤ n ∧ i = .int .i64 j ∧ kk = .int .i64 (k + (j : Int)) ∧ xs.length = n ∧ (∀ t, t < j → xs[t]? = some (.int .i64 (k + (t : Int)))) ∧
        wr.ownsRow base 3 1 (.slice (some ⟨g, 0, none⟩) n cap) n xs ∧ Touch (Its (.slice (some ⟨g, 0, none⟩) n cap)) w wr) (fun _ i _ => n - (intOf i).toNat)
    case atStart => exact ⟨0, xs0, Nat.zero_le _, rfl, by simp, by simpa using hxl, fun t h => absurd h (by omega), hown, Touch.refl _ _⟩
    case round =>
      obtain ⟨j, xs, hj, rfl, rfl, hl, hp, ho, hbel⟩ := hrel
      clear hown hxl
      have HL := Lib.hid hl
      have HP := Lib.hid hp
      have HB := Lib.hid hbel
      clear hl hp hbel
      by_cases hlt : j < n
      · obtain ⟨u, hu⟩ : ∃ u, wr.cell? ⟨g, j, none⟩ = some u := by
          rw [ho.cellAt j (by omega)]
          exact ⟨_, List.getElem?_eq_getElem (by rw [HL.out]; exact hlt)⟩
        have hfz := ho.frozenAt j
        go_wp2
        go_roundw
        case rel =>
          have hst := ho.stored j (.int .i64 (k + (j : Int)))
          exact ⟨j + 1, xs.set j (.int .i64 (k + (j : Int))), by omega, by go_num, by go_num, by rw [List.length_set]; exact HL.out, mark_set (by rw [HL.out]; exact hlt) HP.out, hst.1, HB.out.setCell (p := ⟨g, j, none⟩) rfl _⟩
        case measure => simp [intOf]; omega
      · obtain rfl : j = n := by omega
        go_wp2
        go_ret
        have hxs := marks_all HL.out HP.out
        subst hxs
        exact ⟨rfl, ho, HB.out⟩

theorem signsIn_take (ps : List Pt) (k : Nat) : signsIn (ps.take k) ≤ signsIn ps := by
  unfold signsIn
  induction ps generalizing k with
  | nil => simp
  | cons p ps ih =>
    cases k with
    | zero => simp
    | succ k => rw [List.take_succ_cons, List.map_cons, List.map_cons, List.sum_cons, List.sum_cons]; have := ih k; omega
/-- the number with which the marks of the i-th part begin -/
def kat (k : Int) (ps : List Pt) (i : Nat) : Int := k + 2 * (i : Int) + (signsIn (ps.take i) : Int)
theorem kat_succ {k : Int} {ps : List Pt} {i : Nat} {p : Pt} (h : ps[i]? = some p) : kat k ps (i + 1) = kat k ps i + 1 + 1 + (p.signs.length : Int) := by
  unfold kat
  rw [signsIn_snoc h]
  omega
theorem kat_zero (k : Int) (ps : List Pt) : kat k ps 0 = k := by unfold kat; simp [signsIn]
def markOf (k : Int) (ps : List Pt) (i : Nat) (p : Pt) : Pt := ⟨kat k ps i, kat k ps i + 1, marks (kat k ps i + 1 + 1) p.signs.length⟩
/-- qs is ps with all its numbers replaced by ascending ones -/
def IsMarked (k : Int) (ps qs : List Pt) : Prop := qs.length = ps.length ∧ ∀ (i : Nat) (p : Pt), ps[i]? = some p → qs[i]? = some (markOf k ps i p)
theorem cellsOf_set : ∀ (ps : List Pt) (us : List Value) (i : Nat) (p q : Pt) (a b : Int), us.length = ps.length → ps[i]? = some p → q.kind = a → q.n = b →
    ((cellsOf ps us).set (i * 3) (.int .i64 a)).set (i * 3 + 1) (.int .i64 b) = cellsOf (ps.set i q) us
  | [], us, i, p, q, a, b, _, h, _, _ => by simp at h
  | x :: ps, [], i, p, q, a, b, hl, _, _, _ => by simp at hl
  | x :: ps, u :: us, 0, p, q, a, b, hl, h, ha, hb => by subst ha; subst hb; rfl
  | x :: ps, u :: us, i + 1, p, q, a, b, hl, h, ha, hb => by
    have e0 : (i + 1) * 3 = i * 3 + 1 + 1 + 1 := by omega
    rw [e0]
    show .int .i64 x.kind :: .int .i64 x.n :: u :: ((cellsOf ps us).set (i * 3) (.int .i64 a)).set (i * 3 + 1) (.int .i64 b) = .int .i64 x.kind :: .int .i64 x.n :: u :: cellsOf (ps.set i q) us
    rw [cellsOf_set ps us i p q a b (by simpa using hl) (by simpa using h) ha hb]

theorem idx_lt {α : Type} {l : List α} {i : Nat} {x : α} (h : l[i]? = some x) : i < l.length := by
  rcases Nat.lt_or_ge i l.length with hlt | hge
  · exact hlt
  · rw [List.getElem?_eq_none hge] at h; cases h
theorem idx_some {α : Type} {l : List α} {i : Nat} (h : i < l.length) : ∃ x, l[i]? = some x := ⟨_, List.getElem?_eq_getElem h⟩

/-- blocks from lo to below hi -/
def Span (lo hi b : Nat) : Prop := lo ≤ b ∧ b < hi
def MarkedPs (lo hi : Nat) (v : Value) (k : Int) (ps : List Pt) (w : World) (e : Ending) (w' : World) : Prop :=
  e = .returned (.int .i64 (kat k ps ps.length)) ∧ ∃ qs, IsMarked k ps qs ∧ PBuf lo hi w' v qs ∧ Touch (Span lo hi) w w'

theorem own_ge {w : World} {base n size : Nat} {v : Value} {e : TypeId} {xs : List Value} (h : w.ownsRow base e size v n xs) : ∀ k, v.ownBlock = some k → base ≤ k := by
  intro k hk
  rcases h.2 with ⟨rfl, _⟩ | ⟨g, cap, cur, rfl, hge, _⟩
  · simp [Value.ownBlock] at hk
  · simp [Value.ownBlock] at hk; omega

set_option maxRecDepth 100000 in
set_option maxHeartbeats 3200000 in
theorem markPartS_any (lo hi : Nat) (v : Value) (ps : List Pt) (k : Int) (w : World) (hb : PBuf lo hi w v ps) (h0 : 0 ≤ k) (h1 : k ≤ 1048576) (hn : ps.length ≤ 1048576) (hs : signsIn ps ≤ 1048576) :
    Calls Try.prog 18 #[v, .int .i64 k] w (MarkedPs lo hi v k ps w) := by
  have hb' := hb
  obtain ⟨us, ho, hap, hv, hh, hlo⟩ := hb
  rcases ho.2 with ⟨rfl, hz⟩ | ⟨g, cap, cur, rfl, hge, _⟩
  · have hz' : ps = [] := List.eq_nil_of_length_eq_zero hz
    subst hz'
    go_enter Try.func18, Try.ntmps18
    go_wp2
    refine wp_loop_rounds 1 ?_
    rw [rounds_succ]
    go_wp2
    go_ret
    exact ⟨by rw [show kat k [] ([] : List Pt).length = k from kat_zero k []]; rfl, [], ⟨rfl, fun i p hp => by simp at hp⟩, hb', Touch.refl _ _⟩
  · have hghi := hv g rfl
    have HB' := Lib.hid hb'
    clear hb'
    generalize hnn : ps.length = n at ho hn ⊢
    have HN := Lib.hid hnn
    clear hnn
    go_enter Try.func18, Try.ntmps18
    go_wp2
    go_loopw [1, 5] (fun kk i wr => ∃ (j : Nat) (qs : List Pt), j ≤ n ∧ i = .int .i64 j ∧ kk = .int .i64 (kat k ps j) ∧ qs.length = ps.length ∧ (∀ (i : Nat) (p : Pt), i < j → ps[i]? = some p → qs[i]? = some (markOf k ps i p)) ∧ (∀ i : Nat, j ≤ i → qs[i]? = ps[i]?) ∧
        wr.ownsRow lo 53 3 (.slice (some ⟨g, 0, none⟩) n cap) n (cellsOf qs us) ∧ Apart lo hi wr qs us ∧ Touch (Span lo hi) w wr) (fun _ i _ => n - (intOf i).toNat)
    case atStart => exact ⟨0, ps, Nat.zero_le _, rfl, by rw [kat_zero], rfl, fun i p h => absurd h (by omega), fun i _ => rfl, ho, hap, Touch.refl _ _⟩
    case round =>
      obtain ⟨j, qs, hj, rfl, rfl, hql, hq1, hq2, ho', hap', ht⟩ := hrel
      clear ho hap
      have HQL := Lib.hid hql
      have HQ1 := Lib.hid hq1
      have HQ2 := Lib.hid hq2
      have HAP := Lib.hid hap'
      have HO := Lib.hid ho'
      have HT := Lib.hid ht
      clear hql hq1 hq2 hap' ho' ht
      by_cases hlt : j < n
      · have hj' : j < ps.length := by rw [HN.out]; exact hlt
        obtain ⟨p, hp⟩ := idx_some hj'
        have hqp : qs[j]? = some p := by rw [HQ2.out j (Nat.le_refl _)]; exact hp
        obtain ⟨u, hu⟩ := idx_some (l := us) (i := j) (by rw [HAP.out.1, HQL.out]; exact hj')
        obtain ⟨hou, hbu⟩ := HAP.out.2.1 j p u hqp hu
        have hneu := own_ne hou HO.out (by decide)
        obtain ⟨AA, cc, rfl⟩ := own_form hou
        obtain ⟨c0, c1, c2⟩ := cellsOf_at qs us j p _ hqp hu
        have d0 := (HO.out.cellAt (j * 3) (by omega)).trans c0
        have d1 := (HO.out.cellAt (j * 3 + 1) (by omega)).trans c1
        have d2 := (HO.out.cellAt (j * 3 + 2) (by omega)).trans c2
        have f0 := HO.out.frozenAt (j * 3)
        have f1 := HO.out.frozenAt (j * 3 + 1)
        have K := Lib.hid (kat_succ (k := k) hp)
        have hkb : 0 ≤ kat k ps j ∧ kat k ps j ≤ 4194304 := by
          have hsl : signsIn (ps.take j) ≤ signsIn ps := signsIn_take ps j
          unfold kat; omega
        obtain ⟨hk1, hk2⟩ := hkb
        have hpl : p.signs.length ≤ 1048576 := Nat.le_trans (signsIn_at hp) hs
        have HP := Lib.hid hp
        have HQP := Lib.hid hqp
        have HU := Lib.hid hu
        have HOU := Lib.hid hou
        have HNE := Lib.hid hneu
        have HBU := Lib.hid hbu
        clear hp hqp hu hou hneu c0 c1 c2 hbu
        have HM : Hid (markOf k ps j p = ⟨kat k ps j, kat k ps j + 1, marks (kat k ps j + 1 + 1) p.signs.length⟩) := rfl
        generalize kat k ps j = kk at *
        go_wp2_with fail
        have t1 : Touch (fun b => b = g) wr ((wr.setCell ⟨g, j * 3, none⟩ (.int .i64 kk)).setCell ⟨g, j * 3 + 1, none⟩ (.int .i64 (kk + 1))) := ((Touch.refl (fun b => b = g) wr).setCell (T := fun b => b = g) (p := ⟨g, j * 3, none⟩) rfl _).setCell (T := fun b => b = g) (p := ⟨g, j * 3 + 1, none⟩) rfl _
        have ou1 := own_touch HOU.out t1 (fun b hb e => HNE.out (by rw [hb, e]))
        have ov1 := ((HO.out.stored (j * 3) (.int .i64 kk)).1.stored (j * 3 + 1) (.int .i64 (kk + 1))).1
        refine (markIntS_t lo p.signs.length _ _ (kk + 1 + 1) _ ou1 (by omega) (by omega) (by omega)).mono ?_
        rintro e w2 ⟨rfl, ou2, t2⟩
        have ov2 := own_touch ov1 t2 (fun b hb e => HNE.out (by
          have e2 : g = b := by simpa [Value.ownBlock] using hb
          rw [e2]; exact e))
        have hset := cellsOf_set qs us j p (markOf k ps j p) kk (kk + 1) HAP.out.1 HQP.out (by rw [HM.out]) (by rw [HM.out])
        rw [hset] at ov2
        have HOV := Lib.hid ov2
        have HOU2 := Lib.hid ou2
        have HT1 := Lib.hid t1
        have HT2 := Lib.hid t2
        clear ov2 ou2 t1 t2 ou1 ov1 hset
        go_wp2
        go_roundw
        case rel =>
          have hlen : (qs.set j (markOf k ps j p)).length = ps.length := by rw [List.length_set]; exact HQL.out
          have hjq : j < qs.length := idx_lt HQP.out
          refine ⟨j + 1, qs.set j (markOf k ps j p), by omega, by go_num, by rw [K.out], hlen, ?_, ?_, HOV.out, ⟨by rw [hlen, HAP.out.1]; exact HQL.out, ?_, HAP.out.2.2⟩, ?_⟩
          · intro i q hi hq
            by_cases e : i = j
            · subst e
              rw [HP.out] at hq
              injection hq with hq
              subst hq
              rw [List.getElem?_set_self hjq]
            · rw [List.getElem?_set_ne (by omega)]
              exact HQ1.out i q (by omega) hq
          · intro i hi
            rw [List.getElem?_set_ne (by omega)]
            exact HQ2.out i (by omega)
          · intro i q u' hq hu'
            by_cases e : i = j
            · subst e
              rw [List.getElem?_set_self hjq] at hq
              injection hq with hq
              subst hq
              rw [HU.out] at hu'
              injection hu' with hu'
              subst hu'
              rw [HM.out]
              exact ⟨by simpa [marks_len] using HOU2.out, HBU.out⟩
            · rw [List.getElem?_set_ne (by omega)] at hq
              obtain ⟨o1, o2⟩ := HAP.out.2.1 i q u' hq hu'
              have n1 := own_ne o1 HO.out (by decide)
              refine ⟨own_touch (own_touch o1 HT1.out (fun b hb e => n1 (by rw [hb, e]))) HT2.out (fun b hb hb2 => e (HAP.out.2.2 i j b _ _ hu' HU.out hb hb2)), o2⟩
          · have s1 := HT1.out.mono (T' := Span lo hi) (fun b e => by subst e; exact ⟨hge, hghi⟩)
            have s2 := HT2.out.mono (T' := Span lo hi) (fun b e => ⟨own_ge HOU.out b e, HBU.out b e⟩)
            exact (HT.out.trans s1).trans s2
        case measure => simp [intOf]; omega
      · obtain rfl : j = n := by omega
        go_wp2
        go_ret
        refine ⟨by rw [HN.out]; rfl, qs, ⟨HQL.out, fun i p hp => HQ1.out i p (by rw [← HN.out]; exact idx_lt hp) hp⟩, ⟨us, ?_, HAP.out, hv, by rw [HT.out.size]; exact hh, hlo⟩, HT.out⟩
        rw [HQL.out, HN.out]
        exact HO.out

theorem IsMarked.at_ {k : Int} {ps qs : List Pt} {i : Nat} {p : Pt} (h : IsMarked k ps qs) (hp : ps[i]? = some p) : qs[i]? = some (markOf k ps i p) := h.2 i p hp

set_option maxRecDepth 100000 in
set_option maxHeartbeats 3200000 in
theorem heldPartS_any (A : Option Addr) (c : Nat) (ps qs : List Pt) (k : Int) (w : World) (hm : IsMarked k ps qs) (hr : PRow w w.heap.size A qs) (h0 : 0 ≤ k) (h1 : k ≤ 1048576) (hn : ps.length ≤ 1048576) (hs : signsIn ps ≤ 1048576) :
    Calls Try.prog 23 #[.slice A ps.length c, .int .i64 k] w fun e w' => e = .returned (.int .i64 (kat k ps ps.length)) ∧ w = w' := by
  have HM := Lib.hid hm
  clear hm
  go_enter Try.func23, Try.ntmps23
  go_wp2
  go_loop [1, 5] (fun kk i => ∃ j : Nat, j ≤ ps.length ∧ i = .int .i64 j ∧ kk = .int .i64 (kat k ps j)) (fun _ i => ps.length - (intOf i).toNat)
  case atStart => exact ⟨0, Nat.zero_le _, rfl, by rw [kat_zero]⟩
  case round =>
    obtain ⟨j, hj, rfl, rfl⟩ := hrel
    by_cases hlt : j < ps.length
    · obtain ⟨p, hp⟩ := idx_some hlt
      obtain ⟨b, off, q, rfl, hb, hq, hc⟩ := hr.at_ (k := j) (by rw [HM.out.1]; exact hlt)
      rw [HM.out.at_ hp] at hq
      obtain rfl : markOf k ps j p = q := by injection hq
      clear hq
      obtain ⟨x0, x1, A1, e1, x2, r1⟩ := hc
      have K := Lib.hid (kat_succ (k := k) hp)
      have hkb : 0 ≤ kat k ps j ∧ kat k ps j ≤ 4194304 := by
        have hsl : signsIn (ps.take j) ≤ signsIn ps := signsIn_take ps j
        unfold kat; omega
      obtain ⟨hk1, hk2⟩ := hkb
      have hpl : p.signs.length ≤ 1048576 := Nat.le_trans (signsIn_at hp) hs
      clear hp
      unfold markOf at x0 x1 x2 r1
      simp only [marks_len] at x0 x1 x2 r1
      generalize kat k ps j = kk at *
      go_wp2_with fail
      refine (heldIntS_any A1 e1 p.signs.length (kk + 1 + 1) _ r1 (by omega) (by omega) (by omega)).mono ?_
      rintro e w' ⟨rfl, rfl⟩
      have hnn : 0 ≤ kk + 1 + 1 + (p.signs.length : Int) := by omega
      go_wp2
      go_round
      case rel => exact ⟨j + 1, by omega, by go_num, by rw [K.out]⟩
      case measure => simp [intOf]; omega
    · obtain rfl : j = ps.length := by omega
      go_wp2
      go_ret
      exact ⟨rfl, rfl⟩
end Go.Proofs.Ytemhhjagdfkmfaa.low
