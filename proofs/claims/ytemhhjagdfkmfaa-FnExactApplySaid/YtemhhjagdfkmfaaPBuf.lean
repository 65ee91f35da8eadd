
/-
  Words for memory: a slice of parts of the caller's own, every row apart from every other; the contract of the laws' own toPartS.
-/
import Derived.Test.YtemhhjagdfkmfaaToPart
namespace Go.Proofs.Ytemhhjagdfkmfaa.low
open Go.RowKit
set_option linter.unusedVariables false

/-- the cells of parts whose slices of characters are the values us -/
def cellsOf : List Pt → List Value → List Value
  | p :: ps, u :: us => .int .i64 p.kind :: .int .i64 p.n :: u :: cellsOf ps us
  | _, _ => []
theorem cellsOf_len : ∀ (ps : List Pt) (us : List Value), us.length = ps.length → (cellsOf ps us).length = ps.length * 3
  | [], us, _ => by cases us <;> rfl
  | p :: ps, [], h => by simp at h
  | p :: ps, u :: us, h => by
    show (cellsOf ps us).length + 1 + 1 + 1 = (ps.length + 1) * 3
    rw [cellsOf_len ps us (by simpa using h)]; omega
theorem cellsOf_at : ∀ (ps : List Pt) (us : List Value) (i : Nat) (p : Pt) (u : Value), ps[i]? = some p → us[i]? = some u →
    (cellsOf ps us)[i * 3]? = some (.int .i64 p.kind) ∧ (cellsOf ps us)[i * 3 + 1]? = some (.int .i64 p.n) ∧ (cellsOf ps us)[i * 3 + 2]? = some u
  | [], us, i, p, u, hp, _ => by simp at hp
  | _ :: _, [], i, p, u, _, hu => by simp at hu
  | q :: ps, v :: us, 0, p, u, hp, hu => by
    simp at hp hu
    subst hp; subst hu
    exact ⟨rfl, rfl, rfl⟩
  | q :: ps, v :: us, i + 1, p, u, hp, hu => by
    have := cellsOf_at ps us i p u (by simpa using hp) (by simpa using hu)
    have e0 : (i + 1) * 3 = i * 3 + 1 + 1 + 1 := by omega
    rw [e0]
    exact this
theorem cellsOf_snoc : ∀ (ps : List Pt) (us : List Value) (p : Pt) (u : Value), us.length = ps.length → cellsOf (ps ++ [p]) (us ++ [u]) = cellsOf ps us ++ [.int .i64 p.kind, .int .i64 p.n, u]
  | [], [], p, u, _ => rfl
  | [], _ :: _, p, u, h => by simp at h
  | _ :: _, [], p, u, h => by simp at h
  | q :: ps, v :: us, p, u, h => by
    show .int .i64 q.kind :: .int .i64 q.n :: v :: cellsOf (ps ++ [p]) (us ++ [u]) = _
    rw [cellsOf_snoc ps us p u (by simpa using h)]
    rfl
theorem take_set3 {xs : List Value} {j : Nat} {a b c : Value} (h : j * 3 + 3 ≤ xs.length) :
    (((xs.set (j * 3) a).set (j * 3 + 1) b).set (j * 3 + 2) c).take ((j + 1) * 3) = xs.take (j * 3) ++ [a, b, c] := by
  have e : (j + 1) * 3 = j * 3 + 1 + 1 + 1 := by omega
  rw [e, List.take_add_one, List.take_add_one, List.take_add_one]
  rw [List.take_set_of_le (by omega), List.take_set_of_le (by omega), List.take_set_of_le (by omega)]
  have h0 : (((xs.set (j * 3) a).set (j * 3 + 1) b).set (j * 3 + 2) c)[j * 3]? = some a := by
    rw [List.getElem?_set_ne (by omega), List.getElem?_set_ne (by omega), List.getElem?_set_self (by omega)]
  have h1 : (((xs.set (j * 3) a).set (j * 3 + 1) b).set (j * 3 + 2) c)[j * 3 + 1]? = some b := by
    rw [List.getElem?_set_ne (by omega), List.getElem?_set_self (by simp; omega)]
  have h2 : (((xs.set (j * 3) a).set (j * 3 + 1) b).set (j * 3 + 2) c)[j * 3 + 1 + 1]? = some c := by
    rw [List.getElem?_set_self (by simp; omega)]
  rw [h0, h1, h2]
  simp

/-- each slice of characters is a row of its own, in blocks from lo to below hi, no two in one block -/
def Apart (lo hi : Nat) (w : World) (ps : List Pt) (us : List Value) : Prop :=
  us.length = ps.length ∧ (∀ (i : Nat) (p : Pt) (u : Value), ps[i]? = some p → us[i]? = some u → w.ownsRow lo 3 1 u p.signs.length (p.signs.map (Value.int .i64)) ∧ ∀ k, u.ownBlock = some k → k < hi) ∧
  ∀ (i j k : Nat) (u v : Value), us[i]? = some u → us[j]? = some v → u.ownBlock = some k → v.ownBlock = some k → i = j
/-- v is a slice of parts of the caller's own, in blocks from lo to below hi -/
def PBuf (lo hi : Nat) (w : World) (v : Value) (ps : List Pt) : Prop :=
  ∃ us, w.ownsRow lo 53 3 v ps.length (cellsOf ps us) ∧ Apart lo hi w ps us ∧ (∀ k, v.ownBlock = some k → k < hi) ∧ hi ≤ w.heap.size ∧ lo ≤ hi

theorem own_form {w : World} {base n size : Nat} {v : Value} {e : TypeId} {xs : List Value} (h : w.ownsRow base e size v n xs) : ∃ A c, v = .slice A n c := by
  rcases h.2 with ⟨rfl, h0⟩ | ⟨g, cap, cur, rfl, _⟩
  · subst h0; exact ⟨none, 0, rfl⟩
  · exact ⟨_, cap, rfl⟩
theorem own_row {w : World} {base n hi c : Nat} {A : Option Addr} {zs : List Int} (h : w.ownsRow base 3 1 (.slice A n c) n (zs.map (Value.int .i64))) (hk : ∀ k, (Value.slice A n c).ownBlock = some k → k < hi) : Row (Value.int .i64) w hi A zs := fun hn => by
  obtain ⟨ad, e, _, hc⟩ := Row.of_own h hn
  subst e
  exact ⟨ad, rfl, hk ad.block rfl, hc⟩
theorem PBuf.slice {lo hi : Nat} {w : World} {v : Value} {ps : List Pt} (h : PBuf lo hi w v ps) : ∃ A c, v = .slice A ps.length c ∧ PRow w hi A ps := by
  obtain ⟨us, ho, ⟨hl, hu, _⟩, hv, hh, hlo⟩ := h
  rcases ho.2 with ⟨rfl, h0⟩ | ⟨g, cap, cur, rfl, hge, hhg, _⟩
  · have : ps = [] := List.eq_nil_of_length_eq_zero h0
    subst this
    exact ⟨none, 0, rfl, PRow.nil⟩
  · refine ⟨_, cap, rfl, fun hn => ⟨g, 0, rfl, hv g rfl, fun i p hp => ?_⟩⟩
    have hi' : i < ps.length := by
      rcases Nat.lt_or_ge i ps.length with hlt | hge
      · exact hlt
      · rw [List.getElem?_eq_none hge] at hp; cases hp
    obtain ⟨u, hui⟩ : ∃ u, us[i]? = some u := ⟨_, List.getElem?_eq_getElem (by omega)⟩
    obtain ⟨c0, c1, c2⟩ := cellsOf_at ps us i p u hp hui
    obtain ⟨hou, hbu⟩ := hu i p u hp hui
    obtain ⟨A, c, rfl⟩ := own_form hou
    refine ⟨?_, ?_, A, c, ?_, own_row hou hbu⟩
    · rw [Nat.zero_add, ho.cellAt (i * 3) (by omega), c0]
    · rw [Nat.zero_add, ho.cellAt (i * 3 + 1) (by omega), c1]
    · rw [Nat.zero_add, ho.cellAt (i * 3 + 2) (by omega), c2]

theorem part_info : (Try.prog.info? 53).map (fun i => (i.zero, i.size, i.bytes)) = some (some (.agg #[.int .i64 0, .int .i64 0, .slice none 0 0]), 3, 40) := by kernel_rfl
theorem own_past3 {base n cap g size : Nat} {w w' : World} {e : TypeId} {xs : List Value} (h : w.ownsRow base e size (.slice (some ⟨g, 0, none⟩) n cap) n xs) (hb : Below w.heap.size w w') : w'.ownsRow base e size (.slice (some ⟨g, 0, none⟩) n cap) n xs := by
  refine ⟨h.1, ?_⟩
  rcases h.2 with ⟨hn, _⟩ | ⟨g', cap', cur, hv, hge, hh, hr⟩
  · cases hn
  · exact .inr ⟨g', cap', cur, hv, hge, (hb.block g' (lt_of_some hh)).trans hh, hr⟩
theorem own_keep {base n size : Nat} {w w' : World} {v : Value} {e : TypeId} {xs : List Value} (h : w.ownsRow base e size v n xs) (hk : ∀ k, v.ownBlock = some k → k < w.heap.size → w'.heap[k]? = w.heap[k]?) : w'.ownsRow base e size v n xs := by
  refine ⟨h.1, ?_⟩
  rcases h.2 with hn | ⟨g, cap, cur, rfl, hge, hh, hr⟩
  · exact .inl hn
  · exact .inr ⟨g, cap, cur, rfl, hge, (hk g rfl (lt_of_some hh)).trans hh, hr⟩
/-- rows of numbers and rows of parts never share a block -/
theorem own_ne {base base' n n' cap g size size' : Nat} {w : World} {v : Value} {e e' : TypeId} {xs xs' : List Value} (h : w.ownsRow base e size v n xs) (h' : w.ownsRow base' e' size' (.slice (some ⟨g, 0, none⟩) n' cap) n' xs') (hne : ¬ e = e') : ¬ v.ownBlock = some g := by
  rcases h.2 with ⟨rfl, _⟩ | ⟨g1, cap1, cur1, rfl, _, h1, _⟩
  · simp [Value.ownBlock]
  · rcases h'.2 with ⟨hn, _⟩ | ⟨g2, cap2, cur2, hv, _, h2, _⟩
    · cases hn
    · injection hv with e1 _ _
      injection e1 with e1
      injection e1 with e1
      subst e1
      intro he
      have : g1 = g := by simpa [Value.ownBlock] using he
      subst this
      rw [h1] at h2
      injection h2 with h2
      injection h2 with _ ht
      exact hne ht
theorem Apart.keep {lo hi hi' : Nat} {w w' : World} {ps : List Pt} {us : List Value} (h : Apart lo hi w ps us) (hh : hi ≤ hi') (hk : ∀ (i : Nat) (u : Value) (k : Nat), us[i]? = some u → u.ownBlock = some k → k < w.heap.size → w'.heap[k]? = w.heap[k]?) : Apart lo hi' w' ps us := by
  obtain ⟨h1, h2, h3⟩ := h
  refine ⟨h1, fun i p u hp hu => ?_, h3⟩
  obtain ⟨ho, hb⟩ := h2 i p u hp hu
  exact ⟨own_keep ho (fun k hk1 hk2 => hk i u k hu hk1 hk2), fun k hk1 => Nat.lt_of_lt_of_le (hb k hk1) hh⟩
theorem Apart.snoc {lo hi : Nat} {w : World} {ps : List Pt} {us : List Value} {p : Pt} {u : Value} (h : Apart lo hi w ps us) (ho : w.ownsRow lo 3 1 u p.signs.length (p.signs.map (Value.int .i64))) (hb : ∀ k, u.ownBlock = some k → k < hi)
    (hn : ∀ (i : Nat) (v : Value) (k : Nat), us[i]? = some v → v.ownBlock = some k → ¬ u.ownBlock = some k) : Apart lo hi w (ps ++ [p]) (us ++ [u]) := by
  obtain ⟨h1, h2, h3⟩ := h
  refine ⟨by simp [h1], fun i q v hq hv => ?_, fun i j k a b ha hb' hka hkb => ?_⟩
  · by_cases hi' : i < ps.length
    · rw [List.getElem?_append_left hi'] at hq
      rw [List.getElem?_append_left (by omega)] at hv
      exact h2 i q v hq hv
    · have e : i = ps.length := by
        rcases Nat.lt_or_ge i (ps.length + 1) with h | h
        · omega
        · rw [List.getElem?_eq_none (by simpa using h)] at hq; cases hq
      subst e
      rw [List.getElem?_append_right (Nat.le_refl _)] at hq
      rw [List.getElem?_append_right (by omega)] at hv
      simp [h1] at hq hv
      subst hq; subst hv
      exact ⟨ho, hb⟩
  · by_cases hi' : i < us.length
    · rw [List.getElem?_append_left hi'] at ha
      by_cases hj : j < us.length
      · rw [List.getElem?_append_left hj] at hb'
        exact h3 i j k a b ha hb' hka hkb
      · have e : j = us.length := by
          rcases Nat.lt_or_ge j (us.length + 1) with h | h
          · omega
          · rw [List.getElem?_eq_none (by simpa using h)] at hb'; cases hb'
        subst e
        rw [List.getElem?_append_right (Nat.le_refl _)] at hb'
        simp at hb'
        subst hb'
        exact absurd hkb (hn i a k ha hka)
    · have e : i = us.length := by
        rcases Nat.lt_or_ge i (us.length + 1) with h | h
        · omega
        · rw [List.getElem?_eq_none (by simpa using h)] at ha; cases ha
      subst e
      rw [List.getElem?_append_right (Nat.le_refl _)] at ha
      simp at ha
      subst ha
      by_cases hj : j < us.length
      · rw [List.getElem?_append_left hj] at hb'
        exact absurd hka (hn j b k hb' hkb)
      · have e : j = us.length := by
          rcases Nat.lt_or_ge j (us.length + 1) with h | h
          · omega
          · rw [List.getElem?_eq_none (by simpa using h)] at hb'; cases hb'
        omega
theorem blk_lt {g n c k hi : Nat} (h : (Value.slice (some ⟨g, 0, none⟩) n c).ownBlock = some k) (hg : g < hi) : k < hi := by
  have : g = k := by simpa [Value.ownBlock] using h
  omega
theorem take_pt {ps : List Pt} {k : Nat} {p : Pt} (h : ps[k]? = some p) : ps.take (k + 1) = ps.take k ++ [p] := by rw [List.take_add_one, h]; rfl

/-- it returns a slice of parts of its own -/
def PsPost (ps : List Pt) (w : World) (e : Ending) (w' : World) : Prop := ∃ v, e = .returned v ∧ PBuf w.heap.size w'.heap.size w' v ps ∧ Below w.heap.size w w'

set_option maxHeartbeats 3200000 in
theorem toPartS_any (A : Option Addr) (c : Nat) (ps : List Pt) (w : World) (hr : PRow w w.heap.size A ps) (hl : ps.length ≤ 1048576) (hls : ∀ p ∈ ps, p.signs.length ≤ 1048576) :
    Calls Try.prog 15 #[.slice A ps.length c] w (PsPost ps w) := by
  obtain ⟨i0, hi0, hz0, hz1, hz2⟩ := info_parts part_info
  go_enter Try.func15, Try.ntmps15
  go_wp2_with (at_make; refine wpList_make_full _ rfl _ _ 30 rfl w.heap.size 53 i0 (.agg #[.int .i64 0, .int .i64 0, .slice none 0 0]) 3 Try.underlying30 hi0 hz0 hz1 _ _ _ _ ps.length rfl rfl (by omega) (by omega) (by rw [hz2]; omega) (by unfold maxLen; omega) (Nat.le_refl _) ?_; intro w1 hown hg)
  have hbel : Below w.heap.size w w1 := (Below.refl _ _).grown hg (Nat.le_refl _) (fun _ h => by cases h)
  generalize hxs : (madeCells (Value.agg #[.int .i64 0, .int .i64 0, .slice none 0 0]).cells (ps.length * 3)).toList = xs0 at hown
  clear hxs hg
  go_loopw [4] (fun i wr => ∃ (j : Nat) (xs us : List Value), j ≤ ps.length ∧ i = .int .i64 j ∧ wr.ownsRow w.heap.size 53 3 (.slice (some ⟨w.heap.size, 0, none⟩) ps.length ps.length) ps.length xs ∧
      xs.take (j * 3) = cellsOf (ps.take j) us ∧ Apart w.heap.size wr.heap.size wr (ps.take j) us ∧ Below w.heap.size w wr) (fun i _ => ps.length - (intOf i).toNat)
  case atStart => exact ⟨0, xs0, [], Nat.zero_le _, rfl, hown, rfl, ⟨rfl, fun i p u hp _ => by simp at hp, fun i j k u v hu _ _ _ => by simp at hu⟩, hbel⟩
  case round =>
    obtain ⟨j, xs, us, hj, rfl, ho, hx, hap, hb⟩ := hrel
    clear hown hbel
    have HX := Lib.hid hx
    have HAP := Lib.hid hap
    clear hx hap
    by_cases hlt : j < ps.length
    · obtain ⟨b, off, p, rfl, hbb, hp, hc⟩ := hr.at_ hlt
      obtain ⟨x0, x1, A1, e1, x2, r1⟩ := hc.keep (w' := wr) hbb (fun _ hq => hb.cell hq)
      have hsp := hls p (List.mem_of_getElem? hp)
      have HP := Lib.hid hp
      clear hp hc
      have HO := Lib.hid ho
      clear ho
      go_wp2_with fail
      refine (toPart_any p A1 e1 wr (r1.more hb.size) (by omega)).mono ?_
      rintro e w2 ⟨g2, rfl, hg2, hg2', ho2, b2⟩
      have ho3 := own_past3 HO.out b2
      have hcell : ∀ t, t < 3 → ∃ u, w2.cell? ⟨w.heap.size, j * 3 + t, none⟩ = some u := fun t ht => by
        rw [ho3.cellAt (j * 3 + t) (by omega)]
        exact ⟨_, List.getElem?_eq_getElem (by rw [ho3.1]; omega)⟩
      obtain ⟨u0, hu0⟩ := hcell 0 (by omega)
      obtain ⟨u1, hu1⟩ := hcell 1 (by omega)
      obtain ⟨u2, hu2⟩ := hcell 2 (by omega)
      have f0 := ho3.frozenAt (j * 3)
      have f1 := ho3.frozenAt (j * 3 + 1)
      have f2 := ho3.frozenAt (j * 3 + 2)
      rw [Nat.add_zero] at hu0
      clear hcell
      have HO2 := Lib.hid ho2
      have HO3 := Lib.hid ho3
      clear ho2 ho3
      go_wp2
      go_roundw
      case rel =>
        have s1 := (HO3.out.stored (j * 3) (.int .i64 p.kind)).1
        have s2 := (s1.stored (j * 3 + 1) (.int .i64 p.n)).1
        have s3 := (s2.stored (j * 3 + 2) (.slice (some ⟨g2, 0, none⟩) p.signs.length p.signs.length)).1
        have hxl := HO3.out.1
        have hul := HAP.out.1
        have a2 : Apart w.heap.size w2.heap.size w2 (ps.take j ++ [p]) (us ++ [.slice (some ⟨g2, 0, none⟩) p.signs.length p.signs.length]) := by
          refine (HAP.out.keep b2.size (fun i u k hu hk1 hk2 => b2.block k hk2)).snoc (own_lower HO2.out hb.size) (fun k hk => blk_lt hk hg2') ?_
          intro i v k hv hk he
          have e2 : g2 = k := by simpa [Value.ownBlock] using he
          have hi' : i < us.length := by
            rcases Nat.lt_or_ge i us.length with h | h
            · exact h
            · rw [List.getElem?_eq_none h] at hv; cases hv
          obtain ⟨q, hq⟩ : ∃ q, (ps.take j)[i]? = some q := ⟨_, List.getElem?_eq_getElem (by omega)⟩
          have := (HAP.out.2.1 i q v hq hv).2 k hk
          omega
        refine ⟨j + 1, _, us ++ [.slice (some ⟨g2, 0, none⟩) p.signs.length p.signs.length], by omega, by go_num, s3, ?_, ?_, ?_⟩
        · rw [take_set3 (by omega), HX.out, take_pt HP.out, cellsOf_snoc _ _ _ _ hul]
        · rw [take_pt HP.out]
          refine a2.keep (by simp [World.setCell]) (fun i u k hu hk1 hk2 => ?_)
          have hi' : i < (ps.take j ++ [p]).length := by
            rw [← a2.1]
            rcases Nat.lt_or_ge i (us ++ [Value.slice (some ⟨g2, 0, none⟩) p.signs.length p.signs.length]).length with h | h
            · exact h
            · rw [List.getElem?_eq_none h] at hu; cases hu
          obtain ⟨q, hq⟩ : ∃ q, (ps.take j ++ [p])[i]? = some q := ⟨_, List.getElem?_eq_getElem hi'⟩
          have hne := own_ne (a2.2.1 i q u hq hu).1 HO3.out (by decide)
          have hkne : k ≠ w.heap.size := fun e => hne (by rw [hk1, e])
          rw [Below.heap_setCell _ _ _ _ hkne, Below.heap_setCell _ _ _ _ hkne, Below.heap_setCell _ _ _ _ hkne]
        · exact (((hb.trans (b2.mono hb.size)).setCell (Nat.le_refl _) _).setCell (Nat.le_refl _) _).setCell (Nat.le_refl _) _
      case measure => simp [intOf]; omega
    · obtain rfl : j = ps.length := by omega
      go_wp2
      go_ret
      have hxl := ho.1
      have e1 : xs = cellsOf ps us := by have := HX.out; rwa [List.take_of_length_le (by omega), List.take_of_length_le (Nat.le_refl _)] at this
      have a1 := HAP.out
      rw [List.take_of_length_le (Nat.le_refl _)] at a1
      subst e1
      exact ⟨_, rfl, ⟨us, ho, a1, fun k hk => blk_lt hk (own_lt ho), Nat.le_refl _, hb.size⟩, hb⟩
end Go.Proofs.Ytemhhjagdfkmfaa.low
