
/-
  Applying several operations, and the idle operation: the functions on lists, and the contracts of spec.ApplyAll and spec.Idle.
-/
import Derived.Test.YtemhhjagdfkmfaaSpecApply
namespace Go.Proofs.Ytemhhjagdfkmfaa.low
open Go.RowKit
set_option linter.unusedVariables false

def idleB (ps : List Pt) : Bool := okOp ps && (putsN ps == 0) && (dropsN ps == 0)
def stepAll (s : Option (List Int)) (ps : List Pt) : Option (List Int) := match s with
  | none => none
  | some t => if fitsB ps t = true then some (applyT ps t) else none
def foldAll (l : List (List Pt)) (t : List Int) : Option (List Int) := l.foldl stepAll (some t)
def applyAllB (l : List (List Pt)) (t : List Int) : Bool := (foldAll l t).isSome && okText t
def applyAllT (l : List (List Pt)) (t : List Int) : List Int := if applyAllB l t = true then (foldAll l t).getD [] else []
theorem foldAll_snoc {l : List (List Pt)} {t : List Int} {k : Nat} {ps : List Pt} (h : l[k]? = some ps) : foldAll (l.take (k + 1)) t = stepAll (foldAll (l.take k) t) ps := by
  unfold foldAll
  rw [List.take_add_one, h]
  simp
theorem fold_none (l : List (List Pt)) : l.foldl stepAll none = none := by
  induction l with
  | nil => rfl
  | cons p l ih => exact ih
theorem foldAll_none {l : List (List Pt)} {t : List Int} {k : Nat} (h : foldAll (l.take k) t = none) : foldAll l t = none := by
  have e : foldAll l t = (l.drop k).foldl stepAll (foldAll (l.take k) t) := by
    unfold foldAll
    rw [← List.foldl_append, List.take_append_drop]
  rw [e, h, fold_none]
/-- what stands behind k operations is the text itself or short -/
theorem foldAll_len {l : List (List Pt)} {t cur : List Int} {k : Nat} (hk : k ≤ l.length) (h : foldAll (l.take k) t = some cur) : cur.length ≤ max t.length 200 := by
  cases k with
  | zero =>
    have : cur = t := by simpa [foldAll] using h.symm
    rw [this]
    omega
  | succ k =>
    obtain ⟨ps, hp⟩ := idx_some (l := l) (i := k) (by omega)
    rw [foldAll_snoc hp] at h
    cases hq : foldAll (l.take k) t with
    | none => rw [hq] at h; cases h
    | some u =>
      rw [hq] at h
      unfold stepAll at h
      simp only at h
      split at h
      · injection h with h
        rw [← h]
        have := apply_len ps u
        omega
      · cases h
theorem applyAll_small {l : List (List Pt)} {t : List Int} (h0 : SmPP l) (h1 : SmI t) : SmI (applyAllT l t) := by
  unfold SmI at *
  unfold applyAllT
  split
  · cases h : foldAll l t with
    | none => simp
    | some cur =>
      have := foldAll_len (l := l) (t := t) (k := l.length) (Nat.le_refl _) (by rw [List.take_length]; exact h)
      simp only [Option.getD_some]
      omega
  · simp

set_option maxHeartbeats 1600000 in
theorem specIdle_d (v : Value) (ps : List Pt) (w : World) (h : RdC w w.heap.size (encPs ps) v) (hs : SmP ps) : Calls Try.prog 32 #[v] w (Tells (idleB ps) w) := by
  obtain ⟨A, c, rfl, hr, _⟩ := parts_rd h
  have hl := hs.1
  cases ho : okOp ps
  · have HS := Lib.hid (show idleB ps = false by unfold idleB; rw [ho]; rfl)
    go_enter Try.func32, Try.ntmps32
    go_wp2_with fail
    refine (specOpOk_any A c ps _ hr (by omega) hs.all4).mono ?_
    rintro e w1 ⟨rfl, b1⟩
    rw [ho]
    go_wp2
    go_ret
    exact ⟨ret_bool (by rw [HS.out]), b1⟩
  · cases hp : (putsN ps == 0)
    · have HS := Lib.hid (show idleB ps = false by unfold idleB; rw [ho, hp]; rfl)
      go_enter Try.func32, Try.ntmps32
      go_wp2_with fail
      refine (specOpOk_any A c ps _ hr (by omega) hs.all4).mono ?_
      rintro e w1 ⟨rfl, b1⟩
      rw [ho]
      go_wp2_with fail
      refine (specPuts_any A c ps _ (hr.past b1) (by omega) hs.all4).mono ?_
      rintro e w2 ⟨rfl, b2⟩
      go_wp2
      go_ret
      exact ⟨ret_bool (by rw [HS.out]), b1.trans (b2.mono b1.size)⟩
    · have HS := Lib.hid (show idleB ps = (dropsN ps == 0) by unfold idleB; rw [ho, hp]; rfl)
      go_enter Try.func32, Try.ntmps32
      go_wp2_with fail
      refine (specOpOk_any A c ps _ hr (by omega) hs.all4).mono ?_
      rintro e w1 ⟨rfl, b1⟩
      rw [ho]
      go_wp2_with fail
      refine (specPuts_any A c ps _ (hr.past b1) (by omega) hs.all4).mono ?_
      rintro e w2 ⟨rfl, b2⟩
      have d2 := b1.trans (b2.mono b1.size)
      go_wp2_with fail
      refine (specDrops_any A c ps _ (hr.past d2) (by omega) hs.all4).mono ?_
      rintro e w3 ⟨rfl, b3⟩
      go_wp2
      go_ret
      exact ⟨ret_bool (by rw [HS.out]), d2.trans (b3.mono d2.size)⟩

theorem nilOwn (d : Dat) {e : TypeId} {sz lo : Nat} (w : World) (hd : d = .rows e sz []) (h : lo ≤ w.heap.size) : Own lo w.heap.size w d (.slice none 0 0) := by
  subst hd
  exact ⟨[], ⟨[], [], World.ownsRow_nil _ _ _ _, ⟨rfl, rfl⟩, rfl⟩, by simp, fun b hb => by simp at hb, Nat.le_refl _, h⟩
theorem ownInts {lo : Nat} {w : World} {A : Option Addr} {n c : Nat} {zs : List Int} (h : w.ownsRow lo 3 1 (.slice A n c) zs.length (zs.map (Value.int .i64))) (hlo : lo ≤ w.heap.size) : Own lo w.heap.size w (encInts zs) (.slice A n c) :=
  ⟨_, ow_ints h, by cases A <;> simp [Value.ownBlock], fun b hb => by
    have hb' : (Value.slice A n c).ownBlock = some b := by simpa using hb
    exact ⟨own_ge h b hb', own_in h hb'⟩, Nat.le_refl _, hlo⟩

set_option maxRecDepth 100000 in
set_option maxHeartbeats 3200000 in
theorem specApplyAll_d (v v' : Value) (l : List (List Pt)) (t : List Int) (w : World) (h : RdC w w.heap.size (encPss l) v) (h' : RdC w w.heap.size (encInts t) v') (hs : SmPP l) (hs' : SmI t) : Calls Try.prog 27 #[v, v'] w (ResB (encInts (applyAllT l t)) (applyAllB l t) w) := by
  obtain ⟨A, c, rfl⟩ := pss_len h
  obtain ⟨A', c', rfl, hr', _⟩ := ints_rd h'
  have hl := hs.1
  have ht : t.length ≤ 1048576 := hs'
  have hib : (w.alloc (.cells #[] 3)).ownsRow w.heap.size 3 1 (.slice (some ⟨w.heap.size, 0, none⟩) 0 0) 0 [] := ⟨rfl, .inr ⟨w.heap.size, 0, #[], rfl, Nat.le_refl _, heap_alloc_new w _, Nat.le_refl _, by unfold maxLen; omega, rfl, rfl⟩⟩
  have hb0 := alloc_below w (.cells #[] 3)
  go_enter Try.func27, Try.ntmps27
  go_wp2_with (at_builtin; refine wpList_append_ints rfl (.tmp 11) (.tmp 12) rfl w.heap.size (.slice (some ⟨w.heap.size, 0, none⟩) 0 0) [] rfl hib A' t.length c' t rfl rfl (hr'.past hb0) (by simp; omega) hb0.size ?_; intro An cn wn hon hgn)
  have hbn := hb0.grown hgn hb0.size (fun q hq => own_ge hib q hq)
  simp only [List.nil_append, List.length_nil, Nat.zero_add] at hon
  go_loopw [6, 16] (fun o i wr => ∃ (k : Nat) (cur : List Int), k ≤ l.length ∧ i = .int .i64 k ∧ foldAll (l.take k) t = some cur ∧ Own w.heap.size wr.heap.size wr (encInts cur) o ∧ Below w.heap.size w wr) (fun _ i _ => l.length - (intOf i).toNat)
  case atStart => exact ⟨0, t, Nat.zero_le _, rfl, rfl, ownInts hon hbn.size, hbn⟩
  case round =>
    obtain ⟨k, cur, hk, rfl, hf, ho, hbel⟩ := hrel
    clear hon hgn hib hb0 hbn
    have HF := Lib.hid hf
    have hcl := foldAll_len hk hf
    clear hf
    by_cases hlt : k < l.length
    · obtain ⟨ad, ps, A1, c1, rfl, hb, hp, hc, hpr⟩ := pss_at (h.below hbel) hlt
      have K1 := Lib.hid (foldAll_snoc (t := t) hp)
      rw [HF.out] at K1
      have hsp := hs.all ps (List.mem_of_getElem? hp)
      clear hp
      obtain ⟨Ao, co, rfl⟩ := sliceI ho.read
      have HO := Lib.hid ho
      have HPR := Lib.hid (RdC.more hbel.size _ _ hpr)
      clear ho hpr
      have hsc : SmI cur := by unfold SmI; omega
      go_wp2_with fail
      refine (specApply_d _ _ ps cur _ HPR.out HO.out.read hsp hsc).mono ?_
      rintro e w1 ⟨v1, rfl, o1, b1⟩
      obtain ⟨A3, c3, rfl⟩ := sliceI o1.read
      have HO1 := Lib.hid o1
      clear o1
      cases hfit : fitsB ps cur
      · have HN := Lib.hid (show applyAllB l t = false ∧ applyAllT l t = [] by
          have : foldAll l t = none := foldAll_none (k := k + 1) (by rw [K1.out]; simp [stepAll, hfit])
          have e1 : applyAllB l t = false := by unfold applyAllB; rw [this]; rfl
          exact ⟨e1, by unfold applyAllT; rw [e1]; rfl⟩)
        go_wp2
        go_ret2
        rw [HN.out.1, HN.out.2]
        exact ⟨_, rfl, nilOwn _ _ rfl (hbel.trans (b1.mono hbel.size)).size, hbel.trans (b1.mono hbel.size)⟩
      · have K2 := Lib.hid (show foldAll (l.take (k + 1)) t = some (applyT ps cur) by rw [K1.out]; simp [stepAll, hfit])
        go_wp2
        go_roundw
        case rel => exact ⟨k + 1, applyT ps cur, by omega, by go_num, K2.out, HO1.out.wide hbel.size (Nat.le_refl _) (Nat.le_refl _), hbel.trans (b1.mono hbel.size)⟩
        case measure => simp [intOf]; omega
    · have hke : l.take k = l := List.take_of_length_le (by omega)
      have HF2 := Lib.hid (show foldAll l t = some cur by rw [← HF.out, hke])
      obtain ⟨Ao, co, rfl⟩ := sliceI ho.read
      have HO := Lib.hid ho
      clear ho
      go_wp2_with fail
      refine (specTextOk_d _ t _ (h'.past hbel) hs').mono ?_
      rintro e w1 ⟨rfl, b1⟩
      cases htx : okText t
      · have HN := Lib.hid (show applyAllB l t = false ∧ applyAllT l t = [] by
          have e1 : applyAllB l t = false := by unfold applyAllB; rw [htx, Bool.and_false]
          exact ⟨e1, by unfold applyAllT; rw [e1]; rfl⟩)
        go_wp2
        go_ret2
        rw [HN.out.1, HN.out.2]
        exact ⟨_, rfl, nilOwn _ _ rfl (hbel.trans (b1.mono hbel.size)).size, hbel.trans (b1.mono hbel.size)⟩
      · have HN := Lib.hid (show applyAllB l t = true ∧ applyAllT l t = cur by
          have e1 : applyAllB l t = true := by unfold applyAllB; rw [htx, HF2.out]; rfl
          exact ⟨e1, by unfold applyAllT; rw [if_pos e1, HF2.out]; rfl⟩)
        go_wp2
        go_ret2
        rw [HN.out.1, HN.out.2]
        exact ⟨_, rfl, (HO.out.past b1).wide (Nat.le_refl _) b1.size (Nat.le_refl _), hbel.trans (b1.mono hbel.size)⟩
end Go.Proofs.Ytemhhjagdfkmfaa.low
