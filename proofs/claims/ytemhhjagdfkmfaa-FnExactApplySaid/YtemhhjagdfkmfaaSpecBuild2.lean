
/-
  Contracts of the specification's builder: spec.l02Put, l02Drop.
-/
import Derived.Test.YtemhhjagdfkmfaaSpecBuild
namespace Go.Proofs.Ytemhhjagdfkmfaa.low
open Go.RowKit
set_option linter.unusedVariables false

theorem run_append_zero {P : Program} {w : World} (base : Nat) (t ty e : TypeId) (i : TypeInfo) (size : Nat) (ht : P.underlying t = some (.slice e)) (hi : P.info? e = some i)
    (v : Value) (n : Nat) (xs : List Value) (hown : w.ownsRow base e size v n xs) (A : Option Addr) (c : Nat) :
    (Builtin.append_ #[t, t] ty #[v, .slice A 0 c]).run P w = .ok v w := by
  rcases hown.2 with ⟨rfl, rfl⟩ | ⟨g, cap, cur, rfl, _, _, hnc, _⟩
  · cases A <;> simp [Builtin.append_, run_underlying ht, sizeOf, typeInfo, hi, Builtin.lenOf, Builtin.firstCells, loadCells, loadCellsFrom]
  · cases A <;> simp [Builtin.append_, run_underlying ht, sizeOf, typeInfo, hi, Builtin.lenOf, Builtin.firstCells, loadCells, loadCellsFrom, hnc, storeCells]
theorem wpList_append_zero {P : Program} {w : World} {ops : Array Oper} {rest : List Oper} {o : Oper} {a : Act} {Q : Exit → Act → World → Prop} (hgd : o.guard = none) (s x : Operand) (t : TypeId)
    (ho : o.op = .call { callee := .builtin .append, args := #[s, x], argTypes := #[t, t] })
    (base : Nat) (e : TypeId) (i : TypeInfo) (size : Nat) (ht : P.underlying t = some (.slice e)) (hi : P.info? e = some i)
    (v : Value) (n : Nat) (xs : List Value) (hs : a.eval s = v) (hown : w.ownsRow base e size v n xs) (A : Option Addr) (c : Nat) (hx : a.eval x = .slice A 0 c)
    (h : wpList P ops Q rest (a.put o.dst v) w) : wpList P ops Q (o :: rest) a w := by
  refine wpList_plain hgd fun K hK => ?_
  have hrun := run_append_zero (P := P) (w := w) base t o.type e i size ht hi v n xs hown A c
  unfold Oper.wp
  simp [execOp, ho, resolve, invoke, builtin, hs, hx, hrun, Result.andThen]
  exact hK _ _ h

theorem Apart.far {lo hi : Nat} {w : World} {ps : List Pt} {us : List Value} {p : Pt} {u : Value} (h : Apart lo hi w (ps ++ [p]) (us ++ [u])) (hl : us.length = ps.length) {i k : Nat} {x : Value} (hx : us[i]? = some x) (hk : x.ownBlock = some k) : ¬ u.ownBlock = some k := fun hu => by
  have := h.2.2 i us.length k x u (by rw [List.getElem?_append_left (idx_lt hx)]; exact hx) (by simp) hk hu
  have := idx_lt hx
  omega
/-- more characters to be put: behind the append and the store -/
theorem Box.moreS {S : Nat → Prop} {lo g : Nat} {T : TypeId} {w w1 : World} {v u v' : Value} {d : Int} {ps : List Pt} {us : List Value} {put put' : List Int} (h : Box lo g T w v u d ps us) (hT1 : ¬ T = 3) (hT2 : ¬ T = 53)
    (ha : Apart lo w.heap.size w (ps ++ [⟨2, 0, put⟩]) (us ++ [u])) (hown : w1.ownsRow lo 3 1 v' put'.length (put'.map (Value.int .i64))) (hgrow : w.grownBy w1 u.ownBlock) (hat : v'.ownBlock = u.ownBlock ∨ v'.ownBlock = some w.heap.size) (hos : OwnS S g v (us ++ [u])) (hS : S w.heap.size) :
    BAtS S lo g T (w1.setCell ⟨g, 1, none⟩ v') ps put' d ∧ Below lo w (w1.setCell ⟨g, 1, none⟩ v') ∧ Fr S w (w1.setCell ⟨g, 1, none⟩ v') := by
  have hlt := h.lt
  have hu := ha.last h.len
  have ha0 := ha.init h.len
  have hold : ∀ k, k < w.heap.size → ¬ u.ownBlock = some k → w1.heap[k]? = w.heap[k]? := fun k hk hne => hgrow.block k hk (fun e => hne e.symm)
  have hg1 : w1.heap[g]? = some (.cells #[v, u, .int .i64 d] T (0, 0)) := by rw [hold g hlt (own_far hu h.box hT1)]; exact h.box
  have hvg := own_far hown hg1 hT1
  have hlow : lo ≤ w.heap.size := Nat.le_trans h.low (Nat.le_of_lt hlt)
  have hv' : ∀ k, v'.ownBlock = some k → S k := fun k hk => by
    rcases hat with e | e
    · exact hos.last k (by rw [← e]; exact hk)
    · rw [e] at hk
      injection hk with hk
      rw [← hk]; exact hS
  have hos' : OwnS S g v (us ++ [v']) := ⟨hos.1, hos.2.1, fun i k x hx hk => by
    by_cases hi : i < us.length
    · rw [List.getElem?_append_left hi] at hx
      exact hos.init.2.2 i k x hx hk
    · rw [List.getElem?_append_right (by omega)] at hx
      have hx' : i - us.length = 0 := by
        have := idx_lt hx
        simp at this
        omega
      rw [hx'] at hx
      simp at hx
      subst hx
      exact hv' k hk⟩
  have hfr : Fr S w (w1.setCell ⟨g, 1, none⟩ v') := ((Fr.refl S w).grown hgrow (fun k hk => hos.last k hk)).setCell (p := ⟨g, 1, none⟩) hos.1 _
  refine ⟨⟨v, v', us, ⟨?_, ?_, h.len, h.low⟩, ?_, hos'⟩, ?_, hfr⟩
  · rw [heap_setCell_same _ _ _ _ _ _ hg1]; rfl
  · refine own_keep h.row (fun k hk1 hk2 => ?_)
    have hkg : ¬ k = g := fun e => own_far h.row h.box hT2 (by rw [hk1, e])
    rw [Below.heap_setCell _ _ _ _ hkg]
    refine hold k hk2 (fun hk3 => ?_)
    obtain ⟨c1, e1⟩ := own_blk h.row hk1
    exact own_far hu e1 (by decide) hk3
  · have hkeep : Apart lo (w1.setCell ⟨g, 1, none⟩ v').heap.size (w1.setCell ⟨g, 1, none⟩ v') ps us := by
      refine ha0.keep (by simp; exact hgrow.size) (fun i x k hx hk1 hk2 => ?_)
      obtain ⟨q, hq⟩ := idx_some (l := ps) (i := i) (by rw [← h.len]; exact idx_lt hx)
      have hkg : ¬ k = g := fun e => own_far (ha0.2.1 i q x hq hx).1 h.box hT1 (by rw [hk1, e])
      rw [Below.heap_setCell _ _ _ _ hkg]
      exact hold k hk2 (ha.far h.len hx hk1)
    refine hkeep.snoc (ownsRow_setCell_other hown hvg _) (fun k hk => ?_) (fun i x k hx hk1 hk2 => ?_)
    · obtain ⟨c1, e1⟩ := own_blk hown hk
      have := lt_of_some e1
      simpa using this
    · obtain ⟨q, hq⟩ := idx_some (l := ps) (i := i) (by rw [← h.len]; exact idx_lt hx)
      rcases hat with e | e
      · exact ha.far h.len hx hk1 (by rw [← e]; exact hk2)
      · obtain ⟨c1, e1⟩ := own_blk (ha0.2.1 i q x hq hx).1 hk1
        have := lt_of_some e1
        rw [hk2] at e
        injection e with e
        omega
  · refine Below.setCell ?_ h.low _
    exact (Below.refl _ _).grown hgrow hlow (fun k hk => own_ge hu k hk)
theorem Box.dropS {S : Nat → Prop} {lo g : Nat} {T : TypeId} {w : World} {v u : Value} {d d' : Int} {ps : List Pt} {us : List Value} {put : List Int} (h : Box lo g T w v u d ps us) (hT1 : ¬ T = 3) (hT2 : ¬ T = 53)
    (ha : Apart lo w.heap.size w (ps ++ [⟨2, 0, put⟩]) (us ++ [u])) (hos : OwnS S g v (us ++ [u])) :
    BAtS S lo g T (w.setCell ⟨g, 2, none⟩ (.int .i64 d')) ps put d' ∧ Below lo w (w.setCell ⟨g, 2, none⟩ (.int .i64 d')) ∧ Fr S w (w.setCell ⟨g, 2, none⟩ (.int .i64 d')) := by
  refine ⟨⟨v, u, us, ⟨?_, ownsRow_setCell_other h.row (own_far h.row h.box hT2) _, h.len, h.low⟩, ha.keep (by simp) (fun i x k hx hk1 hk2 => ?_), hos⟩, (Below.refl _ _).setCell h.low _, (Fr.refl S w).setCell (p := ⟨g, 2, none⟩) hos.1 _⟩
  · rw [heap_setCell_same _ _ _ _ _ _ h.box]; rfl
  · obtain ⟨q, hq⟩ := idx_some (l := ps ++ [⟨2, 0, put⟩]) (i := i) (by rw [← ha.1]; exact idx_lt hx)
    have hkg : ¬ k = g := fun e => own_far (ha.2.1 i q x hq hx).1 h.box hT1 (by rw [hk1, e])
    rw [Below.heap_setCell _ _ _ _ hkg]

theorem ints_info : (Try.prog.info? 3).map (fun i => (i.zero, i.size, i.bytes)) = some (some (.int .i64 0), 1, 8) := by kernel_rfl

set_option maxHeartbeats 1600000 in
theorem specDrop_f (S : Nat → Prop) (lo g : Nat) (ps : List Pt) (put : List Int) (d n : Int) (w : World) (hb : BAtS S lo g 63 w ps put d) (hS : ∀ b, w.heap.size ≤ b → S b) (h0 : 0 ≤ d) (h1 : d ≤ 4611686018427387904) (h2 : 0 ≤ n) (h3 : n ≤ 1048576) :
    Calls Try.prog 45 #[.pointer (some ⟨g, 0, none⟩), .int .i64 n] w (BuiltS S lo g 63 w ps put (d + n)) := by
  obtain ⟨v, u, us, hx, ha, hos⟩ := hb
  have HS := Lib.hid hS
  have HOS := Lib.hid hos
  clear hS hos
  have c2 := hx.cell2
  have f2 := hx.free 2
  have HX := Lib.hid hx
  have HA := Lib.hid ha
  clear hx ha
  go_enter Try.func45, Try.ntmps45
  go_wp2
  go_end0
  obtain ⟨r1, r2, r3⟩ := HX.out.dropS (d' := d + n) (by decide) (by decide) HA.out HOS.out
  exact ⟨rfl, r1, r2, r3⟩

set_option maxHeartbeats 1600000 in
theorem specPut_f (S : Nat → Prop) (lo g : Nat) (ps : List Pt) (put : List Int) (d : Int) (A : Option Addr) (c : Nat) (zs : List Int) (w : World) (hb : BAtS S lo g 63 w ps put d) (hS : ∀ b, w.heap.size ≤ b → S b) (hr : Row (Value.int .i64) w w.heap.size A zs) (hp : put.length ≤ 4294967296) (hz : zs.length ≤ 4294967296) :
    Calls Try.prog 46 #[.pointer (some ⟨g, 0, none⟩), .slice A zs.length c] w (BuiltS S lo g 63 w ps (put ++ zs) d) := by
  obtain ⟨i0, hi0, hz0, hz1, hz2⟩ := info_parts ints_info
  obtain ⟨v, u, us, hx, ha, hos⟩ := hb
  have HS := Lib.hid hS
  have HOS := Lib.hid hos
  clear hS hos
  obtain ⟨Au, cu, rfl⟩ := own_form (ha.last hx.len)
  simp only at hx ha
  have c1 := hx.cell1
  have f1 := hx.free 1
  have ho := Lib.hid (ha.last hx.len)
  have hlo : lo ≤ w.heap.size := Nat.le_trans hx.low (Nat.le_of_lt hx.lt)
  have HX := Lib.hid hx
  have HA := Lib.hid ha
  clear hx ha
  by_cases hn : 0 < zs.length
  · obtain ⟨ad, rfl, hbk, hcs⟩ := hr hn
    have hcs' : ∀ j x, (zs.map (Value.int .i64))[j]? = some x → w.cell? (ad.add j) = some x := fun j x hx => by
      rw [List.getElem?_map] at hx
      obtain ⟨z, hz, rfl⟩ := Option.map_eq_some_iff.1 hx
      exact hcs j z hz
    have HC := Lib.hid hcs'
    clear hcs hcs' hr
    have hug := own_far ho.out HX.out.box (by decide)
    go_enter Try.func46, Try.ntmps46
    go_wp2_with (at_builtin; refine wpList_append_lies _ rfl (.tmp 8) (.tmp 9) 22 rfl lo 3 i0 (.int .i64 0) 1 8 Try.underlying22 hi0 hz0 hz1 hz2 rfl (by decide) (.slice Au put.length cu) put.length (put.map (Value.int .i64)) rfl ho.out ad zs.length c (zs.map (Value.int .i64)) rfl (by simp) HC.out (by simp [Value.oneCell']) (by omega) (by unfold maxLen; omega) (by omega) hlo w.heap.size rfl ?_; intro gg cap w1 hown1 hgrow hat hlt; have hf := free_grown (o := 1) HX.out.box (Below.refl _ _) hgrow hug; have hc : w1.cell? ⟨g, 1, none⟩ = some (.slice Au put.length cu) := cell_grown 1 HX.out.box (Below.refl _ _) hgrow hug)
    go_end0
    obtain ⟨r1, r2, r3⟩ := Box.moreS (put' := put ++ zs) HX.out (by decide) (by decide) HA.out (by simpa using hown1) hgrow (hat.elim (fun e => .inl (by rw [e]; rfl)) (fun e => .inr (by rw [← e]; rfl))) HOS.out (HS.out _ (Nat.le_refl _))
    exact ⟨rfl, r1, r2, r3⟩
  · have e0 : zs = [] := List.eq_nil_of_length_eq_zero (by omega)
    subst e0
    rw [List.append_nil]
    go_enter Try.func46, Try.ntmps46
    go_wp2_with (at_builtin; refine wpList_append_zero rfl (.tmp 8) (.tmp 9) 22 rfl lo 3 i0 1 Try.underlying22 hi0 (.slice Au put.length cu) put.length (put.map (Value.int .i64)) rfl ho.out A c rfl ?_)
    go_end0
    obtain ⟨r1, r2, r3⟩ := Box.moreS (put' := put) HX.out (by decide) (by decide) HA.out ho.out ⟨rfl, rfl, rfl, Nat.le_refl _, fun _ _ _ => rfl⟩ (.inl rfl) HOS.out (HS.out _ (Nat.le_refl _))
    exact ⟨rfl, r1, r2, r3⟩
theorem specDrop_any (lo g : Nat) (ps : List Pt) (put : List Int) (d n : Int) (w : World) (hb : BAt lo g 63 w ps put d) (h0 : 0 ≤ d) (h1 : d ≤ 4611686018427387904) (h2 : 0 ≤ n) (h3 : n ≤ 1048576) :
    Calls Try.prog 45 #[.pointer (some ⟨g, 0, none⟩), .int .i64 n] w (Built lo g 63 w ps put (d + n)) :=
  (specDrop_f (fun _ => True) lo g ps put d n w hb.all (fun _ _ => trivial) h0 h1 h2 h3).mono fun e w' h => h.any
theorem specPut_any (lo g : Nat) (ps : List Pt) (put : List Int) (d : Int) (A : Option Addr) (c : Nat) (zs : List Int) (w : World) (hb : BAt lo g 63 w ps put d) (hr : Row (Value.int .i64) w w.heap.size A zs) (hp : put.length ≤ 4294967296) (hz : zs.length ≤ 4294967296) :
    Calls Try.prog 46 #[.pointer (some ⟨g, 0, none⟩), .slice A zs.length c] w (Built lo g 63 w ps (put ++ zs) d) :=
  (specPut_f (fun _ => True) lo g ps put d A c zs w hb.all (fun _ _ => trivial) hr hp hz).mono fun e w' h => h.any
end Go.Proofs.Ytemhhjagdfkmfaa.low
