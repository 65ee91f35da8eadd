
/-
  Data in memory: ascending numbers written into every cell (mkC), how many cells there are (cntC); the laws' markIntS and heldIntS, toIntS and eqIntS, in these words.
-/
import Derived.Test.YtemhhjagdfkmfaaDat3
namespace Go.Proofs.Ytemhhjagdfkmfaa.low
open Go.RowKit
set_option linter.unusedVariables false

def markDigs : Nat → Int → List UInt8 → List UInt8
  | 0, _, out => out
  | f + 1, k, out => if 0 < k then markDigs f (k / 10) (UInt8.ofNat (48 + (k % 10).toNat) :: out) else out
def markD (k : Int) : ByteArray := ⟨(109 :: markDigs k.toNat k []).toArray⟩
mutual
def cntC : Dat → Nat
  | .int _ => 1
  | .bool _ => 1
  | .str _ => 1
  | .rows _ _ ds => cntR ds
def cntL : List Dat → Nat
  | [] => 0
  | d :: ds => cntC d + cntL ds
def cntR : List (List Dat) → Nat
  | [] => 0
  | r :: rs => cntL r + cntR rs
end
mutual
def mkC (k : Int) : Dat → Dat
  | .int _ => .int k
  | .bool _ => .bool (decide (k % 3 = 0))
  | .str _ => .str (markD k)
  | .rows e sz ds => .rows e sz (mkR k ds)
def mkL (k : Int) : List Dat → List Dat
  | [] => []
  | d :: ds => mkC k d :: mkL (k + (cntC d : Int)) ds
def mkR (k : Int) : List (List Dat) → List (List Dat)
  | [] => []
  | r :: rs => mkL k r :: mkR (k + (cntL r : Int)) rs
end
theorem mkR_len : ∀ (k : Int) (rs : List (List Dat)), (mkR k rs).length = rs.length
  | _, [] => rfl
  | k, r :: rs => by rw [mkR, List.length_cons, List.length_cons, mkR_len]
theorem mkR_at : ∀ (rs : List (List Dat)) (k : Int) (i : Nat) (r : List Dat), rs[i]? = some r → (mkR k rs)[i]? = some (mkL (k + (cntR (rs.take i) : Int)) r)
  | [], _, _, _, h => by simp at h
  | q :: rs, k, 0, r, h => by
    simp at h
    subst h
    simp [mkR, cntR]
  | q :: rs, k, i + 1, r, h => by
    rw [mkR, List.getElem?_cons_succ, mkR_at rs _ i r (by simpa using h), List.take_succ_cons, cntR]
    congr 2
    omega
theorem cntR_app : ∀ (a b : List (List Dat)), cntR (a ++ b) = cntR a + cntR b
  | [], b => by simp [cntR]
  | r :: a, b => by rw [List.cons_append, cntR, cntR, cntR_app]; omega
theorem cntR_snoc {rs : List (List Dat)} {i : Nat} {r : List Dat} (h : rs[i]? = some r) : cntR (rs.take (i + 1)) = cntR (rs.take i) + cntL r := by
  rw [List.take_add_one, h, cntR_app]
  simp [cntR]
theorem cntR_take (rs : List (List Dat)) (i : Nat) : cntR (rs.take i) ≤ cntR rs := by
  have := cntR_app (rs.take i) (rs.drop i)
  rw [List.take_append_drop] at this
  omega
theorem cntR_at {rs : List (List Dat)} {i : Nat} {r : List Dat} (h : rs[i]? = some r) : cntR (rs.take i) + cntL r ≤ cntR rs := by
  rw [← cntR_snoc h]
  exact cntR_take rs (i + 1)
theorem mkR_app : ∀ (a b : List (List Dat)) (k : Int), mkR k (a ++ b) = mkR k a ++ mkR (k + (cntR a : Int)) b
  | [], b, k => by simp [mkR, cntR]
  | r :: a, b, k => by
    rw [List.cons_append, mkR, mkR, mkR_app, cntR, List.cons_append]
    congr 3
    omega
/-- one row more is marked -/
theorem mk_set {rs : List (List Dat)} {i : Nat} {r : List Dat} (k : Int) (h : rs[i]? = some r) : (mkR k (rs.take i) ++ rs.drop i).set i (mkL (k + (cntR (rs.take i) : Int)) r) = mkR k (rs.take (i + 1)) ++ rs.drop (i + 1) := by
  have hi := idx_lt h
  have hl : (mkR k (rs.take i)).length = i := by rw [mkR_len, List.length_take]; omega
  rw [List.set_append_right _ _ (by omega), hl, Nat.sub_self, List.take_add_one, h, Option.toList_some, mkR_app]
  have hd : rs.drop i = rs[i] :: rs.drop (i + 1) := List.drop_eq_getElem_cons hi
  rw [hd, List.set_cons_zero]
  simp [mkR]
theorem mk_at {rs : List (List Dat)} {i : Nat} {r : List Dat} (k : Int) (h : rs[i]? = some r) : (mkR k (rs.take i) ++ rs.drop i)[i]? = some r := by
  have hi := idx_lt h
  have hl : (mkR k (rs.take i)).length = i := by rw [mkR_len, List.length_take]; omega
  rw [List.getElem?_append_right (by omega), hl, Nat.sub_self, List.getElem?_drop]
  simpa using h
theorem mk_len (k : Int) (rs : List (List Dat)) (i : Nat) : (mkR k (rs.take i) ++ rs.drop i).length = rs.length := by
  rw [List.length_append, mkR_len, List.length_take, List.length_drop]
  omega
theorem mk_all (k : Int) (rs : List (List Dat)) : mkR k (rs.take rs.length) ++ rs.drop rs.length = mkR k rs := by simp
theorem mk_none (k : Int) (rs : List (List Dat)) : mkR k (rs.take 0) ++ rs.drop 0 = rs := by simp [mkR]

/-- it returns the next number; the datum is marked; only its own blocks were written -/
def MarkP (k : Int) (d : Dat) (v : Value) (bs : List Nat) (w : World) (e : Ending) (w' : World) : Prop :=
  e = .returned (.int .i64 (k + (cntC d : Int))) ∧ OwC w' (mkC k d) v bs ∧ Touch (fun b => b ∈ bs) w w'
/-- it returns the number behind the marks, and writes nothing -/
def HeldP (k : Int) (d : Dat) (w : World) (e : Ending) (w' : World) : Prop := e = .returned (.int .i64 (k + (cntC d : Int))) ∧ w = w'
theorem Own.mark {lo hi : Nat} {w w' : World} {d d' : Dat} {v : Value} {bs : List Nat} (h1 : OwC w d v bs) (h2 : bs.Nodup) (h3 : ∀ b ∈ bs, lo ≤ b ∧ b < hi) (h4 : hi ≤ w.heap.size) (h5 : lo ≤ hi) (h : OwC w' d' v bs) (ht : Touch (fun b => b ∈ bs) w w') : Own lo hi w' d' v ∧ Touch (Span lo hi) w w' :=
  ⟨⟨bs, h, h2, h3, by rw [ht.size]; exact h4, h5⟩, ht.mono (fun b hb => h3 b hb)⟩

theorem cnt_ints : ∀ zs : List Int, cntR (zs.map fun z => [Dat.int z]) = zs.length
  | [] => rfl
  | z :: zs => by rw [List.map_cons, cntR, cnt_ints, cntL, cntC, cntL, List.length_cons]; omega
theorem mk_ints : ∀ (zs : List Int) (k : Int), mkR k (zs.map fun z => [Dat.int z]) = (marks k zs.length).map fun z => [Dat.int z]
  | [], _ => rfl
  | z :: zs, k => by
    rw [List.map_cons, mkR, mkL, mkC, mkL, mk_ints zs, cntL, cntC, cntL, List.length_cons]
    apply List.ext_getElem?
    intro t
    cases t with
    | zero => simp [marks]
    | succ t =>
      rw [List.getElem?_cons_succ, List.getElem?_map, List.getElem?_map]
      by_cases ht : t < zs.length
      · rw [marks_at ht, marks_at (by omega)]
        simp
        omega
      · rw [List.getElem?_eq_none (by rw [marks_len]; omega), List.getElem?_eq_none (by rw [marks_len]; omega)]
theorem mkC_ints (k : Int) (zs : List Int) : mkC k (encInts zs) = encInts (marks k zs.length) := by unfold encInts; rw [mkC, mk_ints]
theorem cntC_ints (zs : List Int) : cntC (encInts zs) = zs.length := by unfold encInts; rw [cntC, cnt_ints]

theorem toIntS_d (v : Value) (zs : List Int) (w : World) (h : RdC w w.heap.size (encInts zs) v) (hl : zs.length ≤ 4294967296) : Calls Try.prog 10 #[v] w (OwnPost (encInts zs) w) := by
  obtain ⟨A, c, rfl, hr, _⟩ := ints_rd h
  refine (toIntS_own A c zs w hr hl).mono ?_
  rintro e w1 ⟨rfl, ho, b1⟩
  refine ⟨_, rfl, ⟨_, ow_ints ho, by simp [Value.ownBlock], fun b hb => ?_, Nat.le_refl _, b1.size⟩, b1⟩
  have hb' : (Value.slice (some ⟨w.heap.size, 0, none⟩) zs.length zs.length).ownBlock = some b := by simpa using hb
  obtain ⟨cur, hh⟩ := own_blk ho hb'
  exact ⟨own_ge ho b hb', lt_of_some hh⟩
theorem eqIntS_d (v v' : Value) (zs : List Int) (w : World) (h : RdC w w.heap.size (encInts zs) v) (h' : RdC w w.heap.size (encInts zs) v') (hl : zs.length ≤ 4294967296) : Calls Try.prog 12 #[v, v'] w (Tells true w) := by
  obtain ⟨A, c, rfl, hr, _⟩ := ints_rd h
  obtain ⟨A', c', rfl, hr', _⟩ := ints_rd h'
  refine (eqIntS_any A A' c c' zs zs w hr hr' hl hl).mono ?_
  intro e w1 hs
  have := says_tells hs
  rwa [sameB_self] at this
theorem markIntS_d (v : Value) (zs : List Int) (bs : List Nat) (k : Int) (w : World) (h : OwC w (encInts zs) v bs) (h0 : 0 ≤ k) (h1 : k ≤ 4294967296) (hl : zs.length ≤ 4294967296) : Calls Try.prog 19 #[v, .int .i64 k] w (MarkP k (encInts zs) v bs w) := by
  obtain ⟨ho, rfl⟩ := ints_ow h
  refine (markIntS_t 0 zs.length v _ k w ho h0 h1 hl).mono ?_
  rintro e w1 ⟨rfl, ho1, t1⟩
  refine ⟨by rw [cntC_ints], ?_, t1.mono (fun b hb => by have : v.ownBlock = some b := hb; simp [this])⟩
  rw [mkC_ints]
  exact ow_ints (by rw [marks_len]; exact ho1)
theorem heldIntS_d (v : Value) (zs : List Int) (k : Int) (w : World) (h : RdC w w.heap.size (mkC k (encInts zs)) v) (h0 : 0 ≤ k) (h1 : k ≤ 4294967296) (hl : zs.length ≤ 4294967296) : Calls Try.prog 20 #[v, .int .i64 k] w (HeldP k (encInts zs) w) := by
  rw [mkC_ints] at h
  obtain ⟨A, c, rfl, hr, _⟩ := ints_rd h
  rw [marks_len]
  refine (heldIntS_any A c zs.length k w hr h0 h1 hl).mono ?_
  rintro e w1 ⟨rfl, rfl⟩
  exact ⟨by rw [cntC_ints], rfl⟩
end Go.Proofs.Ytemhhjagdfkmfaa.low
