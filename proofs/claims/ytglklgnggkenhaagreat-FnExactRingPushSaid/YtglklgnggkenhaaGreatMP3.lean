/-
  Texts that the proofs over this seat rest on, one behind the other (3 of 3).
-/
import Derived.Test.YtglklgnggkenhaaGreatMP2
import Derived.Test.YtglklgnggkenhaaGreatProg
import Derived.Conc.MuLib
import Derived.Conc.MuLone
import Derived.KernelRfl
import Derived.OwnWalk
import Derived.Lib.SliceRun
import Derived.Test.YtglklgnggkenhaaGreatMP1
import Derived.Defers
set_option maxHeartbeats 12800000
set_option maxRecDepth 1000000
namespace Go.Proofs.YtglklgnggkenhaaGreat.low
open Go.RowKit
set_option linter.unusedVariables false
structure QE where
 e : En
 v : Value
 b : List Nat
def QE.it (q : QE) : It := .dt (encPs q.e.o) q.v q.b
def QE.row (q : QE) : List Value := [.int .i64 q.e.client, .int .i64 q.e.seq, q.v]
def bufC (lk : Int) (sv : List Value) (room next after : Int) (out : Bool) : Array Value := (Value.int .i32 lk :: Value.int .u32 0 :: (sv ++ [.int .i64 room, .int .i64 next, .int .i64 after, .bool out])).toArray
section
variable {lk : Int} {sv : List Value} {room next after : Int} {out : Bool}
theorem bufC_0 : (bufC lk sv room next after out)[0]? = some (.int .i32 lk) := rfl
theorem bufC_sv {j : Nat} {u : Value} (h : sv[j]? = some u) : (bufC lk sv room next after out)[2 + j]? = some u := by
 have hl := (List.getElem?_eq_some_iff.1 h).1
 rw [show 2 + j = j + 1 + 1 by omega]
 simp only [bufC, List.getElem?_toArray, List.getElem?_cons_succ]
 rw [List.getElem?_append_left hl]
 exact h
theorem bufC_tail (hl : sv.length = 18) (k : Nat) : (bufC lk sv room next after out)[20 + k]? = ([.int .i64 room, .int .i64 next, .int .i64 after, .bool out] : List Value)[k]? := by
 rw [show 20 + k = 18 + k + 1 + 1 by omega]
 simp only [bufC, List.getElem?_toArray, List.getElem?_cons_succ]
 rw [List.getElem?_append_right (by omega), hl, Nat.add_sub_cancel_left]
theorem bufC_20 (hl : sv.length = 18) : (bufC lk sv room next after out)[20]? = some (.int .i64 room) := bufC_tail hl 0
theorem bufC_21 (hl : sv.length = 18) : (bufC lk sv room next after out)[21]? = some (.int .i64 next) := bufC_tail hl 1
theorem bufC_22 (hl : sv.length = 18) : (bufC lk sv room next after out)[22]? = some (.int .i64 after) := bufC_tail hl 2
theorem bufC_23 (hl : sv.length = 18) : (bufC lk sv room next after out)[23]? = some (.bool out) := bufC_tail hl 3
theorem bufC_set0 (x : Int) : (bufC lk sv room next after out).setIfInBounds 0 (.int .i32 x) = bufC x sv room next after out := by simp [bufC]
theorem bufC_setS {j : Nat} (hj : j < sv.length) (u : Value) : (bufC lk sv room next after out).setIfInBounds (2 + j) u = bufC lk (sv.set j u) room next after out := by
 rw [show 2 + j = j + 1 + 1 by omega]
 simp only [bufC, List.setIfInBounds_toArray, List.set_cons_succ]
 rw [List.set_append_left _ _ hj]
theorem bufC_setT (hl : sv.length = 18) (k : Nat) (u : Value) : (bufC lk sv room next after out).setIfInBounds (20 + k) u = (Value.int .i32 lk :: Value.int .u32 0 :: (sv ++ ([.int .i64 room, .int .i64 next, .int .i64 after, .bool out] : List Value).set k u)).toArray := by
 rw [show 20 + k = 18 + k + 1 + 1 by omega]
 simp only [bufC, List.setIfInBounds_toArray, List.set_cons_succ]
 rw [List.set_append_right _ _ (by omega), hl, Nat.add_sub_cancel_left]
theorem bufC_set21 (hl : sv.length = 18) (x : Int) : (bufC lk sv room next after out).setIfInBounds 21 (.int .i64 x) = bufC lk sv room x after out := bufC_setT hl 1 _
theorem bufC_set22 (hl : sv.length = 18) (x : Int) : (bufC lk sv room next after out).setIfInBounds 22 (.int .i64 x) = bufC lk sv room next x out := bufC_setT hl 2 _
theorem bufC_set23 (hl : sv.length = 18) (x : Bool) : (bufC lk sv room next after out).setIfInBounds 23 (.bool x) = bufC lk sv room next after x := bufC_setT hl 3 _
end
structure Slots (sv : List Value) (room next : Nat) (qs : List QE) : Prop where
 len : sv.length = 18
 r1 : 1 ≤ room
 r6 : room ≤ 6
 fit : qs.length ≤ room
 at_ : ∀ i q, qs[i]? = some q → ∀ k u, q.row[k]? = some u → sv[((next + i) % room) * 3 + k]? = some u
def set3 (sv : List Value) (s : Nat) (a b c : Value) : List Value := ((sv.set s a).set (s + 1) b).set (s + 2) c
theorem slot_lt {room n : Nat} (h1 : 1 ≤ room) (h6 : room ≤ 6) : n % room * 3 + 3 ≤ 18 := by
 have := Nat.mod_lt n (show 0 < room by omega)
 omega
theorem mod_ne {a b r : Nat} (h1 : a < b) (h2 : b < a + r) : ¬ a % r = b % r := fun e => by
 have h := Nat.sub_mod_eq_zero_of_mod_eq e.symm
 rw [Nat.mod_eq_of_lt (by omega)] at h
 omega
theorem Slots.none {room next : Nat} {sv : List Value} (h18 : sv.length = 18) (h1 : 1 ≤ room) (h6 : room ≤ 6) : Slots sv room next [] := ⟨h18, h1, h6, by simp, fun i q h => by simp at h⟩
theorem Slots.push {sv : List Value} {room next : Nat} {qs : List QE} (h : Slots sv room next qs) (hl : qs.length < room) (q : QE) :
  Slots (set3 sv ((next + qs.length) % room * 3) (.int .i64 q.e.client) (.int .i64 q.e.seq) q.v) room next (qs ++ [q]) := by
 have h3 := slot_lt (n := next + qs.length) h.r1 h.r6
 have hl18 := h.len
 refine ⟨by simp [set3, hl18], h.r1, h.r6, by simp; omega, fun i p hp k u hu => ?_⟩
 have hk : k < 3 := (List.getElem?_eq_some_iff.1 hu).1
 by_cases hi : i < qs.length
 ·rw [List.getElem?_append_left hi] at hp
  have hne := mod_ne (a := next + i) (b := next + qs.length) (r := room) (by omega) (by omega)
  unfold set3
  rw [List.getElem?_set_ne (by omega), List.getElem?_set_ne (by omega), List.getElem?_set_ne (by omega)]
  exact h.at_ i p hp k u hu
 ·have hi2 : i = qs.length := by
   have := (List.getElem?_eq_some_iff.1 hp).1
   rw [List.length_append, List.length_singleton] at this
   omega
  subst hi2
  rw [List.getElem?_append_right (Nat.le_refl _), Nat.sub_self] at hp
  obtain rfl : q = p := by simpa using hp
  have hk3 : k = 0 ∨ k = 1 ∨ k = 2 := by omega
  unfold set3
  rcases hk3 with rfl | rfl | rfl
  ·rw [List.getElem?_set_ne (by omega), List.getElem?_set_ne (by omega), Nat.add_zero, List.getElem?_set_self (by omega)]
   exact hu
  ·rw [List.getElem?_set_ne (by omega), List.getElem?_set_self (by simp; omega)]
   exact hu
  ·rw [List.getElem?_set_self (by simp; omega)]
   exact hu
theorem Slots.drop {sv : List Value} {room next : Nat} {qs : List QE} (h : Slots sv room next qs) (m : Nat) : Slots sv room (next + m) (qs.drop m) := by
 refine ⟨h.len, h.r1, h.r6, by have := h.fit; simp; omega, fun i p hp k u hu => ?_⟩
 rw [List.getElem?_drop] at hp
 rw [Nat.add_assoc]
 exact h.at_ (m + i) p hp k u hu
theorem Slots.cell {sv : List Value} {room next : Nat} {qs : List QE} (h : Slots sv room next qs) (n : Nat) {k : Nat} (hk : k < 3) : ∃ u, sv[n % room * 3 + k]? = some u := by
 have h3 := slot_lt (n := n) h.r1 h.r6
 exact ⟨_, List.getElem?_eq_getElem (by have := h.len; omega)⟩
def ens (qs : List QE) : List En := qs.map QE.e
end Go.Proofs.YtglklgnggkenhaaGreat.low
namespace Go.Proofs.YtglklgnggkenhaaGreat.low
abbrev muLink : Go.Conc.Locks.MuLink := { lock := 50, unlock := 51, ilock := 66, iunlock := 67, lockSlow := 89, unlockSlow := 92, disable := 85, enable := 87, acquire := 88, relMerge := 90, cas32 := 86, add32 := 91, tMutex := 82, tIMutex := 80, tPMutex := 89, tPIMutex := 104, tPI32 := 106, tUP := 108, tNoCopy := 77, tU32 := 78 }
theorem muLib : Go.Conc.Locks.MuLib Tryz.prog muLink :=
 ⟨Tryz.func50, Tryz.func51, Tryz.func66, Tryz.func67, Tryz.func85, Tryz.func87, Tryz.func88, Tryz.func90, Tryz.func86, Tryz.func91, Tryz.underlying80, Tryz.runUnderlying80, Tryz.sizeOf80, Tryz.isAgg80, Tryz.zeroValue80, Tryz.underlying82, Tryz.runUnderlying82, Tryz.sizeOf82, Tryz.isAgg82, Tryz.zeroValue82, Tryz.underlying89, Tryz.runUnderlying89, Tryz.sizeOf89, Tryz.isAgg89, Tryz.zeroValue89, Tryz.underlying104, Tryz.runUnderlying104, Tryz.sizeOf104, Tryz.isAgg104, Tryz.zeroValue104, Tryz.underlying106, Tryz.runUnderlying106, Tryz.sizeOf106, Tryz.isAgg106, Tryz.zeroValue106, Tryz.underlying108, Tryz.runUnderlying108, Tryz.sizeOf108, Tryz.isAgg108, Tryz.zeroValue108, Tryz.underlying77, Tryz.runUnderlying77, Tryz.sizeOf77, Tryz.isAgg77, Tryz.zeroValue77, Tryz.underlying21, Tryz.runUnderlying21, Tryz.sizeOf21, Tryz.isAgg21, Tryz.zeroValue21, (by kernel_rfl)⟩
end Go.Proofs.YtglklgnggkenhaaGreat.low
namespace Go.Proofs.YtglklgnggkenhaaGreat.low
open Go.RowKit
set_option linter.unusedVariables false
section
variable {w0 W W' : World} {T L L' : List It} {x y z u t : It}
theorem Ms.fr1 (h : Ms w0 (x :: y :: T) W) : Ms w0 (y :: x :: T) W := h.perm (.swap _ _ _)
theorem Ms.fr2 (h : Ms w0 (x :: y :: z :: T) W) : Ms w0 (z :: x :: y :: T) W := (h.perm (.cons _ (.swap _ _ _))).fr1
theorem Ms.fr3 (h : Ms w0 (x :: y :: z :: u :: T) W) : Ms w0 (u :: x :: y :: z :: T) W := (h.perm (.cons _ (.cons _ (.swap _ _ _)))).fr2
theorem Ms.fr4 (h : Ms w0 (x :: y :: z :: u :: t :: T) W) : Ms w0 (t :: x :: y :: z :: u :: T) W := (h.perm (.cons _ (.cons _ (.cons _ (.swap _ _ _))))).fr3
theorem Ms.join (h : Ms w0 L W) (h' : Ms W L' W') : Ms w0 (L' ++ L) W' := by
 refine ⟨fun q hq => ?_, ?_, fun q hq => ?_, h.bl.trans (h'.bl.mono h.size)⟩
 ·rcases List.mem_append.1 hq with hq | hq
  ·exact h'.ok q hq
  ·exact It.keep (h.ok q hq) (fun b hb => h'.bl.block b (h.blt b (List.mem_flatMap.2 ⟨q, hq, hb⟩)))
 ·rw [List.flatMap_append, List.nodup_append]
  refine ⟨h'.nd, h.nd, fun a ha b hb e => ?_⟩
  subst e
  have h1 := h'.rg a ha
  have h2 := h.blt a hb
  omega
 ·rw [List.flatMap_append] at hq
  rcases List.mem_append.1 hq with hq | hq
  ·exact Nat.le_trans h.size (h'.rg q hq)
  ·exact h.rg q hq
end
theorem step_make {w w0 : World} {L : List It} {ops : Array Oper} {o : Oper} {a : Act} {KN : Act → World → Prop} {Q : Exit → Act → World → Prop} {E : Prop} (hgd : o.guard = none) (l c : Operand) (t : TypeId) (ho : o.op = .makeSlice t l c)
  {e : TypeId} {z : Value} {sz bytes : Nat} (he : Elt t e z sz bytes) (h : Ms w0 L w) (n : Nat) (hl : a.eval l = .int .i64 (n : Int)) (hc : a.eval c = .int .i64 (n : Int)) (hn : n ≤ 1048576)
  (K : ∀ w', Ms w0 (.dt (.rows e sz []) (.slice (some ⟨w.heap.size, 0, none⟩) 0 n) [w.heap.size] :: L) w' → KN (a.put o.dst (.slice (some ⟨w.heap.size, 0, none⟩) n n)) w') : if Region.wanted o (yielded ops a.tmps) = true then Oper.wp Tryz.prog o a w KN Q else E := by
 obtain ⟨i, ht, hi, hz, hsize, hby, hzs, hsz, hbm⟩ := he
 have hw : Region.wanted o (yielded ops a.tmps) = true := by simp [Region.wanted, hgd]
 rw [if_pos hw]
 obtain ⟨w', hrun, r1, r2⟩ := run_make_full (P := Tryz.prog) w w.heap.size t e i z sz ht hi hz hsize .i64 .i64 n (by rw [hby]; have := Nat.mul_le_mul hbm hn; omega) (by unfold maxLen; omega) (Nat.le_refl _)
 unfold Oper.wp
 simp [execOp, ho, hl, hc, hrun, Result.andThen]
 exact K w' (h.made r1 ((Below.refl _ _).grown r2 (Nat.le_refl _) (fun _ h => by cases h)))
def bufO (lk : Int) (sv : List Value) (room next after : Int) (out : Bool) : Obj := .cells (bufC lk sv room next after out) 85 (0, 0)
section
variable {w0 W : World} {T L : List It} {g : Nat} {lk room next after : Int} {out : Bool} {sv : List Value}
theorem Ms.bq (h : Ms w0 L W) {i : Nat} (hi : L[i]? = some (.bx g (bufO lk sv room next after out))) (hl : sv.length = 18) :
  W.cell? ⟨g, 0, none⟩ = some (.int .i32 lk) ∧ W.cell? ⟨g, 20, none⟩ = some (.int .i64 room) ∧ W.cell? ⟨g, 21, none⟩ = some (.int .i64 next) ∧ W.cell? ⟨g, 22, none⟩ = some (.int .i64 after) ∧ W.cell? ⟨g, 23, none⟩ = some (.bool out) :=
 ⟨h.cell hi bufC_0, h.cell hi (bufC_20 hl), h.cell hi (bufC_21 hl), h.cell hi (bufC_22 hl), h.cell hi (bufC_23 hl)⟩
theorem Ms.bs (h : Ms w0 L W) {i : Nat} (hi : L[i]? = some (.bx g (bufO lk sv room next after out))) {j : Nat} {u : Value} (hu : sv[j]? = some u) : W.cell? ⟨g, 2 + j, none⟩ = some u := h.cell hi (bufC_sv hu)
theorem Ms.bf (h : Ms w0 L W) {i : Nat} (hi : L[i]? = some (.bx g (bufO lk sv room next after out))) (j : Nat) : W.frozen? ⟨g, j, none⟩ = false := h.free hi
theorem Ms.b0 (h : Ms w0 (.bx g (bufO lk sv room next after out) :: T) W) (v : Int) : Ms w0 (.bx g (bufO v sv room next after out) :: T) (W.setCell ⟨g, 0, none⟩ (.int .i32 v)) := by
 have hm := Ms.set (j := 0) (cs := bufC lk sv room next after out) h (.int .i32 v)
 rwa [bufC_set0] at hm
theorem Ms.b21 (h : Ms w0 (.bx g (bufO lk sv room next after out) :: T) W) (hl : sv.length = 18) (v : Int) : Ms w0 (.bx g (bufO lk sv room v after out) :: T) (W.setCell ⟨g, 21, none⟩ (.int .i64 v)) := by
 have hm := Ms.set (j := 21) (cs := bufC lk sv room next after out) h (.int .i64 v)
 rwa [bufC_set21 hl] at hm
theorem Ms.b22 (h : Ms w0 (.bx g (bufO lk sv room next after out) :: T) W) (hl : sv.length = 18) (v : Int) : Ms w0 (.bx g (bufO lk sv room next v out) :: T) (W.setCell ⟨g, 22, none⟩ (.int .i64 v)) := by
 have hm := Ms.set (j := 22) (cs := bufC lk sv room next after out) h (.int .i64 v)
 rwa [bufC_set22 hl] at hm
theorem Ms.b23 (h : Ms w0 (.bx g (bufO lk sv room next after out) :: T) W) (hl : sv.length = 18) (v : Bool) : Ms w0 (.bx g (bufO lk sv room next after v) :: T) (W.setCell ⟨g, 23, none⟩ (.bool v)) := by
 have hm := Ms.set (j := 23) (cs := bufC lk sv room next after out) h (.bool v)
 rwa [bufC_set23 hl] at hm
theorem Ms.bslot (h : Ms w0 (.bx g (bufO lk sv room next after out) :: T) W) {s : Nat} (hs : s + 2 < sv.length) (a b c : Value) : Ms w0 (.bx g (bufO lk (set3 sv s a b c) room next after out) :: T) (((W.setCell ⟨g, 2 + s, none⟩ a).setCell ⟨g, 2 + s + 1, none⟩ b).setCell ⟨g, 2 + s + 2, none⟩ c) := by
 have h1 := Ms.set (j := 2 + s) (cs := bufC lk sv room next after out) h a
 rw [bufC_setS (by omega)] at h1
 have h2 := Ms.set (j := 2 + (s + 1)) h1 b
 rw [bufC_setS (by simp; omega)] at h2
 have h3 := Ms.set (j := 2 + (s + 2)) h2 c
 rw [bufC_setS (by simp; omega)] at h3
 exact h3
end
def putSe : List Se → Se → List Se
 | [], s => [s]
 | t :: l, s => if t.client = s.client then s :: l else t :: putSe l s
def OneSe (l : List Se) : Prop := (l.map (·.client)).Nodup
theorem putSe_clients {s : Se} : ∀ {l : List Se}, (putSe l s).map (·.client) = if s.client ∈ l.map (·.client) then l.map (·.client) else l.map (·.client) ++ [s.client]
 | [] => by simp [putSe]
 | u :: l => by
  unfold putSe
  by_cases e : u.client = s.client
  ·rw [if_pos e]
   simp [e]
  ·rw [if_neg e, List.map_cons, putSe_clients (l := l), List.map_cons]
   have e' : ¬ s.client = u.client := fun h => e h.symm
   by_cases h : s.client ∈ l.map (·.client)
   ·rw [if_pos h, if_pos (List.mem_cons_of_mem _ h)]
   ·rw [if_neg h, if_neg (by simp only [List.mem_cons, not_or]; exact ⟨e', h⟩)]
    rfl
theorem OneSe.put {l : List Se} (h : OneSe l) (s : Se) : OneSe (putSe l s) := by
 unfold OneSe at *
 rw [putSe_clients]
 split
 ·exact h
 ·rename_i hn
  rw [List.nodup_append]
  refine ⟨h, by simp, fun a ha b hb e => ?_⟩
  obtain rfl : b = s.client := by simpa using hb
  exact hn (e ▸ ha)
def firstSe (m : List Se) (s : Se) : List Se := if (seenGo s.client m).isSome then m else putSe m s
theorem OneSe.nil : OneSe [] := by simp [OneSe]
theorem OneSe.first {l : List Se} (h : OneSe l) (s : Se) : OneSe (firstSe l s) := by
 unfold firstSe
 split
 ·exact h
 ·exact h.put s
def AscSe (l : List Se) : Prop := l.Pairwise (fun a b => a.client < b.client)
theorem AscSe.one {l : List Se} (h : AscSe l) : OneSe l := by
 unfold OneSe List.Nodup
 rw [List.pairwise_map]
 exact List.Pairwise.imp (fun h => by omega) h
theorem cloneI_d (v : Value) (zs : List Int) (w : World) (h : RdC w w.heap.size (encInts zs) v) (hs : zs.length ≤ 1048576) : Calls Tryz.prog 94 #[v] w (OwnPost (encInts zs) w) := by
 obtain ⟨A, c, rfl⟩ := sliceI h
 have hq : ∀ (w : World) (A : Option Addr) (n c n' c' : Nat), (binOp .eql 66 (.slice A n c) (.slice none n' c')).run Tryz.prog w = .ok (.bool A.isNone) w := fun w A n c n' c' => Lib.run_eql_slice_nil w _ _ A n c n' c' Tryz.underlying66
 cases A with
 | none =>
  obtain rfl : zs = [] := by
   obtain ⟨A9, c9, hv, _, h9⟩ := h
   injection hv with e1 e2 e3
   by_cases h0 : 0 < zs.length
   ·obtain ⟨ad, e4, _⟩ := h9 (by simpa using h0)
    rw [← e1] at e4
    cases e4
   ·exact List.eq_nil_of_length_eq_zero (by omega)
  clear h
  go_enter Tryz.func94, Tryz.ntmps94
  go_wp2
  go_ret
  exact ((Ms.start w).nil 3 1).post
 | some ad =>
  have HR := Lib.hid h
  clear h
  have HM := Lib.hid (Ms.start w)
  replace HM := Lib.hid (HM.out.empty 3 1)
  go_enter Tryz.func94, Tryz.ntmps94
  go_wp2_with (at_builtin; refine wpList_msAll rfl (.tmp 5) (.tmp 6) 66 rfl eltInt HM.out rfl (some ad) zs.length c rfl (HM.out.arg HR.out) (flatI _) (by simp; omega) ?_; intro A1 c1 w1 b1 hm)
  simp only [List.nil_append, List.length_nil, Nat.zero_add] at hm ⊢
  have HM1 := Lib.hid hm
  clear hm HM
  go_wp2
  go_ret
  exact (show Ms w (.dt (encInts zs) _ _ :: _) _ from HM1.out).post
theorem eltPt : Elt 35 72 (.agg #[.int .i64 0, .int .i64 0, .slice none 0 0]) 3 40 := elt_of (by kernel_rfl) (by kernel_rfl) rfl (by omega) (by omega)
theorem clonePs_d (v : Value) (ps : List Pt) (w : World) (h : RdC w w.heap.size (encPs ps) v) (hs : ps.length ≤ 1048576) : Calls Tryz.prog 93 #[v] w (RawPost 72 (ps.map encPt) w) := by
 obtain ⟨A, c, rfl⟩ := sliceP h
 have hq : ∀ (w : World) (A : Option Addr) (n c n' c' : Nat), (binOp .eql 35 (.slice A n c) (.slice none n' c')).run Tryz.prog w = .ok (.bool A.isNone) w := fun w A n c n' c' => Lib.run_eql_slice_nil w _ _ A n c n' c' Tryz.underlying35
 cases A with
 | none =>
  obtain rfl : ps = [] := by
   obtain ⟨A9, c9, hv, _, h9⟩ := h
   injection hv with e1 e2 e3
   by_cases h0 : 0 < ps.length
   ·obtain ⟨ad, e4, _⟩ := h9 (by simpa using h0)
    rw [← e1] at e4
    cases e4
   ·exact List.eq_nil_of_length_eq_zero (by omega)
  clear h
  go_enter Tryz.func93, Tryz.ntmps93
  go_wp2
  go_ret
  exact .inl ⟨rfl, rfl, rfl⟩
 | some ad =>
  have HR := Lib.hid h
  clear h
  have e0 : (ps.map encPt).length = ps.length := List.length_map _
  have E0 := Lib.hid e0
  clear e0
  have HM := Lib.hid (Ms.start w)
  replace HM := Lib.hid (HM.out.empty 72 3)
  go_enter Tryz.func93, Tryz.ntmps93
  go_wp2_with (at_builtin; refine wpList_raw (rs := ps.map encPt) rfl (.tmp 5) (.tmp 6) 35 rfl eltPt HM.out rfl (some ad) ps.length c rfl HR.out (fun r hr => by obtain ⟨q, _, rfl⟩ := List.mem_map.1 hr; exact ⟨rfl, fun d hd => by simp only [encPt, List.mem_cons, List.not_mem_nil, or_false] at hd; rcases hd with rfl | rfl | rfl <;> rfl⟩) (by rw [E0.out]; omega) ?_; intro g cap w1 b1 ys hcap hm hraw hcells)
  have HM1 := Lib.hid hm
  have HX := Lib.hid (And.intro hraw (And.intro hcells hcap))
  clear hm HM hraw hcells hcap
  go_wp2
  go_ret
  exact .inr ⟨g, cap, ys, by rw [E0.out]; rfl, by rw [E0.out]; exact HX.out.2.2, HM1.out.own (i := 0) rfl, HX.out.1, HX.out.2.1, HM1.out.bl⟩
theorem implCopyOp_d (v : Value) (ps : List Pt) (w : World) (h : RdC w w.heap.size (encPs ps) v) (hs : SmP ps) : Calls Tryz.prog 68 #[v] w (OwnPost (encPs ps) w) := by
 obtain ⟨A, c, rfl⟩ := sliceP h
 have hl : ps.length ≤ 1048576 := by have := hs.1; omega
 have HR := Lib.hid h
 clear h
 have HM := Lib.hid (Ms.start w)
 go_enter Tryz.func68, Tryz.ntmps68
 go_wp2_with fail
 refine (clonePs_d _ ps _ HR.out hl).mono ?_
 rintro e' W1 (⟨h0, rfl, rfl⟩ | ⟨g, cap, ys, rfl, hcap, o', hraw, hcells, b'⟩)
 ·obtain rfl : ps = [] := List.map_eq_nil_iff.1 h0
  go_wp2
  refine wp_loop_rounds 1 ?_
  rw [rounds_succ]
  go_wp2
  go_ret
  exact (HM.out.nil 72 3).post
 ·rw [show (ps.map encPt).length = ps.length from List.length_map _] at hcap ⊢
  have HW := Lib.hid hraw
  have HC := Lib.hid hcells
  clear hraw hcells
  obtain ⟨bp, hm⟩ := HM.out.got o' b'
  clear o' b'
  replace HM := Lib.hid hm
  clear hm
  go_wp2
  go_loopw [10] (fun i wr => ∃ (j : Nat) (bs : List Nat), j ≤ ps.length ∧ i = .int .i64 (j : Int) ∧ Ms w [.dt (.rows 72 3 ((ps.take j).map encPt)) (.slice (some ⟨g, 0, none⟩) j cap) bs] wr ∧ Raw wr g (j * 3) ys) (fun i _ => ps.length - (intOf i).toNat)
  case atStart => exact ⟨0, _, Nat.zero_le _, rfl, HM.out, by simpa using HW.out⟩
  case round =>
   obtain ⟨j, bs, hj, rfl, hm, hw⟩ := hrel
   clear HM HW
   have HM := Lib.hid hm
   have HW := Lib.hid hw
   clear hm hw
   by_cases hlt : j < ps.length
   ·obtain ⟨p, hp⟩ : ∃ p, ps[j]? = some p := ⟨_, List.getElem?_eq_getElem hlt⟩
    obtain ⟨y, hy, hyl, hyk⟩ := HC.out j (encPt p) (by rw [List.getElem?_map, hp]; rfl)
    obtain ⟨_, _, rfl, rfl, _, _, rfl, rfl, v2, _, rfl, hr2, rfl⟩ := hy
    obtain ⟨A5, c5, rfl⟩ := sliceI hr2
    have x0 : wr.cell? ⟨g, j * 3, none⟩ = some (.int .i64 p.kind) := HW.out.cell (Nat.le_refl _) (hyk 0 _ rfl)
    have x1 : wr.cell? ⟨g, j * 3 + 1, none⟩ = some (.int .i64 p.n) := HW.out.cell (by omega) (hyk 1 _ rfl)
    have x2 : wr.cell? ⟨g, j * 3 + 2, none⟩ = some (.slice A5 p.signs.length c5) := HW.out.cell (by omega) (hyk 2 _ rfl)
    have HY := Lib.hid (show ys[j * 3]? = some (.int .i64 p.kind) ∧ ys[j * 3 + 1]? = some (.int .i64 p.n) from ⟨hyk 0 _ rfl, hyk 1 _ rfl⟩)
    have x3 : ys[j * 3 + 2]? = some (.slice A5 p.signs.length c5) := hyk 2 _ rfl
    have X3 := Lib.hid x3
    have HR2 := Lib.hid hr2
    have HT := Lib.hid (show (ps.take (j + 1)).map encPt = (ps.take j).map encPt ++ [[.int p.kind, .int p.n, encInts p.signs]] by rw [List.take_add_one, hp]; simp [encPt])
    have hsm := (show p.signs.length ≤ 1048576 from hs.all p (List.mem_of_getElem? hp))
    have hlj : j < cap := by omega
    have hlen : ((ps.take j).map encPt).length = j := by simp; omega
    have HLN := Lib.hid hlen
    clear hyk hyl hr2 x3 hp hlen
    have HW := Lib.hid (HW.out.past (alloc_below wr (.cells #[.int .i64 p.kind, .int .i64 p.n, .slice A5 p.signs.length c5] 72)))
    replace HM := Lib.hid (HM.out.new #[.int .i64 p.kind, .int .i64 p.n, .slice A5 p.signs.length c5] 72)
    go_wp2_with fail
    generalize (wr.alloc (.cells #[.int .i64 p.kind, .int .i64 p.n, .slice A5 p.signs.length c5] 72)) = W2 at HM HW ⊢
    refine (cloneI_d _ p.signs _ (HM.out.arg HR2.out) hsm).mono ?_
    rintro e' W3 ⟨v', rfl, o', b'⟩
    obtain ⟨A6, c6, rfl⟩ := sliceI o'.read
    have HW := Lib.hid (HW.out.past b')
    obtain ⟨b6, hm⟩ := HM.out.got o' b'
    clear o' b'
    replace HM := Lib.hid hm
    clear hm
    have y2 : W3.cell? ⟨g, j * 3 + 2, none⟩ = some (.slice A5 p.signs.length c5) := HW.out.cell (by omega) X3.out
    have f2 : W3.frozen? ⟨g, j * 3 + 2, none⟩ = false := HW.out.free
    clear x0 x1 x2
    have hm := HM.out.pk [2, 0, 1] (by decide) (by simp)
    simp only [low.pk, low.gz, low.gs] at hm
    replace HM := Lib.hid hm
    clear hm
    obtain ⟨b8, hm⟩ := HM.out.fill3 HLN.out.symm hlj HW.out HY.out.1 HY.out.2
    rw [← HT.out] at hm
    have HM8 := Lib.hid hm
    have HW8 := Lib.hid (HW.out.set (k' := (j + 1) * 3) (j * 3 + 2) (.slice A6 p.signs.length c6) (by omega) (by omega))
    clear hm HM HW HY X3 HT HR2
    go_wp2
    go_roundw
    case rel => exact ⟨j + 1, b8, by omega, by go_num, HM8.out.pick (ks := [0]) (by decide) rfl, HW8.out⟩
    case measure => simp [intOf]; omega
   ·obtain rfl : j = ps.length := by omega
    have hm := HM.out
    rw [List.take_length] at hm
    have HM7 := Lib.hid hm
    clear hm HM
    go_wp2
    go_ret
    exact (show Ms w [.dt (encPs ps) _ _] _ from HM7.out).post
theorem cloneEns_d (v : Value) (l : List En) (w : World) (h : RdC w w.heap.size (encEns l) v) (hs : l.length ≤ 1048576) : Calls Tryz.prog 65 #[v] w (RawPost 37 (l.map encEn) w) := by
 obtain ⟨A, c, rfl⟩ := sliceEns h
 have hq : ∀ (w : World) (A : Option Addr) (n c n' c' : Nat), (binOp .eql 30 (.slice A n c) (.slice none n' c')).run Tryz.prog w = .ok (.bool A.isNone) w := fun w A n c n' c' => Lib.run_eql_slice_nil w _ _ A n c n' c' Tryz.underlying30
 cases A with
 | none =>
  obtain rfl : l = [] := by
   obtain ⟨A9, c9, hv, _, h9⟩ := h
   injection hv with e1 e2 e3
   by_cases h0 : 0 < l.length
   ·obtain ⟨ad, e4, _⟩ := h9 (by simpa using h0)
    rw [← e1] at e4
    cases e4
   ·exact List.eq_nil_of_length_eq_zero (by omega)
  clear h
  go_enter Tryz.func65, Tryz.ntmps65
  go_wp2
  go_ret
  exact .inl ⟨rfl, rfl, rfl⟩
 | some ad =>
  have HR := Lib.hid h
  clear h
  have e0 : (l.map encEn).length = l.length := List.length_map _
  have E0 := Lib.hid e0
  clear e0
  have HM := Lib.hid (Ms.start w)
  replace HM := Lib.hid (HM.out.empty 37 3)
  go_enter Tryz.func65, Tryz.ntmps65
  go_wp2_with (at_builtin; refine wpList_raw (rs := l.map encEn) rfl (.tmp 5) (.tmp 6) 30 rfl eltEn HM.out rfl (some ad) l.length c rfl HR.out (fun r hr => by obtain ⟨q, _, rfl⟩ := List.mem_map.1 hr; exact ⟨rfl, fun d hd => by simp only [encEn, List.mem_cons, List.not_mem_nil, or_false] at hd; rcases hd with rfl | rfl | rfl <;> rfl⟩) (by rw [E0.out]; omega) ?_; intro g cap w1 b1 ys hcap hm hraw hcells)
  have HM1 := Lib.hid hm
  have HX := Lib.hid (And.intro hraw (And.intro hcells hcap))
  clear hm HM hraw hcells hcap
  go_wp2
  go_ret
  exact .inr ⟨g, cap, ys, by rw [E0.out]; rfl, by rw [E0.out]; exact HX.out.2.2, HM1.out.own (i := 0) rfl, HX.out.1, HX.out.2.1, HM1.out.bl⟩
theorem implCopyEntry_d (v : Value) (x : En) (w : World) (h : RdC w w.heap.size (datEn x) v) (hs : SmEn x) : Calls Tryz.prog 52 #[v] w (OwnPost (datEn x) w) := by
 obtain ⟨A2, c2, rfl, r2⟩ := aggEn h
 have HR := Lib.hid r2
 clear h r2
 have HM := Lib.hid (Ms.start w)
 replace HM := Lib.hid (HM.out.new #[.int .i64 x.client, .int .i64 x.seq, .slice A2 x.o.length c2] 37)
 have hm := HM.out.new #[.int .i64 0, .int .i64 0, .slice none 0 0] 37
 simp only [World.size_alloc] at hm
 replace HM := Lib.hid hm
 clear hm
 go_enter Tryz.func52, Tryz.ntmps52
 go_wp2_with fail
 obtain ⟨W1, hW, hm⟩ := HM.out.name
 rw [← hW]
 replace HM := Lib.hid hm
 clear hm hW
 refine (implCopyOp_d _ x.o _ (HM.out.arg HR.out) hs.o).mono ?_
 rintro e' W2 ⟨v', rfl, o', b'⟩
 obtain ⟨An, cn, rfl⟩ := sliceP o'.read
 obtain ⟨bn, hm⟩ := HM.out.got o' b'
 clear o' b'
 replace HM := Lib.hid hm
 clear hm
 obtain ⟨kx0, kx1, kx2⟩ := HM.out.c3 2 rfl
 obtain ⟨fx0, fx1, fx2⟩ := HM.out.f3 2 rfl
 obtain ⟨kr0, kr1, kr2⟩ := HM.out.c3 1 rfl
 obtain ⟨fr0, fr1, fr2⟩ := HM.out.f3 1 rfl
 obtain ⟨nxr, nrx⟩ := HM.out.ne (i := 1) (j := 2) rfl rfl (by omega)
 go_wp2
 clear kx0 kx1 kx2 kr0 kr1 kr2 fx0 fx1 fx2 fr0 fr1 fr2
 have hm := HM.out.pk [2, 0, 1] (by decide) (by simp)
 simp only [low.pk, low.gz, low.gs] at hm
 replace HM := Lib.hid hm
 clear hm
 have hm := HM.out.set (j := 2) (.slice An x.o.length cn)
 simp only [pa, pb, pc] at hm
 replace HM := Lib.hid hm
 clear hm
 have hm := HM.out.pk [2, 0, 1] (by decide) (by simp)
 simp only [low.pk, low.gz, low.gs] at hm
 replace HM := Lib.hid hm
 clear hm
 have hm := HM.out.putRow (ys := [.int .i64 x.client, .int .i64 x.seq, .slice An x.o.length cn]) rfl
 simp only [low.putRow, Nat.zero_add, Nat.reduceAdd] at hm
 replace HM := Lib.hid hm
 clear hm
 obtain ⟨W3, hW, hm⟩ := HM.out.name
 rw [← hW]
 replace HM := Lib.hid hm
 clear hm hW
 obtain ⟨kr0, kr1, kr2⟩ := HM.out.c3 0 rfl
 have hm := HM.out.pk [2, 0, 1] (by decide) (by simp)
 simp only [low.pk, low.gz, low.gs] at hm
 replace HM := Lib.hid hm
 clear hm
 exact bodyPost_ret (v := .agg #[.int .i64 x.client, .int .i64 x.seq, .slice An x.o.length cn]) (by simp [results, Tryz.results52, go_sem, kr0, kr1, kr2]) rfl (show Ms w (.dt (datEn x) (.agg #[.int .i64 x.client, .int .i64 x.seq, .slice An x.o.length cn]) _ :: _) _ from (HM.out.pk0.pkO.pkF rfl).pkF rfl).post
theorem implCopyEntries_d (v : Value) (l : List En) (w : World) (h : RdC w w.heap.size (encEns l) v) (hs : SmEns l) : Calls Tryz.prog 49 #[v] w (OwnPost (encEns l) w) := by
 obtain ⟨A, c, rfl⟩ := sliceEns h
 have hl : l.length ≤ 1048576 := by have := hs.len; omega
 have HR := Lib.hid h
 clear h
 have HM := Lib.hid (Ms.start w)
 go_enter Tryz.func49, Tryz.ntmps49
 go_wp2_with fail
 refine (cloneEns_d _ l _ HR.out hl).mono ?_
 rintro e' W1 (⟨h0, rfl, rfl⟩ | ⟨g, cap, ys, rfl, hcap, o', hraw, hcells, b'⟩)
 ·obtain rfl : l = [] := List.map_eq_nil_iff.1 h0
  go_wp2
  refine wp_loop_rounds 1 ?_
  rw [rounds_succ]
  go_wp2
  go_ret
  exact (HM.out.nil 37 3).post
 ·rw [show (l.map encEn).length = l.length from List.length_map _] at hcap ⊢
  have HW := Lib.hid hraw
  have HC := Lib.hid hcells
  clear hraw hcells
  obtain ⟨bp, hm⟩ := HM.out.got o' b'
  clear o' b'
  replace HM := Lib.hid hm
  clear hm
  go_wp2
  go_loopw [10] (fun i wr => ∃ (j : Nat) (bs : List Nat), j ≤ l.length ∧ i = .int .i64 (j : Int) ∧ Ms w [.dt (.rows 37 3 ((l.take j).map encEn)) (.slice (some ⟨g, 0, none⟩) j cap) bs] wr ∧ Raw wr g (j * 3) ys) (fun i _ => l.length - (intOf i).toNat)
  case atStart => exact ⟨0, _, Nat.zero_le _, rfl, HM.out, by simpa using HW.out⟩
  case round =>
   obtain ⟨j, bs, hj, rfl, hm, hw⟩ := hrel
   clear HM HW
   have HM := Lib.hid hm
   have HW := Lib.hid hw
   clear hm hw
   by_cases hlt : j < l.length
   ·obtain ⟨p, hp⟩ : ∃ p, l[j]? = some p := ⟨_, List.getElem?_eq_getElem hlt⟩
    obtain ⟨y, hy, hyl, hyk⟩ := HC.out j (encEn p) (by rw [List.getElem?_map, hp]; rfl)
    obtain ⟨_, _, rfl, rfl, _, _, rfl, rfl, v2, _, rfl, hr2, rfl⟩ := hy
    obtain ⟨A5, c5, rfl⟩ := sliceP hr2
    have x0 : wr.cell? ⟨g, j * 3, none⟩ = some (.int .i64 p.client) := HW.out.cell (by omega) (hyk 0 _ rfl)
    have X0 := Lib.hid (show ys[j * 3]? = some (.int .i64 p.client) from hyk 0 _ rfl)
    have x1 : wr.cell? ⟨g, j * 3 + 1, none⟩ = some (.int .i64 p.seq) := HW.out.cell (by omega) (hyk 1 _ rfl)
    have X1 := Lib.hid (show ys[j * 3 + 1]? = some (.int .i64 p.seq) from hyk 1 _ rfl)
    have x2 : wr.cell? ⟨g, j * 3 + 2, none⟩ = some (.slice A5 p.o.length c5) := HW.out.cell (by omega) (hyk 2 _ rfl)
    have X2 := Lib.hid (show ys[j * 3 + 2]? = some (.slice A5 p.o.length c5) from hyk 2 _ rfl)
    have HR2 := Lib.hid hr2
    have HT := Lib.hid (show (l.take (j + 1)).map encEn = (l.take j).map encEn ++ [[.int p.client, .int p.seq, encPs p.o]] by rw [List.take_add_one, hp]; simp [encEn])
    have hsm := hs.at_ (List.mem_of_getElem? hp)
    have hlj : j < cap := by omega
    have hlen : ((l.take j).map encEn).length = j := by simp; omega
    have HLN := Lib.hid hlen
    clear hyk hyl hr2 hp hlen
    have HW := Lib.hid (HW.out.past (alloc_below wr (.cells #[.int .i64 p.client, .int .i64 p.seq, .slice A5 p.o.length c5] 37)))
    replace HM := Lib.hid (HM.out.new #[.int .i64 p.client, .int .i64 p.seq, .slice A5 p.o.length c5] 37)
    go_wp2_with fail
    generalize (wr.alloc (.cells #[.int .i64 p.client, .int .i64 p.seq, .slice A5 p.o.length c5] 37)) = W2 at HM HW ⊢
    refine (implCopyEntry_d _ p _ (rdEn p (HM.out.arg HR2.out)) hsm).mono ?_
    rintro e' W3 ⟨v', rfl, o', b'⟩
    obtain ⟨A6, c6, rfl, -⟩ := aggEn o'.read
    have HW := Lib.hid (HW.out.past b')
    obtain ⟨b6, hm⟩ := HM.out.got o' b'
    clear o' b'
    obtain ⟨b7, hm⟩ := hm.unEn
    replace HM := Lib.hid hm
    clear hm
    clear x0 x1 x2
    have y0 : W3.cell? ⟨g, j * 3, none⟩ = some (.int .i64 p.client) := HW.out.cell (by omega) X0.out
    have f0 : W3.frozen? ⟨g, j * 3, none⟩ = false := HW.out.free
    have y1 : W3.cell? ⟨g, j * 3 + 1, none⟩ = some (.int .i64 p.seq) := HW.out.cell (by omega) X1.out
    have f1 : W3.frozen? ⟨g, j * 3 + 1, none⟩ = false := HW.out.free
    have y2 : W3.cell? ⟨g, j * 3 + 2, none⟩ = some (.slice A5 p.o.length c5) := HW.out.cell (by omega) X2.out
    have f2 : W3.frozen? ⟨g, j * 3 + 2, none⟩ = false := HW.out.free
    have hm := HM.out.pk [2, 0, 1] (by decide) (by simp)
    simp only [low.pk, low.gz, low.gs] at hm
    replace HM := Lib.hid hm
    clear hm
    obtain ⟨b8, hm⟩ := HM.out.fillA p.client p.seq HLN.out.symm hlj
    rw [← HT.out] at hm
    have HM8 := Lib.hid hm
    have HW8 := Lib.hid (((HW.out.set (k' := (j + 1) * 3) (j * 3) (.int .i64 p.client) (by omega) (by omega)).set (k' := (j + 1) * 3) (j * 3 + 1) (.int .i64 p.seq) (by omega) (by omega)).set (k' := (j + 1) * 3) (j * 3 + 2) (.slice A6 p.o.length c6) (by omega) (by omega))
    clear hm HM HW X0 X1 X2 HT HR2
    go_wp2
    go_roundw
    case rel => exact ⟨j + 1, b8, by omega, by go_num, HM8.out.pick (ks := [0]) (by decide) rfl, HW8.out⟩
    case measure => simp [intOf]; omega
   ·obtain rfl : j = l.length := by omega
    have hm := HM.out
    rw [List.take_length] at hm
    have HM7 := Lib.hid hm
    clear hm HM
    go_wp2
    go_ret
    exact (show Ms w [.dt (encEns l) _ _] _ from HM7.out).post
theorem implFlush_f (S : Nat → Prop) (lo g : Nat) (ps : List Pt) (put : List Int) (d : Int) (w : World) (hb : BAtS S lo g 101 w ps put d) (hS : ∀ b, w.heap.size ≤ b → S b) (hl : ps.length ≤ 4294967296) (hp : put.length ≤ 4294967296) :
  Calls Tryz.prog 104 #[.pointer (some ⟨g, 0, none⟩)] w (FlushedS S lo g 101 w (ps ++ putL put ++ dropL d)) := by
 obtain ⟨i0, hi0, hz0, hz1, hz2⟩ := info_parts part_info
 obtain ⟨v, u, us, hx, ha, hos⟩ := hb
 have HS := Lib.hid hS
 have HOS := Lib.hid hos
 clear hS hos
 have ha0 := ha.init hx.len
 obtain ⟨A, c, rfl⟩ := own_form (ha.last hx.len)
 have c0 := hx.cell0
 have c1 := hx.cell1
 have c2 := hx.cell2
 have f0 := hx.free 0
 have f1 := hx.free 1
 have f2 := hx.free 2
 have HX := Lib.hid hx
 have HA := Lib.hid ha
 have HA0 := Lib.hid ha0
 clear hx ha ha0
 by_cases hput : put.length = 0
 ·have e1 : putL put = [] := by simp [putL, hput]
  rw [e1, List.append_nil]
  by_cases hd : 0 < d
  ·have e2 : dropL d = [⟨3, d, []⟩] := by simp [dropL, hd]
   rw [e2]
   go_enter Tryz.func104, Tryz.ntmps104
   go_wp2_with fail
   have lg := HX.out.lt
   have hlo : lo ≤ w.heap.size := Nat.le_trans HX.out.low (Nat.le_of_lt lg)
   have hne := own_far HX.out.row HX.out.box (by decide)
   go_region_law ((refine step_append_lies _ (by rfl) (.tmp 31) (.tmp 37) 35 (by rfl) lo 72 i0 _ 3 40 Tryz.underlying35 hi0 hz0 hz1 hz2 rfl (by omega) v ps.length (cellsOf ps us) (by rfl) ((HX.out.row.alloc _).drew) ⟨w.heap.size, 0, none⟩ 1 1 [.int .i64 3, .int .i64 d, .slice none 0 0] (by rfl) (by rfl) (World.news_of_block (cs := #[.int .i64 3, .int .i64 d, .slice none 0 0]) (t := 72) (fr := (0, 0)) (heap_alloc_new w _)) (by simp [Value.oneCell']) (by omega) (by unfold maxLen; omega) (by omega) (by simp; omega) (w.heap.size + 1) (by simp) ?_; intro gg cap w1 hown1 hgrow hat hlt; have hf := free_grown (o := 0) HX.out.box (below_made w _) hgrow hne; have hf1 := free_grown (o := 1) HX.out.box (below_made w _) hgrow hne; have hf2 := free_grown (o := 2) HX.out.box (below_made w _) hgrow hne; have hc : w1.cell? ⟨g, 0, none⟩ = some v := cell_grown 0 HX.out.box (below_made w _) hgrow hne; have hc1 : w1.cell? ⟨g, 1, none⟩ = some (.slice A put.length c) := cell_grown 1 HX.out.box (below_made w _) hgrow hne; have hc2 : w1.cell? ⟨g, 2, none⟩ = some (.int .i64 d) := cell_grown 2 HX.out.box (below_made w _) hgrow hne))
   all_goals
    obtain ⟨hx2, ha2, b2⟩ := Box.push (p := ⟨3, d, []⟩) HX.out (by decide) (by decide) (Apart.bare 3 d HA0.out) (below_made w _) hown1 hgrow
    have HO2 := Lib.hid (HOS.out.init.push (n := ps.length + 1) (cap := cap) nil_own hat (HS.out _ (by omega)))
    have HR2 := Lib.hid (push_fr HOS.out.init (below_made w _) hgrow (.slice (some ⟨gg, 0, none⟩) (ps.length + 1) cap))
    have HX2 := Lib.hid hx2
    have HA2 := Lib.hid ha2
    have HB2 := Lib.hid b2
    clear hx2 ha2 b2
    go_wp2
    go_end0
    obtain ⟨r1, r2, r3⟩ := HX2.out.clearS (by decide) (by decide) HA2.out HO2.out
    exact ⟨rfl, r1, HB2.out.trans r2, HR2.out.trans r3⟩
  ·have e2 : dropL d = [] := by simp [dropL]; omega
   rw [e2, List.append_nil]
   go_enter Tryz.func104, Tryz.ntmps104
   go_wp2_with fail
   go_end0
   obtain ⟨r1, r2, r3⟩ := HX.out.clearS (by decide) (by decide) HA0.out HOS.out.init
   exact ⟨rfl, r1, r2, r3⟩
 ·have hput' : (0 : Int) < (put.length : Int) := by omega
  have e1 : putL put = [⟨2, 0, put⟩] := by simp [putL, hput]
  rw [e1]
  by_cases hd : 0 < d
  ·have e2 : dropL d = [⟨3, d, []⟩] := by simp [dropL, hd]
   rw [e2]
   generalize hQ : ps ++ [⟨2, 0, put⟩] ++ [⟨3, d, []⟩] = Q
   have HQ := Lib.hid hQ
   clear hQ
   go_enter Tryz.func104, Tryz.ntmps104
   go_wp2_with fail
   have lg := HX.out.lt
   have hlo : lo ≤ w.heap.size := Nat.le_trans HX.out.low (Nat.le_of_lt lg)
   have hne := own_far HX.out.row HX.out.box (by decide)
   go_region_law ((refine step_append_lies _ (by rfl) (.tmp 12) (.tmp 18) 35 (by rfl) lo 72 i0 _ 3 40 Tryz.underlying35 hi0 hz0 hz1 hz2 rfl (by omega) v ps.length (cellsOf ps us) (by rfl) ((HX.out.row.alloc _).drew) ⟨w.heap.size, 0, none⟩ 1 1 [.int .i64 2, .int .i64 0, .slice A put.length c] (by rfl) (by rfl) (World.news_of_block (cs := #[.int .i64 2, .int .i64 0, .slice A put.length c]) (t := 72) (fr := (0, 0)) (heap_alloc_new w _)) (by simp [Value.oneCell']) (by omega) (by unfold maxLen; omega) (by omega) (by simp; omega) (w.heap.size + 1) (by simp) ?_; intro gg cap w1 hown1 hgrow hat hlt; have hf := free_grown (o := 0) HX.out.box (below_made w _) hgrow hne; have hf1 := free_grown (o := 1) HX.out.box (below_made w _) hgrow hne; have hf2 := free_grown (o := 2) HX.out.box (below_made w _) hgrow hne; have hc : w1.cell? ⟨g, 0, none⟩ = some v := cell_grown 0 HX.out.box (below_made w _) hgrow hne; have hc1 : w1.cell? ⟨g, 1, none⟩ = some (.slice A put.length c) := cell_grown 1 HX.out.box (below_made w _) hgrow hne; have hc2 : w1.cell? ⟨g, 2, none⟩ = some (.int .i64 d) := cell_grown 2 HX.out.box (below_made w _) hgrow hne))
   all_goals
    obtain ⟨hx1, ha1, b1⟩ := Box.push (p := ⟨2, 0, put⟩) HX.out (by decide) (by decide) HA.out (below_made w _) hown1 hgrow
    have HO1 := Lib.hid (HOS.out.init.push (n := ps.length + 1) (cap := cap) HOS.out.last hat (HS.out _ (by omega)))
    have HR1 := Lib.hid (push_fr HOS.out.init (below_made w _) hgrow (.slice (some ⟨gg, 0, none⟩) (ps.length + 1) cap))
    clear hown1 hgrow hat hlt hlo hne lg c0 c1 c2 f0 f1 f2
    have HX1 := Lib.hid hx1
    have HA1 := Lib.hid ha1
    have HB1 := Lib.hid b1
    clear hx1 ha1 b1
    go_wp2_with fail
    clear hf hf1 hf2 hc hc1 hc2
    generalize (Value.slice (some ⟨gg, 0, none⟩) (ps.length + 1) cap) = v1 at *
    generalize w1.setCell ⟨g, 0, none⟩ v1 = W1 at *
    have c0 := HX1.out.cell0
    have c1 := HX1.out.cell1
    have c2 := HX1.out.cell2
    have f0 := HX1.out.free 0
    have f1 := HX1.out.free 1
    have f2 := HX1.out.free 2
    generalize hps : ps ++ [⟨2, 0, put⟩] = ps1 at *
    have hl1 : ps1.length ≤ 4294967297 := by rw [← hps]; simp; omega
    clear hps
    generalize us ++ [Value.slice A put.length c] = us1 at *
    have lg := HX1.out.lt
    have hlo : lo ≤ W1.heap.size := Nat.le_trans HX1.out.low (Nat.le_of_lt lg)
    have hne := own_far HX1.out.row HX1.out.box (by decide)
    go_region_law ((refine step_append_lies _ (by rfl) (.tmp 31) (.tmp 37) 35 (by rfl) lo 72 i0 _ 3 40 Tryz.underlying35 hi0 hz0 hz1 hz2 rfl (by omega) v1 ps1.length (cellsOf ps1 us1) (by rfl) ((HX1.out.row.alloc _).drew) ⟨W1.heap.size, 0, none⟩ 1 1 [.int .i64 3, .int .i64 d, .slice none 0 0] (by rfl) (by rfl) (World.news_of_block (cs := #[.int .i64 3, .int .i64 d, .slice none 0 0]) (t := 72) (fr := (0, 0)) (heap_alloc_new W1 _)) (by simp [Value.oneCell']) (by omega) (by unfold maxLen; omega) (by omega) (by simp; omega) (W1.heap.size + 1) (by simp) ?_; intro gg cap w1 hown1 hgrow hat hlt; have hf := free_grown (o := 0) HX1.out.box (below_made W1 _) hgrow hne; have hf1 := free_grown (o := 1) HX1.out.box (below_made W1 _) hgrow hne; have hf2 := free_grown (o := 2) HX1.out.box (below_made W1 _) hgrow hne; have hc : w1.cell? ⟨g, 0, none⟩ = some v1 := cell_grown 0 HX1.out.box (below_made W1 _) hgrow hne; have hc1 : w1.cell? ⟨g, 1, none⟩ = some (.slice A put.length c) := cell_grown 1 HX1.out.box (below_made W1 _) hgrow hne; have hc2 : w1.cell? ⟨g, 2, none⟩ = some (.int .i64 d) := cell_grown 2 HX1.out.box (below_made W1 _) hgrow hne))
    all_goals
     obtain ⟨hx2, ha2, b2⟩ := Box.push (p := ⟨3, d, []⟩) HX1.out (by decide) (by decide) (Apart.bare 3 d HA1.out) (below_made W1 _) hown1 hgrow
     have HO2 := Lib.hid (HO1.out.push (n := ps1.length + 1) (cap := cap) nil_own hat (HS.out _ (by have := HR1.out.size; omega)))
     have HR2 := Lib.hid (push_fr HO1.out (below_made W1 _) hgrow (.slice (some ⟨gg, 0, none⟩) (ps1.length + 1) cap))
     have HX2 := Lib.hid hx2
     have HA2 := Lib.hid ha2
     have HB2 := Lib.hid b2
     clear hx2 ha2 b2
     go_wp2
     go_end0
     obtain ⟨r1, r2, r3⟩ := HX2.out.clearS (by decide) (by decide) HA2.out HO2.out
     exact ⟨rfl, by rw [← HQ.out]; exact r1, HB1.out.trans (HB2.out.trans r2), HR1.out.trans (HR2.out.trans r3)⟩
  ·have e2 : dropL d = [] := by simp [dropL]; omega
   rw [e2, List.append_nil]
   go_enter Tryz.func104, Tryz.ntmps104
   go_wp2_with fail
   have lg := HX.out.lt
   have hlo : lo ≤ w.heap.size := Nat.le_trans HX.out.low (Nat.le_of_lt lg)
   have hne := own_far HX.out.row HX.out.box (by decide)
   go_region_law ((refine step_append_lies _ (by rfl) (.tmp 12) (.tmp 18) 35 (by rfl) lo 72 i0 _ 3 40 Tryz.underlying35 hi0 hz0 hz1 hz2 rfl (by omega) v ps.length (cellsOf ps us) (by rfl) ((HX.out.row.alloc _).drew) ⟨w.heap.size, 0, none⟩ 1 1 [.int .i64 2, .int .i64 0, .slice A put.length c] (by rfl) (by rfl) (World.news_of_block (cs := #[.int .i64 2, .int .i64 0, .slice A put.length c]) (t := 72) (fr := (0, 0)) (heap_alloc_new w _)) (by simp [Value.oneCell']) (by omega) (by unfold maxLen; omega) (by omega) (by simp; omega) (w.heap.size + 1) (by simp) ?_; intro gg cap w1 hown1 hgrow hat hlt; have hf := free_grown (o := 0) HX.out.box (below_made w _) hgrow hne; have hf1 := free_grown (o := 1) HX.out.box (below_made w _) hgrow hne; have hf2 := free_grown (o := 2) HX.out.box (below_made w _) hgrow hne; have hc : w1.cell? ⟨g, 0, none⟩ = some v := cell_grown 0 HX.out.box (below_made w _) hgrow hne; have hc1 : w1.cell? ⟨g, 1, none⟩ = some (.slice A put.length c) := cell_grown 1 HX.out.box (below_made w _) hgrow hne; have hc2 : w1.cell? ⟨g, 2, none⟩ = some (.int .i64 d) := cell_grown 2 HX.out.box (below_made w _) hgrow hne))
   all_goals
    obtain ⟨hx1, ha1, b1⟩ := Box.push (p := ⟨2, 0, put⟩) HX.out (by decide) (by decide) HA.out (below_made w _) hown1 hgrow
    have HO2 := Lib.hid (HOS.out.init.push (n := ps.length + 1) (cap := cap) HOS.out.last hat (HS.out _ (by omega)))
    have HR2 := Lib.hid (push_fr HOS.out.init (below_made w _) hgrow (.slice (some ⟨gg, 0, none⟩) (ps.length + 1) cap))
    have HX2 := Lib.hid hx1
    have HA2 := Lib.hid ha1
    have HB2 := Lib.hid b1
    clear hx1 ha1 b1
    go_wp2
    go_end0
    obtain ⟨r1, r2, r3⟩ := HX2.out.clearS (by decide) (by decide) HA2.out HO2.out
    exact ⟨rfl, r1, HB2.out.trans r2, HR2.out.trans r3⟩
theorem implDrop_f (S : Nat → Prop) (lo g : Nat) (ps : List Pt) (put : List Int) (d n : Int) (w : World) (hb : BAtS S lo g 101 w ps put d) (hS : ∀ b, w.heap.size ≤ b → S b) (h0 : 0 ≤ d) (h1 : d ≤ 4611686018427387904) (h2 : 0 ≤ n) (h3 : n ≤ 1048576) :
  Calls Tryz.prog 103 #[.pointer (some ⟨g, 0, none⟩), .int .i64 n] w (BuiltS S lo g 101 w ps put (d + n)) := by
 obtain ⟨v, u, us, hx, ha, hos⟩ := hb
 have HS := Lib.hid hS
 have HOS := Lib.hid hos
 clear hS hos
 have c2 := hx.cell2
 have f2 := hx.free 2
 have HX := Lib.hid hx
 have HA := Lib.hid ha
 clear hx ha
 go_enter Tryz.func103, Tryz.ntmps103
 go_wp2
 go_end0
 obtain ⟨r1, r2, r3⟩ := HX.out.dropS (d' := d + n) (by decide) (by decide) HA.out HOS.out
 exact ⟨rfl, r1, r2, r3⟩
theorem implPut_f (S : Nat → Prop) (lo g : Nat) (ps : List Pt) (put : List Int) (d : Int) (A : Option Addr) (c : Nat) (zs : List Int) (w : World) (hb : BAtS S lo g 101 w ps put d) (hS : ∀ b, w.heap.size ≤ b → S b) (hr : Row (Value.int .i64) w w.heap.size A zs) (hp : put.length ≤ 4294967296) (hz : zs.length ≤ 4294967296) :
  Calls Tryz.prog 102 #[.pointer (some ⟨g, 0, none⟩), .slice A zs.length c] w (BuiltS S lo g 101 w ps (put ++ zs) d) := by
 obtain ⟨i0, hi0, hz0, hz1, hz2⟩ := info_parts ints_info
 obtain ⟨v, u, us, hx, ha, hos⟩ := hb
 have HS := Lib.hid hS
 have HOS := Lib.hid hos
 clear hS hos
 obtain ⟨Au, cu, rfl⟩ := own_form (ha.last hx.len)
 simp only at hx ha
 have c1 := hx.cell1
 have f1 := hx.free 1
 have ho := Lib.hid (ha.last hx.len)
 have hlo : lo ≤ w.heap.size := Nat.le_trans hx.low (Nat.le_of_lt hx.lt)
 have HX := Lib.hid hx
 have HA := Lib.hid ha
 clear hx ha
 by_cases hn : 0 < zs.length
 ·obtain ⟨ad, rfl, hbk, hcs⟩ := hr hn
  have hcs' : ∀ j x, (zs.map (Value.int .i64))[j]? = some x → w.cell? (ad.add j) = some x := fun j x hx => by
   rw [List.getElem?_map] at hx
   obtain ⟨z, hz, rfl⟩ := Option.map_eq_some_iff.1 hx
   exact hcs j z hz
  have HC := Lib.hid hcs'
  clear hcs hcs' hr
  have hug := own_far ho.out HX.out.box (by decide)
  go_enter Tryz.func102, Tryz.ntmps102
  go_wp2_with (at_builtin; refine wpList_append_lies _ rfl (.tmp 8) (.tmp 9) 66 rfl lo 3 i0 (.int .i64 0) 1 8 Tryz.underlying66 hi0 hz0 hz1 hz2 rfl (by decide) (.slice Au put.length cu) put.length (put.map (Value.int .i64)) rfl ho.out ad zs.length c (zs.map (Value.int .i64)) rfl (by simp) HC.out (by simp [Value.oneCell']) (by omega) (by unfold maxLen; omega) (by omega) hlo w.heap.size rfl ?_; intro gg cap w1 hown1 hgrow hat hlt; have hf := free_grown (o := 1) HX.out.box (Below.refl _ _) hgrow hug; have hc : w1.cell? ⟨g, 1, none⟩ = some (.slice Au put.length cu) := cell_grown 1 HX.out.box (Below.refl _ _) hgrow hug)
  go_end0
  obtain ⟨r1, r2, r3⟩ := Box.moreS (put' := put ++ zs) HX.out (by decide) (by decide) HA.out (by simpa using hown1) hgrow (hat.elim (fun e => .inl (by rw [e]; rfl)) (fun e => .inr (by rw [← e]; rfl))) HOS.out (HS.out _ (Nat.le_refl _))
  exact ⟨rfl, r1, r2, r3⟩
 ·have e0 : zs = [] := List.eq_nil_of_length_eq_zero (by omega)
  subst e0
  rw [List.append_nil]
  go_enter Tryz.func102, Tryz.ntmps102
  go_wp2_with (at_builtin; refine wpList_append_zero rfl (.tmp 8) (.tmp 9) 66 rfl lo 3 i0 1 Tryz.underlying66 hi0 (.slice Au put.length cu) put.length (put.map (Value.int .i64)) rfl ho.out A c rfl ?_)
  go_end0
  obtain ⟨r1, r2, r3⟩ := Box.moreS (put' := put) HX.out (by decide) (by decide) HA.out ho.out ⟨rfl, rfl, rfl, Nat.le_refl _, fun _ _ _ => rfl⟩ (.inl rfl) HOS.out (HS.out _ (Nat.le_refl _))
  exact ⟨rfl, r1, r2, r3⟩
theorem implDrop_any (lo g : Nat) (ps : List Pt) (put : List Int) (d n : Int) (w : World) (hb : BAt lo g 101 w ps put d) (h0 : 0 ≤ d) (h1 : d ≤ 4611686018427387904) (h2 : 0 ≤ n) (h3 : n ≤ 1048576) :
  Calls Tryz.prog 103 #[.pointer (some ⟨g, 0, none⟩), .int .i64 n] w (Built lo g 101 w ps put (d + n)) :=
 (implDrop_f (fun _ => True) lo g ps put d n w hb.all (fun _ _ => trivial) h0 h1 h2 h3).mono fun e w' h => h.any
theorem implPut_any (lo g : Nat) (ps : List Pt) (put : List Int) (d : Int) (A : Option Addr) (c : Nat) (zs : List Int) (w : World) (hb : BAt lo g 101 w ps put d) (hr : Row (Value.int .i64) w w.heap.size A zs) (hp : put.length ≤ 4294967296) (hz : zs.length ≤ 4294967296) :
  Calls Tryz.prog 102 #[.pointer (some ⟨g, 0, none⟩), .slice A zs.length c] w (Built lo g 101 w ps (put ++ zs) d) :=
 (implPut_f (fun _ => True) lo g ps put d A c zs w hb.all (fun _ _ => trivial) hr hp hz).mono fun e w' h => h.any
theorem implDone_f (S : Nat → Prop) (lo g : Nat) (ps : List Pt) (put : List Int) (d : Int) (w : World) (hb : BAtS S lo g 101 w ps put d) (hS : ∀ b, w.heap.size ≤ b → S b) (hl : ps.length ≤ 4294967296) (hp : put.length ≤ 4294967296) :
  Calls Tryz.prog 84 #[.pointer (some ⟨g, 0, none⟩)] w (GoneS S lo (ps ++ putL put ++ dropL d) w) := by
 go_enter Tryz.func84, Tryz.ntmps84
 go_wp2_with fail
 refine (implFlush_f S lo g ps put d w hb hS hl hp).mono ?_
 rintro e w1 ⟨rfl, ⟨v, us, hx, ha, hos⟩, b1, fr1⟩
 have HS := Lib.hid hS
 have HOS := Lib.hid hos
 have HR := Lib.hid fr1
 clear hS hos fr1
 obtain ⟨Av, cv, rfl⟩ := own_form hx.row
 have c0 := hx.cell0
 have HX := Lib.hid hx
 have HA := Lib.hid ha
 clear hx ha
 generalize ps ++ putL put ++ dropL d = q at *
 go_wp2
 go_ret
 exact ⟨_, us, rfl, HX.out.parts HA.out, b1, HR.out, HX.out.row, HX.out.len, HOS.out.2.1, HOS.out.2.2⟩
theorem implKeep_f (S : Nat → Prop) (lo g : Nat) (ps : List Pt) (put : List Int) (d n : Int) (w : World) (hb : BAtS S lo g 101 w ps put d) (hS : ∀ b, w.heap.size ≤ b → S b) (hl : ps.length ≤ 4294967296) (hp : put.length ≤ 4294967296) (hn : ¬ n = 0) (hn0 : 0 ≤ n) (hn1 : n ≤ 1048576)
  (hq : ∀ p ∈ ps ++ putL put ++ dropL d, 0 ≤ p.n ∧ p.n ≤ 4611686018427387904) (hql : (ps ++ putL put ++ dropL d).length ≤ 4294967298) :
  Calls Tryz.prog 101 #[.pointer (some ⟨g, 0, none⟩), .int .i64 n] w (FlushedS S lo g 101 w (keepTo (ps ++ putL put ++ dropL d) n)) := by
 obtain ⟨i0, hi0, hz0, hz1, hz2⟩ := info_parts part_info
 go_enter Tryz.func101, Tryz.ntmps101
 go_wp2_with fail
 refine (implFlush_f S lo g ps put d w hb hS hl hp).mono ?_
 rintro e w1 ⟨rfl, ⟨v, us, hx, ha, hos⟩, b1, fr1⟩
 have HS := Lib.hid hS
 have HOS := Lib.hid hos
 have HR := Lib.hid fr1
 clear hS hos fr1
 generalize ps ++ putL put ++ dropL d = q at *
 have c0 := hx.cell0
 have f0 := hx.free 0
 have hne := own_far hx.row hx.box (by decide)
 have hlo : lo ≤ w1.heap.size := Nat.le_trans hx.low (Nat.le_of_lt hx.lt)
 rcases q.eq_nil_or_concat with rfl | ⟨r, p, rfl⟩
 ·obtain ⟨Av, cv, rfl⟩ := own_form hx.row
  have HX := Lib.hid hx
  have HA := Lib.hid ha
  clear hx ha
  go_wp2_with (at_builtin; refine wpList_append_lies _ rfl (.tmp 44) (.tmp 47) 35 rfl lo 72 i0 _ 3 40 Tryz.underlying35 hi0 hz0 hz1 hz2 rfl (by omega) (.slice Av 0 cv) 0 (cellsOf [] us) rfl (HX.out.row.alloc _) ⟨w1.heap.size, 0, none⟩ 1 1 [.int .i64 1, .int .i64 n, .slice none 0 0] rfl rfl (World.news_of_block (cs := #[.int .i64 1, .int .i64 n, .slice none 0 0]) (t := 72) (fr := (0, 0)) (heap_alloc_new w1 _)) (by simp [Value.oneCell']) (by omega) (by unfold maxLen; omega) (by omega) (by simp; omega) (w1.heap.size + 1) (by simp) ?_; intro gg cap w2 hown1 hgrow hat hlt; have hf := free_grown (o := 0) HX.out.box (below_new w1 _) hgrow hne; have hc : w2.cell? ⟨g, 0, none⟩ = some (.slice Av 0 cv) := cell_grown 0 HX.out.box (below_new w1 _) hgrow hne)
  go_end0
  obtain ⟨hx2, ha2, b2⟩ := Box.push (p := ⟨1, n, []⟩) HX.out (by decide) (by decide) (Apart.bare 1 n HA.out) (below_new w1 _) hown1 hgrow
  refine ⟨rfl, ?_, b1.trans b2, HR.out.trans (push_fr HOS.out (below_new w1 _) hgrow _)⟩
  rw [keepTo_nil]
  exact ⟨_, _, hx2, ha2, HOS.out.push nil_own hat (HS.out _ (by have := HR.out.size; omega))⟩
 ·rw [List.concat_eq_append] at *
  have hrl : (r ++ [p]).length = r.length + 1 := by simp
  rw [hrl] at hql
  have hp0 := hq p (by simp)
  clear hq
  rcases hx.row.2 with ⟨_, h0⟩ | ⟨gv, cap0, cur, rfl, hgv, hhv, hcap, hcap2, _, _⟩
  ·simp at h0
  rw [hrl] at c0 hne hcap hx
  have hrow : w1.ownsRow lo 72 3 (.slice (some ⟨gv, 0, none⟩) (r.length + 1) cap0) (r.length + 1) (cellsOf (r ++ [p]) us) := by have := hx.row; rwa [hrl] at this
  have k0 : w1.cell? ⟨gv, r.length * 3, none⟩ = some (.int .i64 p.kind) := by
   have := hrow.cellAt (r.length * 3) (by omega)
   obtain ⟨u, hu⟩ := idx_some (l := us) (i := r.length) (by rw [hx.len]; simp)
   rw [this, (cellsOf_at (r ++ [p]) us r.length p u (by simp) hu).1]
  have k1 : w1.cell? ⟨gv, r.length * 3 + 1, none⟩ = some (.int .i64 p.n) := by
   have := hrow.cellAt (r.length * 3 + 1) (by omega)
   obtain ⟨u, hu⟩ := idx_some (l := us) (i := r.length) (by rw [hx.len]; simp)
   rw [this, (cellsOf_at (r ++ [p]) us r.length p u (by simp) hu).2.1]
  have fv := hrow.frozenAt (r.length * 3 + 1)
  have HRW := Lib.hid hrow
  clear hrow
  have HX := Lib.hid hx
  have HA := Lib.hid ha
  clear hx ha hhv
  by_cases hk : p.kind = 1
  ·go_wp2
   go_end0
   obtain ⟨hx2, ha2, b2⟩ := Box.setN (b := p.n + n) HX.out (by decide) (by decide) HA.out
   refine ⟨rfl, ?_, b1.trans b2, HR.out.trans (setN_fr HOS.out _)⟩
   rw [keepTo_t n hk]
   exact ⟨_, _, hx2, ha2, HOS.out⟩
  ·go_wp2_with (at_builtin; refine wpList_append_lies _ rfl (.tmp 44) (.tmp 47) 35 rfl lo 72 i0 _ 3 40 Tryz.underlying35 hi0 hz0 hz1 hz2 rfl (by omega) (.slice (some ⟨gv, 0, none⟩) (r.length + 1) cap0) (r.length + 1) (cellsOf (r ++ [p]) us) rfl (HRW.out.alloc _) ⟨w1.heap.size, 0, none⟩ 1 1 [.int .i64 1, .int .i64 n, .slice none 0 0] rfl rfl (World.news_of_block (cs := #[.int .i64 1, .int .i64 n, .slice none 0 0]) (t := 72) (fr := (0, 0)) (heap_alloc_new w1 _)) (by simp [Value.oneCell']) (by omega) (by unfold maxLen; omega) (by omega) (by simp; omega) (w1.heap.size + 1) (by simp) ?_; intro gg cap w2 hown1 hgrow hat hlt; have hf := free_grown (o := 0) HX.out.box (below_new w1 _) hgrow hne; have hc : w2.cell? ⟨g, 0, none⟩ = some (.slice (some ⟨gv, 0, none⟩) (r.length + 1) cap0) := cell_grown 0 HX.out.box (below_new w1 _) hgrow hne)
   go_end0
   obtain ⟨hx2, ha2, b2⟩ := Box.push (p := ⟨1, n, []⟩) HX.out (by decide) (by decide) (Apart.bare 1 n HA.out) (below_new w1 _) (by rw [hrl]; exact hown1) hgrow
   rw [hrl] at hx2 ha2 b2
   refine ⟨rfl, ?_, b1.trans b2, HR.out.trans (push_fr HOS.out (below_new w1 _) hgrow _)⟩
   rw [keepTo_f n hk]
   exact ⟨_, _, hx2, ha2, HOS.out.push nil_own hat (HS.out _ (by have := HR.out.size; omega))⟩
theorem implDone_any (lo g : Nat) (ps : List Pt) (put : List Int) (d : Int) (w : World) (hb : BAt lo g 101 w ps put d) (hl : ps.length ≤ 4294967296) (hp : put.length ≤ 4294967296) :
  Calls Tryz.prog 84 #[.pointer (some ⟨g, 0, none⟩)] w (Gone lo (ps ++ putL put ++ dropL d) w) :=
 (implDone_f (fun _ => True) lo g ps put d w hb.all (fun _ _ => trivial) hl hp).mono fun e w' h => h.any
theorem implKeep_any (lo g : Nat) (ps : List Pt) (put : List Int) (d n : Int) (w : World) (hb : BAt lo g 101 w ps put d) (hl : ps.length ≤ 4294967296) (hp : put.length ≤ 4294967296) (hn : ¬ n = 0) (hn0 : 0 ≤ n) (hn1 : n ≤ 1048576)
  (hq : ∀ p ∈ ps ++ putL put ++ dropL d, 0 ≤ p.n ∧ p.n ≤ 4611686018427387904) (hql : (ps ++ putL put ++ dropL d).length ≤ 4294967298) :
  Calls Tryz.prog 101 #[.pointer (some ⟨g, 0, none⟩), .int .i64 n] w (Flushed lo g 101 w (keepTo (ps ++ putL put ++ dropL d) n)) :=
 (implKeep_f (fun _ => True) lo g ps put d n w hb.all (fun _ _ => trivial) hl hp hn hn0 hn1 hq hql).mono fun e w' h => h.any
theorem implKeep_zero (g : Nat) (w : World) : Calls Tryz.prog 101 #[.pointer (some ⟨g, 0, none⟩), .int .i64 0] w fun e w' => e = .returned (.tuple #[]) ∧ w = w' := by
 go_enter Tryz.func101, Tryz.ntmps101
 go_wp2
 first | go_end0 | (refine bodyPost_ret (results_none rfl _ _ _) rfl ?_)
 exact ⟨rfl, rfl⟩
theorem implPartOk_any (p : Pt) (A : Option Addr) (c : Nat) (w : World) (hr : Row (Value.int .i64) w w.heap.size A p.signs) (hl : p.signs.length ≤ 4294967296) :
  Calls Tryz.prog 98 #[.agg #[.int .i64 p.kind, .int .i64 p.n, .slice A p.signs.length c]] w (Tells (okPt p) w) := by
 obtain ⟨k, n, zs⟩ := p
 have hr' : Row (Value.int .i64) w w.heap.size A zs := hr
 have hl' : zs.length ≤ 4294967296 := hl
 clear hr hl
 by_cases hk : k = 1 ∨ k = 3
 ·by_cases h0 : 0 ≤ n
  ·by_cases h1 : n ≤ 200
   ·by_cases hz : zs.length = 0
    all_goals
     have HS := Lib.hid (show okPt ⟨k, n, zs⟩ = decide (zs.length = 0) by
      first
       | (rw [okPt_t (.inl ⟨hk, ⟨h0, h1⟩, hz⟩), decide_eq_true hz])
       | (rw [okPt_f (by simp only; omega), decide_eq_false hz]))
     have hzb : ((zs.length : Int) == 0) = decide (zs.length = 0) := by
      first
       | (rw [decide_eq_true hz, beq_iff_eq]; omega)
       | (rw [decide_eq_false hz, beq_eq_false_iff_ne]; omega)
     generalize decide (zs.length = 0) = bb at HS hzb
     clear hz
     rcases hk with rfl | rfl
     all_goals
      go_enter Tryz.func98, Tryz.ntmps98
      go_wp2
      go_ret
      exact ⟨ret_bool (by rw [HS.out]), alloc_below _ _⟩
   ·have HS := Lib.hid (show okPt ⟨k, n, zs⟩ = false by rw [okPt_f (by simp only; omega)])
    rcases hk with rfl | rfl
    all_goals
     go_enter Tryz.func98, Tryz.ntmps98
     go_wp2
     go_ret
     exact ⟨ret_bool (by rw [HS.out]), alloc_below _ _⟩
  ·have HS := Lib.hid (show okPt ⟨k, n, zs⟩ = false by rw [okPt_f (by simp only; omega)])
   rcases hk with rfl | rfl
   all_goals
    go_enter Tryz.func98, Tryz.ntmps98
    go_wp2
    go_ret
    exact ⟨ret_bool (by rw [HS.out]), alloc_below _ _⟩
 ·have hk1 : (k == 1) = false := by rw [beq_eq_false_iff_ne]; omega
  have hk3 : (k == 3) = false := by rw [beq_eq_false_iff_ne]; omega
  by_cases hk2 : k = 2
  ·have hk2' : (k == 2) = true := by rw [beq_iff_eq]; exact hk2
   by_cases hn : n = 0
   ·have hn' : (n == 0) = true := by rw [beq_iff_eq]; exact hn
    have HS := Lib.hid (show okPt ⟨k, n, zs⟩ = (allB zs && decide (zs.length ≤ 200)) by
     unfold okPt
     simp [hk2, hn])
    clear hk hk2 hn
    by_cases hlen : zs.length ≤ 200
    ·have HL := Lib.hid (decide_eq_true hlen)
     go_enter Tryz.func98, Tryz.ntmps98
     go_wp2_with (go_at_call 113; refine (implSignsOk_any A c zs _ (hr'.past_alloc _) hl').mono ?_; rintro e w' ⟨rfl, rfl⟩)
     go_ret
     refine ⟨ret_bool ?_, alloc_below _ _⟩
     rw [HS.out, HL.out, Bool.and_true]
    ·have HL := Lib.hid (decide_eq_false hlen)
     go_enter Tryz.func98, Tryz.ntmps98
     go_wp2
     go_ret
     refine ⟨ret_bool ?_, alloc_below _ _⟩
     rw [HS.out, HL.out, Bool.and_false]
   ·have hn' : (n == 0) = false := by rw [beq_eq_false_iff_ne]; exact hn
    have HS := Lib.hid (show okPt ⟨k, n, zs⟩ = false by rw [okPt_f (by simp only; omega)])
    clear hk hk2 hn
    go_enter Tryz.func98, Tryz.ntmps98
    go_wp2
    go_ret
    exact ⟨ret_bool (by rw [HS.out]), alloc_below _ _⟩
  ·have hk2' : (k == 2) = false := by rw [beq_eq_false_iff_ne]; exact hk2
   have HS := Lib.hid (show okPt ⟨k, n, zs⟩ = false by rw [okPt_f (by simp only; omega)])
   clear hk hk2
   go_enter Tryz.func98, Tryz.ntmps98
   go_wp2
   go_ret
   exact ⟨ret_bool (by rw [HS.out]), alloc_below _ _⟩
theorem implParts_any (A : Option Addr) (c : Nat) (ps : List Pt) (w : World) (hr : PRow w w.heap.size A ps) (hl : ps.length ≤ 4294967296) (hls : ∀ p ∈ ps, p.signs.length ≤ 4294967296) :
  Calls Tryz.prog 78 #[.slice A ps.length c] w (Tells (partsB ps) w) := by
 by_cases h6 : ps.length ≤ 600
 ·go_enter Tryz.func78, Tryz.ntmps78
  go_wp2
  go_loopw [10] (fun i wr => ∃ k : Nat, k ≤ ps.length ∧ i = .int .i64 k ∧ okPs (ps.take k) = true ∧ Below w.heap.size w wr) (fun i _ => ps.length - (intOf i).toNat)
  case atStart => exact ⟨0, Nat.zero_le _, rfl, rfl, Below.refl _ _⟩
  case round =>
   obtain ⟨k, hk, rfl, ha, hbel⟩ := hrel
   have HA := Lib.hid ha
   clear ha
   by_cases hlt : k < ps.length
   ·obtain ⟨b, off, p, rfl, hb, hp, hc⟩ := hr.at_ hlt
    obtain ⟨x0, x1, A1, e1, x2, r1⟩ := hc.keep (w' := wr) hb (fun _ hq => hbel.cell hq)
    have hsp := hls p (List.mem_of_getElem? hp)
    have HP := Lib.hid hp
    clear hp hc
    cases hs : okPt p
    ·go_wp2_with fail
     refine (implPartOk_any p A1 e1 _ ((r1.more hbel.size).past_alloc _) hsp).mono ?_
     rintro e w2 ⟨rfl, b2⟩
     go_wp2
     go_ret
     exact ⟨ret_bool (by unfold partsB; rw [okPs_f HP.out hs]; rfl), (hbel.trans ((alloc_below wr _).mono hbel.size)).trans (b2.mono (Nat.le_trans hbel.size (alloc_below wr _).size))⟩
    ·go_wp2_with fail
     refine (implPartOk_any p A1 e1 _ ((r1.more hbel.size).past_alloc _) hsp).mono ?_
     rintro e w2 ⟨rfl, b2⟩
     go_wp2
     go_roundw
     case rel => exact ⟨k + 1, by omega, by go_num, okPs_snoc HP.out HA.out hs, (hbel.trans ((alloc_below wr _).mono hbel.size)).trans (b2.mono (Nat.le_trans hbel.size (alloc_below wr _).size))⟩
     case measure => simp [intOf]; omega
   ·have HE := Lib.hid (show partsB ps = true by
     have h1 := HA.out
     rw [List.take_of_length_le (by omega)] at h1
     unfold partsB
     rw [h1, Bool.true_and]
     exact decide_eq_true h6)
    go_wp2
    go_ret
    refine ⟨ret_bool ?_, hbel⟩
    rw [HE.out]
 ·have HE := Lib.hid (show partsB ps = false by unfold partsB; rw [decide_eq_false h6, Bool.and_false])
  go_enter Tryz.func78, Tryz.ntmps78
  go_wp2
  go_ret
  exact ⟨ret_bool (by rw [HE.out]), Below.refl _ _⟩
def sizeK (kind : Int) (p : Pt) : Int := if p.kind = kind then p.n + (p.signs.length : Int) else 0
theorem sumOf_congr {f g : Pt → Int} : ∀ {ps : List Pt}, (∀ p ∈ ps, f p = g p) → sumOf f ps = sumOf g ps
 | [], _ => rfl
 | p :: ps, h => by
  have h1 := h p (List.mem_cons_self ..)
  have h2 := sumOf_congr (f := f) (g := g) (ps := ps) fun q hq => h q (List.mem_cons_of_mem _ hq)
  have e : ∀ f : Pt → Int, sumOf f (p :: ps) = f p + sumOf f ps := fun f => by simp [sumOf]
  rw [e, e, h1, h2]
theorem okPs_mem {ps : List Pt} (h : okPs ps = true) {p : Pt} (hp : p ∈ ps) : okPt p = true := by unfold okPs at h; exact List.all_eq_true.1 h p hp
theorem sizeK_keep {ps : List Pt} (h : okPs ps = true) : sumOf (sizeK 1) ps = sumOf keepOf ps := sumOf_congr fun p hp => by
 have := of_okPt (okPs_mem h hp)
 unfold sizeK keepOf
 split <;> omega
theorem sizeK_put {ps : List Pt} (h : okPs ps = true) : sumOf (sizeK 2) ps = sumOf putOf ps := sumOf_congr fun p hp => by
 have := of_okPt (okPs_mem h hp)
 unfold sizeK putOf
 split <;> omega
theorem sizeK_drop {ps : List Pt} (h : okPs ps = true) : sumOf (sizeK 3) ps = sumOf dropOf ps := sumOf_congr fun p hp => by
 have := of_okPt (okPs_mem h hp)
 unfold sizeK dropOf
 split <;> omega
theorem sizeK_bd {kind : Int} {ps : List Pt} (h : okPs ps = true) (hl : ps.length ≤ 600) : 0 ≤ sumOf (sizeK kind) ps ∧ sumOf (sizeK kind) ps ≤ 120000 := by
 have := sumOf_bd (f := sizeK kind) ps fun p hq => by
  have := of_okPt (okPs_mem h hq)
  unfold sizeK
  split <;> omega
 omega
theorem implSize_any (k n : Int) (A : Option Addr) (len c : Nat) (w : World) (h0 : 0 ≤ n) (h1 : n ≤ 200) (h2 : len ≤ 200) :
  Calls Tryz.prog 114 #[.agg #[.int .i64 k, .int .i64 n, .slice A len c]] w (Nums1 (n + (len : Int)) w) := by
 go_enter Tryz.func114, Tryz.ntmps114
 go_wp2
 go_ret
 exact ⟨rfl, alloc_below _ _⟩
theorem implSizeOf_any (kind : Int) (A : Option Addr) (c : Nat) (ps : List Pt) (w : World) (hr : PRow w w.heap.size A ps) (hl : ps.length ≤ 600) (hok : okPs ps = true) :
  Calls Tryz.prog 99 #[.slice A ps.length c, .int .i64 kind] w (Nums1 (sumOf (sizeK kind) ps) w) := by
 have HOK := Lib.hid hok
 clear hok
 go_enter Tryz.func99, Tryz.ntmps99
 go_wp2
 go_loopw [5, 10] (fun a i wr => ∃ k : Nat, k ≤ ps.length ∧ i = .int .i64 k ∧ a = .int .i64 (sumOf (sizeK kind) (ps.take k)) ∧ Below w.heap.size w wr) (fun _ i _ => ps.length - (intOf i).toNat)
 case atStart => exact ⟨0, Nat.zero_le _, rfl, rfl, Below.refl _ _⟩
 case round =>
  obtain ⟨k, hk, rfl, rfl, hbel⟩ := hrel
  obtain ⟨s1, s2⟩ := sizeK_bd (kind := kind) (okPs_take HOK.out k) (by rw [List.length_take]; omega)
  by_cases hlt : k < ps.length
  ·obtain ⟨b, off, p, rfl, hb, hp, hc⟩ := hr.at_ hlt
   obtain ⟨x0, x1, A1, e1, x2, r1⟩ := hc.keep (w' := wr) hb (fun _ hq => hbel.cell hq)
   have hok := of_okPt (okPs_at hp HOK.out)
   have K1 := Lib.hid (sumOf_snoc (f := sizeK kind) hp)
   clear hp hc
   generalize sumOf (sizeK kind) (ps.take k) = q1 at *
   obtain ⟨pk, pn, pz⟩ := p
   simp only at x0 x1 x2 hok
   have hn1 : 0 ≤ pn := by omega
   have hn2 : pn ≤ 200 := by omega
   have hn3 : pz.length ≤ 200 := by omega
   clear hok
   by_cases hkk : pk = kind
   ·have hkb : (pk == kind) = true := by rw [beq_iff_eq]; exact hkk
    have HK := Lib.hid (show sizeK kind ⟨pk, pn, pz⟩ = pn + (pz.length : Int) by unfold sizeK; exact if_pos hkk)
    clear hkk
    go_wp2_with fail
    refine (implSize_any pk pn A1 pz.length e1 _ hn1 hn2 hn3).mono ?_
    rintro e w2 ⟨rfl, b2⟩
    go_wp2
    go_roundw
    case rel => exact ⟨k + 1, by omega, by go_num, by rw [K1.out, HK.out], (hbel.trans ((alloc_below wr _).mono hbel.size)).trans (b2.mono (Nat.le_trans hbel.size (alloc_below wr _).size))⟩
    case measure => simp [intOf]; omega
   ·have hkb : (pk == kind) = false := by rw [beq_eq_false_iff_ne]; exact hkk
    have HK := Lib.hid (show sizeK kind ⟨pk, pn, pz⟩ = 0 by unfold sizeK; exact if_neg hkk)
    clear hkk
    go_wp2
    go_roundw
    case rel => exact ⟨k + 1, by omega, by go_num, by rw [K1.out, HK.out, Int.add_zero], hbel.trans ((alloc_below wr _).mono hbel.size)⟩
    case measure => simp [intOf]; omega
  ·have hke : ps.take k = ps := List.take_of_length_le (by omega)
   rw [hke] at s1 s2 ⊢
   go_wp2
   go_ret
   exact ⟨rfl, hbel⟩
theorem implOpFrom_any (A : Option Addr) (c : Nat) (ps : List Pt) (w : World) (hr : PRow w w.heap.size A ps) (hl : ps.length ≤ 4294967296) (hls : ∀ p ∈ ps, p.signs.length ≤ 4294967296) :
  Calls Tryz.prog 79 #[.slice A ps.length c] w (Nums1 (sumK ps + sumD ps) w) := by
 cases hpb : partsB ps
 ·have HS := Lib.hid (sum_f hpb)
  go_enter Tryz.func79, Tryz.ntmps79
  go_wp2_with fail
  refine (implParts_any A c ps _ hr hl hls).mono ?_
  rintro e w1 ⟨rfl, b1⟩
  go_wp2
  go_ret
  rw [HS.out.1, HS.out.2.2]
  exact ⟨rfl, b1⟩
 ·obtain ⟨t1, t2, t3⟩ := sum_t hpb
  obtain ⟨p1, p2⟩ := partsB_of hpb
  have HS := Lib.hid (show sumK ps + sumD ps = sumOf (sizeK 1) ps + sumOf (sizeK 3) ps by rw [t1, t3, sizeK_keep p1, sizeK_drop p1])
  obtain ⟨s1, s2⟩ := sizeK_bd (kind := 1) p1 p2
  obtain ⟨s3, s4⟩ := sizeK_bd (kind := 3) p1 p2
  clear t1 t2 t3
  go_enter Tryz.func79, Tryz.ntmps79
  go_wp2_with fail
  refine (implParts_any A c ps _ hr hl hls).mono ?_
  rintro e w1 ⟨rfl, b1⟩
  go_wp2_with fail
  refine (implSizeOf_any 1 A c ps _ (hr.past b1) p2 p1).mono ?_
  rintro e w2 ⟨rfl, b2⟩
  have d2 := b1.trans (b2.mono b1.size)
  go_wp2_with fail
  refine (implSizeOf_any 3 A c ps _ (hr.past d2) p2 p1).mono ?_
  rintro e w3 ⟨rfl, b3⟩
  have d3 := d2.trans (b3.mono d2.size)
  generalize sumOf (sizeK 1) ps = q1 at *
  generalize sumOf (sizeK 3) ps = q3 at *
  go_wp2
  go_ret
  rw [HS.out]
  exact ⟨rfl, d3⟩
theorem implOpTo_any (A : Option Addr) (c : Nat) (ps : List Pt) (w : World) (hr : PRow w w.heap.size A ps) (hl : ps.length ≤ 4294967296) (hls : ∀ p ∈ ps, p.signs.length ≤ 4294967296) :
  Calls Tryz.prog 80 #[.slice A ps.length c] w (Nums1 (sumK ps + sumP ps) w) := by
 cases hpb : partsB ps
 ·have HS := Lib.hid (sum_f hpb)
  go_enter Tryz.func80, Tryz.ntmps80
  go_wp2_with fail
  refine (implParts_any A c ps _ hr hl hls).mono ?_
  rintro e w1 ⟨rfl, b1⟩
  go_wp2
  go_ret
  rw [HS.out.1, HS.out.2.1]
  exact ⟨rfl, b1⟩
 ·obtain ⟨t1, t2, t3⟩ := sum_t hpb
  obtain ⟨p1, p2⟩ := partsB_of hpb
  have HS := Lib.hid (show sumK ps + sumP ps = sumOf (sizeK 1) ps + sumOf (sizeK 2) ps by rw [t1, t2, sizeK_keep p1, sizeK_put p1])
  obtain ⟨s1, s2⟩ := sizeK_bd (kind := 1) p1 p2
  obtain ⟨s3, s4⟩ := sizeK_bd (kind := 2) p1 p2
  clear t1 t2 t3
  go_enter Tryz.func80, Tryz.ntmps80
  go_wp2_with fail
  refine (implParts_any A c ps _ hr hl hls).mono ?_
  rintro e w1 ⟨rfl, b1⟩
  go_wp2_with fail
  refine (implSizeOf_any 1 A c ps _ (hr.past b1) p2 p1).mono ?_
  rintro e w2 ⟨rfl, b2⟩
  have d2 := b1.trans (b2.mono b1.size)
  go_wp2_with fail
  refine (implSizeOf_any 2 A c ps _ (hr.past d2) p2 p1).mono ?_
  rintro e w3 ⟨rfl, b3⟩
  have d3 := d2.trans (b3.mono d2.size)
  generalize sumOf (sizeK 1) ps = q1 at *
  generalize sumOf (sizeK 2) ps = q3 at *
  go_wp2
  go_ret
  rw [HS.out]
  exact ⟨rfl, d3⟩
theorem implOpOk_any (A : Option Addr) (c : Nat) (ps : List Pt) (w : World) (hr : PRow w w.heap.size A ps) (hl : ps.length ≤ 4294967296) (hls : ∀ p ∈ ps, p.signs.length ≤ 4294967296) :
  Calls Tryz.prog 62 #[.slice A ps.length c] w (Tells (okOp ps) w) := by
 cases hpb : partsB ps
 ·have HS := Lib.hid (show okOp ps = false by unfold okOp; rw [hpb]; rfl)
  go_enter Tryz.func62, Tryz.ntmps62
  go_wp2_with fail
  refine (implParts_any A c ps _ hr hl hls).mono ?_
  rintro e w1 ⟨rfl, b1⟩
  go_wp2
  go_ret
  exact ⟨ret_bool (by rw [HS.out]), b1⟩
 ·by_cases hf : sumK ps + sumD ps ≤ 200
  ·by_cases ht : sumK ps + sumP ps ≤ 200
   all_goals
    have HS := Lib.hid (show okOp ps = decide (sumK ps + sumP ps ≤ 200) by unfold okOp; rw [hpb, decide_eq_true hf]; rfl)
    go_enter Tryz.func62, Tryz.ntmps62
    go_wp2_with fail
    refine (implParts_any A c ps _ hr hl hls).mono ?_
    rintro e w1 ⟨rfl, b1⟩
    go_wp2_with fail
    refine (implOpFrom_any A c ps _ (hr.past b1) hl hls).mono ?_
    rintro e w2 ⟨rfl, b2⟩
    have d2 := b1.trans (b2.mono b1.size)
    go_wp2_with fail
    refine (implOpTo_any A c ps _ (hr.past d2) hl hls).mono ?_
    rintro e w3 ⟨rfl, b3⟩
    go_wp2
    go_ret
    refine ⟨ret_bool ?_, d2.trans (b3.mono d2.size)⟩
    rw [HS.out]
    first | done | (rw [decide_eq_true ht]) | (rw [decide_eq_false ht])
  ·have HS := Lib.hid (show okOp ps = false by unfold okOp; rw [hpb, decide_eq_false hf]; rfl)
   go_enter Tryz.func62, Tryz.ntmps62
   go_wp2_with fail
   refine (implParts_any A c ps _ hr hl hls).mono ?_
   rintro e w1 ⟨rfl, b1⟩
   go_wp2_with fail
   refine (implOpFrom_any A c ps _ (hr.past b1) hl hls).mono ?_
   rintro e w2 ⟨rfl, b2⟩
   go_wp2
   go_ret
   exact ⟨ret_bool (by rw [HS.out]), b1.trans (b2.mono b1.size)⟩
theorem okOp_parts {ps : List Pt} (h : okOp ps = true) : partsB ps = true := by
 unfold okOp at h
 cases hp : partsB ps
 ·rw [hp] at h; simp at h
 ·rfl
theorem implPartSame_any (p q : Pt) (A A' : Option Addr) (c c' : Nat) (w : World) (hp : Row (Value.int .i64) w w.heap.size A p.signs) (hq : Row (Value.int .i64) w w.heap.size A' q.signs) (h1 : p.signs.length ≤ 4294967296) (h2 : q.signs.length ≤ 4294967296) :
  Calls Tryz.prog 82 #[.agg #[.int .i64 p.kind, .int .i64 p.n, .slice A p.signs.length c], .agg #[.int .i64 q.kind, .int .i64 q.n, .slice A' q.signs.length c']] w (Tells (samePt p q) w) := by
 obtain ⟨k, n, zs⟩ := p
 obtain ⟨k', n', zs'⟩ := q
 have hbb : ∀ o o' : Obj, Below w.heap.size w ((w.alloc o).alloc o') := fun o o' => ((Below.refl _ _).alloc (Nat.le_refl _) _).alloc (by simp) _
 by_cases hk : k = k'
 ·by_cases hn : n = n'
  ·have HS := Lib.hid (show samePt ⟨k, n, zs⟩ ⟨k', n', zs'⟩ = sameB zs zs' by unfold samePt; simp [hk, hn])
   have hk1 : (k == k') = true := by simp [hk]
   have hn1 : (n == n') = true := by simp [hn]
   clear hk hn
   go_enter Tryz.func82, Tryz.ntmps82
   go_wp2_with fail
   refine (implSignsSame_any A A' c c' zs zs' _ ((hp.past_alloc _).past_alloc _) ((hq.past_alloc _).past_alloc _) h1 h2).mono ?_
   intro e w1 hsay
   obtain ⟨rfl, b1⟩ := says_tells hsay
   go_wp2
   go_ret
   refine ⟨ret_bool (by rw [HS.out]), (hbb _ _).trans (b1.mono (by simp; omega))⟩
  ·have HS := Lib.hid (show samePt ⟨k, n, zs⟩ ⟨k', n', zs'⟩ = false by unfold samePt; simp [hn])
   have hk1 : (k == k') = true := by simp [hk]
   have hn1 : (n == n') = false := by simp [hn]
   clear hk hn
   go_enter Tryz.func82, Tryz.ntmps82
   go_wp2
   go_ret
   exact ⟨ret_bool (by rw [HS.out]), hbb _ _⟩
 ·have HS := Lib.hid (show samePt ⟨k, n, zs⟩ ⟨k', n', zs'⟩ = false by unfold samePt; simp [hk])
  have hk1 : (k == k') = false := by simp [hk]
  clear hk
  go_enter Tryz.func82, Tryz.ntmps82
  go_wp2
  go_ret
  exact ⟨ret_bool (by rw [HS.out]), hbb _ _⟩
theorem equalFunc_any (A B : Option Addr) (c d : Nat) (ps qs : List Pt) (w : World) (hx : PRow w w.heap.size A ps) (hy : PRow w w.heap.size B qs)
  (hl : ps.length ≤ 4294967296) (hl2 : qs.length ≤ 4294967296) (hs : ∀ p ∈ ps, p.signs.length ≤ 4294967296) (hs2 : ∀ p ∈ qs, p.signs.length ≤ 4294967296) :
  Calls Tryz.prog 81 #[.slice A ps.length c, .slice B qs.length d, .func (.func 82) #[] #[]] w (Tells (samePs ps qs) w) := by
 by_cases hlen : ps.length = qs.length
 ·have HL := Lib.hid hlen
  have hb : ((ps.length : Int) != (qs.length : Int)) = false := by simp [hlen]
  clear hlen
  go_enter Tryz.func81, Tryz.ntmps81
  go_wp2
  go_loopw [17] (fun i wr => ∃ k : Nat, k ≤ ps.length ∧ i = .int .i64 k ∧ samePs (ps.take k) (qs.take k) = true ∧ Below w.heap.size w wr) (fun i _ => ps.length - (intOf i).toNat)
  case atStart => exact ⟨0, Nat.zero_le _, rfl, rfl, Below.refl _ _⟩
  case round =>
   obtain ⟨k, hk, rfl, ht, hbel⟩ := hrel
   have HT := Lib.hid ht
   clear ht
   by_cases hlt : k < ps.length
   ·have hlt2 : k < qs.length := by have := HL.out; omega
    obtain ⟨b1, o1, p, rfl, hb1, hp, hc1⟩ := hx.at_ hlt
    obtain ⟨b2, o2, q, rfl, hb2, hq, hc2⟩ := hy.at_ (k := k) hlt2
    obtain ⟨x0, x1, A1, e1, x2, r1⟩ := hc1.keep (w' := wr) hb1 (fun _ hq => hbel.cell hq)
    have hsp := hs p (List.mem_of_getElem? hp)
    have hsq := hs2 q (List.mem_of_getElem? hq)
    have HP := Lib.hid hp
    have HQ := Lib.hid hq
    clear hp hq hc1
    have bW := alloc_below wr (.cells #[.int .i64 p.kind, .int .i64 p.n, .slice A1 p.signs.length e1] 72)
    have dW := hbel.trans (bW.mono hbel.size)
    obtain ⟨y0, y1, A2, e2, y2, r2⟩ := hc2.keep (w' := wr.alloc (.cells #[.int .i64 p.kind, .int .i64 p.n, .slice A1 p.signs.length e1] 72)) hb2 (fun _ hq => dW.cell hq)
    have dV := dW.trans ((alloc_below (wr.alloc (.cells #[.int .i64 p.kind, .int .i64 p.n, .slice A1 p.signs.length e1] 72)) (.cells #[.int .i64 q.kind, .int .i64 q.n, .slice A2 q.signs.length e2] 72)).mono dW.size)
    have R1 := Lib.hid (Row.past_alloc ((r1.more hbel.size).past bW) (.cells #[.int .i64 q.kind, .int .i64 q.n, .slice A2 q.signs.length e2] 72))
    have R2 := Lib.hid (Row.past_alloc (r2.more dW.size) (.cells #[.int .i64 q.kind, .int .i64 q.n, .slice A2 q.signs.length e2] 72))
    clear hc2 r1 r2
    cases hsame : samePt p q
    ·go_wp2_with fail
     refine (implPartSame_any p q A1 A2 e1 e2 _ R1.out R2.out hsp hsq).mono ?_
     rintro e w2 ⟨rfl, b2⟩
     go_wp2
     go_ret
     exact ⟨ret_bool (by rw [samePs_at ps qs k p q HP.out HQ.out hsame]), dV.trans (b2.mono dV.size)⟩
    ·go_wp2_with fail
     refine (implPartSame_any p q A1 A2 e1 e2 _ R1.out R2.out hsp hsq).mono ?_
     rintro e w2 ⟨rfl, b2⟩
     go_wp2
     go_roundw
     case rel => exact ⟨k + 1, by omega, by go_num, samePs_snoc ps qs k p q HP.out HQ.out hsame HT.out, dV.trans (b2.mono dV.size)⟩
     case measure => simp [intOf]; omega
   ·have H := Lib.hid (show samePs ps qs = true by have := HT.out; rwa [List.take_of_length_le (by omega), List.take_of_length_le (by have := HL.out; omega)] at this)
    go_wp2
    go_ret
    exact ⟨ret_bool (by rw [H.out]), hbel⟩
 ·have hb : ((ps.length : Int) != (qs.length : Int)) = true := by simp; omega
  have H := Lib.hid (show samePs ps qs = false by cases h : samePs ps qs; rfl; exact absurd (samePs_len ps qs h) hlen)
  clear hlen
  go_enter Tryz.func81, Tryz.ntmps81
  go_wp2
  go_ret
  exact ⟨ret_bool (by rw [H.out]), Below.refl _ _⟩
theorem implOpSame_any (A B : Option Addr) (c d : Nat) (ps qs : List Pt) (w : World) (hx : PRow w w.heap.size A ps) (hy : PRow w w.heap.size B qs)
  (hl : ps.length ≤ 4294967296) (hl2 : qs.length ≤ 4294967296) (hs : ∀ p ∈ ps, p.signs.length ≤ 4294967296) (hs2 : ∀ p ∈ qs, p.signs.length ≤ 4294967296) :
  Calls Tryz.prog 63 #[.slice A ps.length c, .slice B qs.length d] w (Tells (samePs ps qs) w) := by
 go_enter Tryz.func63, Tryz.ntmps63
 go_wp2_with fail
 refine (equalFunc_any A B c d ps qs _ hx hy hl hl2 hs hs2).mono ?_
 rintro e w1 ⟨rfl, b1⟩
 go_wp2
 go_ret
 exact ⟨rfl, b1⟩
theorem sameB_comm (a b : List Int) : sameB a b = sameB b a := by
 by_cases h : a = b
 ·subst h; rfl
 ·have h' : ¬ b = a := fun e => h e.symm
  unfold sameB
  simp [h, h']
theorem samePt_comm (p q : Pt) : samePt p q = samePt q p := by
 unfold samePt
 rw [sameB_comm p.signs q.signs, Bool.beq_comm (a := p.kind), Bool.beq_comm (a := p.n)]
theorem samePs_comm : ∀ ps qs : List Pt, samePs ps qs = samePs qs ps
 | [], [] => rfl
 | [], _ :: _ => rfl
 | _ :: _, [] => rfl
 | p :: ps, q :: qs => by
  show (samePt p q && samePs ps qs) = (samePt q p && samePs qs ps)
  rw [samePt_comm p q, samePs_comm ps qs]
theorem implAdd_any (lo g : Nat) (qs : List Pt) (put : List Int) (d : Int) (p : Pt) (A : Option Addr) (c : Nat) (w : World) (hb : BAt lo g 101 w qs put d) (hr : Row (Value.int .i64) w w.heap.size A p.signs) (hok : okPt p = true)
  (hl : qs.length ≤ 4294967296) (hp : put.length ≤ 4294967296) (h0 : 0 ≤ d) (h1 : d ≤ 4611686018427387904)
  (hq : ∀ p ∈ qs ++ putL put ++ dropL d, 0 ≤ p.n ∧ p.n ≤ 4611686018427387904) (hql : (qs ++ putL put ++ dropL d).length ≤ 4294967298) :
  Calls Tryz.prog 83 #[.pointer (some ⟨g, 0, none⟩), .agg #[.int .i64 p.kind, .int .i64 p.n, .slice A p.signs.length c]] w (Built lo g 101 w (stepN (qs, put, d) p).1 (stepN (qs, put, d) p).2.1 (stepN (qs, put, d) p).2.2) := by
 have hlo : lo ≤ w.heap.size := by obtain ⟨v, u, us, hx, _⟩ := hb; exact Nat.le_trans hx.low (Nat.le_of_lt hx.lt)
 have hk := of_okPt hok
 clear hok
 obtain ⟨pk, pn, pz⟩ := p
 simp only at hk hr ⊢
 have hat := hb.past (alloc_below w (.cells #[.int .i64 pk, .int .i64 pn, .slice A pz.length c] 72))
 have bel : Below lo w (w.alloc (.cells #[.int .i64 pk, .int .i64 pn, .slice A pz.length c] 72)) := (alloc_below w _).mono hlo
 rcases (show pk = 1 ∨ pk = 2 ∨ pk = 3 by omega) with rfl | rfl | rfl
 ·have hn1 : 0 ≤ pn := by omega
  have hn2 : pn ≤ 200 := by omega
  clear hk
  by_cases hz : pn = 0
  ·subst hz
   go_enter Tryz.func83, Tryz.ntmps83
   go_wp2_with fail
   refine (implKeep_zero g _).mono ?_
   rintro e w' ⟨rfl, rfl⟩
   go_wp2
   go_end0
   exact ⟨rfl, hat, bel⟩
  ·go_enter Tryz.func83, Tryz.ntmps83
   go_wp2_with fail
   refine (implKeep_any lo g qs put d pn _ hat hl hp hz hn1 (by omega) hq hql).mono ?_
   rintro e w3 ⟨rfl, hn3, b3⟩
   go_wp2
   go_end0
   refine ⟨rfl, ?_, bel.trans b3⟩
   simp only [stepN, if_neg hz]
   exact hn3.at_
 ·have hl2 : pz.length ≤ 200 := by omega
  clear hk
  go_enter Tryz.func83, Tryz.ntmps83
  go_wp2_with fail
  refine (implPut_any lo g qs put d A c pz _ hat (hr.past_alloc _) hp (by omega)).mono ?_
  rintro e w3 ⟨rfl, hn3, b3⟩
  go_wp2
  go_end0
  exact ⟨rfl, hn3, bel.trans b3⟩
 ·have hn1 : 0 ≤ pn := by omega
  have hn2 : pn ≤ 200 := by omega
  clear hk
  go_enter Tryz.func83, Tryz.ntmps83
  go_wp2_with fail
  refine (implDrop_any lo g qs put d pn _ hat h0 h1 hn1 (by omega)).mono ?_
  rintro e w3 ⟨rfl, hn3, b3⟩
  go_wp2
  go_end0
  exact ⟨rfl, hn3, bel.trans b3⟩
theorem implOpNorm_any (A : Option Addr) (c : Nat) (ps : List Pt) (w : World) (hr : PRow w w.heap.size A ps) (hl : ps.length ≤ 4294967296) (hls : ∀ p ∈ ps, p.signs.length ≤ 4294967296) (hss : signsIn ps ≤ 1048576) :
  Calls Tryz.prog 64 #[.slice A ps.length c] w (PsPost (normL ps) w) := by
 cases hok : okOp ps
 ·have e1 : normL ps = [] := by simp [normL, hok]
  rw [e1]
  go_enter Tryz.func64, Tryz.ntmps64
  go_wp2_with fail
  refine (implOpOk_any A c ps _ hr hl hls).mono ?_
  rintro e w1 ⟨rfl, b1⟩
  rw [hok] at *
  go_wp2
  go_ret
  refine ⟨_, rfl, ⟨[], World.ownsRow_nil _ _ _ _, ⟨rfl, fun i p u hp _ => by simp at hp, fun i j k u v hu _ _ _ => by simp at hu⟩, fun k hk => by simp [Value.ownBlock] at hk, Nat.le_refl _, b1.size⟩, b1⟩
 ·have e1 : normL ps = doneN (foldN ps) := by simp [normL, hok]
  rw [e1]
  have HPB := Lib.hid (partsB_of (okOp_parts hok))
  go_enter Tryz.func64, Tryz.ntmps64
  go_wp2_with fail
  refine (implOpOk_any A c ps _ hr hl hls).mono ?_
  rintro e w1 ⟨rfl, b1⟩
  rw [hok] at *
  clear hok
  go_wp2
  have hnew := BAt.new w.heap.size 101 w1 b1.size
  have hbn := b1.trans ((alloc_below w1 (.cells #[.slice none 0 0, .slice none 0 0, .int .i64 0] 101)).mono b1.size)
  have hgl : w.heap.size ≤ w1.heap.size := b1.size
  generalize w1.alloc (.cells #[.slice none 0 0, .slice none 0 0, .int .i64 0] 101) = w2 at *
  generalize w1.heap.size = g at *
  clear b1
  go_loopw [13] (fun i wr => ∃ k : Nat, k ≤ ps.length ∧ i = .int .i64 k ∧ BAt w.heap.size g 101 wr (foldN (ps.take k)).1 (foldN (ps.take k)).2.1 (foldN (ps.take k)).2.2 ∧ Below w.heap.size w wr) (fun i _ => ps.length - (intOf i).toNat)
  case atStart => exact ⟨0, Nat.zero_le _, rfl, hnew, hbn⟩
  case round =>
   obtain ⟨k, hk, rfl, hat, hbel⟩ := hrel
   clear hnew hbn
   have hfit := foldN_fit HPB.out.1 k hk
   have hpl := HPB.out.2
   by_cases hlt : k < ps.length
   ·obtain ⟨b, off, p, rfl, hb, hp, hc⟩ := hr.at_ hlt
    obtain ⟨x0, x1, A1, e1, x2, r1⟩ := hc.keep (w' := wr) hb (fun _ hq => hbel.cell hq)
    have hokp := okPs_at hp HPB.out.1
    have K1 := Lib.hid (foldN_snoc hp)
    have hsg : signsIn (ps.take k) ≤ signsIn ps := signsIn_take ps k
    clear hp hc
    generalize foldN (ps.take k) = st at *
    obtain ⟨qs, put, d⟩ := st
    have hf1 := hfit.len
    have hf2 := hfit.signs
    have hf3 := hfit.d0
    have hf4 := hfit.d1
    have hdn := Lib.hid hfit.done
    simp only at hf1 hf2 hf3 hf4 hat
    go_wp2_with fail
    refine (implAdd_any w.heap.size g qs put d p A1 e1 _ (hat.past (alloc_below wr _)) (Row.past_alloc (r1.more hbel.size) _) hokp (by omega) (by omega) hf3 (by omega) (fun p hp => by have := hdn.out.2.2 p hp; omega) (by have := hdn.out.1; exact Nat.le_trans this (by omega))).mono ?_
    rintro e w3 ⟨rfl, hn3, b3⟩
    go_wp2
    go_roundw
    case rel => exact ⟨k + 1, by omega, by go_num, by rw [K1.out]; exact hn3, hbel.trans (((alloc_below wr _).mono hbel.size).trans b3)⟩
    case measure => simp [intOf]; omega
   ·have hke : ps.take k = ps := List.take_of_length_le (by omega)
    rw [hke] at hat hfit
    have hf1 := hfit.len
    have hf2 := hfit.signs
    go_wp2_with fail
    refine (implDone_any w.heap.size g _ _ _ _ hat (by omega) (by omega)).mono ?_
    rintro e w3 ⟨v, rfl, p3, b3⟩
    change PBuf _ _ _ _ (doneN (foldN ps)) at p3
    generalize doneN (foldN ps) = L at *
    obtain ⟨B3, d3, rfl, q3⟩ := p3.slice
    have HP3 := Lib.hid p3
    clear p3
    go_wp2
    go_ret
    exact ⟨_, rfl, HP3.out, hbel.trans b3⟩
theorem implIsNorm_any (A : Option Addr) (c : Nat) (ps : List Pt) (w : World) (hr : PRow w w.heap.size A ps) (hl : ps.length ≤ 4294967296) (hls : ∀ p ∈ ps, p.signs.length ≤ 4294967296) (hss : signsIn ps ≤ 1048576) :
  Calls Tryz.prog 48 #[.slice A ps.length c] w (Tells (isNormL ps) w) := by
 obtain ⟨n1, n2⟩ := normL_fit hss
 have hls' : ∀ p ∈ normL ps, p.signs.length ≤ 4294967296 := fun p hp => by
  obtain ⟨i, hi⟩ := List.getElem?_of_mem hp
  have := signsIn_at hi
  omega
 cases hok : okOp ps
 ·have HS := Lib.hid (show isNormL ps = false by unfold isNormL; rw [hok]; rfl)
  go_enter Tryz.func48, Tryz.ntmps48
  go_wp2_with fail
  refine (implOpOk_any A c ps _ hr hl hls).mono ?_
  rintro e w1 ⟨rfl, b1⟩
  rw [hok] at *
  go_wp2
  go_ret
  exact ⟨ret_bool (by rw [HS.out]), b1⟩
 ·have HS := Lib.hid (show isNormL ps = samePs ps (normL ps) by unfold isNormL; rw [hok, samePs_comm]; rfl)
  go_enter Tryz.func48, Tryz.ntmps48
  go_wp2_with fail
  refine (implOpOk_any A c ps _ hr hl hls).mono ?_
  rintro e w1 ⟨rfl, b1⟩
  rw [hok] at *
  clear hok
  go_wp2_with fail
  refine (implOpNorm_any A c ps _ (hr.past b1) hl hls hss).mono ?_
  rintro e w2 ⟨v2, rfl, p2, b2⟩
  obtain ⟨B2, d2, rfl, q2⟩ := p2.slice
  have d2' := b1.trans (b2.mono b1.size)
  generalize normL ps = L at *
  go_wp2_with fail
  refine (implOpSame_any A B2 c d2 ps L _ (hr.past d2') q2 hl (by omega) hls hls').mono ?_
  rintro e w3 ⟨rfl, b3⟩
  go_wp2
  go_ret
  exact ⟨ret_bool (by rw [HS.out]), d2'.trans (b3.mono d2'.size)⟩
theorem clientOk_any (n : Int) (w : World) : Calls Tryz.prog 46 #[.int .i64 n] w fun e w' => e = .returned (.bool (inB n 1 8)) ∧ w = w' := by
 by_cases h1 : 1 ≤ n
 ·by_cases h2 : n ≤ 8
  ·have HE := Lib.hid (show inB n 1 8 = true from inB_t ⟨h1, h2⟩)
   go_enter Tryz.func46, Tryz.ntmps46
   go_wp2
   go_ret
   exact ⟨ret_b HE.out.symm, rfl⟩
  ·have HE := Lib.hid (show inB n 1 8 = false from inB_f (by omega))
   go_enter Tryz.func46, Tryz.ntmps46
   go_wp2
   go_ret
   exact ⟨ret_b HE.out.symm, rfl⟩
 ·have HE := Lib.hid (show inB n 1 8 = false from inB_f (by omega))
  go_enter Tryz.func46, Tryz.ntmps46
  go_wp2
  go_ret
  exact ⟨ret_b HE.out.symm, rfl⟩
theorem seqOk_any (n : Int) (w : World) : Calls Tryz.prog 47 #[.int .i64 n] w fun e w' => e = .returned (.bool (inB n 1 1000000000)) ∧ w = w' := by
 by_cases h1 : 1 ≤ n
 ·by_cases h2 : n ≤ 1000000000
  ·have HE := Lib.hid (show inB n 1 1000000000 = true from inB_t ⟨h1, h2⟩)
   go_enter Tryz.func47, Tryz.ntmps47
   go_wp2
   go_ret
   exact ⟨ret_b HE.out.symm, rfl⟩
  ·have HE := Lib.hid (show inB n 1 1000000000 = false from inB_f (by omega))
   go_enter Tryz.func47, Tryz.ntmps47
   go_wp2
   go_ret
   exact ⟨ret_b HE.out.symm, rfl⟩
 ·have HE := Lib.hid (show inB n 1 1000000000 = false from inB_f (by omega))
  go_enter Tryz.func47, Tryz.ntmps47
  go_wp2
  go_ret
  exact ⟨ret_b HE.out.symm, rfl⟩
theorem implEntryOk_d (v : Value) (x : En) (w : World) (h : RdC w w.heap.size (datEn x) v) (hs : SmEn x) : Calls Tryz.prog 30 #[v] w (Tells (entryB x) w) := by
 obtain ⟨A2, c2, rfl, r2⟩ := aggEn h
 have b0 := alloc_below w (.cells #[.int .i64 x.client, .int .i64 x.seq, .slice A2 x.o.length c2] 37)
 have HE := Lib.hid (show entryB x = (inB x.client 1 8 && inB x.seq 1 1000000000 && isNormL x.o) from rfl)
 cases h1 : inB x.client 1 8
 ·go_enter Tryz.func30, Tryz.ntmps30
  go_wp2_with fail
  refine (clientOk_any _ _).mono ?_
  rintro e w1 ⟨rfl, rfl⟩
  rw [h1]
  go_wp2
  go_ret
  exact ⟨ret_b (by rw [HE.out, h1]; rfl), b0⟩
 cases h2 : inB x.seq 1 1000000000
 ·go_enter Tryz.func30, Tryz.ntmps30
  go_wp2_with fail
  refine (clientOk_any _ _).mono ?_
  rintro e w1 ⟨rfl, rfl⟩
  rw [h1]
  go_wp2_with fail
  refine (seqOk_any _ _).mono ?_
  rintro e w1 ⟨rfl, rfl⟩
  rw [h2]
  go_wp2
  go_ret
  exact ⟨ret_b (by rw [HE.out, h1, h2]; rfl), b0⟩
 obtain ⟨A, c, e2, hr, _⟩ := parts_rd r2
 injection e2 with e2 _ e3
 subst e2 e3
 have hso := hs.o
 have hs1 := hso.1
 have hs2 := hso.2
 go_enter Tryz.func30, Tryz.ntmps30
 go_wp2_with fail
 refine (clientOk_any _ _).mono ?_
 rintro e w1 ⟨rfl, rfl⟩
 rw [h1]
 go_wp2_with fail
 refine (seqOk_any _ _).mono ?_
 rintro e w1 ⟨rfl, rfl⟩
 rw [h2]
 go_wp2_with fail
 refine (implIsNorm_any A2 c2 x.o _ (hr.past b0) (by omega) hso.all4 hs2).mono ?_
 rintro e w1 ⟨rfl, b1⟩
 go_wp2
 go_ret
 exact ⟨ret_b (by rw [HE.out, h1, h2]; rfl), b0.trans (b1.mono b0.size)⟩
theorem implEntriesOk_d (v : Value) (l : List En) (w : World) (h : RdC w w.heap.size (encEns l) v) (hs : SmEns l) : Calls Tryz.prog 45 #[v] w (Tells (l.all entryB) w) := by
 obtain ⟨A, c, rfl⟩ := sliceEns h
 have hl := hs.len
 have HR := Lib.hid h
 clear h
 have HM := Lib.hid (Ms.start w)
 go_enter Tryz.func45, Tryz.ntmps45
 go_wp2
 go_loopw [7] (fun i wr => ∃ j : Nat, j ≤ l.length ∧ i = .int .i64 (j : Int) ∧ (l.take j).all entryB = true ∧ Ms w [] wr) (fun i _ => l.length - (intOf i).toNat)
 case atStart => exact ⟨0, Nat.zero_le _, rfl, by simp, HM.out⟩
 case round =>
  obtain ⟨j, hj, rfl, hi, hm⟩ := hrel
  clear HM
  have HM := Lib.hid hm
  have HI := Lib.hid hi
  clear hm hi
  by_cases hlt : j < l.length
  ·obtain ⟨b, off, e, A5, c5, rfl, hbb, hp, y0, y1, y2, q2⟩ := atEns HR.out hlt
   have x0 := (HM.out.bl.cell (p := ⟨b, off + j * 3, none⟩) hbb).trans y0
   have x1 := (HM.out.bl.cell (p := ⟨b, off + j * 3 + 1, none⟩) hbb).trans y1
   have x2 := (HM.out.bl.cell (p := ⟨b, off + j * 3 + 2, none⟩) hbb).trans y2
   clear y0 y1 y2
   have hse := hs.at_ (List.mem_of_getElem? hp)
   have HT := Lib.hid (show (l.take (j + 1)).all entryB = entryB e by rw [List.take_add_one, hp, List.all_append, HI.out]; simp)
   have HF := Lib.hid (show entryB e = false → l.all entryB = false from fun e1 => Bool.eq_false_iff.2 (fun e2 => by rw [List.all_eq_true.1 e2 e (List.mem_of_getElem? hp)] at e1; cases e1))
   clear hp
   replace HM := Lib.hid (HM.out.new #[.int .i64 e.client, .int .i64 e.seq, .slice A5 e.o.length c5] 37)
   go_wp2_with fail
   obtain ⟨W1, hW, hm⟩ := HM.out.name
   rw [← hW]
   replace HM := Lib.hid hm
   clear hm hW
   refine (implEntryOk_d _ e _ (rdEn e (HM.out.arg q2)) hse).mono ?_
   rintro e' W2 ⟨rfl, b'⟩
   replace HM := Lib.hid (HM.out.past b')
   clear b'
   clear x0 x1 x2 hse
   cases h1 : entryB e
   ·go_wp2
    go_ret
    exact ⟨ret_b (by rw [HF.out h1]), HM.out.bl⟩
   go_wp2
   go_roundw
   case rel => exact ⟨j + 1, by omega, by go_num, by rw [HT.out, h1], HM.out.pick (ks := []) (by decide) rfl⟩
   case measure => simp [intOf]; omega
  ·obtain rfl : j = l.length := by omega
   have HI2 := Lib.hid (show l.all entryB = true by have := HI.out; rwa [List.take_length] at this)
   clear HI
   go_wp2
   go_ret
   exact ⟨ret_b (by rw [HI2.out]), HM.out.bl⟩
theorem implRingOk_d (v : Value) (x : Ri) (w : World) (h : RdC w w.heap.size (datRi x) v) (hs : SmRi x) : Calls Tryz.prog 29 #[v] w (Tells (ringB x) w) := by
 have HR := Lib.hid h
 obtain ⟨A3, c3, rfl, r3⟩ := aggRi h
 have R3 := Lib.hid r3
 have hl := hs.list.len
 clear h r3
 have HM := Lib.hid (Ms.start w)
 replace HM := Lib.hid (HM.out.new #[.int .i64 x.cap, .int .i64 x.next, .bool x.out, .slice A3 x.list.length c3] 32)
 have HB := Lib.hid (show ringB x = (x.list.all entryB && (inB x.cap 1 6 && (inB x.next 1 1000000000 && (decide ((x.list.length : Int) ≤ x.cap) && (!x.out || decide ((x.list.length : Int) = 0)))))) from rfl)
 by_cases h0 : x.cap < 1
 ·have H9 := Lib.hid (show inB x.cap 1 6 = false from inB_f (by omega))
  have g0 : decide (x.cap < 1) = true := decide_eq_true h0
  go_enter Tryz.func29, Tryz.ntmps29
  go_wp2
  go_ret
  exact ⟨ret_b (show false = ringB x by rw [HB.out, H9.out]; simp), HM.out.bl⟩
 have g0 : decide (x.cap < 1) = false := decide_eq_false h0
 by_cases h1 : 6 < x.cap
 ·have H9 := Lib.hid (show inB x.cap 1 6 = false from inB_f (by omega))
  have g1 : decide (6 < x.cap) = true := decide_eq_true h1
  go_enter Tryz.func29, Tryz.ntmps29
  go_wp2
  go_ret
  exact ⟨ret_b (show false = ringB x by rw [HB.out, H9.out]; simp), HM.out.bl⟩
 have g1 : decide (6 < x.cap) = false := decide_eq_false h1
 by_cases h2 : x.next < 1
 ·have H9 := Lib.hid (show inB x.next 1 1000000000 = false from inB_f (by omega))
  have g2 : decide (x.next < 1) = true := decide_eq_true h2
  go_enter Tryz.func29, Tryz.ntmps29
  go_wp2
  go_ret
  exact ⟨ret_b (show false = ringB x by rw [HB.out, H9.out]; simp), HM.out.bl⟩
 have g2 : decide (x.next < 1) = false := decide_eq_false h2
 by_cases h3 : 1000000000 < x.next
 ·have H9 := Lib.hid (show inB x.next 1 1000000000 = false from inB_f (by omega))
  have g3 : decide (1000000000 < x.next) = true := decide_eq_true h3
  go_enter Tryz.func29, Tryz.ntmps29
  go_wp2
  go_ret
  exact ⟨ret_b (show false = ringB x by rw [HB.out, H9.out]; simp), HM.out.bl⟩
 have g3 : decide (1000000000 < x.next) = false := decide_eq_false h3
 have HC := Lib.hid (show inB x.cap 1 6 = true ∧ inB x.next 1 1000000000 = true from ⟨inB_t (by omega), inB_t (by omega)⟩)
 by_cases h4 : x.cap < (x.list.length : Int)
 ·have g4 : decide (x.cap < (x.list.length : Int)) = true := decide_eq_true h4
  have H9 := Lib.hid (show decide ((x.list.length : Int) ≤ x.cap) = false from decide_eq_false (by omega))
  go_enter Tryz.func29, Tryz.ntmps29
  go_wp2
  go_ret
  exact ⟨ret_b (show false = ringB x by rw [HB.out, H9.out]; simp), HM.out.bl⟩
 have g4 : decide (x.cap < (x.list.length : Int)) = false := decide_eq_false h4
 have H9 := Lib.hid (show decide ((x.list.length : Int) ≤ x.cap) = true from decide_eq_true (by omega))
 clear h0 h1 h2 h3 h4
 go_enter Tryz.func29, Tryz.ntmps29
 go_wp2_with fail
 obtain ⟨W1, hW, hm⟩ := HM.out.name
 rw [← hW]
 replace HM := Lib.hid hm
 clear hm hW
 refine (implEntriesOk_d _ x.list _ (HM.out.arg R3.out) hs.list).mono ?_
 rintro e' W2 ⟨rfl, b'⟩
 replace HM := Lib.hid (HM.out.past b')
 clear b'
 clear g0 g1 g2 g3 g4
 cases he : x.list.all entryB
 ·go_wp2
  go_ret
  exact ⟨ret_b (show false = ringB x by rw [HB.out, he]; rfl), HM.out.bl⟩
 obtain ⟨kx0, kx1, kx2, kx3⟩ := HM.out.c4 0 rfl
 have HQ := Lib.hid (show ringB x = (!x.out || decide ((x.list.length : Int) = 0)) by rw [HB.out, he, HC.out.1, HC.out.2, H9.out]; rfl)
 rcases (show x.out = true ∨ x.out = false by cases x.out <;> simp) with hO | hO
 ·rw [hO] at kx2
  have HQ2 := Lib.hid (show ringB x = decide ((x.list.length : Int) = 0) by rw [HQ.out, hO]; rfl)
  clear hO
  by_cases h5 : x.list.length = 0
  ·have g5 : ((x.list.length : Int) == 0) = true := by simp [h5]
   have HQ3 := Lib.hid (show ringB x = true by rw [HQ2.out]; simp [h5])
   clear h5
   go_wp2
   go_ret
   exact ⟨ret_b (show true = ringB x by exact HQ3.out.symm), HM.out.bl⟩
  have g5 : ((x.list.length : Int) == 0) = false := by rw [beq_eq_false_iff_ne]; omega
  have HQ3 := Lib.hid (show ringB x = false by rw [HQ2.out]; exact decide_eq_false (by omega))
  clear h5
  go_wp2
  go_ret
  exact ⟨ret_b (show false = ringB x by exact HQ3.out.symm), HM.out.bl⟩
 rw [hO] at kx2
 have HQ2 := Lib.hid (show ringB x = true by rw [HQ.out, hO]; rfl)
 clear hO
 go_wp2
 go_ret
 exact ⟨ret_b (show true = ringB x by exact HQ2.out.symm), HM.out.bl⟩
theorem implCopyRing_d (v : Value) (x : Ri) (w : World) (h : RdC w w.heap.size (datRi x) v) (hs : SmRi x) : Calls Tryz.prog 31 #[v] w (OwnPost (datRi x) w) := by
 have HR := Lib.hid h
 obtain ⟨A3, c3, rfl, r3⟩ := aggRi h
 have R3 := Lib.hid r3
 have hl := hs.list.len
 clear h r3
 have HM := Lib.hid (Ms.start w)
 replace HM := Lib.hid (HM.out.new #[.int .i64 x.cap, .int .i64 x.next, .bool x.out, .slice A3 x.list.length c3] 32)
 have hm := HM.out.new #[.int .i64 0, .int .i64 0, .bool false, .slice none 0 0] 32
 simp only [World.size_alloc] at hm
 replace HM := Lib.hid hm
 clear hm
 go_enter Tryz.func31, Tryz.ntmps31
 go_wp2_with fail
 obtain ⟨W1, hW, hm⟩ := HM.out.name
 rw [← hW]
 replace HM := Lib.hid hm
 clear hm hW
 refine (implCopyEntries_d _ x.list _ (HM.out.arg R3.out) hs.list).mono ?_
 rintro e' W2 ⟨v', rfl, o', b'⟩
 obtain ⟨Al, cl, rfl⟩ := sliceEns o'.read
 obtain ⟨bl, hm⟩ := HM.out.got o' b'
 clear o' b'
 replace HM := Lib.hid hm
 clear hm
 obtain ⟨kx0, kx1, kx2, kx3⟩ := HM.out.c4 2 rfl
 obtain ⟨fx0, fx1, fx2, fx3⟩ := HM.out.f4 2 rfl
 obtain ⟨kr0, kr1, kr2, kr3⟩ := HM.out.c4 1 rfl
 obtain ⟨fr0, fr1, fr2, fr3⟩ := HM.out.f4 1 rfl
 obtain ⟨nxr, nrx⟩ := HM.out.ne (i := 1) (j := 2) rfl rfl (by omega)
 go_wp2
 clear kx0 kx1 kx2 kx3 fx0 fx1 fx2 fx3 kr0 kr1 kr2 kr3 fr0 fr1 fr2 fr3
 have hm := HM.out.pk [2, 0, 1] (by decide) (by simp)
 simp only [low.pk, low.gz, low.gs] at hm
 replace HM := Lib.hid hm
 clear hm
 have hm := HM.out.set (j := 3) (.slice Al x.list.length cl)
 simp only [pa, pb, pc] at hm
 replace HM := Lib.hid hm
 clear hm
 have hm := HM.out.pk [2, 0, 1] (by decide) (by simp)
 simp only [low.pk, low.gz, low.gs] at hm
 replace HM := Lib.hid hm
 clear hm
 have hm := HM.out.putRow (ys := [.int .i64 x.cap, .int .i64 x.next, .bool x.out, .slice Al x.list.length cl]) rfl
 simp only [low.putRow, Nat.zero_add, Nat.reduceAdd] at hm
 replace HM := Lib.hid hm
 clear hm
 obtain ⟨W3, hW, hm⟩ := HM.out.name
 rw [← hW]
 replace HM := Lib.hid hm
 clear hm hW
 obtain ⟨kr0, kr1, kr2, kr3⟩ := HM.out.c4 0 rfl
 have hm := HM.out.pk [2, 0, 1] (by decide) (by simp)
 simp only [low.pk, low.gz, low.gs] at hm
 replace HM := Lib.hid hm
 clear hm
 exact bodyPost_ret (v := .agg #[.int .i64 x.cap, .int .i64 x.next, .bool x.out, .slice Al x.list.length cl]) (by simp [results, Tryz.results31, go_sem, kr0, kr1, kr2, kr3]) rfl (show Ms w (.dt (datRi x) (.agg #[.int .i64 x.cap, .int .i64 x.next, .bool x.out, .slice Al x.list.length cl]) _ :: _) _ from ((HM.out.pk0.pkO.pkF rfl).pkF rfl).pkF rfl).post
end Go.Proofs.YtglklgnggkenhaaGreat.low
namespace Go.Proofs.YtglklgnggkenhaaGreat.low
open Go.RowKit
def bodyPostN (P : Program) (fn : Func) (R : Ending → World → Prop) : Exit → Act → World → Prop
 | .normal, a, w | .ret, a, w => Leaves P fn a.tmps R a.defers .returning w
 | .outgrown, _, w => R .outgrown w
 | _, _, _ => False
theorem calls_of_wp_dn {P : Program} {f : FuncId} {fn : Func} {c : Code} {args : Array Value} {w : World} {R : Ending → World → Prop} (hf : P.funcs[f]? = some fn) (hb : fn.body = some c)
  (h : c.wp P (bodyPostN P fn R) { tmps := args ++ Array.replicate (fn.ntmps - args.size) undef, defers := [] } w) : Calls P f args w R :=
 calls_of_wp_defers hf hb (Code.wp_mono (fun e a w hq => by cases e <;> first | exact hq | exact hq.elim) h)
end Go.Proofs.YtglklgnggkenhaaGreat.low
namespace Go.Proofs.YtglklgnggkenhaaGreat.low
open Go.RowKit Go.MuLone
set_option linter.unusedVariables false
theorem push_room (g : Nat) (v : Value) (e : En) (sv : List Value) (rm nx af : Int) (out : Bool) (s len : Nat) (w0 w : World) (T : List It) (hm : Ms w0 (.bx g (bufO 0 sv rm nx af out) :: T) w) (h : RdC w0 w0.heap.size (datEn e) v) (hs : SmEn e) (h18 : sv.length = 18) (h1 : 1 ≤ rm) (h6 : rm ≤ 6) (hn : 0 ≤ nx) (hn2 : nx ≤ 2000000000) (haf : af = nx + (len : Int)) (hlen : (len : Int) < rm) (hsl : af.tmod rm = (s : Int)) (hs6 : s < 6) :
  Calls Tryz.prog 33 #[.pointer (some ⟨g, 0, none⟩), v] w fun E w' => E = .returned (.tuple #[]) ∧ Below w0.heap.size w0 w' ∧ ∃ A c b, Ms w0 (.dt (encPs e.o) (.slice A e.o.length c) b :: .bx g (bufO 0 (set3 sv (s * 3) (.int .i64 e.client) (.int .i64 e.seq) (.slice A e.o.length c)) rm nx (af + 1) out) :: T) w' := by
 have HE := Lib.hid h
 obtain ⟨A2, c2, rfl, r2⟩ := aggEn h
 have H18 := Lib.hid h18
 have HM := Lib.hid hm
 clear h hm r2
 have hw1 : IntKind.i64.wrap (af - nx) = af - nx := IntWalk.i64_in _ (by omega)
 have gq : ((af - nx) == rm) = false := by rw [beq_eq_false_iff_ne]; omega
 have hw2 : IntKind.i64.wrap (af + 1) = af + 1 := IntWalk.i64_in _ (by omega)
 have hr0 : ¬ rm = 0 := by omega
 have hs6i : (s : Int) < 6 := by omega
 have HAF := Lib.hid haf
 clear haf
 replace HM := Lib.hid (HM.out.new #[.int .i64 e.client, .int .i64 e.seq, .slice A2 e.o.length c2] 37)
 obtain ⟨kb0, kb20, kb21, kb22, kb23⟩ := HM.out.bq (i := 1) rfl H18.out
 have fb := HM.out.bf (i := 1) rfl
 refine calls_of_wp_dn Tryz.func33 rfl ?_
 simp only [Tryz.ntmps33, List.size_toArray, List.length_cons, List.length_nil, Nat.reduceAdd, Nat.reduceSub, Array.replicate_succ, Array.replicate_zero, List.push_toArray, List.append_toArray, List.nil_append, List.cons_append]
 go_wp2_with (go_at_call 50; refine (lock_free muLib ⟨g, 0, none⟩ _ kb0 (fb 0)).mono ?_; rintro e' w' ⟨rfl, rfl⟩)
 clear kb0 kb20 kb21 kb22 kb23 fb
 replace HM := Lib.hid (HM.out.fr1)
 replace HM := Lib.hid (HM.out.b0 1)
 obtain ⟨W1, hW, hm⟩ := HM.out.name
 rw [← hW]
 replace HM := Lib.hid hm
 clear hm hW
 have HSL := Lib.hid (show ∀ k, k < 3 → ∃ u, sv[s * 3 + k]? = some u from fun k hk => ⟨_, List.getElem?_eq_getElem (by have := H18.out; omega)⟩)
 replace HM := Lib.hid (HM.out.drew)
 refine wp_region_held_drew (S := fun W => Ms w0 [.bx g (bufO 1 sv rm nx af out)] W) (by kernel_rfl) (HM.out.pick (ks := [0]) (by decide) rfl) (fun hS => ?_)
 generalize W1.drew = W2 at HM hS  ⊢
 refine tk (v := ?_) 0 11 rfl (fun w' hS' => ?_) hS ?_
 rotate_left
 ·go_simp; all_goals (with_reducible rfl)
 try simp only [Act.put, pa, pb, pc]
 refine tk (v := ?_) 1 12 rfl (fun w' hS' => ?_) hS ?_
 rotate_left
 ·go_simp; all_goals (with_reducible rfl)
 try simp only [Act.put, pa, pb, pc]
 refine tk (v := ?_) 2 13 rfl (fun w' hS' => ?_) hS ?_
 rotate_left
 ·go_simp; all_goals (with_reducible rfl)
 try simp only [Act.put, pa, pb, pc]
 refine tk (v := ?_) 3 14 rfl (fun w' hS' => ?_) hS ?_
 rotate_left
 ·(try dsimp only at hS'); obtain ⟨kb0, kb20, kb21, kb22, kb23⟩ := hS'.bq (i := 0) rfl H18.out; go_simp; all_goals (with_reducible rfl)
 try simp only [Act.put, pa, pb, pc]
 refine tk (v := ?_) 4 15 rfl (fun w' hS' => ?_) hS ?_
 rotate_left
 ·go_simp; all_goals (with_reducible rfl)
 try simp only [Act.put, pa, pb, pc]
 refine tk (v := ?_) 5 16 rfl (fun w' hS' => ?_) hS ?_
 rotate_left
 ·go_simp; all_goals (with_reducible rfl)
 try simp only [Act.put, pa, pb, pc]
 refine tk (v := ?_) 6 17 rfl (fun w' hS' => ?_) hS ?_
 rotate_left
 ·go_simp; all_goals (with_reducible rfl)
 try simp only [Act.put, pa, pb, pc]
 refine tk (v := ?_) 7 18 rfl (fun w' hS' => ?_) hS ?_
 rotate_left
 ·(try dsimp only at hS'); obtain ⟨kb0, kb20, kb21, kb22, kb23⟩ := hS'.bq (i := 0) rfl H18.out; go_simp; all_goals (with_reducible rfl)
 try simp only [Act.put, pa, pb, pc]
 refine tk (v := ?_) 8 19 rfl (fun w' hS' => ?_) hS ?_
 rotate_left
 ·go_simp; all_goals (with_reducible rfl)
 try simp only [Act.put, pa, pb, pc]
 refine tk (v := ?_) 9 20 rfl (fun w' hS' => ?_) hS ?_
 rotate_left
 ·go_simp; all_goals (with_reducible rfl)
 try simp only [Act.put, pa, pb, pc]
 refine tk (v := ?_) 10 21 rfl (fun w' hS' => ?_) hS ?_
 rotate_left
 ·go_simp; all_goals (with_reducible rfl)
 try simp only [Act.put, pa, pb, pc]
 refine tk (v := ?_) 11 22 rfl (fun w' hS' => ?_) hS ?_
 rotate_left
 ·go_simp; all_goals (with_reducible rfl)
 try simp only [Act.put, pa, pb, pc]
 refine tk (v := ?_) 12 23 rfl (fun w' hS' => ?_) hS ?_
 rotate_left
 ·(try dsimp only at hS'); obtain ⟨kb0, kb20, kb21, kb22, kb23⟩ := hS'.bq (i := 0) rfl H18.out; go_simp; all_goals (with_reducible rfl)
 try simp only [Act.put, pa, pb, pc]
 refine tk (v := ?_) 13 24 rfl (fun w' hS' => ?_) hS ?_
 rotate_left
 ·go_simp; all_goals (with_reducible rfl)
 try simp only [Act.put, pa, pb, pc]
 refine wpAnyH_done (by kernel_rfl) ?_ _
 clear hS
 go_wp2
 replace HM := Lib.hid (HM.out.drew)
 refine wp_region_held_drew (S := fun W => Ms w0 [.bx w.heap.size (.cells #[.int .i64 e.client, .int .i64 e.seq, .slice A2 e.o.length c2] 37 (0, 0))] W ∧ ∃ sv' : List Value, sv'.length = 18 ∧ Ms w0 [.bx g (bufO 1 sv' rm nx af out)] W) (by kernel_rfl) ⟨HM.out.pick (ks := [1]) (by decide) rfl, ⟨_, by first | exact H18.out | simp [set3, H18.out], HM.out.pick (ks := [0]) (by decide) rfl⟩⟩ (fun hS => ?_)
 generalize W2.drew = W3 at HM hS  ⊢
 refine tk (v := ?_) 0 35 rfl (fun w' hS' => ?_) hS ?_
 rotate_left
 ·go_simp; all_goals (with_reducible rfl)
 try simp only [Act.put, pa, pb, pc]
 refine tk (v := ?_) 1 36 rfl (fun w' hS' => ?_) hS ?_
 rotate_left
 ·go_simp; all_goals (with_reducible rfl)
 try simp only [Act.put, pa, pb, pc]
 refine tk (v := ?_) 2 37 rfl (fun w' hS' => ?_) hS ?_
 rotate_left
 ·go_simp; all_goals (with_reducible rfl)
 try simp only [Act.put, pa, pb, pc]
 refine tk (v := ?_) 3 38 rfl (fun w' hS' => ?_) hS ?_
 rotate_left
 ·go_simp; all_goals (with_reducible rfl)
 try simp only [Act.put, pa, pb, pc]
 refine tk (v := ?_) 4 39 rfl (fun w' hS' => ?_) hS ?_
 rotate_left
 ·(try dsimp only at hS'); obtain ⟨hS1, sv', hl', hS2⟩ := hS'; obtain ⟨p0, p1, p2⟩ := hS1.c3 0 rfl; obtain ⟨kb0, kb20, kb21, kb22, kb23⟩ := hS2.bq (i := 0) rfl hl'; go_simp; all_goals (with_reducible rfl)
 try simp only [Act.put, pa, pb, pc]
 refine tk (v := ?_) 5 40 rfl (fun w' hS' => ?_) hS ?_
 rotate_left
 ·go_simp; all_goals (with_reducible rfl)
 try simp only [Act.put, pa, pb, pc]
 refine tk (v := ?_) 6 41 rfl (fun w' hS' => ?_) hS ?_
 rotate_left
 ·go_simp; all_goals (with_reducible rfl)
 try simp only [Act.put, pa, pb, pc]
 refine tk (v := ?_) 7 42 rfl (fun w' hS' => ?_) hS ?_
 rotate_left
 ·go_simp; all_goals (with_reducible rfl)
 try simp only [Act.put, pa, pb, pc]
 refine tk (v := ?_) 8 43 rfl (fun w' hS' => ?_) hS ?_
 rotate_left
 ·(try dsimp only at hS'); obtain ⟨hS1, sv', hl', hS2⟩ := hS'; obtain ⟨p0, p1, p2⟩ := hS1.c3 0 rfl; obtain ⟨kb0, kb20, kb21, kb22, kb23⟩ := hS2.bq (i := 0) rfl hl'; go_simp; all_goals (with_reducible rfl)
 try simp only [Act.put, pa, pb, pc]
 refine tk (v := ?_) 9 44 rfl (fun w' hS' => ?_) hS ?_
 rotate_left
 ·go_simp; all_goals (with_reducible rfl)
 try simp only [Act.put, pa, pb, pc]
 refine tk (v := ?_) 10 45 rfl (fun w' hS' => ?_) hS ?_
 rotate_left
 ·(try dsimp only at hS'); obtain ⟨hS1, sv', hl', hS2⟩ := hS'; obtain ⟨p0, p1, p2⟩ := hS1.c3 0 rfl; obtain ⟨kb0, kb20, kb21, kb22, kb23⟩ := hS2.bq (i := 0) rfl hl'; go_simp; all_goals (with_reducible rfl)
 try simp only [Act.put, pa, pb, pc]
 refine tk (v := ?_) 12 47 rfl (fun w' hS' => ?_) hS ?_
 rotate_left
 ·go_simp; all_goals (with_reducible rfl)
 try simp only [Act.put, pa, pb, pc]
 refine tk (v := ?_) 13 48 rfl (fun w' hS' => ?_) hS ?_
 rotate_left
 ·go_simp; all_goals (with_reducible rfl)
 try simp only [Act.put, pa, pb, pc]
 refine r1 11 (some 46) rfl (fun K hK => ?_)
 go_simp
 refine (implCopyEntry_d _ e _ (HM.out.arg HE.out) hs).mono ?_
 rintro e' W4 ⟨v', rfl, o', b'⟩
 obtain ⟨An, cn, rfl, -⟩ := aggEn o'.read
 obtain ⟨bn, hm⟩ := HM.out.got o' b'
 clear o' b'
 obtain ⟨bm, hm⟩ := hm.unEn
 replace HM := Lib.hid hm
 clear hm
 clear hS
 refine hK.out _ _ ⟨HM.out.pick (ks := [2]) (by decide) rfl, ⟨_, by first | exact H18.out | simp [set3, H18.out], HM.out.pick (ks := [1]) (by decide) rfl⟩⟩ (fun hS => ?_)
 clear hK K
 try simp only [Act.put, pa, pb, pc]
 refine tk (v := ?_) 14 49 rfl (fun w' hS' => ?_) hS ?_
 rotate_left
 ·go_simp; all_goals (with_reducible rfl)
 try simp only [Act.put, pa, pb, pc]
 refine r1 15 none rfl (fun K hK => ?_)
 replace HM := Lib.hid (HM.out.fr2)
 replace HM := Lib.hid (HM.out.fr1)
 replace HM := Lib.hid (HM.out.fr2)
 obtain ⟨u0, hu0⟩ := HSL.out 0 (by omega)
 obtain ⟨u1, hu1⟩ := HSL.out 1 (by omega)
 obtain ⟨u2, hu2⟩ := HSL.out 2 (by omega)
 have ks0 : W4.cell? ⟨g, 2 + s * 3, none⟩ = some u0 := HM.out.bs (i := 0) rfl hu0
 have ks1 : W4.cell? ⟨g, 2 + s * 3 + 1, none⟩ = some u1 := HM.out.bs (i := 0) rfl hu1
 have ks2 : W4.cell? ⟨g, 2 + s * 3 + 2, none⟩ = some u2 := HM.out.bs (i := 0) rfl hu2
 have fb := HM.out.bf (i := 0) rfl
 clear hu0 hu1 hu2
 go_simp
 clear hS ks0 ks1 ks2 fb
 replace HM := Lib.hid (HM.out.bslot (s := s * 3) (by have := H18.out; omega) (.int .i64 e.client) (.int .i64 e.seq) (.slice An e.o.length cn))
 obtain ⟨W5, hW, hm⟩ := HM.out.name
 rw [← hW]
 replace HM := Lib.hid hm
 clear hm hW
 refine hK.out _ _ ⟨HM.out.pick (ks := [2]) (by decide) rfl, ⟨_, by first | exact H18.out | simp [set3, H18.out], HM.out.pick (ks := [0]) (by decide) rfl⟩⟩ (fun hS => ?_)
 clear hK K
 try simp only [Act.put]
 refine wpAnyH_done (by kernel_rfl) ?_ _
 clear hS
 have H18b := Lib.hid (show (set3 sv (s * 3) (.int .i64 e.client) (.int .i64 e.seq) (.slice An e.o.length cn)).length = 18 by simp [set3, H18.out])
 obtain ⟨kb0, kb20, kb21, kb22, kb23⟩ := HM.out.bq (i := 0) rfl H18b.out
 have fb := HM.out.bf (i := 0) rfl
 go_wp2
 clear kb0 kb20 kb21 kb22 kb23 fb
 replace HM := Lib.hid (HM.out.fr2)
 replace HM := Lib.hid (HM.out.fr2)
 replace HM := Lib.hid (HM.out.fr2)
 replace HM := Lib.hid (HM.out.b22 H18b.out (af + 1))
 obtain ⟨W6, hW, hm⟩ := HM.out.name
 rw [← hW]
 replace HM := Lib.hid hm
 clear hm hW
 refine leaves_cons (f := 51) (args := #[.pointer (some ⟨g, 0, none⟩)]) (by simp) (by simp [go_sem]) ?_
 obtain ⟨kb0, -, -, -, -⟩ := HM.out.bq (i := 0) rfl H18b.out
 refine (unlock_deferred muLib ⟨g, 0, none⟩ .returning _ kb0 (HM.out.bf (i := 0) rfl 0)).mono ?_
 rintro e' u' w'' ⟨rfl, rfl, rfl⟩
 replace HM := Lib.hid (HM.out.fr2)
 replace HM := Lib.hid (HM.out.fr2)
 replace HM := Lib.hid (HM.out.fr2)
 replace HM := Lib.hid (HM.out.b0 0)
 replace HM := Lib.hid (HM.out.fr2)
 replace HM := Lib.hid (HM.out.fr1)
 replace HM := Lib.hid (HM.out.fr2)
 exact ⟨_, results_none rfl _ _ _, rfl, HM.out.bl, _, _, _, HM.out.fr2.tail⟩
theorem push_full (g : Nat) (v : Value) (e : En) (sv : List Value) (rm nx af : Int) (out : Bool) (len : Nat) (w0 w : World) (T : List It) (hm : Ms w0 (.bx g (bufO 0 sv rm nx af out) :: T) w) (h : RdC w0 w0.heap.size (datEn e) v) (hs : SmEn e) (h18 : sv.length = 18) (hn : 0 ≤ nx) (hn2 : nx ≤ 2000000000) (haf : af = nx + (len : Int)) (hlen : (len : Int) = rm) (h6 : rm ≤ 6) :
  Calls Tryz.prog 33 #[.pointer (some ⟨g, 0, none⟩), v] w fun E w' => E = .returned (.tuple #[]) ∧ Below w0.heap.size w0 w' ∧ Ms w0 (.bx g (bufO 0 sv rm nx nx true) :: T) w' := by
 have HE := Lib.hid h
 obtain ⟨A2, c2, rfl, r2⟩ := aggEn h
 have H18 := Lib.hid h18
 have HM := Lib.hid hm
 clear h hm r2
 have hw1 : IntKind.i64.wrap (af - nx) = af - nx := IntWalk.i64_in _ (by omega)
 have gq : ((af - nx) == rm) = true := by rw [beq_iff_eq]; omega
 have HAF := Lib.hid haf
 clear haf
 replace HM := Lib.hid (HM.out.new #[.int .i64 e.client, .int .i64 e.seq, .slice A2 e.o.length c2] 37)
 obtain ⟨kb0, kb20, kb21, kb22, kb23⟩ := HM.out.bq (i := 1) rfl H18.out
 have fb := HM.out.bf (i := 1) rfl
 refine calls_of_wp_dn Tryz.func33 rfl ?_
 simp only [Tryz.ntmps33, List.size_toArray, List.length_cons, List.length_nil, Nat.reduceAdd, Nat.reduceSub, Array.replicate_succ, Array.replicate_zero, List.push_toArray, List.append_toArray, List.nil_append, List.cons_append]
 go_wp2_with (go_at_call 50; refine (lock_free muLib ⟨g, 0, none⟩ _ kb0 (fb 0)).mono ?_; rintro e' w' ⟨rfl, rfl⟩)
 clear kb0 kb20 kb21 kb22 kb23 fb
 replace HM := Lib.hid (HM.out.fr1)
 replace HM := Lib.hid (HM.out.b0 1)
 obtain ⟨W1, hW, hm⟩ := HM.out.name
 rw [← hW]
 replace HM := Lib.hid hm
 clear hm hW
 replace HM := Lib.hid (HM.out.drew)
 refine wp_region_held_drew (S := fun W => Ms w0 [.bx g (bufO 1 sv rm nx af out)] W) (by kernel_rfl) (HM.out.pick (ks := [0]) (by decide) rfl) (fun hS => ?_)
 generalize W1.drew = W2 at HM hS  ⊢
 refine tk (v := ?_) 0 11 rfl (fun w' hS' => ?_) hS ?_
 rotate_left
 ·go_simp; all_goals (with_reducible rfl)
 try simp only [Act.put, pa, pb, pc]
 refine tk (v := ?_) 1 12 rfl (fun w' hS' => ?_) hS ?_
 rotate_left
 ·go_simp; all_goals (with_reducible rfl)
 try simp only [Act.put, pa, pb, pc]
 refine tk (v := ?_) 2 13 rfl (fun w' hS' => ?_) hS ?_
 rotate_left
 ·go_simp; all_goals (with_reducible rfl)
 try simp only [Act.put, pa, pb, pc]
 refine tk (v := ?_) 3 14 rfl (fun w' hS' => ?_) hS ?_
 rotate_left
 ·(try dsimp only at hS'); obtain ⟨kb0, kb20, kb21, kb22, kb23⟩ := hS'.bq (i := 0) rfl H18.out; go_simp; all_goals (with_reducible rfl)
 try simp only [Act.put, pa, pb, pc]
 refine tk (v := ?_) 4 15 rfl (fun w' hS' => ?_) hS ?_
 rotate_left
 ·go_simp; all_goals (with_reducible rfl)
 try simp only [Act.put, pa, pb, pc]
 refine tk (v := ?_) 5 16 rfl (fun w' hS' => ?_) hS ?_
 rotate_left
 ·go_simp; all_goals (with_reducible rfl)
 try simp only [Act.put, pa, pb, pc]
 refine tk (v := ?_) 6 17 rfl (fun w' hS' => ?_) hS ?_
 rotate_left
 ·go_simp; all_goals (with_reducible rfl)
 try simp only [Act.put, pa, pb, pc]
 refine tk (v := ?_) 7 18 rfl (fun w' hS' => ?_) hS ?_
 rotate_left
 ·(try dsimp only at hS'); obtain ⟨kb0, kb20, kb21, kb22, kb23⟩ := hS'.bq (i := 0) rfl H18.out; go_simp; all_goals (with_reducible rfl)
 try simp only [Act.put, pa, pb, pc]
 refine tk (v := ?_) 8 19 rfl (fun w' hS' => ?_) hS ?_
 rotate_left
 ·go_simp; all_goals (with_reducible rfl)
 try simp only [Act.put, pa, pb, pc]
 refine tk (v := ?_) 9 20 rfl (fun w' hS' => ?_) hS ?_
 rotate_left
 ·go_simp; all_goals (with_reducible rfl)
 try simp only [Act.put, pa, pb, pc]
 refine tk (v := ?_) 10 21 rfl (fun w' hS' => ?_) hS ?_
 rotate_left
 ·go_simp; all_goals (with_reducible rfl)
 try simp only [Act.put, pa, pb, pc]
 refine tk (v := ?_) 11 22 rfl (fun w' hS' => ?_) hS ?_
 rotate_left
 ·go_simp; all_goals (with_reducible rfl)
 try simp only [Act.put, pa, pb, pc]
 refine tk (v := ?_) 12 23 rfl (fun w' hS' => ?_) hS ?_
 rotate_left
 ·(try dsimp only at hS'); obtain ⟨kb0, kb20, kb21, kb22, kb23⟩ := hS'.bq (i := 0) rfl H18.out; go_simp; all_goals (with_reducible rfl)
 try simp only [Act.put, pa, pb, pc]
 refine tk (v := ?_) 13 24 rfl (fun w' hS' => ?_) hS ?_
 rotate_left
 ·go_simp; all_goals (with_reducible rfl)
 try simp only [Act.put, pa, pb, pc]
 refine wpAnyH_done (by kernel_rfl) ?_ _
 clear hS
 obtain ⟨kb0, kb20, kb21, kb22, kb23⟩ := HM.out.bq (i := 0) rfl H18.out
 have fb := HM.out.bf (i := 0) rfl
 go_wp2
 clear kb0 kb20 kb21 kb22 kb23 fb
 replace HM := Lib.hid (HM.out.fr1)
 replace HM := Lib.hid (HM.out.fr1)
 replace HM := Lib.hid (HM.out.b23 H18.out true)
 replace HM := Lib.hid (HM.out.fr1)
 replace HM := Lib.hid (HM.out.fr1)
 replace HM := Lib.hid (HM.out.b22 H18.out nx)
 obtain ⟨W3, hW, hm⟩ := HM.out.name
 rw [← hW]
 replace HM := Lib.hid hm
 clear hm hW
 refine leaves_cons (f := 51) (args := #[.pointer (some ⟨g, 0, none⟩)]) (by simp) (by simp [go_sem]) ?_
 obtain ⟨kb0, -, -, -, -⟩ := HM.out.bq (i := 0) rfl H18.out
 refine (unlock_deferred muLib ⟨g, 0, none⟩ .returning _ kb0 (HM.out.bf (i := 0) rfl 0)).mono ?_
 rintro e' u' w'' ⟨rfl, rfl, rfl⟩
 replace HM := Lib.hid (HM.out.fr1)
 replace HM := Lib.hid (HM.out.fr1)
 replace HM := Lib.hid (HM.out.b0 0)
 replace HM := Lib.hid (HM.out.fr1)
 exact ⟨_, results_none rfl _ _ _, rfl, HM.out.bl, HM.out.tail⟩
theorem drop_one {α : Type} {l : List α} {j : Nat} {x : α} (h : l[j]? = some x) : l.drop j = x :: l.drop (j + 1) := by
 obtain ⟨hj, e⟩ := List.getElem?_eq_some_iff.1 h
 rw [List.drop_eq_getElem_cons hj, e]
theorem ens_snoc {qs : List QE} {j : Nat} {e : En} {v : Value} {b : List Nat} (h : qs[j]? = some ⟨e, v, b⟩) : ((ens qs).take (j + 1)).map encEn = ((ens qs).take j).map encEn ++ [[.int e.client, .int e.seq, encPs e.o]] := by
 have h2 : (ens qs)[j]? = some e := by unfold ens; rw [List.getElem?_map, h]; rfl
 rw [List.take_add_one, h2]
 simp [encEn]
theorem first_any (g m : Nat) (n : Int) (sv : List Value) (rm nx : Nat) (lk af : Int) (out : Bool) (qs : List QE) (w0 w : World) (L : List It) (hm : Ms w0 (.bx g (bufO lk sv rm nx af out) :: (qs.map QE.it ++ L)) w) (hsl : Slots sv rm nx qs) (haf : af = (nx : Int) + (qs.length : Int)) (h0 : 0 ≤ n) (hmi : (m : Int) = min n (qs.length : Int)) (hnx : nx ≤ 2000000000) :
  Calls Tryz.prog 53 #[.pointer (some ⟨g, 0, none⟩), .int .i64 n] w fun E w' => ∃ g' b, E = .returned (.slice (some ⟨g', 0, none⟩) m m) ∧ Below w0.heap.size w0 w' ∧ Ms w0 (.dt (encEns ((ens qs).take m)) (.slice (some ⟨g', 0, none⟩) m m) b :: .bx g (bufO lk sv rm nx af out) :: ((qs.drop m).map QE.it ++ L)) w' := by
 have HM := Lib.hid hm
 have H18 := Lib.hid hsl.len
 have HSL := Lib.hid hsl
 have HAF := Lib.hid haf
 obtain ⟨hr1, hr6, hfit⟩ := And.intro hsl.r1 (And.intro hsl.r6 hsl.fit)
 have hw1 : IntKind.i64.wrap (af - (nx : Int)) = (qs.length : Int) := by rw [haf]; exact (IntWalk.i64_in _ (by omega)).trans (by omega)
 have hmi1 : (if (qs.length : Int) < n then (qs.length : Int) else n) = (m : Int) := by rw [hmi]; split <;> omega
 have hmi2 : min n (qs.length : Int) = (m : Int) := hmi.symm
 have hmi3 : min (qs.length : Int) n = (m : Int) := by rw [hmi]; omega
 have hmq : m ≤ qs.length := by omega
 clear hm hsl haf hmi h0
 go_enter Tryz.func53, Tryz.ntmps53
 go_wp2
 replace HM := Lib.hid (HM.out.drew)
 refine wp_region_held_drew (S := fun W => Ms w0 [.bx g (bufO lk sv rm nx af out)] W) (by kernel_rfl) (HM.out.pick (ks := [0]) (by decide) rfl) (fun hS => ?_)
 generalize w.drew = W1 at HM hS  ⊢
 refine tk (v := ?_) 0 7 rfl (fun w' hS' => ?_) hS ?_
 rotate_left
 ·go_simp; all_goals (with_reducible rfl)
 try simp only [Act.put, pa, pb, pc]
 refine tk (v := ?_) 1 8 rfl (fun w' hS' => ?_) hS ?_
 rotate_left
 ·go_simp; all_goals (with_reducible rfl)
 try simp only [Act.put, pa, pb, pc]
 refine tk (v := ?_) 2 9 rfl (fun w' hS' => ?_) hS ?_
 rotate_left
 ·go_simp; all_goals (with_reducible rfl)
 try simp only [Act.put, pa, pb, pc]
 refine tk (v := ?_) 3 10 rfl (fun w' hS' => ?_) hS ?_
 rotate_left
 ·go_simp; all_goals (with_reducible rfl)
 try simp only [Act.put, pa, pb, pc]
 refine tk (v := ?_) 4 11 rfl (fun w' hS' => ?_) hS ?_
 rotate_left
 ·(try dsimp only at hS'); obtain ⟨kb0, kb20, kb21, kb22, kb23⟩ := hS'.bq (i := 0) rfl H18.out; go_simp; all_goals (with_reducible rfl)
 try simp only [Act.put, pa, pb, pc]
 refine tk (v := ?_) 5 12 rfl (fun w' hS' => ?_) hS ?_
 rotate_left
 ·go_simp; all_goals (with_reducible rfl)
 try simp only [Act.put, pa, pb, pc]
 refine tk (v := ?_) 6 13 rfl (fun w' hS' => ?_) hS ?_
 rotate_left
 ·go_simp; all_goals (with_reducible rfl)
 try simp only [Act.put, pa, pb, pc]
 refine tk (v := ?_) 7 14 rfl (fun w' hS' => ?_) hS ?_
 rotate_left
 ·go_simp; all_goals (with_reducible rfl)
 try simp only [Act.put, pa, pb, pc]
 refine tk (v := ?_) 8 15 rfl (fun w' hS' => ?_) hS ?_
 rotate_left
 ·(try dsimp only at hS'); obtain ⟨kb0, kb20, kb21, kb22, kb23⟩ := hS'.bq (i := 0) rfl H18.out; go_simp; all_goals (with_reducible rfl)
 try simp only [Act.put, pa, pb, pc]
 refine tk (v := ?_) 9 16 rfl (fun w' hS' => ?_) hS ?_
 rotate_left
 ·go_simp; all_goals (with_reducible rfl)
 try simp only [Act.put, pa, pb, pc]
 refine tk (v := ?_) 10 17 rfl (fun w' hS' => ?_) hS ?_
 rotate_left
 ·go_simp; all_goals (with_reducible rfl)
 try simp only [Act.put, pa, pb, pc]
 refine r1 11 (some 18) rfl (fun K hK => ?_)
 refine step_make ?_ (.tmp 17) (.tmp 17) 30 ?_ eltEn HM.out m ?_ ?_ (by omega) ?_
 ·rfl
 ·rfl
 ·rfl
 ·rfl
 intro W2 hm
 replace HM := Lib.hid hm
 clear hm
 clear hS
 refine hK.out _ _ (HM.out.pick (ks := [1]) (by decide) rfl) (fun hS => ?_)
 clear hK K
 try simp only [Act.put, pa, pb, pc]
 refine tk (v := ?_) 12 5 rfl (fun w' hS' => ?_) hS ?_
 rotate_left
 ·go_simp; all_goals (with_reducible rfl)
 try simp only [Act.put, pa, pb, pc]
 refine wpAnyH_done (by kernel_rfl) ?_ _
 clear hS
 clear hw1 hmi1 hmi2 hmi3
 go_wp2
 generalize W1.heap.size = gl at HM ⊢
 go_loopw [21] (fun i wr => ∃ (j : Nat) (bs : List Nat), j ≤ m ∧ i = .int .i64 (j : Int) ∧ Ms w0 (.dt (.rows 37 3 (((ens qs).take j).map encEn)) (.slice (some ⟨gl, 0, none⟩) j m) bs :: .bx g (bufO lk sv rm nx af out) :: ((qs.drop j).map QE.it ++ L)) wr) (fun i _ => m - (intOf i).toNat)
 case atStart => exact ⟨0, _, Nat.zero_le _, rfl, HM.out⟩
 case round =>
  obtain ⟨j, bs, hj, rfl, hm⟩ := hrel
  clear HM
  by_cases hlt : j < m
  ·obtain ⟨⟨e, v, bq⟩, hq⟩ : ∃ q, qs[j]? = some q := ⟨_, List.getElem?_eq_getElem (by omega)⟩
   have hsv := HSL.out.at_ j _ hq
   have HT := Lib.hid (ens_snoc hq)
   rw [drop_one hq] at hm
   have HM := Lib.hid (show Ms w0 (.dt (.rows 37 3 (((ens qs).take j).map encEn)) (.slice (some ⟨gl, 0, none⟩) j m) bs :: .bx g (bufO lk sv rm nx af out) :: .dt (encPs e.o) v bq :: ((qs.drop (j + 1)).map QE.it ++ L)) wr from hm)
   clear hm hq
   obtain ⟨A5, c5, rfl⟩ := sliceP (HM.out.read (i := 2) rfl)
   obtain ⟨s, hs⟩ : ∃ s, (nx + j) % rm = s := ⟨_, rfl⟩
   rw [hs] at hsv
   have hs6 := slot_lt (n := nx + j) hr1 hr6
   rw [hs] at hs6
   have k0 : sv[s * 3]? = some (.int .i64 e.client) := hsv 0 _ rfl
   have k1 : sv[s * 3 + 1]? = some (.int .i64 e.seq) := hsv 1 _ rfl
   have k2 : sv[s * 3 + 2]? = some (.slice A5 e.o.length c5) := hsv 2 _ rfl
   have HK := Lib.hid (And.intro k0 (And.intro k1 k2))
   have hmod : ((nx : Int) + (j : Int)).tmod (rm : Int) = (s : Int) := by rw [← hs]; rfl
   have hw : IntKind.i64.wrap ((nx : Int) + (j : Int)) = (nx : Int) + (j : Int) := IntWalk.i64_in _ (by omega)
   have hr0 : ¬ (rm : Int) = 0 := by omega
   have hr00 : ¬ rm = 0 := by omega
   have hsi : (s : Int) < 6 := by omega
   have hsn : s < 6 := by omega
   clear hsv k0 k1 k2 hs
   have HLN := Lib.hid (show j = (((ens qs).take j).map encEn).length by unfold ens; simp; omega)
   go_wp2
   replace HM := Lib.hid (HM.out.drew)
   refine wp_region_held_drew (S := fun W => Ms w0 [.bx g (bufO lk sv rm nx af out)] W) (by kernel_rfl) (HM.out.pick (ks := [1]) (by decide) rfl) (fun hS => ?_)
   generalize wr.drew = W3 at HM hS  ⊢
   refine tk (v := ?_) 0 24 rfl (fun w' hS' => ?_) hS ?_
   rotate_left
   ·go_simp; all_goals (with_reducible rfl)
   try simp only [Act.put, pa, pb, pc]
   refine tk (v := ?_) 1 25 rfl (fun w' hS' => ?_) hS ?_
   rotate_left
   ·go_simp; all_goals (with_reducible rfl)
   try simp only [Act.put, pa, pb, pc]
   refine tk (v := ?_) 2 26 rfl (fun w' hS' => ?_) hS ?_
   rotate_left
   ·go_simp; all_goals (with_reducible rfl)
   try simp only [Act.put, pa, pb, pc]
   refine tk (v := ?_) 3 27 rfl (fun w' hS' => ?_) hS ?_
   rotate_left
   ·go_simp; all_goals (with_reducible rfl)
   try simp only [Act.put, pa, pb, pc]
   refine tk (v := ?_) 4 28 rfl (fun w' hS' => ?_) hS ?_
   rotate_left
   ·go_simp; all_goals (with_reducible rfl)
   try simp only [Act.put, pa, pb, pc]
   refine tk (v := ?_) 5 29 rfl (fun w' hS' => ?_) hS ?_
   rotate_left
   ·go_simp; all_goals (with_reducible rfl)
   try simp only [Act.put, pa, pb, pc]
   refine tk (v := ?_) 6 30 rfl (fun w' hS' => ?_) hS ?_
   rotate_left
   ·(try dsimp only at hS'); obtain ⟨kb0, kb20, kb21, kb22, kb23⟩ := hS'.bq (i := 0) rfl H18.out; have ks0 : w'.cell? ⟨g, 2 + s * 3, none⟩ = some (.int .i64 e.client) := hS'.bs (i := 0) rfl HK.out.1; have ks1 : w'.cell? ⟨g, 2 + s * 3 + 1, none⟩ = some (.int .i64 e.seq) := hS'.bs (i := 0) rfl HK.out.2.1; have ks2 : w'.cell? ⟨g, 2 + s * 3 + 2, none⟩ = some (.slice A5 e.o.length c5) := hS'.bs (i := 0) rfl HK.out.2.2; go_simp; all_goals (with_reducible rfl)
   try simp only [Act.put, pa, pb, pc]
   refine tk (v := ?_) 7 31 rfl (fun w' hS' => ?_) hS ?_
   rotate_left
   ·go_simp; all_goals (with_reducible rfl)
   try simp only [Act.put, pa, pb, pc]
   refine tk (v := ?_) 8 32 rfl (fun w' hS' => ?_) hS ?_
   rotate_left
   ·go_simp; all_goals (with_reducible rfl)
   try simp only [Act.put, pa, pb, pc]
   refine tk (v := ?_) 9 33 rfl (fun w' hS' => ?_) hS ?_
   rotate_left
   ·go_simp; all_goals (with_reducible rfl)
   try simp only [Act.put, pa, pb, pc]
   refine tk (v := ?_) 10 34 rfl (fun w' hS' => ?_) hS ?_
   rotate_left
   ·go_simp; all_goals (with_reducible rfl)
   try simp only [Act.put, pa, pb, pc]
   refine tk (v := ?_) 11 35 rfl (fun w' hS' => ?_) hS ?_
   rotate_left
   ·go_simp; all_goals (with_reducible rfl)
   try simp only [Act.put, pa, pb, pc]
   refine tk (v := ?_) 12 36 rfl (fun w' hS' => ?_) hS ?_
   rotate_left
   ·(try dsimp only at hS'); obtain ⟨kb0, kb20, kb21, kb22, kb23⟩ := hS'.bq (i := 0) rfl H18.out; have ks0 : w'.cell? ⟨g, 2 + s * 3, none⟩ = some (.int .i64 e.client) := hS'.bs (i := 0) rfl HK.out.1; have ks1 : w'.cell? ⟨g, 2 + s * 3 + 1, none⟩ = some (.int .i64 e.seq) := hS'.bs (i := 0) rfl HK.out.2.1; have ks2 : w'.cell? ⟨g, 2 + s * 3 + 2, none⟩ = some (.slice A5 e.o.length c5) := hS'.bs (i := 0) rfl HK.out.2.2; go_simp; all_goals (with_reducible rfl)
   try simp only [Act.put, pa, pb, pc]
   refine tk (v := ?_) 13 37 rfl (fun w' hS' => ?_) hS ?_
   rotate_left
   ·go_simp; all_goals (with_reducible rfl)
   try simp only [Act.put, pa, pb, pc]
   refine tk (v := ?_) 14 38 rfl (fun w' hS' => ?_) hS ?_
   rotate_left
   ·go_simp; all_goals (with_reducible rfl)
   try simp only [Act.put, pa, pb, pc]
   refine tk (v := ?_) 15 39 rfl (fun w' hS' => ?_) hS ?_
   rotate_left
   ·go_simp; all_goals (with_reducible rfl)
   try simp only [Act.put, pa, pb, pc]
   refine tk (v := ?_) 16 40 rfl (fun w' hS' => ?_) hS ?_
   rotate_left
   ·go_simp; all_goals (with_reducible rfl)
   try simp only [Act.put, pa, pb, pc]
   refine tk (v := ?_) 17 41 rfl (fun w' hS' => ?_) hS ?_
   rotate_left
   ·(try dsimp only at hS'); obtain ⟨kb0, kb20, kb21, kb22, kb23⟩ := hS'.bq (i := 0) rfl H18.out; have ks0 : w'.cell? ⟨g, 2 + s * 3, none⟩ = some (.int .i64 e.client) := hS'.bs (i := 0) rfl HK.out.1; have ks1 : w'.cell? ⟨g, 2 + s * 3 + 1, none⟩ = some (.int .i64 e.seq) := hS'.bs (i := 0) rfl HK.out.2.1; have ks2 : w'.cell? ⟨g, 2 + s * 3 + 2, none⟩ = some (.slice A5 e.o.length c5) := hS'.bs (i := 0) rfl HK.out.2.2; go_simp; all_goals (with_reducible rfl)
   try simp only [Act.put, pa, pb, pc]
   refine tk (v := ?_) 18 42 rfl (fun w' hS' => ?_) hS ?_
   rotate_left
   ·go_simp; all_goals (with_reducible rfl)
   try simp only [Act.put, pa, pb, pc]
   refine r1 19 none rfl (fun K hK => ?_)
   replace HM := Lib.hid (HM.out.fr2)
   replace HM := Lib.hid (HM.out.fr2)
   replace HM := Lib.hid (HM.out.fr2)
   obtain ⟨⟨y0, hy0⟩, hz0⟩ := HM.out.hasC (o := j * 3) (by omega)
   obtain ⟨⟨y1, hy1⟩, hz1⟩ := HM.out.hasC (o := j * 3 + 1) (by omega)
   obtain ⟨⟨y2, hy2⟩, hz2⟩ := HM.out.hasC (o := j * 3 + 2) (by omega)
   go_simp
   clear hS hy0 hy1 hy2 hz0 hz1 hz2
   replace HM := Lib.hid (HM.out.fr1)
   replace HM := Lib.hid (HM.out.fr2)
   replace HM := Lib.hid (HM.out.fr2)
   obtain ⟨b8, hm⟩ := HM.out.fillA e.client e.seq HLN.out hlt
   rw [← HT.out] at hm
   replace HM := Lib.hid hm
   clear hm
   obtain ⟨W4, hW, hm⟩ := HM.out.name
   rw [← hW]
   replace HM := Lib.hid hm
   clear hm hW
   refine hK.out _ _ (HM.out.pick (ks := [1]) (by decide) rfl) (fun hS => ?_)
   clear hK K
   try simp only [Act.put]
   refine wpAnyH_done (by kernel_rfl) ?_ _
   clear hS
   go_wp2
   go_roundw
   replace HM := Lib.hid (HM.out.fr1)
   replace HM := Lib.hid (HM.out.fr1)
   case rel => exact ⟨j + 1, b8, by omega, by go_num, HM.out⟩
   case measure => simp [intOf]; omega
  ·obtain rfl : j = m := by omega
   go_wp2
   go_ret
   exact ⟨gl, bs, rfl, hm.bl, hm⟩
theorem ens_len (qs : List QE) : (ens qs).length = qs.length := by unfold ens; simp
theorem Ms.pkRi2 {w0 W : World} {L : List It} {cap next : Int} {out : Bool} {l : List En} {v : Value} {b : List Nat} (h : Ms w0 (.dt (encEns l) v b :: L) W) : Ms w0 (.dt (datRi ⟨cap, next, out, l⟩) (.agg #[.int .i64 cap, .int .i64 next, .bool out, v]) (b ++ []) :: L) W := ((h.pk0.pkO.pkF rfl).pkF rfl).pkF rfl
theorem ring_any (g : Nat) (sv : List Value) (rm nx : Nat) (af : Int) (out : Bool) (qs : List QE) (w0 w : World) (L : List It) (hm : Ms w0 (.bx g (bufO 0 sv rm nx af out) :: (qs.map QE.it ++ L)) w) (hsl : Slots sv rm nx qs) (haf : af = (nx : Int) + (qs.length : Int)) (hnx : nx ≤ 2000000000) :
  Calls Tryz.prog 34 #[.pointer (some ⟨g, 0, none⟩)] w fun E w' => ∃ l v b, E = .returned v ∧ l = ens qs ∧ Below w0.heap.size w0 w' ∧ Ms w0 (.dt (datRi ⟨(rm : Int), (nx : Int), out, l⟩) v b :: .bx g (bufO 0 sv rm nx af out) :: L) w' := by
 have HM := Lib.hid hm
 have H18 := Lib.hid hsl.len
 have HSL := Lib.hid hsl
 have HAF := Lib.hid haf
 have HFIT := Lib.hid hsl.fit
 have HR6 := Lib.hid hsl.r6
 clear hm hsl haf
 replace HM := Lib.hid (HM.out.new #[.int .i64 0, .int .i64 0, .bool false, .slice none 0 0] 32)
 obtain ⟨kb0, kb20, kb21, kb22, kb23⟩ := HM.out.bq (i := 1) rfl H18.out
 have fb := HM.out.bf (i := 1) rfl
 refine calls_of_wp_dn Tryz.func34 rfl ?_
 simp only [Tryz.ntmps34, List.size_toArray, List.length_cons, List.length_nil, Nat.reduceAdd, Nat.reduceSub, Array.replicate_succ, Array.replicate_zero, List.push_toArray, List.append_toArray, List.nil_append, List.cons_append]
 go_wp2_with (go_at_call 50; refine (lock_free muLib ⟨g, 0, none⟩ _ kb0 (fb 0)).mono ?_; rintro e' w' ⟨rfl, rfl⟩)
 clear kb0 kb20 kb21 kb22 kb23 fb
 replace HM := Lib.hid (HM.out.fr1)
 replace HM := Lib.hid (HM.out.b0 1)
 obtain ⟨W1, hW, hm⟩ := HM.out.name
 rw [← hW]
 replace HM := Lib.hid hm
 clear hm hW
 replace HM := Lib.hid (HM.out.drew)
 refine wp_region_held_drew (S := fun W => Ms w0 [.bx g (bufO 1 sv rm nx af out)] W) (by kernel_rfl) (HM.out.pick (ks := [0]) (by decide) rfl) (fun hS => ?_)
 generalize W1.drew = W2 at HM hS  ⊢
 refine tk (v := ?_) 0 10 rfl (fun w' hS' => ?_) hS ?_
 rotate_left
 ·go_simp; all_goals (with_reducible rfl)
 try simp only [Act.put, pa, pb, pc]
 refine tk (v := ?_) 1 11 rfl (fun w' hS' => ?_) hS ?_
 rotate_left
 ·go_simp; all_goals (with_reducible rfl)
 try simp only [Act.put, pa, pb, pc]
 refine tk (v := ?_) 2 12 rfl (fun w' hS' => ?_) hS ?_
 rotate_left
 ·go_simp; all_goals (with_reducible rfl)
 try simp only [Act.put, pa, pb, pc]
 refine tk (v := ?_) 3 13 rfl (fun w' hS' => ?_) hS ?_
 rotate_left
 ·(try dsimp only at hS'); obtain ⟨kb0, kb20, kb21, kb22, kb23⟩ := hS'.bq (i := 0) rfl H18.out; go_simp; all_goals (with_reducible rfl)
 try simp only [Act.put, pa, pb, pc]
 refine tk (v := ?_) 4 14 rfl (fun w' hS' => ?_) hS ?_
 rotate_left
 ·go_simp; all_goals (with_reducible rfl)
 try simp only [Act.put, pa, pb, pc]
 refine tk (v := ?_) 5 15 rfl (fun w' hS' => ?_) hS ?_
 rotate_left
 ·go_simp; all_goals (with_reducible rfl)
 try simp only [Act.put, pa, pb, pc]
 refine tk (v := ?_) 6 16 rfl (fun w' hS' => ?_) hS ?_
 rotate_left
 ·go_simp; all_goals (with_reducible rfl)
 try simp only [Act.put, pa, pb, pc]
 refine tk (v := ?_) 7 17 rfl (fun w' hS' => ?_) hS ?_
 rotate_left
 ·(try dsimp only at hS'); obtain ⟨kb0, kb20, kb21, kb22, kb23⟩ := hS'.bq (i := 0) rfl H18.out; go_simp; all_goals (with_reducible rfl)
 try simp only [Act.put, pa, pb, pc]
 refine tk (v := ?_) 8 18 rfl (fun w' hS' => ?_) hS ?_
 rotate_left
 ·go_simp; all_goals (with_reducible rfl)
 try simp only [Act.put, pa, pb, pc]
 refine tk (v := ?_) 9 19 rfl (fun w' hS' => ?_) hS ?_
 rotate_left
 ·go_simp; all_goals (with_reducible rfl)
 try simp only [Act.put, pa, pb, pc]
 refine tk (v := ?_) 10 20 rfl (fun w' hS' => ?_) hS ?_
 rotate_left
 ·go_simp; all_goals (with_reducible rfl)
 try simp only [Act.put, pa, pb, pc]
 refine tk (v := ?_) 11 21 rfl (fun w' hS' => ?_) hS ?_
 rotate_left
 ·(try dsimp only at hS'); obtain ⟨kb0, kb20, kb21, kb22, kb23⟩ := hS'.bq (i := 0) rfl H18.out; go_simp; all_goals (with_reducible rfl)
 try simp only [Act.put, pa, pb, pc]
 refine tk (v := ?_) 12 22 rfl (fun w' hS' => ?_) hS ?_
 rotate_left
 ·go_simp; all_goals (with_reducible rfl)
 try simp only [Act.put, pa, pb, pc]
 refine tk (v := ?_) 13 23 rfl (fun w' hS' => ?_) hS ?_
 rotate_left
 ·go_simp; all_goals (with_reducible rfl)
 try simp only [Act.put, pa, pb, pc]
 refine tk (v := ?_) 14 24 rfl (fun w' hS' => ?_) hS ?_
 rotate_left
 ·go_simp; all_goals (with_reducible rfl)
 try simp only [Act.put, pa, pb, pc]
 refine tk (v := ?_) 15 25 rfl (fun w' hS' => ?_) hS ?_
 rotate_left
 ·go_simp; all_goals (with_reducible rfl)
 try simp only [Act.put, pa, pb, pc]
 refine tk (v := ?_) 16 26 rfl (fun w' hS' => ?_) hS ?_
 rotate_left
 ·(try dsimp only at hS'); obtain ⟨kb0, kb20, kb21, kb22, kb23⟩ := hS'.bq (i := 0) rfl H18.out; go_simp; all_goals (with_reducible rfl)
 try simp only [Act.put, pa, pb, pc]
 refine r1 17 (some 27) rfl (fun K hK => ?_)
 replace HM := Lib.hid (HM.out.fr1)
 replace HM := Lib.hid (HM.out.fr1)
 replace HM := Lib.hid (HM.out.fr1)
 replace HM := Lib.hid (HM.out.fr1)
 go_simp
 have hm := (show Ms w0 (.bx g (bufO 1 sv rm nx af out) :: (qs.map QE.it ++ (.bx w.heap.size (.cells #[.int .i64 0, .int .i64 0, .bool false, .slice none 0 0] 32 (0, 0)) :: L))) W2 from HM.out.perm (List.Perm.cons _ List.perm_middle.symm))
 refine (first_any g qs.length rm sv rm nx 1 af out qs w0 _ (.bx w.heap.size (.cells #[.int .i64 0, .int .i64 0, .bool false, .slice none 0 0] 32 (0, 0)) :: L) hm HSL.out HAF.out (by omega) (by have := HFIT.out; omega) hnx).mono ?_
 rintro e' W3 ⟨gl, bl, rfl, -, hm9⟩
 clear hm
 rw [List.drop_length, List.take_of_length_le (by rw [ens_len]; exact Nat.le_refl _)] at hm9
 have hm := (show Ms w0 (.dt (encEns (ens qs)) (.slice (some ⟨gl, 0, none⟩) qs.length qs.length) bl :: .bx g (bufO 1 sv rm nx af out) :: .bx w.heap.size (.cells #[.int .i64 0, .int .i64 0, .bool false, .slice none 0 0] 32 (0, 0)) :: L) W3 from hm9)
 clear hm9
 replace HM := Lib.hid hm
 clear hm
 clear hS
 refine hK.out _ _ (HM.out.pick (ks := [1]) (by decide) rfl) (fun hS => ?_)
 clear hK K
 try simp only [Act.put, pa, pb, pc]
 refine r1 18 none rfl (fun K hK => ?_)
 obtain ⟨kr0, kr1, kr2, kr3⟩ := HM.out.c4 2 rfl
 obtain ⟨fr0, fr1, fr2, fr3⟩ := HM.out.f4 2 rfl
 go_simp
 clear hS kr0 kr1 kr2 kr3 fr0 fr1 fr2 fr3
 replace HM := Lib.hid (HM.out.fr1)
 replace HM := Lib.hid (HM.out.fr1)
 replace HM := Lib.hid (HM.out.fr2)
 have hm := HM.out.putRow (ys := [.int .i64 0, .int .i64 0, .bool false, .slice none 0 0]) rfl
 simp only [low.putRow, Nat.zero_add, Nat.reduceAdd] at hm
 replace HM := Lib.hid hm
 clear hm
 obtain ⟨W4, hW, hm⟩ := HM.out.name
 rw [← hW]
 replace HM := Lib.hid hm
 clear hm hW
 refine hK.out _ _ (HM.out.pick (ks := [2]) (by decide) rfl) (fun hS => ?_)
 clear hK K
 try simp only [Act.put]
 refine tk (v := ?_) 19 28 rfl (fun w' hS' => ?_) hS ?_
 rotate_left
 ·go_simp; all_goals (with_reducible rfl)
 try simp only [Act.put, pa, pb, pc]
 refine r1 20 none rfl (fun K hK => ?_)
 obtain ⟨kr0, kr1, kr2, kr3⟩ := HM.out.c4 0 rfl
 obtain ⟨fr0, fr1, fr2, fr3⟩ := HM.out.f4 0 rfl
 go_simp
 clear hS kr0 kr1 kr2 kr3 fr0 fr1 fr2 fr3
 replace HM := Lib.hid (HM.out.fr2)
 replace HM := Lib.hid (HM.out.fr2)
 replace HM := Lib.hid (HM.out.fr2)
 have hm := HM.out.set (j := 0) (.int .i64 rm)
 simp only [pa, pb] at hm
 replace HM := Lib.hid hm
 clear hm
 obtain ⟨W5, hW, hm⟩ := HM.out.name
 rw [← hW]
 replace HM := Lib.hid hm
 clear hm hW
 refine hK.out _ _ (HM.out.pick (ks := [2]) (by decide) rfl) (fun hS => ?_)
 clear hK K
 try simp only [Act.put]
 refine tk (v := ?_) 21 29 rfl (fun w' hS' => ?_) hS ?_
 rotate_left
 ·go_simp; all_goals (with_reducible rfl)
 try simp only [Act.put, pa, pb, pc]
 refine r1 22 none rfl (fun K hK => ?_)
 obtain ⟨kr0, kr1, kr2, kr3⟩ := HM.out.c4 0 rfl
 obtain ⟨fr0, fr1, fr2, fr3⟩ := HM.out.f4 0 rfl
 go_simp
 clear hS kr0 kr1 kr2 kr3 fr0 fr1 fr2 fr3
 replace HM := Lib.hid (HM.out.fr2)
 replace HM := Lib.hid (HM.out.fr2)
 replace HM := Lib.hid (HM.out.fr2)
 have hm := HM.out.set (j := 1) (.int .i64 nx)
 simp only [pa, pb, pc] at hm
 replace HM := Lib.hid hm
 clear hm
 obtain ⟨W6, hW, hm⟩ := HM.out.name
 rw [← hW]
 replace HM := Lib.hid hm
 clear hm hW
 refine hK.out _ _ (HM.out.pick (ks := [2]) (by decide) rfl) (fun hS => ?_)
 clear hK K
 try simp only [Act.put]
 refine tk (v := ?_) 23 30 rfl (fun w' hS' => ?_) hS ?_
 rotate_left
 ·go_simp; all_goals (with_reducible rfl)
 try simp only [Act.put, pa, pb, pc]
 refine r1 24 none rfl (fun K hK => ?_)
 obtain ⟨kr0, kr1, kr2, kr3⟩ := HM.out.c4 0 rfl
 obtain ⟨fr0, fr1, fr2, fr3⟩ := HM.out.f4 0 rfl
 go_simp
 clear hS kr0 kr1 kr2 kr3 fr0 fr1 fr2 fr3
 replace HM := Lib.hid (HM.out.fr2)
 replace HM := Lib.hid (HM.out.fr2)
 replace HM := Lib.hid (HM.out.fr2)
 have hm := HM.out.set (j := 2) (.bool out)
 simp only [pa, pb, pc] at hm
 replace HM := Lib.hid hm
 clear hm
 obtain ⟨W7, hW, hm⟩ := HM.out.name
 rw [← hW]
 replace HM := Lib.hid hm
 clear hm hW
 refine hK.out _ _ (HM.out.pick (ks := [2]) (by decide) rfl) (fun hS => ?_)
 clear hK K
 try simp only [Act.put]
 refine tk (v := ?_) 25 31 rfl (fun w' hS' => ?_) hS ?_
 rotate_left
 ·go_simp; all_goals (with_reducible rfl)
 try simp only [Act.put, pa, pb, pc]
 refine r1 26 none rfl (fun K hK => ?_)
 obtain ⟨kr0, kr1, kr2, kr3⟩ := HM.out.c4 0 rfl
 obtain ⟨fr0, fr1, fr2, fr3⟩ := HM.out.f4 0 rfl
 go_simp
 clear hS kr0 kr1 kr2 kr3 fr0 fr1 fr2 fr3
 replace HM := Lib.hid (HM.out.fr2)
 replace HM := Lib.hid (HM.out.fr2)
 replace HM := Lib.hid (HM.out.fr2)
 have hm := HM.out.set (j := 3) (.slice (some ⟨gl, 0, none⟩) qs.length qs.length)
 simp only [pa, pb, pc] at hm
 replace HM := Lib.hid hm
 clear hm
 obtain ⟨W8, hW, hm⟩ := HM.out.name
 rw [← hW]
 replace HM := Lib.hid hm
 clear hm hW
 refine hK.out _ _ (HM.out.pick (ks := [2]) (by decide) rfl) (fun hS => ?_)
 clear hK K
 try simp only [Act.put]
 refine wpAnyH_done (by kernel_rfl) ?_ _
 clear hS
 go_wp2
 refine leaves_cons (f := 51) (args := #[.pointer (some ⟨g, 0, none⟩)]) (by simp) (by simp [go_sem]) ?_
 obtain ⟨kb0, -, -, -, -⟩ := HM.out.bq (i := 2) rfl H18.out
 refine (unlock_deferred muLib ⟨g, 0, none⟩ .returning _ kb0 (HM.out.bf (i := 2) rfl 0)).mono ?_
 rintro e' u' w'' ⟨rfl, rfl, rfl⟩
 replace HM := Lib.hid (HM.out.fr1)
 replace HM := Lib.hid (HM.out.fr1)
 replace HM := Lib.hid (HM.out.fr2)
 replace HM := Lib.hid (HM.out.b0 0)
 obtain ⟨kr0, kr1, kr2, kr3⟩ := HM.out.c4 1 rfl
 replace HM := Lib.hid (HM.out.fr2)
 replace HM := Lib.hid (HM.out.fr2)
 exact ⟨_, (show (results Tryz.f34 _).run Tryz.prog _ = .ok (.agg #[.int .i64 rm, .int .i64 nx, .bool out, .slice (some ⟨gl, 0, none⟩) qs.length qs.length]) _ by simp [results, Tryz.results34, go_sem, kr0, kr1, kr2, kr3]), ens qs, _, _, rfl, rfl, HM.out.bl, HM.out.tail.pkRi2⟩
end Go.Proofs.YtglklgnggkenhaaGreat.low
namespace Go.Proofs.YtglklgnggkenhaaGreat.low
open Go.RowKit
set_option linter.unusedVariables false
theorem Ms.qpush {w0 W : World} {x : It} {q : QE} {qs : List QE} {Z : List It} (h : Ms w0 (q.it :: x :: (qs.map QE.it ++ Z)) W) : Ms w0 (x :: ((qs ++ [q]).map QE.it ++ Z)) W := by
 refine h.fr1.perm (.cons _ ?_)
 rw [List.map_append, List.append_assoc]
 exact List.perm_middle.symm
def zsv : List Value := [.int .i64 0, .int .i64 0, .slice none 0 0, .int .i64 0, .int .i64 0, .slice none 0 0, .int .i64 0, .int .i64 0, .slice none 0 0, .int .i64 0, .int .i64 0, .slice none 0 0, .int .i64 0, .int .i64 0, .slice none 0 0, .int .i64 0, .int .i64 0, .slice none 0 0]
theorem bufferOf_any (v : Value) (x : Ri) (w : World) (h : RdC w w.heap.size (datRi x) v) (hs : SmRi x) (hb : ringB x = true) : Calls Tryz.prog 32 #[v] w fun E w' => ∃ (g : Nat) (sv : List Value) (qs : List QE) (Z : List It) (rm nx : Nat), E = .returned (.pointer (some ⟨g, 0, none⟩)) ∧ x.cap = (rm : Int) ∧ x.next = (nx : Int) ∧ ens qs = x.list ∧ Slots sv rm nx qs ∧ Ms w (.bx g (bufO 0 sv (rm : Int) (nx : Int) ((nx : Int) + (qs.length : Int)) false) :: (qs.map QE.it ++ Z)) w' := by
 have HR := Lib.hid h
 obtain ⟨A3, c3, rfl, r3⟩ := aggRi h
 have R3 := Lib.hid r3
 have hl := hs.list.len
 have hx := ringB_of hb
 obtain ⟨rm, hrm⟩ : ∃ rm : Nat, x.cap = (rm : Int) := ⟨x.cap.toNat, by omega⟩
 obtain ⟨nx, hnx⟩ : ∃ nx : Nat, x.next = (nx : Int) := ⟨x.next.toNat, by omega⟩
 have HRM := Lib.hid hrm
 have HNX := Lib.hid hnx
 obtain ⟨hc1, hc2, hn1, hn2, hfit⟩ := And.intro hx.2.1 (And.intro hx.2.2.1 (And.intro hx.2.2.2.1 (And.intro hx.2.2.2.2.1 hx.2.2.2.2.2.1)))
 clear h r3 hb hx hrm hnx
 have HM := Lib.hid (Ms.start w)
 replace HM := Lib.hid (HM.out.new #[.int .i64 x.cap, .int .i64 x.next, .bool x.out, .slice A3 x.list.length c3] 32)
 have hm := HM.out.new (bufC 0 zsv x.cap x.next x.next false) 85
 simp only [World.size_alloc] at hm
 replace HM := Lib.hid (show Ms w (.bx (w.heap.size + 1) (bufO 0 zsv x.cap x.next (x.next + ((0 : Nat) : Int)) false) :: (([] : List QE).map QE.it ++ [.bx w.heap.size (.cells #[.int .i64 x.cap, .int .i64 x.next, .bool x.out, .slice A3 x.list.length c3] 32 (0, 0))])) ((w.alloc (.cells #[.int .i64 x.cap, .int .i64 x.next, .bool x.out, .slice A3 x.list.length c3] 32)).alloc (.cells (bufC 0 zsv x.cap x.next x.next false) 85)) from by rw [show x.next + ((0 : Nat) : Int) = x.next by omega]; exact hm)
 clear hm
 go_enter Tryz.func32, Tryz.ntmps32
 go_wp2
 go_loopw [17] (fun i wr => ∃ (j : Nat) (sv : List Value) (qs : List QE), j ≤ x.list.length ∧ i = .int .i64 (j : Int) ∧ ens qs = x.list.take j ∧ Slots sv rm nx qs ∧ Ms w (.bx (w.heap.size + 1) (bufO 0 sv x.cap x.next (x.next + (j : Int)) false) :: (qs.map QE.it ++ [.bx w.heap.size (.cells #[.int .i64 x.cap, .int .i64 x.next, .bool x.out, .slice A3 x.list.length c3] 32 (0, 0))])) wr) (fun i _ => x.list.length - (intOf i).toNat)
 case atStart => exact ⟨0, zsv, [], Nat.zero_le _, rfl, by simp [ens], Slots.none rfl (by have := HRM.out; omega) (by have := HRM.out; omega), HM.out⟩
 case round =>
  obtain ⟨j, sv, qs, hj, rfl, hen, hsl, hm⟩ := hrel
  clear HM
  have HM := Lib.hid hm
  have HE := Lib.hid hen
  have HSL := Lib.hid hsl
  have HQL := Lib.hid (show qs.length = j by rw [← ens_len qs, hen]; simp; omega)
  clear hm hen hsl
  by_cases hlt : j < x.list.length
  ·obtain ⟨b, off, e, A5, c5, rfl, hbb, hp, y0, y1, y2, q2⟩ := atEns R3.out hlt
   have x0 := (HM.out.bl.cell (p := ⟨b, off + j * 3, none⟩) hbb).trans y0
   have x1 := (HM.out.bl.cell (p := ⟨b, off + j * 3 + 1, none⟩) hbb).trans y1
   have x2 := (HM.out.bl.cell (p := ⟨b, off + j * 3 + 2, none⟩) hbb).trans y2
   clear y0 y1 y2
   have hse := hs.list.at_ (List.mem_of_getElem? hp)
   have HP := Lib.hid hp
   have HQ2 := Lib.hid q2
   clear hp q2
   replace HM := Lib.hid (HM.out.new #[.int .i64 e.client, .int .i64 e.seq, .slice A5 e.o.length c5] 37)
   go_wp2_with fail
   clear x0 x1 x2
   obtain ⟨W1, hW, hm⟩ := HM.out.name
   rw [← hW]
   replace HM := Lib.hid hm
   clear hm hW
   refine (push_room (w.heap.size + 1) _ e sv x.cap x.next (x.next + (j : Int)) false ((nx + j) % rm) j w _ _ HM.out.tail (rdEn e HQ2.out) hse HSL.out.len (by omega) (by omega) (by omega) (by omega) rfl (by omega) (by rw [HNX.out, HRM.out]; rfl) (by have := slot_lt (n := nx + j) HSL.out.r1 HSL.out.r6; omega)).mono ?_
   rintro e' w' ⟨rfl, -, A6, c6, b6, hm⟩
   have HS2 := Lib.hid (HSL.out.push (by have := HQL.out; have := HRM.out; omega) ⟨e, .slice A6 e.o.length c6, b6⟩)
   have hm2 := Ms.qpush (q := ⟨e, .slice A6 e.o.length c6, b6⟩) hm
   rw [show x.next + (j : Int) + 1 = x.next + ((j + 1 : Nat) : Int) by omega] at hm2
   have hs2 := HS2.out
   rw [HQL.out] at hs2
   have HS3 := Lib.hid hs2
   have HM3 := Lib.hid hm2
   have HE3 := Lib.hid (show ens (qs ++ [⟨e, .slice A6 e.o.length c6, b6⟩]) = x.list.take (j + 1) by rw [List.take_add_one, HP.out, ← HE.out]; simp [ens])
   clear hm hm2 hs2 HM HS2
   go_wp2
   go_roundw
   case rel => exact ⟨j + 1, _, _, by omega, by go_num, HE3.out, HS3.out, HM3.out⟩
   case measure => simp [intOf]; omega
  ·obtain rfl : j = x.list.length := by omega
   go_wp2
   go_ret
   have hm := HM.out
   have hen : ens qs = x.list := by rw [HE.out, List.take_length]
   rw [HRM.out, HNX.out, ← HQL.out] at hm
   exact ⟨_, sv, qs, _, rm, nx, rfl, HRM.out, HNX.out, hen, HSL.out, hm⟩
theorem Ms.qin {w0 W : World} {x : It} {q : QE} {qs : List QE} {A Z : List It} (h : Ms w0 (q.it :: x :: (A ++ (qs.map QE.it ++ Z))) W) : Ms w0 (x :: ((qs ++ [q]).map QE.it ++ (A ++ Z))) W := by
 refine h.fr1.perm (.cons _ ?_)
 rw [List.map_append, List.append_assoc]
 exact (List.Perm.cons _ (List.perm_append_comm_assoc _ _ _)).trans List.perm_middle.symm
theorem Ms.both {w0 W W' : World} {L L' : List It} (h : Ms w0 L W) (h' : Ms W L' W') : Ms w0 (L ++ L') W' := (h.join h').perm List.perm_append_comm
theorem implRingPush_d (v v' : Value) (x : Ri) (e : En) (w : World) (h : RdC w w.heap.size (datRi x) v) (h' : RdC w w.heap.size (datEn e) v') (hs : SmRi x) (hs' : SmEn e) : Calls Tryz.prog 10 #[v, v'] w (OwnPost (datRi (ringPushT x e)) w) := by
 have HR := Lib.hid h
 have HE := Lib.hid h'
 obtain ⟨A3, c3, rfl, r3⟩ := aggRi h
 obtain ⟨A2, c2, rfl, r2⟩ := aggEn h'
 have hl := hs.list.len
 clear h h' r3 r2
 have HM := Lib.hid (Ms.start w)
 replace HM := Lib.hid (HM.out.new #[.int .i64 x.cap, .int .i64 x.next, .bool x.out, .slice A3 x.list.length c3] 32)
 have hm := HM.out.new #[.int .i64 e.client, .int .i64 e.seq, .slice A2 e.o.length c2] 37
 simp only [World.size_alloc] at hm
 replace HM := Lib.hid hm
 clear hm
 have hm := HM.out.new #[.int .i64 0, .int .i64 0, .bool false, .slice none 0 0] 32
 simp only [World.size_alloc] at hm
 replace HM := Lib.hid hm
 clear hm
 go_enter Tryz.func10, Tryz.ntmps10
 go_wp2_with fail
 obtain ⟨W1, hW, hm⟩ := HM.out.name
 rw [← hW]
 replace HM := Lib.hid hm
 clear hm hW
 refine (implRingOk_d _ x _ (HM.out.arg HR.out) hs).mono ?_
 rintro e' W2 ⟨rfl, b'⟩
 replace HM := Lib.hid (HM.out.past b')
 clear b'
 cases hb : ringB x
 ·obtain ⟨kx0, kx1, kx2, kx3⟩ := HM.out.c4 2 rfl
  go_wp2_with fail
  clear kx0 kx1 kx2 kx3
  refine (implCopyRing_d _ x _ (HM.out.arg HR.out) hs).mono ?_
  rintro e' W3 ⟨v', rfl, o', b'⟩
  obtain ⟨Al, cl, rfl, -⟩ := aggRi o'.read
  obtain ⟨bl, hm⟩ := HM.out.got o' b'
  clear o' b'
  replace HM := Lib.hid hm
  clear hm
  obtain ⟨kr0, kr1, kr2, kr3⟩ := HM.out.c4 1 rfl
  obtain ⟨fr0, fr1, fr2, fr3⟩ := HM.out.f4 1 rfl
  go_wp2
  clear kr0 kr1 kr2 kr3 fr0 fr1 fr2 fr3
  have hm := HM.out.pk [1, 0, 2, 3] (by decide) (by simp)
  simp only [low.pk, low.gz, low.gs] at hm
  replace HM := Lib.hid hm
  clear hm
  have hm := HM.out.putRow (ys := [.int .i64 x.cap, .int .i64 x.next, .bool x.out, .slice Al x.list.length cl]) rfl
  simp only [low.putRow, Nat.zero_add, Nat.reduceAdd] at hm
  replace HM := Lib.hid hm
  clear hm
  obtain ⟨W4, hW, hm⟩ := HM.out.name
  rw [← hW]
  replace HM := Lib.hid hm
  clear hm hW
  obtain ⟨kr0, kr1, kr2, kr3⟩ := HM.out.c4 0 rfl
  have hm := HM.out.pk [1, 0, 2, 3] (by decide) (by simp)
  simp only [low.pk, low.gz, low.gs] at hm
  replace HM := Lib.hid hm
  clear hm
  rw [ringPush_no (.inl hb)]
  exact bodyPost_ret (v := .agg #[.int .i64 x.cap, .int .i64 x.next, .bool x.out, .slice Al x.list.length cl]) (by simp [results, Tryz.results10, go_sem, kr0, kr1, kr2, kr3]) rfl HM.out.post
 obtain ⟨ke0, ke1, ke2⟩ := HM.out.c3 1 rfl
 go_wp2_with fail
 clear ke0 ke1 ke2
 refine (implEntryOk_d _ e _ (HM.out.arg HE.out) hs').mono ?_
 rintro e' W5 ⟨rfl, b'⟩
 replace HM := Lib.hid (HM.out.past b')
 clear b'
 cases he : entryB e
 ·obtain ⟨kx0, kx1, kx2, kx3⟩ := HM.out.c4 2 rfl
  go_wp2_with fail
  clear kx0 kx1 kx2 kx3
  refine (implCopyRing_d _ x _ (HM.out.arg HR.out) hs).mono ?_
  rintro e' W6 ⟨v', rfl, o', b'⟩
  obtain ⟨Al, cl, rfl, -⟩ := aggRi o'.read
  obtain ⟨bl, hm⟩ := HM.out.got o' b'
  clear o' b'
  replace HM := Lib.hid hm
  clear hm
  obtain ⟨kr0, kr1, kr2, kr3⟩ := HM.out.c4 1 rfl
  obtain ⟨fr0, fr1, fr2, fr3⟩ := HM.out.f4 1 rfl
  go_wp2
  clear kr0 kr1 kr2 kr3 fr0 fr1 fr2 fr3
  have hm := HM.out.pk [1, 0, 2, 3] (by decide) (by simp)
  simp only [low.pk, low.gz, low.gs] at hm
  replace HM := Lib.hid hm
  clear hm
  have hm := HM.out.putRow (ys := [.int .i64 x.cap, .int .i64 x.next, .bool x.out, .slice Al x.list.length cl]) rfl
  simp only [low.putRow, Nat.zero_add, Nat.reduceAdd] at hm
  replace HM := Lib.hid hm
  clear hm
  obtain ⟨W7, hW, hm⟩ := HM.out.name
  rw [← hW]
  replace HM := Lib.hid hm
  clear hm hW
  obtain ⟨kr0, kr1, kr2, kr3⟩ := HM.out.c4 0 rfl
  have hm := HM.out.pk [1, 0, 2, 3] (by decide) (by simp)
  simp only [low.pk, low.gz, low.gs] at hm
  replace HM := Lib.hid hm
  clear hm
  rw [ringPush_no (.inr (.inl he))]
  exact bodyPost_ret (v := .agg #[.int .i64 x.cap, .int .i64 x.next, .bool x.out, .slice Al x.list.length cl]) (by simp [results, Tryz.results10, go_sem, kr0, kr1, kr2, kr3]) rfl HM.out.post
 obtain ⟨kx0, kx1, kx2, kx3⟩ := HM.out.c4 2 rfl
 rcases (show x.out = true ∨ x.out = false by cases x.out <;> simp) with hO | hO
 ·rw [hO] at kx2
  have HRo := Lib.hid (show RdC w w.heap.size (datRi x) (.agg #[.int .i64 x.cap, .int .i64 x.next, .bool true, .slice A3 x.list.length c3]) from by have h9 := HR.out; rw [hO] at h9; exact h9)
  replace hO := Lib.hid hO
  go_wp2_with fail
  clear kx0 kx1 kx2 kx3
  refine (implCopyRing_d _ x _ (HM.out.arg HRo.out) hs).mono ?_
  rintro e' W8 ⟨v', rfl, o', b'⟩
  obtain ⟨Al, cl, rfl, -⟩ := aggRi o'.read
  obtain ⟨bl, hm⟩ := HM.out.got o' b'
  clear o' b'
  replace HM := Lib.hid hm
  clear hm
  obtain ⟨kr0, kr1, kr2, kr3⟩ := HM.out.c4 1 rfl
  obtain ⟨fr0, fr1, fr2, fr3⟩ := HM.out.f4 1 rfl
  go_wp2
  clear kr0 kr1 kr2 kr3 fr0 fr1 fr2 fr3
  have hm := HM.out.pk [1, 0, 2, 3] (by decide) (by simp)
  simp only [low.pk, low.gz, low.gs] at hm
  replace HM := Lib.hid hm
  clear hm
  have hm := HM.out.putRow (ys := [.int .i64 x.cap, .int .i64 x.next, .bool x.out, .slice Al x.list.length cl]) rfl
  simp only [low.putRow, Nat.zero_add, Nat.reduceAdd] at hm
  replace HM := Lib.hid hm
  clear hm
  obtain ⟨W9, hW, hm⟩ := HM.out.name
  rw [← hW]
  replace HM := Lib.hid hm
  clear hm hW
  obtain ⟨kr0, kr1, kr2, kr3⟩ := HM.out.c4 0 rfl
  have hm := HM.out.pk [1, 0, 2, 3] (by decide) (by simp)
  simp only [low.pk, low.gz, low.gs] at hm
  replace HM := Lib.hid hm
  clear hm
  rw [ringPush_no (.inr (.inr hO.out))]
  exact bodyPost_ret (v := .agg #[.int .i64 x.cap, .int .i64 x.next, .bool x.out, .slice Al x.list.length cl]) (by simp [results, Tryz.results10, go_sem, kr0, kr1, kr2, kr3]) rfl HM.out.post
 rw [hO] at kx2
 have HRo := Lib.hid (show RdC w w.heap.size (datRi x) (.agg #[.int .i64 x.cap, .int .i64 x.next, .bool false, .slice A3 x.list.length c3]) from by have h9 := HR.out; rw [hO] at h9; exact h9)
 replace hO := Lib.hid hO
 go_wp2_with fail
 clear kx0 kx1 kx2 kx3
 refine (bufferOf_any _ x _ (HM.out.arg HRo.out) hs hb).mono ?_
 rintro e' W10 ⟨g, sv, qs, Z, rm, nx, rfl, hrm, hnx, hen, hsl, hm⟩
 have hx := ringB_of hb
 have HC := Lib.hid (And.intro hrm (And.intro hnx hen))
 have HSL := Lib.hid hsl
 have hql : qs.length = x.list.length := by rw [← hen, ens_len]
 have HQL := Lib.hid hql
 obtain ⟨hn1, hn2, hc1, hc2, hfit⟩ : (1 : Int) ≤ (nx : Int) ∧ (nx : Int) ≤ 1000000000 ∧ (1 : Int) ≤ (rm : Int) ∧ (rm : Int) ≤ 6 ∧ qs.length ≤ rm := by rw [← hnx, ← hrm]; exact ⟨hx.2.2.2.1, hx.2.2.2.2.1, hx.2.1, hx.2.2.1, hsl.fit⟩
 have hm := (show Ms w (.bx (w.heap.size + 1 + 1) (.cells #[.int .i64 0, .int .i64 0, .bool false, .slice none 0 0] 32 (0, 0)) :: .bx (w.heap.size + 1) (.cells #[.int .i64 e.client, .int .i64 e.seq, .slice A2 e.o.length c2] 37 (0, 0)) :: .bx w.heap.size (.cells #[.int .i64 x.cap, .int .i64 x.next, .bool x.out, .slice A3 x.list.length c3] 32 (0, 0)) :: .bx g (bufO 0 sv (rm : Int) (nx : Int) ((nx : Int) + (qs.length : Int)) false) :: (qs.map QE.it ++ Z)) W10 from HM.out.both hm)
 clear hsl hen hrm hnx hql hx HM
 have HM := Lib.hid hm
 clear hm
 obtain ⟨ke0, ke1, ke2⟩ := HM.out.c3 1 rfl
 go_wp2_with fail
 clear ke0 ke1 ke2
 replace HM := Lib.hid (HM.out.fr2)
 replace HM := Lib.hid (HM.out.fr2)
 replace HM := Lib.hid (HM.out.fr2)
 replace HM := Lib.hid (HM.out.fr3)
 by_cases h4 : (x.list.length : Int) = x.cap
 ·have h4 := Lib.hid h4
  refine (push_full g _ e sv rm nx ((nx : Int) + (qs.length : Int)) false qs.length w _ _ HM.out HE.out hs' HSL.out.len (by omega) (by omega) rfl (by rw [HQL.out, h4.out, HC.out.1]) hc2).mono ?_
  rintro e' W11 ⟨rfl, -, hm⟩
  replace HM := Lib.hid hm
  clear hm
  go_wp2_with fail
  have hm := (show Ms w (.bx g (bufO 0 sv (rm : Int) (nx : Int) (nx : Int) true) :: (([] : List QE).map QE.it ++ (.bx (w.heap.size + 1 + 1) (.cells #[.int .i64 0, .int .i64 0, .bool false, .slice none 0 0] 32 (0, 0)) :: .bx (w.heap.size + 1) (.cells #[.int .i64 e.client, .int .i64 e.seq, .slice A2 e.o.length c2] 37 (0, 0)) :: .bx w.heap.size (.cells #[.int .i64 x.cap, .int .i64 x.next, .bool x.out, .slice A3 x.list.length c3] 32 (0, 0)) :: (qs.map QE.it ++ Z)))) W11 from HM.out)
  refine (ring_any g sv rm nx (nx : Int) true [] w _ _ hm (Slots.none HSL.out.len HSL.out.r1 HSL.out.r6) (by simp) (by omega)).mono ?_
  rintro e' W12 ⟨l, v', bl, rfl, rfl, -, hm9⟩
  obtain ⟨Al, cl, rfl, -⟩ := aggRi (hm9.read (i := 0) rfl)
  clear hm
  replace HM := Lib.hid (show Ms w (.dt (datRi ⟨(rm : Int), (nx : Int), true, ens []⟩) (.agg #[.int .i64 (rm : Int), .int .i64 (nx : Int), .bool true, .slice Al (ens []).length cl]) bl :: .bx g (bufO 0 sv (rm : Int) (nx : Int) (nx : Int) true) :: .bx (w.heap.size + 1 + 1) (.cells #[.int .i64 0, .int .i64 0, .bool false, .slice none 0 0] 32 (0, 0)) :: .bx (w.heap.size + 1) (.cells #[.int .i64 e.client, .int .i64 e.seq, .slice A2 e.o.length c2] 37 (0, 0)) :: .bx w.heap.size (.cells #[.int .i64 x.cap, .int .i64 x.next, .bool x.out, .slice A3 x.list.length c3] 32 (0, 0)) :: (qs.map QE.it ++ Z)) W12 from hm9)
  clear hm9
  obtain ⟨kr0, kr1, kr2, kr3⟩ := HM.out.c4 2 rfl
  obtain ⟨fr0, fr1, fr2, fr3⟩ := HM.out.f4 2 rfl
  go_wp2
  clear kr0 kr1 kr2 kr3 fr0 fr1 fr2 fr3
  replace HM := Lib.hid (HM.out.fr4)
  replace HM := Lib.hid (HM.out.fr4)
  replace HM := Lib.hid (HM.out.fr3)
  replace HM := Lib.hid (HM.out.fr3)
  replace HM := Lib.hid (HM.out.fr4)
  have hm := HM.out.putRow (ys := [.int .i64 (rm : Int), .int .i64 (nx : Int), .bool true, .slice Al (ens []).length cl]) rfl
  simp only [low.putRow, Nat.zero_add, Nat.reduceAdd] at hm
  replace HM := Lib.hid hm
  clear hm
  obtain ⟨W13, hW, hm⟩ := HM.out.name
  rw [← hW]
  replace HM := Lib.hid hm
  clear hm hW
  obtain ⟨kr0, kr1, kr2, kr3⟩ := HM.out.c4 0 rfl
  replace HM := Lib.hid (HM.out.fr4)
  replace HM := Lib.hid (HM.out.fr4)
  replace HM := Lib.hid (HM.out.fr4)
  replace HM := Lib.hid (HM.out.fr3)
  replace HM := Lib.hid (HM.out.fr4)
  rw [show ringPushT x e = ⟨(rm : Int), (nx : Int), true, ens []⟩ by rw [ringPush_full hb he hO.out h4.out, HC.out.1, HC.out.2.1]; rfl]
  exact bodyPost_ret (v := .agg #[.int .i64 (rm : Int), .int .i64 (nx : Int), .bool true, .slice Al (ens []).length cl]) (by simp [results, Tryz.results10, go_sem, kr0, kr1, kr2, kr3]) rfl HM.out.post
 have h4 := Lib.hid h4
 refine (push_room g _ e sv rm nx ((nx : Int) + (qs.length : Int)) false ((nx + qs.length) % rm) qs.length w _ _ HM.out HE.out hs' HSL.out.len hc1 hc2 (by omega) (by omega) rfl (by have h1 := h4.out; rw [← HQL.out, HC.out.1] at h1; omega) rfl (by have := slot_lt (n := nx + qs.length) HSL.out.r1 HSL.out.r6; omega)).mono ?_
 rintro e' W14 ⟨rfl, -, A6, c6, b6, hm⟩
 have hm2 := Ms.qin (q := ⟨e, .slice A6 e.o.length c6, b6⟩) (A := [.bx (w.heap.size + 1 + 1) (.cells #[.int .i64 0, .int .i64 0, .bool false, .slice none 0 0] 32 (0, 0)), .bx (w.heap.size + 1) (.cells #[.int .i64 e.client, .int .i64 e.seq, .slice A2 e.o.length c2] 37 (0, 0)), .bx w.heap.size (.cells #[.int .i64 x.cap, .int .i64 x.next, .bool x.out, .slice A3 x.list.length c3] 32 (0, 0))]) hm
 have HS2 := Lib.hid (HSL.out.push (by have h1 := h4.out; rw [← HQL.out, HC.out.1] at h1; omega) ⟨e, .slice A6 e.o.length c6, b6⟩)
 clear hm
 replace HM := Lib.hid hm2
 clear hm2
 go_wp2_with fail
 have hm := HM.out
 refine (ring_any g (set3 sv ((nx + qs.length) % rm * 3) (.int .i64 e.client) (.int .i64 e.seq) (.slice A6 e.o.length c6)) rm nx ((nx : Int) + (qs.length : Int) + 1) false (qs ++ [⟨e, .slice A6 e.o.length c6, b6⟩]) w _ _ hm HS2.out (by rw [List.length_append, List.length_singleton]; omega) (by omega)).mono ?_
 rintro e' W15 ⟨l, v', bl, rfl, rfl, -, hm9⟩
 obtain ⟨Al, cl, rfl, -⟩ := aggRi (hm9.read (i := 0) rfl)
 clear hm
 replace HM := Lib.hid (show Ms w (.dt (datRi ⟨(rm : Int), (nx : Int), false, ens (qs ++ [⟨e, .slice A6 e.o.length c6, b6⟩])⟩) (.agg #[.int .i64 (rm : Int), .int .i64 (nx : Int), .bool false, .slice Al (ens (qs ++ [⟨e, .slice A6 e.o.length c6, b6⟩])).length cl]) bl :: .bx g (bufO 0 (set3 sv ((nx + qs.length) % rm * 3) (.int .i64 e.client) (.int .i64 e.seq) (.slice A6 e.o.length c6)) (rm : Int) (nx : Int) ((nx : Int) + (qs.length : Int) + 1) false) :: .bx (w.heap.size + 1 + 1) (.cells #[.int .i64 0, .int .i64 0, .bool false, .slice none 0 0] 32 (0, 0)) :: .bx (w.heap.size + 1) (.cells #[.int .i64 e.client, .int .i64 e.seq, .slice A2 e.o.length c2] 37 (0, 0)) :: .bx w.heap.size (.cells #[.int .i64 x.cap, .int .i64 x.next, .bool x.out, .slice A3 x.list.length c3] 32 (0, 0)) :: Z) W15 from hm9)
 clear hm9
 obtain ⟨kr0, kr1, kr2, kr3⟩ := HM.out.c4 2 rfl
 obtain ⟨fr0, fr1, fr2, fr3⟩ := HM.out.f4 2 rfl
 go_wp2
 clear kr0 kr1 kr2 kr3 fr0 fr1 fr2 fr3
 replace HM := Lib.hid (HM.out.fr4)
 replace HM := Lib.hid (HM.out.fr4)
 replace HM := Lib.hid (HM.out.fr3)
 replace HM := Lib.hid (HM.out.fr3)
 replace HM := Lib.hid (HM.out.fr4)
 have hm := HM.out.putRow (ys := [.int .i64 (rm : Int), .int .i64 (nx : Int), .bool false, .slice Al (ens (qs ++ [⟨e, .slice A6 e.o.length c6, b6⟩])).length cl]) rfl
 simp only [low.putRow, Nat.zero_add, Nat.reduceAdd] at hm
 replace HM := Lib.hid hm
 clear hm
 obtain ⟨W16, hW, hm⟩ := HM.out.name
 rw [← hW]
 replace HM := Lib.hid hm
 clear hm hW
 obtain ⟨kr0, kr1, kr2, kr3⟩ := HM.out.c4 0 rfl
 replace HM := Lib.hid (HM.out.fr4)
 replace HM := Lib.hid (HM.out.fr4)
 replace HM := Lib.hid (HM.out.fr4)
 replace HM := Lib.hid (HM.out.fr3)
 replace HM := Lib.hid (HM.out.fr4)
 rw [show ringPushT x e = ⟨(rm : Int), (nx : Int), false, ens (qs ++ [⟨e, .slice A6 e.o.length c6, b6⟩])⟩ by rw [ringPush_room hb he hO.out h4.out, HC.out.1, HC.out.2.1, hO.out, ← HC.out.2.2]; simp [ens]]
 exact bodyPost_ret (v := .agg #[.int .i64 (rm : Int), .int .i64 (nx : Int), .bool false, .slice Al (ens (qs ++ [⟨e, .slice A6 e.o.length c6, b6⟩])).length cl]) (by simp [results, Tryz.results10, go_sem, kr0, kr1, kr2, kr3]) rfl HM.out.post
end Go.Proofs.YtglklgnggkenhaaGreat.low
