/-
  Texts that the proofs over this seat rest on, one behind the other (3 of 3).
-/
import Derived.Test.YtglklgnggkenhaaMR2
import Derived.Test.YtglklgnggkenhaaProg
import Derived.Conc.MuLib
import Derived.Conc.MuLone
import Derived.KernelRfl
import Derived.OwnWalk
import Derived.Test.YtglklgnggkenhaaMR1
import Derived.Lib.SliceRun
import Derived.Defers
set_option maxHeartbeats 12800000
set_option maxRecDepth 1000000
namespace Go.Proofs.Ytglklgnggkenhaa.low
open Go.RowKit
set_option linter.unusedVariables false
section
variable {w0 W W' : World} {L : List It}
theorem Ms.hasC {g n cap sz : Nat} {e : TypeId} {ds : List (List Dat)} {b : List Nat} (h : Ms w0 (.dt (.rows e sz ds) (.slice (some ⟨g, 0, none⟩) n cap) b :: L) W) {o : Nat} (ho : o < cap * sz) : (∃ u, W.cell? ⟨g, o, none⟩ = some u) ∧ W.frozen? ⟨g, o, none⟩ = false := by
 obtain ⟨xs, cs, hown, _, _⟩ : OwC W (.rows e sz ds) (.slice (some ⟨g, 0, none⟩) n cap) b := h.at_ (i := 0) rfl
 obtain ⟨hxs, hcase⟩ := hown
 rcases hcase with ⟨h0, _⟩ | ⟨g', cap', cur, hv, _, hh, hnc, hcm, hcs, htk⟩
 ·cases h0
 injection hv with hv1 _ hv3
 injection hv1 with hv1
 injection hv1 with hv1 _ _
 subst hv1 hv3
 have ho2 : o < cur.size := by rw [hcs]; exact ho
 exact ⟨⟨cur[o], bxcell hh (Array.getElem?_eq_getElem ho2)⟩, bxfree hh⟩
theorem Ms.fillA {g n cap : Nat} {e : TypeId} {ds : List (List Dat)} {d : Dat} {v : Value} {b c : List Nat} (x y : Int) (h : Ms w0 (.dt (.rows e 3 ds) (.slice (some ⟨g, 0, none⟩) n cap) b :: .dt d v c :: L) W) (hn : n = ds.length) (hcap : n < cap) :
  ∃ b', Ms w0 (.dt (.rows e 3 (ds ++ [[.int x, .int y, d]])) (.slice (some ⟨g, 0, none⟩) (n + 1) cap) b' :: L) (((W.setCell ⟨g, n * 3, none⟩ (.int .i64 x)).setCell ⟨g, n * 3 + 1, none⟩ (.int .i64 y)).setCell ⟨g, n * 3 + 2, none⟩ v) := by
 subst hn
 have hd : OwC W d v c := h.at_ (i := 1) rfl
 have hrow : OwR W 3 [[.int x, .int y, d]] [.int .i64 x, .int .i64 y, v] c := OwR.one ⟨_, _, [], c, rfl, rfl, ⟨rfl, rfl⟩, _, _, [], c, rfl, rfl, ⟨rfl, rfl⟩, v, [], c, [], rfl, by simp, hd, rfl, rfl⟩ rfl
 obtain ⟨xs, hown, grow⟩ := Ms.grow (Y := [.dt d v c]) h hrow (h.ndAt (i := 1) (x := .dt d v c) rfl) (fun q hq => by simpa [It.bs] using hq)
 obtain ⟨hxs, hcase⟩ := hown
 rcases hcase with ⟨h0, _⟩ | ⟨g', cap', cur, hv, _, hh, hnc, hcm, hcs, htk⟩
 ·cases h0
 injection hv with hv1 _ hv3
 injection hv1 with hv1
 injection hv1 with hv1 _ _
 subst hv1 hv3
 refine grow g (ds.length + 1) cap _ ?_ ⟨rfl, rfl, rfl, by simp [World.setCell], fun k hk hne => ?_⟩ (.inl rfl) (by simp only [World.setCell, Array.size_modify]; exact lt_of_some hh)
 rotate_left
 ·have hne' : k ≠ g := fun e => hne (by rw [e]; rfl)
  exact ((Below.heap_setCell _ _ _ _ hne').trans (Below.heap_setCell _ _ _ _ hne')).trans (Below.heap_setCell _ _ _ _ hne')
 refine ⟨by simp [hxs]; omega, .inr ⟨g, cap, ((cur.setIfInBounds (ds.length * 3) (.int .i64 x)).setIfInBounds (ds.length * 3 + 1) (.int .i64 y)).setIfInBounds (ds.length * 3 + 2) v, by simp, Nat.zero_le _, bxset (bxset (bxset hh _) _) v, by simp; omega, hcm, by simpa using hcs, ?_⟩⟩
 have hsz : ds.length * 3 + 3 ≤ cur.toList.length := by
  have e : cur.toList.length = cap * 3 := by rw [Array.length_toList]; exact hcs
  rw [e]
  have : (ds.length + 1) * 3 ≤ cap * 3 := Nat.mul_le_mul_right 3 hcap
  omega
 rw [Array.toList_setIfInBounds, Array.toList_setIfInBounds, Array.toList_setIfInBounds, List.length_append, List.length_singleton, Nat.add_mul, Nat.one_mul]
 apply List.ext_getElem?
 intro t
 rw [List.getElem?_take]
 by_cases ht : t < ds.length * 3
 ·rw [if_pos (by omega), List.getElem?_set_ne (by omega), List.getElem?_set_ne (by omega), List.getElem?_set_ne (by omega), List.getElem?_append_left (by rw [hxs]; exact ht), ← htk, List.getElem?_take, if_pos ht]
 ·rw [List.getElem?_append_right (by rw [hxs]; omega), hxs]
  by_cases h3 : t < ds.length * 3 + 3
  ·rw [if_pos h3]
   obtain ⟨k, rfl⟩ : ∃ k, t = ds.length * 3 + k := ⟨t - ds.length * 3, by omega⟩
   rw [Nat.add_sub_cancel_left]
   have hk : k = 0 ∨ k = 1 ∨ k = 2 := by omega
   rcases hk with rfl | rfl | rfl
   ·rw [List.getElem?_set_ne (by omega), List.getElem?_set_ne (by omega), Nat.add_zero, List.getElem?_set_self (by omega)]
    rfl
   ·rw [List.getElem?_set_ne (by omega), List.getElem?_set_self (by simp; omega)]
    rfl
   ·rw [List.getElem?_set_self (by simp; omega)]
    rfl
  ·rw [if_neg h3, List.getElem?_eq_none (by simp; omega)]
theorem Ms.unEn {x : En} {v : Value} {b : List Nat} (h : Ms w0 (.dt (datEn x) (.agg #[.int .i64 x.client, .int .i64 x.seq, v]) b :: L) W) : ∃ c, Ms w0 (.dt (encPs x.o) v c :: L) W := by
 obtain ⟨d1, d2, h1⟩ := (show Ms w0 (.dt (.agg (encEn x)) (.agg ([.int .i64 x.client, .int .i64 x.seq, v] : List Value).toArray) b :: L) W from h).un
 obtain ⟨d3, d4, h2⟩ := h1.tail.un
 obtain ⟨d5, d6, h3⟩ := h2.tail.un
 exact ⟨d5, (h3.perm (.swap _ _ _)).tail⟩
theorem Ms.made {n sz : Nat} {e : TypeId} {xs : List Value} (h : Ms w0 L W) (ho : W'.ownsRow W.heap.size e sz (.slice (some ⟨W.heap.size, 0, none⟩) n n) n xs) (hg : Below W.heap.size W W') : Ms w0 (.dt (.rows e sz []) (.slice (some ⟨W.heap.size, 0, none⟩) 0 n) [W.heap.size] :: L) W' := by
 obtain ⟨hxs, hcase⟩ := ho
 rcases hcase with ⟨h0, _⟩ | ⟨g', cap', cur, hv, _, hh, hnc, hcm, hcs, htk⟩
 ·cases h0
 injection hv with hv1 _ hv3
 injection hv1 with hv1
 injection hv1 with hv1 _ _
 subst hv1 hv3
 refine h.cons hg ⟨[], [], ⟨by simp, .inr ⟨_, n, cur, rfl, Nat.zero_le _, hh, Nat.zero_le _, hcm, hcs, by simp⟩⟩, ⟨rfl, rfl⟩, rfl⟩ (by simp [It.bs]) (fun q hq => by simp [It.bs] at hq; omega)
end
structure RS (l : List En) (room : Int) (j : Nat) (R : Ri) (G : List En) : Prop where
 ok : ringB R = true
 cap : R.cap = room
 pre : G = l.take G.length
 le : G.length ≤ j
 nx : R.next ≤ 11 + (j : Int)
 all : R.out = false → G ++ R.list = l.take j ∧ R.next = 11 + (G.length : Int)
theorem RS.small {l : List En} {room : Int} {j : Nat} {R : Ri} {G : List En} (h : RS l room j R G) : SmRi R := by
 have hr := ringB_of h.ok
 have h8 := all_800 hr.1
 show totEns R.list ≤ 1048576
 unfold totEns
 omega
theorem ringB_mk {x : Ri} (h1 : x.list.all entryB = true) (h2 : 1 ≤ x.cap) (h3 : x.cap ≤ 6) (h4 : 1 ≤ x.next) (h5 : x.next ≤ 1000000000) (h6 : (x.list.length : Int) ≤ x.cap) (h7 : x.out = true → x.list = []) : ringB x = true := by
 unfold ringB
 rw [h1, inB_t ⟨h2, h3⟩, inB_t ⟨h4, h5⟩, decide_eq_true h6]
 cases ho : x.out
 ·rfl
 ·rw [h7 ho]; rfl
theorem RS.start (l : List En) {room : Int} (h1 : 1 ≤ room) (h2 : room ≤ 6) : ringNewB room 10 = true ∧ RS l room 0 (ringNewT room 10) [] := by
 have hb : ringNewB room 10 = true := by unfold ringNewB; rw [inB_t ⟨h1, h2⟩]; rfl
 refine ⟨hb, ?_⟩
 have e : ringNewT room 10 = ⟨room, 11, false, []⟩ := by unfold ringNewT; rw [if_pos hb]; rfl
 rw [e]
 exact ⟨ringB_mk rfl h1 h2 (by show (1 : Int) ≤ 11; omega) (by show (11 : Int) ≤ _; omega) (by show (0 : Int) ≤ room; omega) (fun _ => rfl), rfl, rfl, Nat.le_refl _, by show (11 : Int) ≤ _; omega, fun _ => ⟨rfl, rfl⟩⟩
theorem RS.push {l : List En} {room : Int} {j : Nat} {R : Ri} {G : List En} {e : En} (h : RS l room j R G) (hj : l[j]? = some e) (he : entryB e = true) (hl : l.length ≤ 11) :
  RS l room (j + 1) (ringPushT R e) G ∧ ((R.out = true ∧ (ringPushT R e).out = true) ∨ (R.out = false ∧ ringLagT R = room ∧ (ringPushT R e).out = true) ∨ (R.out = false ∧ ¬ ringLagT R = room ∧ (ringPushT R e).out = false)) := by
 have hr := ringB_of h.ok
 have hjl := (List.getElem?_eq_some_iff.1 hj).1
 have hcap := h.cap
 have hle := h.le
 have hnx := h.nx
 cases ho : R.out
 ·have hlag : ringLagT R = (R.list.length : Int) := by unfold ringLagT; rw [ho]; rfl
  obtain ⟨ha, hn⟩ := h.all ho
  by_cases hf : (R.list.length : Int) = R.cap
  ·have ex : ringPushT R e = ⟨R.cap, R.next, true, []⟩ := by unfold ringPushT; rw [if_pos ⟨h.ok, he, ho⟩, if_pos hf]
   rw [ex]
   refine ⟨⟨ringB_mk rfl hr.2.1 hr.2.2.1 hr.2.2.2.1 hr.2.2.2.2.1 (by show (0 : Int) ≤ R.cap; omega) (fun _ => rfl), hcap, h.pre, by omega, by show R.next ≤ _; omega, fun q => by cases q⟩, .inr (.inl ⟨rfl, by rw [hlag, hf, hcap], rfl⟩)⟩
  ·have ex : ringPushT R e = ⟨R.cap, R.next, R.out, R.list ++ [e]⟩ := by unfold ringPushT; rw [if_pos ⟨h.ok, he, ho⟩, if_neg hf]
   rw [ex]
   refine ⟨⟨ringB_mk (by show (R.list ++ [e]).all entryB = true; rw [List.all_append, hr.1]; simp [he]) hr.2.1 hr.2.2.1 hr.2.2.2.1 hr.2.2.2.2.1 (by show ((R.list ++ [e]).length : Int) ≤ R.cap; rw [List.length_append, List.length_singleton]; have := hr.2.2.2.2.2.1; omega) (fun q => by rw [show R.out = true from q] at ho; cases ho), hcap, h.pre, by omega, by show R.next ≤ _; omega, fun _ => ⟨by show G ++ (R.list ++ [e]) = _; rw [← List.append_assoc, ha, List.take_add_one, hj]; rfl, hn⟩⟩, .inr (.inr ⟨rfl, by rw [hlag, ← hcap]; exact hf, ho⟩)⟩
 ·have ex : ringPushT R e = R := by unfold ringPushT; rw [if_neg (by rintro ⟨_, _, q⟩; rw [ho] at q; cases q)]
  rw [ex]
  exact ⟨⟨h.ok, hcap, h.pre, by omega, by omega, fun q => by rw [ho] at q; cases q⟩, .inl ⟨rfl, ho⟩⟩
theorem RS.poll {l : List En} {room : Int} {j : Nat} {R : Ri} {G : List En} {n : Int} (h : RS l room j R G) (hn : 1 ≤ n) (hl : l.length ≤ 11) (hj : j ≤ l.length) :
  RS l room j (ringPollT R n) (G ++ ringPollL R n) ∧ (ringPollT R n).out = R.out ∧ (R.out = true → ringPollC R n = 9) ∧ (R.out = false → ringPollC R n = 0) ∧ (ringPollL R n).length ≤ 6 := by
 have hr := ringB_of h.ok
 have hle := h.le
 cases ho : R.out
 ·have hc : ringPollC R n = 0 := by unfold ringPollC; rw [if_neg (by rw [h.ok]; simp; omega), if_neg (by rw [ho]; simp)]
  obtain ⟨ha, hx⟩ := h.all ho
  have hm : takeN R n ≤ R.list.length := by unfold takeN; omega
  obtain ⟨m, hm0⟩ : ∃ m, takeN R n = m := ⟨_, rfl⟩
  have e1 : ringPollT R n = ⟨R.cap, R.next + (m : Int), R.out, R.list.drop m⟩ := by unfold ringPollT; rw [if_pos hc, hm0]
  have e2 : ringPollL R n = R.list.take m := by unfold ringPollL; rw [if_pos hc, hm0]
  rw [hm0] at hm
  have hlen := congrArg List.length ha
  rw [List.length_append, List.length_take] at hlen
  have hcat : (G ++ R.list.take m) ++ R.list.drop m = l.take j := by rw [List.append_assoc, List.take_append_drop, ha]
  have htl : (R.list.take m).length = m := by rw [List.length_take]; omega
  have hgl : (G ++ R.list.take m).length = G.length + m := by rw [List.length_append, htl]
  rw [e1, e2]
  refine ⟨⟨ringB_mk (List.all_eq_true.2 fun q hq => List.all_eq_true.1 hr.1 q (List.mem_of_mem_drop hq)) hr.2.1 hr.2.2.1 (by show 1 ≤ R.next + (m : Int); omega) (by show R.next + (m : Int) ≤ _; omega) (by show ((R.list.drop m).length : Int) ≤ R.cap; rw [List.length_drop]; have := hr.2.2.2.2.2.1; omega) (fun q => by rw [show R.out = true from q] at ho; cases ho), h.cap, ?_, by omega, by show R.next + (m : Int) ≤ _; omega, fun _ => ⟨hcat, by show R.next + (m : Int) = _; rw [hgl]; omega⟩⟩, ho, fun q => (by cases q), fun _ => hc, by omega⟩
  have h2 : (l.take j).take (G ++ R.list.take m).length = G ++ R.list.take m := by rw [← hcat, List.take_left]
  rw [List.take_take, Nat.min_eq_left (by rw [hgl]; omega)] at h2
  exact h2.symm
 ·have hc : ringPollC R n = 9 := by unfold ringPollC; rw [if_neg (by rw [h.ok]; simp; omega), if_pos ho]
  have e1 : ringPollT R n = R := by unfold ringPollT; rw [if_neg (by rw [hc]; decide)]
  have e2 : ringPollL R n = [] := by unfold ringPollL; rw [if_neg (by rw [hc]; decide)]
  rw [e1, e2, List.append_nil]
  exact ⟨h, ho, fun _ => hc, fun q => (by cases q), by simp⟩
theorem RS.same {l : List En} {room : Int} {j : Nat} {R : Ri} {G : List En} (h : RS l room j R G) (hl : l.all entryB = true) {i : Nat} {e : En} (hi : G[i]? = some e) : i < l.length ∧ l[i]? = some e := by
 have h1 := h.pre
 rw [h1, List.getElem?_take] at hi
 split at hi
 ·exact ⟨(List.getElem?_eq_some_iff.1 hi).1, hi⟩
 ·cases hi
theorem entrySame_self (e : En) : entrySameB e e = true := by
 unfold entrySameB
 rw [samePs_self]
 simp
theorem entriesB_self : ∀ l : List En, entriesB l l = true
 | [] => rfl
 | e :: l => by rw [entriesB, entrySame_self, entriesB_self l]; rfl
theorem ringSame_self (x : Ri) : ringSameB x x = true := by
 unfold ringSameB
 rw [entriesB_self]
 simp
theorem RS.again {l : List En} {room : Int} {j : Nat} {R : Ri} {G : List En} (h : RS l room j R G) : ringResyncB R 33 = true ∧ ringResyncT R 33 = ⟨R.cap, 34, false, []⟩ ∧ ringB ⟨R.cap, 34, false, []⟩ = true ∧ ringPollC ⟨R.cap, 34, false, []⟩ 5 = 0 ∧ ringPollL ⟨R.cap, 34, false, []⟩ 5 = [] := by
 have hr := ringB_of h.ok
 have h1 : ringResyncB R 33 = true := by unfold ringResyncB ringNewB; rw [h.ok, inB_t ⟨hr.2.1, hr.2.2.1⟩]; rfl
 have h2 : ringB ⟨R.cap, 34, false, []⟩ = true := ringB_mk rfl hr.2.1 hr.2.2.1 (by show (1 : Int) ≤ 34; omega) (by show (34 : Int) ≤ _; omega) (by show (0 : Int) ≤ R.cap; have := hr.2.1; omega) (fun _ => rfl)
 have h3 : ringPollC ⟨R.cap, 34, false, []⟩ 5 = 0 := by unfold ringPollC; rw [if_neg (by rw [h2]; simp)]; rfl
 exact ⟨h1, by unfold ringResyncT; rw [if_pos h1]; rfl, h2, h3, by unfold ringPollL; rw [if_pos h3]; simp⟩
theorem wpList_msOwn {w0 W : World} {L : List It} {ops : Array Oper} {rest : List Oper} {o : Oper} {a : Act} {Q : Exit → Act → World → Prop} (hgd : o.guard = none) (s x : Operand) (t : TypeId)
  (ho : o.op = .call { callee := .builtin .append, args := #[s, x], argTypes := #[t, t] }) {e : TypeId} {z : Value} {sz bytes : Nat} (he : Elt t e z sz bytes) {ds rs : List (List Dat)} {v : Value} {b c : List Nat} (A : Option Addr) (m c0 : Nat)
  (h : Ms w0 (.dt (.rows e sz ds) v b :: .dt (.rows e sz rs) (.slice A m c0) c :: L) W) (hs : a.eval s = v) (hx : a.eval x = .slice A m c0) (hone : ∀ r ∈ rs, r.length = sz ∧ ∀ d ∈ r, d.one = true) (hlen : ds.length + rs.length ≤ 2000000)
  (K : ∀ A' c' W' b', Ms w0 (.dt (.rows e sz (ds ++ rs)) (.slice A' (ds.length + m) c') b' :: L) W' → wpList Try.prog ops Q rest (a.put o.dst (.slice A' (ds.length + m) c')) W') : wpList Try.prog ops Q (o :: rest) a W := by
 obtain ⟨i, ht, hi, hz, hsize, hby, hzs, hsz, hbm⟩ := he
 have hrd := h.read (i := 1) rfl
 obtain ⟨A', c', hv, hc, hrd⟩ := hrd
 injection hv with e1 e2 e3
 subst e1 e2 e3
 obtain ⟨xs2, cs2, hown2, hor2, hb2⟩ : OwC W (.rows e sz rs) (.slice A rs.length c0) c := h.at_ (i := 1) rfl
 have hcn : c.Nodup := h.ndAt (i := 1) (x := .dt (.rows e sz rs) (.slice A rs.length c0) c) rfl
 by_cases h0 : 0 < rs.length
 ·obtain ⟨ad, rfl, hbk, hsp, hrr⟩ := hrd h0
  obtain ⟨ys, k1, _, k3, k4⟩ := RdR.ones hone hrr
  obtain ⟨g', rfl⟩ : ∃ g', ad = ⟨g', 0, none⟩ := by
   rcases hown2.2 with ⟨q, _⟩ | ⟨g', cap', cur, hv, _⟩
   ·cases q
   ·injection hv with hv1 _ _
    injection hv1 with hv1
    exact ⟨g', hv1⟩
  have hsub : ∀ q ∈ cs2, q ∈ c := fun q hq => by rw [hb2]; exact List.mem_append_right _ hq
  have hcn2 : cs2.Nodup := by rw [hb2] at hcn; exact (List.nodup_append.1 hcn).2.1
  have hxl : xs2.length = rs.length * sz := hown2.1
  have hcell : ∀ (j : Nat) (u : Value), xs2[j]? = some u → W.cell? ((⟨g', 0, none⟩ : Addr).add j) = some u := fun j u hu => by
   have hj : j < rs.length * sz := by have := (List.getElem?_eq_some_iff.1 hu).1; omega
   rw [add_at, Nat.zero_add, hown2.cellAt j hj]
   exact hu
  have h1c : ∀ u ∈ xs2, u.oneCell' = true := fun u hu => by
   obtain ⟨j, hj⟩ := List.mem_iff_getElem?.1 hu
   have hjl := (List.getElem?_eq_some_iff.1 hj).1
   obtain ⟨u2, hy⟩ : ∃ u2, ys[j]? = some u2 := ⟨_, List.getElem?_eq_getElem (by omega)⟩
   have c2 := k4 j u2 hy
   have e0 : (0 : Nat) + j = j := Nat.zero_add j
   rw [e0] at c2
   have c3 : u = u2 := Option.some.inj ((hcell j u hj).symm.trans c2)
   rw [c3]
   exact k3 _ (List.mem_iff_getElem?.2 ⟨j, hy⟩)
  obtain ⟨xs, hown, grow⟩ := Ms.grow (Y := [.dt (.rows e sz rs) (.slice (some ⟨g', 0, none⟩) rs.length c0) c]) h hor2 hcn2 (fun q hq => by simpa [It.bs] using hsub q hq)
  refine wpList_append_lies _ hgd s x t ho 0 e i z sz bytes ht hi hz hsize hby hzs hsz v ds.length xs hs hown ⟨g', 0, none⟩ rs.length c0 xs2 hx hxl hcell h1c h0 (by unfold maxLen; omega) ?_ (Nat.zero_le _) _ rfl ?_
  ·exact bytes_fit (by omega) hbm
  ·intro g cap W' hown' hg hat hlt
   obtain ⟨b', hm⟩ := grow g (ds.length + rs.length) cap W' (by rw [List.length_append]; exact hown') hg hat hlt
   exact K _ cap W' b' hm
 ·obtain rfl : rs = [] := List.eq_nil_of_length_eq_zero (by omega)
  obtain ⟨xs, cs, hown, _⟩ : OwC W (.rows e sz ds) v b := h.at_ (i := 0) rfl
  refine wpList_append_zero hgd s x t ho 0 e i sz ht hi v ds.length xs hs hown A c0 hx ?_
  obtain ⟨Av, cv, rfl⟩ := own_form hown
  exact K Av cv W b (by simpa using (h.perm (.swap _ _ _)).tail)
theorem Ms.got2 {w0 W W' : World} {L : List It} {d d' : Dat} {v v' : Value} {b b' : List Nat} (h : Ms w0 L W) (o1 : OwB W.heap.size W'.heap.size W' d v b) (o2 : OwB W.heap.size W'.heap.size W' d' v' b') (dis : ∀ x ∈ b, x ∉ b') (hb : Below W.heap.size W W') : Ms w0 (.dt d v b :: .dt d' v' b' :: L) W' := by
 have hlt := h.blt
 have h2 := h.past hb
 refine ⟨fun x hx => ?_, ?_, fun q hq => ?_, h2.bl⟩
 ·rcases List.mem_cons.1 hx with rfl | hx
  ·exact o1.ow
  ·rcases List.mem_cons.1 hx with rfl | hx
   ·exact o2.ow
   ·exact h2.ok x hx
 ·rw [List.flatMap_cons, List.flatMap_cons, List.nodup_append, List.nodup_append]
  refine ⟨o1.nd, ⟨o2.nd, h.nd, fun a ha c hc e => ?_⟩, fun a ha c hc e => ?_⟩
  ·subst e
   have h3 := (o2.rng a ha).1
   have := hlt a hc
   omega
  ·subst e
   rcases List.mem_append.1 hc with hc | hc
   ·exact dis a ha hc
   ·have h3 := (o1.rng a ha).1
    have := hlt a hc
    omega
 ·rw [List.flatMap_cons, List.flatMap_cons] at hq
  rcases List.mem_append.1 hq with hq | hq
  ·exact Nat.le_trans h.size (o1.rng q hq).1
  ·rcases List.mem_append.1 hq with hq | hq
   ·exact Nat.le_trans h.size (o2.rng q hq).1
   ·exact h2.rg q hq
theorem one_en (l : List En) : ∀ r ∈ l.map encEn, r.length = 3 ∧ ∀ d ∈ r, d.one = true := fun r hr => by
 obtain ⟨q, _, rfl⟩ := List.mem_map.1 hr
 refine ⟨rfl, fun d hd => ?_⟩
 simp only [encEn, List.mem_cons, List.not_mem_nil, or_false] at hd
 rcases hd with rfl | rfl | rfl <;> rfl
theorem RS.lag {l : List En} {room : Int} {j : Nat} {R : Ri} {G : List En} (h : RS l room j R G) (ho : R.out = false) (hj : j ≤ l.length) : R.next = 11 + (G.length : Int) ∧ ringLagT R + (G.length : Int) = (j : Int) := by
 obtain ⟨ha, hn⟩ := h.all ho
 have hlen := congrArg List.length ha
 rw [List.length_append, List.length_take] at hlen
 refine ⟨hn, ?_⟩
 unfold ringLagT
 rw [if_neg (by rw [ho]; simp)]
 omega
structure QE where
 e : En
 v : Value
 b : List Nat
def QE.it (q : QE) : It := .dt (encPs q.e.o) q.v q.b
def QE.row (q : QE) : List Value := [.int .i64 q.e.client, .int .i64 q.e.seq, q.v]
def bufC (lk : Int) (sv : List Value) (room next after : Int) (out : Bool) : Array Value := (Value.int .i32 lk :: Value.int .u32 0 :: (sv ++ [.int .i64 room, .int .i64 next, .int .i64 after, .bool out])).toArray
section
variable {lk : Int} {sv : List Value} {room next after : Int} {out : Bool}
theorem bufC_0 : (bufC lk sv room next after out)[0]? = some (.int .i32 lk) := rfl
theorem bufC_sv {j : Nat} {u : Value} (h : sv[j]? = some u) : (bufC lk sv room next after out)[2 + j]? = some u := by
 have hl := (List.getElem?_eq_some_iff.1 h).1
 rw [show 2 + j = j + 1 + 1 by omega]
 simp only [bufC, List.getElem?_toArray, List.getElem?_cons_succ]
 rw [List.getElem?_append_left hl]
 exact h
theorem bufC_tail (hl : sv.length = 18) (k : Nat) : (bufC lk sv room next after out)[20 + k]? = ([.int .i64 room, .int .i64 next, .int .i64 after, .bool out] : List Value)[k]? := by
 rw [show 20 + k = 18 + k + 1 + 1 by omega]
 simp only [bufC, List.getElem?_toArray, List.getElem?_cons_succ]
 rw [List.getElem?_append_right (by omega), hl, Nat.add_sub_cancel_left]
theorem bufC_20 (hl : sv.length = 18) : (bufC lk sv room next after out)[20]? = some (.int .i64 room) := bufC_tail hl 0
theorem bufC_21 (hl : sv.length = 18) : (bufC lk sv room next after out)[21]? = some (.int .i64 next) := bufC_tail hl 1
theorem bufC_22 (hl : sv.length = 18) : (bufC lk sv room next after out)[22]? = some (.int .i64 after) := bufC_tail hl 2
theorem bufC_23 (hl : sv.length = 18) : (bufC lk sv room next after out)[23]? = some (.bool out) := bufC_tail hl 3
theorem bufC_set0 (x : Int) : (bufC lk sv room next after out).setIfInBounds 0 (.int .i32 x) = bufC x sv room next after out := by simp [bufC]
theorem bufC_setS {j : Nat} (hj : j < sv.length) (u : Value) : (bufC lk sv room next after out).setIfInBounds (2 + j) u = bufC lk (sv.set j u) room next after out := by
 rw [show 2 + j = j + 1 + 1 by omega]
 simp only [bufC, List.setIfInBounds_toArray, List.set_cons_succ]
 rw [List.set_append_left _ _ hj]
theorem bufC_setT (hl : sv.length = 18) (k : Nat) (u : Value) : (bufC lk sv room next after out).setIfInBounds (20 + k) u = (Value.int .i32 lk :: Value.int .u32 0 :: (sv ++ ([.int .i64 room, .int .i64 next, .int .i64 after, .bool out] : List Value).set k u)).toArray := by
 rw [show 20 + k = 18 + k + 1 + 1 by omega]
 simp only [bufC, List.setIfInBounds_toArray, List.set_cons_succ]
 rw [List.set_append_right _ _ (by omega), hl, Nat.add_sub_cancel_left]
theorem bufC_set21 (hl : sv.length = 18) (x : Int) : (bufC lk sv room next after out).setIfInBounds 21 (.int .i64 x) = bufC lk sv room x after out := bufC_setT hl 1 _
theorem bufC_set22 (hl : sv.length = 18) (x : Int) : (bufC lk sv room next after out).setIfInBounds 22 (.int .i64 x) = bufC lk sv room next x out := bufC_setT hl 2 _
theorem bufC_set23 (hl : sv.length = 18) (x : Bool) : (bufC lk sv room next after out).setIfInBounds 23 (.bool x) = bufC lk sv room next after x := bufC_setT hl 3 _
end
structure Slots (sv : List Value) (room next : Nat) (qs : List QE) : Prop where
 len : sv.length = 18
 r1 : 1 ≤ room
 r6 : room ≤ 6
 fit : qs.length ≤ room
 at_ : ∀ i q, qs[i]? = some q → ∀ k u, q.row[k]? = some u → sv[((next + i) % room) * 3 + k]? = some u
def set3 (sv : List Value) (s : Nat) (a b c : Value) : List Value := ((sv.set s a).set (s + 1) b).set (s + 2) c
theorem slot_lt {room n : Nat} (h1 : 1 ≤ room) (h6 : room ≤ 6) : n % room * 3 + 3 ≤ 18 := by
 have := Nat.mod_lt n (show 0 < room by omega)
 omega
theorem mod_ne {a b r : Nat} (h1 : a < b) (h2 : b < a + r) : ¬ a % r = b % r := fun e => by
 have h := Nat.sub_mod_eq_zero_of_mod_eq e.symm
 rw [Nat.mod_eq_of_lt (by omega)] at h
 omega
theorem Slots.none {room next : Nat} {sv : List Value} (h18 : sv.length = 18) (h1 : 1 ≤ room) (h6 : room ≤ 6) : Slots sv room next [] := ⟨h18, h1, h6, by simp, fun i q h => by simp at h⟩
theorem Slots.push {sv : List Value} {room next : Nat} {qs : List QE} (h : Slots sv room next qs) (hl : qs.length < room) (q : QE) :
  Slots (set3 sv ((next + qs.length) % room * 3) (.int .i64 q.e.client) (.int .i64 q.e.seq) q.v) room next (qs ++ [q]) := by
 have h3 := slot_lt (n := next + qs.length) h.r1 h.r6
 have hl18 := h.len
 refine ⟨by simp [set3, hl18], h.r1, h.r6, by simp; omega, fun i p hp k u hu => ?_⟩
 have hk : k < 3 := (List.getElem?_eq_some_iff.1 hu).1
 by_cases hi : i < qs.length
 ·rw [List.getElem?_append_left hi] at hp
  have hne := mod_ne (a := next + i) (b := next + qs.length) (r := room) (by omega) (by omega)
  unfold set3
  rw [List.getElem?_set_ne (by omega), List.getElem?_set_ne (by omega), List.getElem?_set_ne (by omega)]
  exact h.at_ i p hp k u hu
 ·have hi2 : i = qs.length := by
   have := (List.getElem?_eq_some_iff.1 hp).1
   rw [List.length_append, List.length_singleton] at this
   omega
  subst hi2
  rw [List.getElem?_append_right (Nat.le_refl _), Nat.sub_self] at hp
  obtain rfl : q = p := by simpa using hp
  have hk3 : k = 0 ∨ k = 1 ∨ k = 2 := by omega
  unfold set3
  rcases hk3 with rfl | rfl | rfl
  ·rw [List.getElem?_set_ne (by omega), List.getElem?_set_ne (by omega), Nat.add_zero, List.getElem?_set_self (by omega)]
   exact hu
  ·rw [List.getElem?_set_ne (by omega), List.getElem?_set_self (by simp; omega)]
   exact hu
  ·rw [List.getElem?_set_self (by simp; omega)]
   exact hu
theorem Slots.drop {sv : List Value} {room next : Nat} {qs : List QE} (h : Slots sv room next qs) (m : Nat) : Slots sv room (next + m) (qs.drop m) := by
 refine ⟨h.len, h.r1, h.r6, by have := h.fit; simp; omega, fun i p hp k u hu => ?_⟩
 rw [List.getElem?_drop] at hp
 rw [Nat.add_assoc]
 exact h.at_ (m + i) p hp k u hu
theorem Slots.cell {sv : List Value} {room next : Nat} {qs : List QE} (h : Slots sv room next qs) (n : Nat) {k : Nat} (hk : k < 3) : ∃ u, sv[n % room * 3 + k]? = some u := by
 have h3 := slot_lt (n := n) h.r1 h.r6
 exact ⟨_, List.getElem?_eq_getElem (by have := h.len; omega)⟩
def ens (qs : List QE) : List En := qs.map QE.e
end Go.Proofs.Ytglklgnggkenhaa.low
namespace Go.Proofs.Ytglklgnggkenhaa.low
abbrev muLink : Go.Conc.Locks.MuLink := { lock := 56, unlock := 57, ilock := 79, iunlock := 80, lockSlow := 103, unlockSlow := 106, disable := 99, enable := 101, acquire := 102, relMerge := 104, cas32 := 100, add32 := 105, tMutex := 85, tIMutex := 83, tPMutex := 110, tPIMutex := 122, tPI32 := 124, tUP := 126, tNoCopy := 80, tU32 := 81 }
theorem muLib : Go.Conc.Locks.MuLib Try.prog muLink :=
 ⟨Try.func56, Try.func57, Try.func79, Try.func80, Try.func99, Try.func101, Try.func102, Try.func104, Try.func100, Try.func105, Try.underlying83, Try.runUnderlying83, Try.sizeOf83, Try.isAgg83, Try.zeroValue83, Try.underlying85, Try.runUnderlying85, Try.sizeOf85, Try.isAgg85, Try.zeroValue85, Try.underlying110, Try.runUnderlying110, Try.sizeOf110, Try.isAgg110, Try.zeroValue110, Try.underlying122, Try.runUnderlying122, Try.sizeOf122, Try.isAgg122, Try.zeroValue122, Try.underlying124, Try.runUnderlying124, Try.sizeOf124, Try.isAgg124, Try.zeroValue124, Try.underlying126, Try.runUnderlying126, Try.sizeOf126, Try.isAgg126, Try.zeroValue126, Try.underlying80, Try.runUnderlying80, Try.sizeOf80, Try.isAgg80, Try.zeroValue80, Try.underlying21, Try.runUnderlying21, Try.sizeOf21, Try.isAgg21, Try.zeroValue21, (by kernel_rfl)⟩
end Go.Proofs.Ytglklgnggkenhaa.low
namespace Go.Proofs.Ytglklgnggkenhaa.low
open Go.RowKit
set_option linter.unusedVariables false
section
variable {w0 W W' : World} {T L L' : List It} {x y z u t : It}
theorem Ms.fr1 (h : Ms w0 (x :: y :: T) W) : Ms w0 (y :: x :: T) W := h.perm (.swap _ _ _)
theorem Ms.fr2 (h : Ms w0 (x :: y :: z :: T) W) : Ms w0 (z :: x :: y :: T) W := (h.perm (.cons _ (.swap _ _ _))).fr1
theorem Ms.fr3 (h : Ms w0 (x :: y :: z :: u :: T) W) : Ms w0 (u :: x :: y :: z :: T) W := (h.perm (.cons _ (.cons _ (.swap _ _ _)))).fr2
theorem Ms.fr4 (h : Ms w0 (x :: y :: z :: u :: t :: T) W) : Ms w0 (t :: x :: y :: z :: u :: T) W := (h.perm (.cons _ (.cons _ (.cons _ (.swap _ _ _))))).fr3
theorem Ms.join (h : Ms w0 L W) (h' : Ms W L' W') : Ms w0 (L' ++ L) W' := by
 refine ⟨fun q hq => ?_, ?_, fun q hq => ?_, h.bl.trans (h'.bl.mono h.size)⟩
 ·rcases List.mem_append.1 hq with hq | hq
  ·exact h'.ok q hq
  ·exact It.keep (h.ok q hq) (fun b hb => h'.bl.block b (h.blt b (List.mem_flatMap.2 ⟨q, hq, hb⟩)))
 ·rw [List.flatMap_append, List.nodup_append]
  refine ⟨h'.nd, h.nd, fun a ha b hb e => ?_⟩
  subst e
  have h1 := h'.rg a ha
  have h2 := h.blt a hb
  omega
 ·rw [List.flatMap_append] at hq
  rcases List.mem_append.1 hq with hq | hq
  ·exact Nat.le_trans h.size (h'.rg q hq)
  ·exact h.rg q hq
end
theorem step_make {w w0 : World} {L : List It} {ops : Array Oper} {o : Oper} {a : Act} {KN : Act → World → Prop} {Q : Exit → Act → World → Prop} {E : Prop} (hgd : o.guard = none) (l c : Operand) (t : TypeId) (ho : o.op = .makeSlice t l c)
  {e : TypeId} {z : Value} {sz bytes : Nat} (he : Elt t e z sz bytes) (h : Ms w0 L w) (n : Nat) (hl : a.eval l = .int .i64 (n : Int)) (hc : a.eval c = .int .i64 (n : Int)) (hn : n ≤ 1048576)
  (K : ∀ w', Ms w0 (.dt (.rows e sz []) (.slice (some ⟨w.heap.size, 0, none⟩) 0 n) [w.heap.size] :: L) w' → KN (a.put o.dst (.slice (some ⟨w.heap.size, 0, none⟩) n n)) w') : if Region.wanted o (yielded ops a.tmps) = true then Oper.wp Try.prog o a w KN Q else E := by
 obtain ⟨i, ht, hi, hz, hsize, hby, hzs, hsz, hbm⟩ := he
 have hw : Region.wanted o (yielded ops a.tmps) = true := by simp [Region.wanted, hgd]
 rw [if_pos hw]
 obtain ⟨w', hrun, r1, r2⟩ := run_make_full (P := Try.prog) w w.heap.size t e i z sz ht hi hz hsize .i64 .i64 n (by rw [hby]; have := Nat.mul_le_mul hbm hn; omega) (by unfold maxLen; omega) (Nat.le_refl _)
 unfold Oper.wp
 simp [execOp, ho, hl, hc, hrun, Result.andThen]
 exact K w' (h.made r1 ((Below.refl _ _).grown r2 (Nat.le_refl _) (fun _ h => by cases h)))
def bufO (lk : Int) (sv : List Value) (room next after : Int) (out : Bool) : Obj := .cells (bufC lk sv room next after out) 88 (0, 0)
section
variable {w0 W : World} {T L : List It} {g : Nat} {lk room next after : Int} {out : Bool} {sv : List Value}
theorem Ms.bq (h : Ms w0 L W) {i : Nat} (hi : L[i]? = some (.bx g (bufO lk sv room next after out))) (hl : sv.length = 18) :
  W.cell? ⟨g, 0, none⟩ = some (.int .i32 lk) ∧ W.cell? ⟨g, 20, none⟩ = some (.int .i64 room) ∧ W.cell? ⟨g, 21, none⟩ = some (.int .i64 next) ∧ W.cell? ⟨g, 22, none⟩ = some (.int .i64 after) ∧ W.cell? ⟨g, 23, none⟩ = some (.bool out) :=
 ⟨h.cell hi bufC_0, h.cell hi (bufC_20 hl), h.cell hi (bufC_21 hl), h.cell hi (bufC_22 hl), h.cell hi (bufC_23 hl)⟩
theorem Ms.bs (h : Ms w0 L W) {i : Nat} (hi : L[i]? = some (.bx g (bufO lk sv room next after out))) {j : Nat} {u : Value} (hu : sv[j]? = some u) : W.cell? ⟨g, 2 + j, none⟩ = some u := h.cell hi (bufC_sv hu)
theorem Ms.bf (h : Ms w0 L W) {i : Nat} (hi : L[i]? = some (.bx g (bufO lk sv room next after out))) (j : Nat) : W.frozen? ⟨g, j, none⟩ = false := h.free hi
theorem Ms.b0 (h : Ms w0 (.bx g (bufO lk sv room next after out) :: T) W) (v : Int) : Ms w0 (.bx g (bufO v sv room next after out) :: T) (W.setCell ⟨g, 0, none⟩ (.int .i32 v)) := by
 have hm := Ms.set (j := 0) (cs := bufC lk sv room next after out) h (.int .i32 v)
 rwa [bufC_set0] at hm
theorem Ms.b21 (h : Ms w0 (.bx g (bufO lk sv room next after out) :: T) W) (hl : sv.length = 18) (v : Int) : Ms w0 (.bx g (bufO lk sv room v after out) :: T) (W.setCell ⟨g, 21, none⟩ (.int .i64 v)) := by
 have hm := Ms.set (j := 21) (cs := bufC lk sv room next after out) h (.int .i64 v)
 rwa [bufC_set21 hl] at hm
theorem Ms.b22 (h : Ms w0 (.bx g (bufO lk sv room next after out) :: T) W) (hl : sv.length = 18) (v : Int) : Ms w0 (.bx g (bufO lk sv room next v out) :: T) (W.setCell ⟨g, 22, none⟩ (.int .i64 v)) := by
 have hm := Ms.set (j := 22) (cs := bufC lk sv room next after out) h (.int .i64 v)
 rwa [bufC_set22 hl] at hm
theorem Ms.b23 (h : Ms w0 (.bx g (bufO lk sv room next after out) :: T) W) (hl : sv.length = 18) (v : Bool) : Ms w0 (.bx g (bufO lk sv room next after v) :: T) (W.setCell ⟨g, 23, none⟩ (.bool v)) := by
 have hm := Ms.set (j := 23) (cs := bufC lk sv room next after out) h (.bool v)
 rwa [bufC_set23 hl] at hm
theorem Ms.bslot (h : Ms w0 (.bx g (bufO lk sv room next after out) :: T) W) {s : Nat} (hs : s + 2 < sv.length) (a b c : Value) : Ms w0 (.bx g (bufO lk (set3 sv s a b c) room next after out) :: T) (((W.setCell ⟨g, 2 + s, none⟩ a).setCell ⟨g, 2 + s + 1, none⟩ b).setCell ⟨g, 2 + s + 2, none⟩ c) := by
 have h1 := Ms.set (j := 2 + s) (cs := bufC lk sv room next after out) h a
 rw [bufC_setS (by omega)] at h1
 have h2 := Ms.set (j := 2 + (s + 1)) h1 b
 rw [bufC_setS (by simp; omega)] at h2
 have h3 := Ms.set (j := 2 + (s + 2)) h2 c
 rw [bufC_setS (by simp; omega)] at h3
 exact h3
end
def putSe : List Se → Se → List Se
 | [], s => [s]
 | t :: l, s => if t.client = s.client then s :: l else t :: putSe l s
def OneSe (l : List Se) : Prop := (l.map (·.client)).Nodup
theorem putSe_clients {s : Se} : ∀ {l : List Se}, (putSe l s).map (·.client) = if s.client ∈ l.map (·.client) then l.map (·.client) else l.map (·.client) ++ [s.client]
 | [] => by simp [putSe]
 | u :: l => by
  unfold putSe
  by_cases e : u.client = s.client
  ·rw [if_pos e]
   simp [e]
  ·rw [if_neg e, List.map_cons, putSe_clients (l := l), List.map_cons]
   have e' : ¬ s.client = u.client := fun h => e h.symm
   by_cases h : s.client ∈ l.map (·.client)
   ·rw [if_pos h, if_pos (List.mem_cons_of_mem _ h)]
   ·rw [if_neg h, if_neg (by simp only [List.mem_cons, not_or]; exact ⟨e', h⟩)]
    rfl
theorem OneSe.put {l : List Se} (h : OneSe l) (s : Se) : OneSe (putSe l s) := by
 unfold OneSe at *
 rw [putSe_clients]
 split
 ·exact h
 ·rename_i hn
  rw [List.nodup_append]
  refine ⟨h, by simp, fun a ha b hb e => ?_⟩
  obtain rfl : b = s.client := by simpa using hb
  exact hn (e ▸ ha)
def firstSe (m : List Se) (s : Se) : List Se := if (seenGo s.client m).isSome then m else putSe m s
theorem OneSe.nil : OneSe [] := by simp [OneSe]
theorem OneSe.first {l : List Se} (h : OneSe l) (s : Se) : OneSe (firstSe l s) := by
 unfold firstSe
 split
 ·exact h
 ·exact h.put s
def AscSe (l : List Se) : Prop := l.Pairwise (fun a b => a.client < b.client)
theorem AscSe.one {l : List Se} (h : AscSe l) : OneSe l := by
 unfold OneSe List.Nodup
 rw [List.pairwise_map]
 exact List.Pairwise.imp (fun h => by omega) h
theorem cloneI_d (v : Value) (zs : List Int) (w : World) (h : RdC w w.heap.size (encInts zs) v) (hs : zs.length ≤ 1048576) : Calls Try.prog 108 #[v] w (OwnPost (encInts zs) w) := by
 obtain ⟨A, c, rfl⟩ := sliceI h
 have hq : ∀ (w : World) (A : Option Addr) (n c n' c' : Nat), (binOp .eql 91 (.slice A n c) (.slice none n' c')).run Try.prog w = .ok (.bool A.isNone) w := fun w A n c n' c' => Lib.run_eql_slice_nil w _ _ A n c n' c' Try.underlying91
 cases A with
 | none =>
  obtain rfl : zs = [] := by
   obtain ⟨A9, c9, hv, _, h9⟩ := h
   injection hv with e1 e2 e3
   by_cases h0 : 0 < zs.length
   ·obtain ⟨ad, e4, _⟩ := h9 (by simpa using h0)
    rw [← e1] at e4
    cases e4
   ·exact List.eq_nil_of_length_eq_zero (by omega)
  clear h
  go_enter Try.func108, Try.ntmps108
  go_wp2
  go_ret
  exact ((Ms.start w).nil 3 1).post
 | some ad =>
  have HR := Lib.hid h
  clear h
  have HM := Lib.hid (Ms.start w)
  replace HM := Lib.hid (HM.out.empty 3 1)
  go_enter Try.func108, Try.ntmps108
  go_wp2_with (at_builtin; refine wpList_msAll rfl (.tmp 5) (.tmp 6) 91 rfl eltInt HM.out rfl (some ad) zs.length c rfl (HM.out.arg HR.out) (flatI _) (by simp; omega) ?_; intro A1 c1 w1 b1 hm)
  simp only [List.nil_append, List.length_nil, Nat.zero_add] at hm ⊢
  have HM1 := Lib.hid hm
  clear hm HM
  go_wp2
  go_ret
  exact (show Ms w (.dt (encInts zs) _ _ :: _) _ from HM1.out).post
theorem eltPt : Elt 30 93 (.agg #[.int .i64 0, .int .i64 0, .slice none 0 0]) 3 40 := elt_of (by kernel_rfl) (by kernel_rfl) rfl (by omega) (by omega)
theorem clonePs_d (v : Value) (ps : List Pt) (w : World) (h : RdC w w.heap.size (encPs ps) v) (hs : ps.length ≤ 1048576) : Calls Try.prog 107 #[v] w (RawPost 93 (ps.map encPt) w) := by
 obtain ⟨A, c, rfl⟩ := sliceP h
 have hq : ∀ (w : World) (A : Option Addr) (n c n' c' : Nat), (binOp .eql 30 (.slice A n c) (.slice none n' c')).run Try.prog w = .ok (.bool A.isNone) w := fun w A n c n' c' => Lib.run_eql_slice_nil w _ _ A n c n' c' Try.underlying30
 cases A with
 | none =>
  obtain rfl : ps = [] := by
   obtain ⟨A9, c9, hv, _, h9⟩ := h
   injection hv with e1 e2 e3
   by_cases h0 : 0 < ps.length
   ·obtain ⟨ad, e4, _⟩ := h9 (by simpa using h0)
    rw [← e1] at e4
    cases e4
   ·exact List.eq_nil_of_length_eq_zero (by omega)
  clear h
  go_enter Try.func107, Try.ntmps107
  go_wp2
  go_ret
  exact .inl ⟨rfl, rfl, rfl⟩
 | some ad =>
  have HR := Lib.hid h
  clear h
  have e0 : (ps.map encPt).length = ps.length := List.length_map _
  have E0 := Lib.hid e0
  clear e0
  have HM := Lib.hid (Ms.start w)
  replace HM := Lib.hid (HM.out.empty 93 3)
  go_enter Try.func107, Try.ntmps107
  go_wp2_with (at_builtin; refine wpList_raw (rs := ps.map encPt) rfl (.tmp 5) (.tmp 6) 30 rfl eltPt HM.out rfl (some ad) ps.length c rfl HR.out (fun r hr => by obtain ⟨q, _, rfl⟩ := List.mem_map.1 hr; exact ⟨rfl, fun d hd => by simp only [encPt, List.mem_cons, List.not_mem_nil, or_false] at hd; rcases hd with rfl | rfl | rfl <;> rfl⟩) (by rw [E0.out]; omega) ?_; intro g cap w1 b1 ys hcap hm hraw hcells)
  have HM1 := Lib.hid hm
  have HX := Lib.hid (And.intro hraw (And.intro hcells hcap))
  clear hm HM hraw hcells hcap
  go_wp2
  go_ret
  exact .inr ⟨g, cap, ys, by rw [E0.out]; rfl, by rw [E0.out]; exact HX.out.2.2, HM1.out.own (i := 0) rfl, HX.out.1, HX.out.2.1, HM1.out.bl⟩
theorem implCopyOp_d (v : Value) (ps : List Pt) (w : World) (h : RdC w w.heap.size (encPs ps) v) (hs : SmP ps) : Calls Try.prog 81 #[v] w (OwnPost (encPs ps) w) := by
 obtain ⟨A, c, rfl⟩ := sliceP h
 have hl : ps.length ≤ 1048576 := by have := hs.1; omega
 have HR := Lib.hid h
 clear h
 have HM := Lib.hid (Ms.start w)
 go_enter Try.func81, Try.ntmps81
 go_wp2_with fail
 refine (clonePs_d _ ps _ HR.out hl).mono ?_
 rintro e' W1 (⟨h0, rfl, rfl⟩ | ⟨g, cap, ys, rfl, hcap, o', hraw, hcells, b'⟩)
 ·obtain rfl : ps = [] := List.map_eq_nil_iff.1 h0
  go_wp2
  refine wp_loop_rounds 1 ?_
  rw [rounds_succ]
  go_wp2
  go_ret
  exact (HM.out.nil 93 3).post
 ·rw [show (ps.map encPt).length = ps.length from List.length_map _] at hcap ⊢
  have HW := Lib.hid hraw
  have HC := Lib.hid hcells
  clear hraw hcells
  obtain ⟨bp, hm⟩ := HM.out.got o' b'
  clear o' b'
  replace HM := Lib.hid hm
  clear hm
  go_wp2
  go_loopw [10] (fun i wr => ∃ (j : Nat) (bs : List Nat), j ≤ ps.length ∧ i = .int .i64 (j : Int) ∧ Ms w [.dt (.rows 93 3 ((ps.take j).map encPt)) (.slice (some ⟨g, 0, none⟩) j cap) bs] wr ∧ Raw wr g (j * 3) ys) (fun i _ => ps.length - (intOf i).toNat)
  case atStart => exact ⟨0, _, Nat.zero_le _, rfl, HM.out, by simpa using HW.out⟩
  case round =>
   obtain ⟨j, bs, hj, rfl, hm, hw⟩ := hrel
   clear HM HW
   have HM := Lib.hid hm
   have HW := Lib.hid hw
   clear hm hw
   by_cases hlt : j < ps.length
   ·obtain ⟨p, hp⟩ : ∃ p, ps[j]? = some p := ⟨_, List.getElem?_eq_getElem hlt⟩
    obtain ⟨y, hy, hyl, hyk⟩ := HC.out j (encPt p) (by rw [List.getElem?_map, hp]; rfl)
    obtain ⟨_, _, rfl, rfl, _, _, rfl, rfl, v2, _, rfl, hr2, rfl⟩ := hy
    obtain ⟨A5, c5, rfl⟩ := sliceI hr2
    have x0 : wr.cell? ⟨g, j * 3, none⟩ = some (.int .i64 p.kind) := HW.out.cell (Nat.le_refl _) (hyk 0 _ rfl)
    have x1 : wr.cell? ⟨g, j * 3 + 1, none⟩ = some (.int .i64 p.n) := HW.out.cell (by omega) (hyk 1 _ rfl)
    have x2 : wr.cell? ⟨g, j * 3 + 2, none⟩ = some (.slice A5 p.signs.length c5) := HW.out.cell (by omega) (hyk 2 _ rfl)
    have HY := Lib.hid (show ys[j * 3]? = some (.int .i64 p.kind) ∧ ys[j * 3 + 1]? = some (.int .i64 p.n) from ⟨hyk 0 _ rfl, hyk 1 _ rfl⟩)
    have x3 : ys[j * 3 + 2]? = some (.slice A5 p.signs.length c5) := hyk 2 _ rfl
    have X3 := Lib.hid x3
    have HR2 := Lib.hid hr2
    have HT := Lib.hid (show (ps.take (j + 1)).map encPt = (ps.take j).map encPt ++ [[.int p.kind, .int p.n, encInts p.signs]] by rw [List.take_add_one, hp]; simp [encPt])
    have hsm := (show p.signs.length ≤ 1048576 from hs.all p (List.mem_of_getElem? hp))
    have hlj : j < cap := by omega
    have hlen : ((ps.take j).map encPt).length = j := by simp; omega
    have HLN := Lib.hid hlen
    clear hyk hyl hr2 x3 hp hlen
    have HW := Lib.hid (HW.out.past (alloc_below wr (.cells #[.int .i64 p.kind, .int .i64 p.n, .slice A5 p.signs.length c5] 93)))
    replace HM := Lib.hid (HM.out.new #[.int .i64 p.kind, .int .i64 p.n, .slice A5 p.signs.length c5] 93)
    go_wp2_with fail
    generalize (wr.alloc (.cells #[.int .i64 p.kind, .int .i64 p.n, .slice A5 p.signs.length c5] 93)) = W2 at HM HW ⊢
    refine (cloneI_d _ p.signs _ (HM.out.arg HR2.out) hsm).mono ?_
    rintro e' W3 ⟨v', rfl, o', b'⟩
    obtain ⟨A6, c6, rfl⟩ := sliceI o'.read
    have HW := Lib.hid (HW.out.past b')
    obtain ⟨b6, hm⟩ := HM.out.got o' b'
    clear o' b'
    replace HM := Lib.hid hm
    clear hm
    have y2 : W3.cell? ⟨g, j * 3 + 2, none⟩ = some (.slice A5 p.signs.length c5) := HW.out.cell (by omega) X3.out
    have f2 : W3.frozen? ⟨g, j * 3 + 2, none⟩ = false := HW.out.free
    clear x0 x1 x2
    have hm := HM.out.pk [2, 0, 1] (by decide) (by simp)
    simp only [low.pk, low.gz, low.gs] at hm
    replace HM := Lib.hid hm
    clear hm
    obtain ⟨b8, hm⟩ := HM.out.fill3 HLN.out.symm hlj HW.out HY.out.1 HY.out.2
    rw [← HT.out] at hm
    have HM8 := Lib.hid hm
    have HW8 := Lib.hid (HW.out.set (k' := (j + 1) * 3) (j * 3 + 2) (.slice A6 p.signs.length c6) (by omega) (by omega))
    clear hm HM HW HY X3 HT HR2
    go_wp2
    go_roundw
    case rel => exact ⟨j + 1, b8, by omega, by go_num, HM8.out.pick (ks := [0]) (by decide) rfl, HW8.out⟩
    case measure => simp [intOf]; omega
   ·obtain rfl : j = ps.length := by omega
    have hm := HM.out
    rw [List.take_length] at hm
    have HM7 := Lib.hid hm
    clear hm HM
    go_wp2
    go_ret
    exact (show Ms w [.dt (encPs ps) _ _] _ from HM7.out).post
theorem cloneEns_d (v : Value) (l : List En) (w : World) (h : RdC w w.heap.size (encEns l) v) (hs : l.length ≤ 1048576) : Calls Try.prog 78 #[v] w (RawPost 32 (l.map encEn) w) := by
 obtain ⟨A, c, rfl⟩ := sliceEns h
 have hq : ∀ (w : World) (A : Option Addr) (n c n' c' : Nat), (binOp .eql 23 (.slice A n c) (.slice none n' c')).run Try.prog w = .ok (.bool A.isNone) w := fun w A n c n' c' => Lib.run_eql_slice_nil w _ _ A n c n' c' Try.underlying23
 cases A with
 | none =>
  obtain rfl : l = [] := by
   obtain ⟨A9, c9, hv, _, h9⟩ := h
   injection hv with e1 e2 e3
   by_cases h0 : 0 < l.length
   ·obtain ⟨ad, e4, _⟩ := h9 (by simpa using h0)
    rw [← e1] at e4
    cases e4
   ·exact List.eq_nil_of_length_eq_zero (by omega)
  clear h
  go_enter Try.func78, Try.ntmps78
  go_wp2
  go_ret
  exact .inl ⟨rfl, rfl, rfl⟩
 | some ad =>
  have HR := Lib.hid h
  clear h
  have e0 : (l.map encEn).length = l.length := List.length_map _
  have E0 := Lib.hid e0
  clear e0
  have HM := Lib.hid (Ms.start w)
  replace HM := Lib.hid (HM.out.empty 32 3)
  go_enter Try.func78, Try.ntmps78
  go_wp2_with (at_builtin; refine wpList_raw (rs := l.map encEn) rfl (.tmp 5) (.tmp 6) 23 rfl eltEn HM.out rfl (some ad) l.length c rfl HR.out (fun r hr => by obtain ⟨q, _, rfl⟩ := List.mem_map.1 hr; exact ⟨rfl, fun d hd => by simp only [encEn, List.mem_cons, List.not_mem_nil, or_false] at hd; rcases hd with rfl | rfl | rfl <;> rfl⟩) (by rw [E0.out]; omega) ?_; intro g cap w1 b1 ys hcap hm hraw hcells)
  have HM1 := Lib.hid hm
  have HX := Lib.hid (And.intro hraw (And.intro hcells hcap))
  clear hm HM hraw hcells hcap
  go_wp2
  go_ret
  exact .inr ⟨g, cap, ys, by rw [E0.out]; rfl, by rw [E0.out]; exact HX.out.2.2, HM1.out.own (i := 0) rfl, HX.out.1, HX.out.2.1, HM1.out.bl⟩
theorem implCopyEntry_d (v : Value) (x : En) (w : World) (h : RdC w w.heap.size (datEn x) v) (hs : SmEn x) : Calls Try.prog 58 #[v] w (OwnPost (datEn x) w) := by
 obtain ⟨A2, c2, rfl, r2⟩ := aggEn h
 have HR := Lib.hid r2
 clear h r2
 have HM := Lib.hid (Ms.start w)
 replace HM := Lib.hid (HM.out.new #[.int .i64 x.client, .int .i64 x.seq, .slice A2 x.o.length c2] 32)
 have hm := HM.out.new #[.int .i64 0, .int .i64 0, .slice none 0 0] 32
 simp only [World.size_alloc] at hm
 replace HM := Lib.hid hm
 clear hm
 go_enter Try.func58, Try.ntmps58
 go_wp2_with fail
 obtain ⟨W1, hW, hm⟩ := HM.out.name
 rw [← hW]
 replace HM := Lib.hid hm
 clear hm hW
 refine (implCopyOp_d _ x.o _ (HM.out.arg HR.out) hs.o).mono ?_
 rintro e' W2 ⟨v', rfl, o', b'⟩
 obtain ⟨An, cn, rfl⟩ := sliceP o'.read
 obtain ⟨bn, hm⟩ := HM.out.got o' b'
 clear o' b'
 replace HM := Lib.hid hm
 clear hm
 obtain ⟨kx0, kx1, kx2⟩ := HM.out.c3 2 rfl
 obtain ⟨fx0, fx1, fx2⟩ := HM.out.f3 2 rfl
 obtain ⟨kr0, kr1, kr2⟩ := HM.out.c3 1 rfl
 obtain ⟨fr0, fr1, fr2⟩ := HM.out.f3 1 rfl
 obtain ⟨nxr, nrx⟩ := HM.out.ne (i := 1) (j := 2) rfl rfl (by omega)
 go_wp2
 clear kx0 kx1 kx2 kr0 kr1 kr2 fx0 fx1 fx2 fr0 fr1 fr2
 have hm := HM.out.pk [2, 0, 1] (by decide) (by simp)
 simp only [low.pk, low.gz, low.gs] at hm
 replace HM := Lib.hid hm
 clear hm
 have hm := HM.out.set (j := 2) (.slice An x.o.length cn)
 simp only [pa, pb, pc] at hm
 replace HM := Lib.hid hm
 clear hm
 have hm := HM.out.pk [2, 0, 1] (by decide) (by simp)
 simp only [low.pk, low.gz, low.gs] at hm
 replace HM := Lib.hid hm
 clear hm
 have hm := HM.out.putRow (ys := [.int .i64 x.client, .int .i64 x.seq, .slice An x.o.length cn]) rfl
 simp only [low.putRow, Nat.zero_add, Nat.reduceAdd] at hm
 replace HM := Lib.hid hm
 clear hm
 obtain ⟨W3, hW, hm⟩ := HM.out.name
 rw [← hW]
 replace HM := Lib.hid hm
 clear hm hW
 obtain ⟨kr0, kr1, kr2⟩ := HM.out.c3 0 rfl
 have hm := HM.out.pk [2, 0, 1] (by decide) (by simp)
 simp only [low.pk, low.gz, low.gs] at hm
 replace HM := Lib.hid hm
 clear hm
 exact bodyPost_ret (v := .agg #[.int .i64 x.client, .int .i64 x.seq, .slice An x.o.length cn]) (by simp [results, Try.results58, go_sem, kr0, kr1, kr2]) rfl (show Ms w (.dt (datEn x) (.agg #[.int .i64 x.client, .int .i64 x.seq, .slice An x.o.length cn]) _ :: _) _ from (HM.out.pk0.pkO.pkF rfl).pkF rfl).post
theorem implCopyEntries_d (v : Value) (l : List En) (w : World) (h : RdC w w.heap.size (encEns l) v) (hs : SmEns l) : Calls Try.prog 55 #[v] w (OwnPost (encEns l) w) := by
 obtain ⟨A, c, rfl⟩ := sliceEns h
 have hl : l.length ≤ 1048576 := by have := hs.len; omega
 have HR := Lib.hid h
 clear h
 have HM := Lib.hid (Ms.start w)
 go_enter Try.func55, Try.ntmps55
 go_wp2_with fail
 refine (cloneEns_d _ l _ HR.out hl).mono ?_
 rintro e' W1 (⟨h0, rfl, rfl⟩ | ⟨g, cap, ys, rfl, hcap, o', hraw, hcells, b'⟩)
 ·obtain rfl : l = [] := List.map_eq_nil_iff.1 h0
  go_wp2
  refine wp_loop_rounds 1 ?_
  rw [rounds_succ]
  go_wp2
  go_ret
  exact (HM.out.nil 32 3).post
 ·rw [show (l.map encEn).length = l.length from List.length_map _] at hcap ⊢
  have HW := Lib.hid hraw
  have HC := Lib.hid hcells
  clear hraw hcells
  obtain ⟨bp, hm⟩ := HM.out.got o' b'
  clear o' b'
  replace HM := Lib.hid hm
  clear hm
  go_wp2
  go_loopw [10] (fun i wr => ∃ (j : Nat) (bs : List Nat), j ≤ l.length ∧ i = .int .i64 (j : Int) ∧ Ms w [.dt (.rows 32 3 ((l.take j).map encEn)) (.slice (some ⟨g, 0, none⟩) j cap) bs] wr ∧ Raw wr g (j * 3) ys) (fun i _ => l.length - (intOf i).toNat)
  case atStart => exact ⟨0, _, Nat.zero_le _, rfl, HM.out, by simpa using HW.out⟩
  case round =>
   obtain ⟨j, bs, hj, rfl, hm, hw⟩ := hrel
   clear HM HW
   have HM := Lib.hid hm
   have HW := Lib.hid hw
   clear hm hw
   by_cases hlt : j < l.length
   ·obtain ⟨p, hp⟩ : ∃ p, l[j]? = some p := ⟨_, List.getElem?_eq_getElem hlt⟩
    obtain ⟨y, hy, hyl, hyk⟩ := HC.out j (encEn p) (by rw [List.getElem?_map, hp]; rfl)
    obtain ⟨_, _, rfl, rfl, _, _, rfl, rfl, v2, _, rfl, hr2, rfl⟩ := hy
    obtain ⟨A5, c5, rfl⟩ := sliceP hr2
    have x0 : wr.cell? ⟨g, j * 3, none⟩ = some (.int .i64 p.client) := HW.out.cell (by omega) (hyk 0 _ rfl)
    have X0 := Lib.hid (show ys[j * 3]? = some (.int .i64 p.client) from hyk 0 _ rfl)
    have x1 : wr.cell? ⟨g, j * 3 + 1, none⟩ = some (.int .i64 p.seq) := HW.out.cell (by omega) (hyk 1 _ rfl)
    have X1 := Lib.hid (show ys[j * 3 + 1]? = some (.int .i64 p.seq) from hyk 1 _ rfl)
    have x2 : wr.cell? ⟨g, j * 3 + 2, none⟩ = some (.slice A5 p.o.length c5) := HW.out.cell (by omega) (hyk 2 _ rfl)
    have X2 := Lib.hid (show ys[j * 3 + 2]? = some (.slice A5 p.o.length c5) from hyk 2 _ rfl)
    have HR2 := Lib.hid hr2
    have HT := Lib.hid (show (l.take (j + 1)).map encEn = (l.take j).map encEn ++ [[.int p.client, .int p.seq, encPs p.o]] by rw [List.take_add_one, hp]; simp [encEn])
    have hsm := hs.at_ (List.mem_of_getElem? hp)
    have hlj : j < cap := by omega
    have hlen : ((l.take j).map encEn).length = j := by simp; omega
    have HLN := Lib.hid hlen
    clear hyk hyl hr2 hp hlen
    have HW := Lib.hid (HW.out.past (alloc_below wr (.cells #[.int .i64 p.client, .int .i64 p.seq, .slice A5 p.o.length c5] 32)))
    replace HM := Lib.hid (HM.out.new #[.int .i64 p.client, .int .i64 p.seq, .slice A5 p.o.length c5] 32)
    go_wp2_with fail
    generalize (wr.alloc (.cells #[.int .i64 p.client, .int .i64 p.seq, .slice A5 p.o.length c5] 32)) = W2 at HM HW ⊢
    refine (implCopyEntry_d _ p _ (rdEn p (HM.out.arg HR2.out)) hsm).mono ?_
    rintro e' W3 ⟨v', rfl, o', b'⟩
    obtain ⟨A6, c6, rfl, -⟩ := aggEn o'.read
    have HW := Lib.hid (HW.out.past b')
    obtain ⟨b6, hm⟩ := HM.out.got o' b'
    clear o' b'
    obtain ⟨b7, hm⟩ := hm.unEn
    replace HM := Lib.hid hm
    clear hm
    clear x0 x1 x2
    have y0 : W3.cell? ⟨g, j * 3, none⟩ = some (.int .i64 p.client) := HW.out.cell (by omega) X0.out
    have f0 : W3.frozen? ⟨g, j * 3, none⟩ = false := HW.out.free
    have y1 : W3.cell? ⟨g, j * 3 + 1, none⟩ = some (.int .i64 p.seq) := HW.out.cell (by omega) X1.out
    have f1 : W3.frozen? ⟨g, j * 3 + 1, none⟩ = false := HW.out.free
    have y2 : W3.cell? ⟨g, j * 3 + 2, none⟩ = some (.slice A5 p.o.length c5) := HW.out.cell (by omega) X2.out
    have f2 : W3.frozen? ⟨g, j * 3 + 2, none⟩ = false := HW.out.free
    have hm := HM.out.pk [2, 0, 1] (by decide) (by simp)
    simp only [low.pk, low.gz, low.gs] at hm
    replace HM := Lib.hid hm
    clear hm
    obtain ⟨b8, hm⟩ := HM.out.fillA p.client p.seq HLN.out.symm hlj
    rw [← HT.out] at hm
    have HM8 := Lib.hid hm
    have HW8 := Lib.hid (((HW.out.set (k' := (j + 1) * 3) (j * 3) (.int .i64 p.client) (by omega) (by omega)).set (k' := (j + 1) * 3) (j * 3 + 1) (.int .i64 p.seq) (by omega) (by omega)).set (k' := (j + 1) * 3) (j * 3 + 2) (.slice A6 p.o.length c6) (by omega) (by omega))
    clear hm HM HW X0 X1 X2 HT HR2
    go_wp2
    go_roundw
    case rel => exact ⟨j + 1, b8, by omega, by go_num, HM8.out.pick (ks := [0]) (by decide) rfl, HW8.out⟩
    case measure => simp [intOf]; omega
   ·obtain rfl : j = l.length := by omega
    have hm := HM.out
    rw [List.take_length] at hm
    have HM7 := Lib.hid hm
    clear hm HM
    go_wp2
    go_ret
    exact (show Ms w [.dt (encEns l) _ _] _ from HM7.out).post
structure RdB (lo hi : Nat) (w : World) (d : Dat) (v : Value) (b : List Nat) : Prop where
 rd : ∀ W' : World, (∀ q ∈ b, W'.heap[q]? = w.heap[q]?) → ∀ B, (∀ q ∈ b, q < B) → RdC W' B d v
 rng : ∀ q ∈ b, lo ≤ q ∧ q < hi
 top : hi ≤ w.heap.size
 le : lo ≤ hi
def RdOwn (lo hi : Nat) (w : World) (d : Dat) (v : Value) : Prop := ∃ b, RdB lo hi w d v b
theorem RdOwn.blocks {lo hi : Nat} {w : World} {d : Dat} {v : Value} (h : RdOwn lo hi w d v) : ∃ b, RdB lo hi w d v b := h
theorem RdB.read {lo hi : Nat} {w : World} {d : Dat} {v : Value} {b : List Nat} (h : RdB lo hi w d v b) : RdC w w.heap.size d v := h.rd w (fun _ _ => rfl) _ (fun q hq => Nat.lt_of_lt_of_le (h.rng q hq).2 h.top)
theorem RdOwn.read {lo hi : Nat} {w : World} {d : Dat} {v : Value} (h : RdOwn lo hi w d v) : RdC w w.heap.size d v := by obtain ⟨b, h⟩ := h; exact h.read
theorem RdB.keep {lo hi : Nat} {w w' : World} {d : Dat} {v : Value} {b : List Nat} (h : RdB lo hi w d v b) (hk : ∀ q ∈ b, w'.heap[q]? = w.heap[q]?) (hs : w.heap.size ≤ w'.heap.size) : RdB lo hi w' d v b :=
 ⟨fun W2 h2 => h.rd W2 (fun q hq => (h2 q hq).trans (hk q hq)), h.rng, Nat.le_trans h.top hs, h.le⟩
theorem RdB.past {lo hi : Nat} {w w' : World} {d : Dat} {v : Value} {b : List Nat} (h : RdB lo hi w d v b) (hb : Below w.heap.size w w') : RdB lo hi w' d v b := h.keep (fun q hq => hb.block q (Nat.lt_of_lt_of_le (h.rng q hq).2 h.top)) hb.size
theorem RdB.touch {lo hi : Nat} {w w' : World} {d : Dat} {v : Value} {b : List Nat} {T : Nat → Prop} (h : RdB lo hi w d v b) (ht : Touch T w w') (hn : ∀ x ∈ b, ¬ T x) : RdB lo hi w' d v b := h.keep (fun q hq => ht.block q (hn q hq)) (Nat.le_of_eq ht.size.symm)
theorem RdB.apart {lo hi lo' hi' : Nat} {w w' : World} {d d' : Dat} {v v' : Value} {b b' : List Nat} {w0 : World} (h : RdB lo hi w d v b) (h' : OwB lo' hi' w0 d' v' b') (ht : Touch (fun x => x ∈ b') w w') (hd : hi ≤ lo' ∨ hi' ≤ lo) : RdB lo hi w' d v b :=
 h.touch ht (fun x hx hx' => by have h1 := h.rng x hx; have h2 := h'.rng x hx'; omega)
section
variable {w0 W W' : World} {L L' : List It} {x y : It}
end
theorem ring_new {room rev : Int} (h : rev ≤ 1000000000) : ringB ⟨room, rev + 1, false, []⟩ = ringNewB room rev := by
 unfold ringB ringNewB inB
 simp only [List.all_nil, Bool.true_and, List.length_nil, Bool.not_false, Bool.true_or, Bool.and_true]
 rw [Bool.eq_iff_iff]
 simp only [Bool.and_eq_true, decide_eq_true_eq]
 omega
theorem ringNew_f {room rev : Int} (h : ringNewB room rev = false) : ringNewB room rev = false ∧ ringNewT room rev = noRi := ⟨h, by unfold ringNewT; rw [h]; rfl⟩
theorem smNew (room next : Int) : SmRi ⟨room, next, false, []⟩ := by simp [SmRi, totRi, totEns, sumN]
theorem rdNew (w : World) (B : Nat) (room next : Int) : RdC w B (datRi ⟨room, next, false, []⟩) (.agg #[.int .i64 room, .int .i64 next, .bool false, .slice none 0 0]) := rdRi ⟨room, next, false, []⟩ ⟨none, 0, rfl, Nat.le_refl _, fun hn => absurd hn (by simp)⟩
theorem Ms.noRi {w0 W : World} {L : List It} (h : Ms w0 L W) : Ms w0 (.dt (datRi noRi) (.agg #[.int .i64 0, .int .i64 0, .bool false, .slice none 0 0]) [] :: L) W := ((h.nil 32 3).pk0.pkO.pkF rfl |>.pkF rfl).pkF rfl
theorem Ms.newRi {w0 W : World} {L : List It} (h : Ms w0 L W) (room next : Int) : Ms w0 (.dt (datRi ⟨room, next, false, []⟩) (.agg #[.int .i64 room, .int .i64 next, .bool false, .slice none 0 0]) [] :: L) W := ((h.nil 32 3).pk0.pkO.pkF rfl |>.pkF rfl).pkF rfl
theorem ringNew_t {room rev : Int} (h : ringNewB room rev = true) : ringNewB room rev = true ∧ ringNewT room rev = ⟨room, rev + 1, false, []⟩ := ⟨h, by unfold ringNewT; rw [if_pos h]⟩
theorem ringNew_big {room rev : Int} (h : 1000000000 < rev) : ringNewB room rev = false := by unfold ringNewB; rw [inB_f (n := rev) (by omega), Bool.and_false]
theorem ringRes_f {x : Ri} {rev : Int} (h : ringB x = false) : ringResyncB x rev = false ∧ ringResyncT x rev = noRi := by
 have h1 : ringResyncB x rev = false := by unfold ringResyncB; rw [h]; rfl
 exact ⟨h1, by unfold ringResyncT; rw [h1]; rfl⟩
theorem ringRes_t {x : Ri} {rev : Int} (h : ringB x = true) : ringResyncB x rev = ringNewB x.cap rev ∧ ringResyncT x rev = ringNewT x.cap rev := by
 have h1 : ringResyncB x rev = ringNewB x.cap rev := by unfold ringResyncB; rw [h]; rfl
 exact ⟨h1, by unfold ringResyncT ringNewT; rw [h1]⟩
theorem clientOk_any (n : Int) (w : World) : Calls Try.prog 52 #[.int .i64 n] w fun e w' => e = .returned (.bool (inB n 1 8)) ∧ w = w' := by
 by_cases h1 : 1 ≤ n
 ·by_cases h2 : n ≤ 8
  ·have HE := Lib.hid (show inB n 1 8 = true from inB_t ⟨h1, h2⟩)
   go_enter Try.func52, Try.ntmps52
   go_wp2
   go_ret
   exact ⟨ret_b HE.out.symm, rfl⟩
  ·have HE := Lib.hid (show inB n 1 8 = false from inB_f (by omega))
   go_enter Try.func52, Try.ntmps52
   go_wp2
   go_ret
   exact ⟨ret_b HE.out.symm, rfl⟩
 ·have HE := Lib.hid (show inB n 1 8 = false from inB_f (by omega))
  go_enter Try.func52, Try.ntmps52
  go_wp2
  go_ret
  exact ⟨ret_b HE.out.symm, rfl⟩
theorem seqOk_any (n : Int) (w : World) : Calls Try.prog 53 #[.int .i64 n] w fun e w' => e = .returned (.bool (inB n 1 1000000000)) ∧ w = w' := by
 by_cases h1 : 1 ≤ n
 ·by_cases h2 : n ≤ 1000000000
  ·have HE := Lib.hid (show inB n 1 1000000000 = true from inB_t ⟨h1, h2⟩)
   go_enter Try.func53, Try.ntmps53
   go_wp2
   go_ret
   exact ⟨ret_b HE.out.symm, rfl⟩
  ·have HE := Lib.hid (show inB n 1 1000000000 = false from inB_f (by omega))
   go_enter Try.func53, Try.ntmps53
   go_wp2
   go_ret
   exact ⟨ret_b HE.out.symm, rfl⟩
 ·have HE := Lib.hid (show inB n 1 1000000000 = false from inB_f (by omega))
  go_enter Try.func53, Try.ntmps53
  go_wp2
  go_ret
  exact ⟨ret_b HE.out.symm, rfl⟩
theorem implEntryOk_d (v : Value) (x : En) (w : World) (h : RdC w w.heap.size (datEn x) v) (hs : SmEn x) : Calls Try.prog 32 #[v] w (Tells (entryB x) w) := by
 obtain ⟨A2, c2, rfl, r2⟩ := aggEn h
 have b0 := alloc_below w (.cells #[.int .i64 x.client, .int .i64 x.seq, .slice A2 x.o.length c2] 32)
 have HE := Lib.hid (show entryB x = (inB x.client 1 8 && inB x.seq 1 1000000000 && isNormL x.o) from rfl)
 cases h1 : inB x.client 1 8
 ·go_enter Try.func32, Try.ntmps32
  go_wp2_with fail
  refine (clientOk_any _ _).mono ?_
  rintro e w1 ⟨rfl, rfl⟩
  rw [h1]
  go_wp2
  go_ret
  exact ⟨ret_b (by rw [HE.out, h1]; rfl), b0⟩
 cases h2 : inB x.seq 1 1000000000
 ·go_enter Try.func32, Try.ntmps32
  go_wp2_with fail
  refine (clientOk_any _ _).mono ?_
  rintro e w1 ⟨rfl, rfl⟩
  rw [h1]
  go_wp2_with fail
  refine (seqOk_any _ _).mono ?_
  rintro e w1 ⟨rfl, rfl⟩
  rw [h2]
  go_wp2
  go_ret
  exact ⟨ret_b (by rw [HE.out, h1, h2]; rfl), b0⟩
 obtain ⟨A, c, e2, hr, _⟩ := parts_rd r2
 injection e2 with e2 _ e3
 subst e2 e3
 have hso := hs.o
 have hs1 := hso.1
 have hs2 := hso.2
 go_enter Try.func32, Try.ntmps32
 go_wp2_with fail
 refine (clientOk_any _ _).mono ?_
 rintro e w1 ⟨rfl, rfl⟩
 rw [h1]
 go_wp2_with fail
 refine (seqOk_any _ _).mono ?_
 rintro e w1 ⟨rfl, rfl⟩
 rw [h2]
 go_wp2_with fail
 refine (implIsNorm_any A2 c2 x.o _ (hr.past b0) (by omega) hso.all4 hs2).mono ?_
 rintro e w1 ⟨rfl, b1⟩
 go_wp2
 go_ret
 exact ⟨ret_b (by rw [HE.out, h1, h2]; rfl), b0.trans (b1.mono b0.size)⟩
theorem implEntrySame_d (v v' : Value) (x y : En) (w : World) (h : RdC w w.heap.size (datEn x) v) (h' : RdC w w.heap.size (datEn y) v') (hs : SmEn x) (hs' : SmEn y) : Calls Try.prog 16 #[v, v'] w (Tells (entrySameB x y) w) := by
 obtain ⟨A2, c2, rfl, r2⟩ := aggEn h
 obtain ⟨B2, d2, rfl, s2⟩ := aggEn h'
 obtain ⟨_, _, b0⟩ := two_boxes w #[.int .i64 x.client, .int .i64 x.seq, .slice A2 x.o.length c2] #[.int .i64 y.client, .int .i64 y.seq, .slice B2 y.o.length d2] 32
 have HE := Lib.hid (show entrySameB x y = (decide (x.client = y.client) && decide (x.seq = y.seq) && samePs x.o y.o) from rfl)
 by_cases h1 : x.client = y.client
 ·have g1 : (x.client == y.client) = true := by simp [h1]
  by_cases h2 : x.seq = y.seq
  ·have g2 : (x.seq == y.seq) = true := by simp [h2]
   obtain ⟨A, c, e2, hr, _⟩ := parts_rd r2
   injection e2 with e2 _ e3
   subst e2 e3
   obtain ⟨B, d, e2, hr', _⟩ := parts_rd s2
   injection e2 with e2 _ e3
   subst e2 e3
   have q1 := hs.o.1
   have q2 := hs'.o.1
   have H12 := Lib.hid (And.intro h1 h2)
   clear h1 h2
   go_enter Try.func16, Try.ntmps16
   go_wp2_with fail
   refine (implOpSame_any A2 B2 c2 d2 x.o y.o _ (hr.past b0) (hr'.past b0) (by omega) (by omega) hs.o.all4 hs'.o.all4).mono ?_
   rintro e w1 ⟨rfl, b1⟩
   go_wp2
   go_ret
   exact ⟨ret_b (by rw [HE.out, decide_eq_true H12.out.1, decide_eq_true H12.out.2]; rfl), b0.trans (b1.mono b0.size)⟩
  ·have g2 : (x.seq == y.seq) = false := by simp [h2]
   have H12 := Lib.hid (And.intro h1 h2)
   clear h1 h2
   go_enter Try.func16, Try.ntmps16
   go_wp2
   go_ret
   exact ⟨ret_b (by rw [HE.out, decide_eq_true H12.out.1, decide_eq_false H12.out.2]; rfl), b0⟩
 ·have g1 : (x.client == y.client) = false := by simp [h1]
  have H12 := Lib.hid h1
  clear h1
  go_enter Try.func16, Try.ntmps16
  go_wp2
  go_ret
  exact ⟨ret_b (by rw [HE.out, decide_eq_false H12.out]; rfl), b0⟩
theorem entriesB_len : ∀ {l m : List En}, ¬ l.length = m.length → entriesB l m = false
 | [], [], h => absurd rfl h
 | [], _ :: _, _ => rfl
 | _ :: _, [], _ => rfl
 | a :: l, b :: m, h => by
  rw [entriesB, entriesB_len (l := l) (m := m) (by simpa using h), Bool.and_false]
theorem implEntriesOk_d (v : Value) (l : List En) (w : World) (h : RdC w w.heap.size (encEns l) v) (hs : SmEns l) : Calls Try.prog 37 #[v] w (Tells (l.all entryB) w) := by
 obtain ⟨A, c, rfl⟩ := sliceEns h
 have hl := hs.len
 have HR := Lib.hid h
 clear h
 have HM := Lib.hid (Ms.start w)
 go_enter Try.func37, Try.ntmps37
 go_wp2
 go_loopw [7] (fun i wr => ∃ j : Nat, j ≤ l.length ∧ i = .int .i64 (j : Int) ∧ (l.take j).all entryB = true ∧ Ms w [] wr) (fun i _ => l.length - (intOf i).toNat)
 case atStart => exact ⟨0, Nat.zero_le _, rfl, by simp, HM.out⟩
 case round =>
  obtain ⟨j, hj, rfl, hi, hm⟩ := hrel
  clear HM
  have HM := Lib.hid hm
  have HI := Lib.hid hi
  clear hm hi
  by_cases hlt : j < l.length
  ·obtain ⟨b, off, e, A5, c5, rfl, hbb, hp, y0, y1, y2, q2⟩ := atEns HR.out hlt
   have x0 := (HM.out.bl.cell (p := ⟨b, off + j * 3, none⟩) hbb).trans y0
   have x1 := (HM.out.bl.cell (p := ⟨b, off + j * 3 + 1, none⟩) hbb).trans y1
   have x2 := (HM.out.bl.cell (p := ⟨b, off + j * 3 + 2, none⟩) hbb).trans y2
   clear y0 y1 y2
   have hse := hs.at_ (List.mem_of_getElem? hp)
   have HT := Lib.hid (show (l.take (j + 1)).all entryB = entryB e by rw [List.take_add_one, hp, List.all_append, HI.out]; simp)
   have HF := Lib.hid (show entryB e = false → l.all entryB = false from fun e1 => Bool.eq_false_iff.2 (fun e2 => by rw [List.all_eq_true.1 e2 e (List.mem_of_getElem? hp)] at e1; cases e1))
   clear hp
   replace HM := Lib.hid (HM.out.new #[.int .i64 e.client, .int .i64 e.seq, .slice A5 e.o.length c5] 32)
   go_wp2_with fail
   obtain ⟨W1, hW, hm⟩ := HM.out.name
   rw [← hW]
   replace HM := Lib.hid hm
   clear hm hW
   refine (implEntryOk_d _ e _ (rdEn e (HM.out.arg q2)) hse).mono ?_
   rintro e' W2 ⟨rfl, b'⟩
   replace HM := Lib.hid (HM.out.past b')
   clear b'
   clear x0 x1 x2 hse
   cases h1 : entryB e
   ·go_wp2
    go_ret
    exact ⟨ret_b (by rw [HF.out h1]), HM.out.bl⟩
   go_wp2
   go_roundw
   case rel => exact ⟨j + 1, by omega, by go_num, by rw [HT.out, h1], HM.out.pick (ks := []) (by decide) rfl⟩
   case measure => simp [intOf]; omega
  ·obtain rfl : j = l.length := by omega
   have HI2 := Lib.hid (show l.all entryB = true by have := HI.out; rwa [List.take_length] at this)
   clear HI
   go_wp2
   go_ret
   exact ⟨ret_b (by rw [HI2.out]), HM.out.bl⟩
theorem equalEn_d (v v' : Value) (l m : List En) (w : World) (h : RdC w w.heap.size (encEns l) v) (h' : RdC w w.heap.size (encEns m) v') (hs : SmEns l) (hs' : SmEns m) : Calls Try.prog 40 #[v, v', .func (.func 16) #[] #[]] w (Tells (entriesB l m) w) := by
 obtain ⟨A, c, rfl⟩ := sliceEns h
 obtain ⟨A', c', rfl⟩ := sliceEns h'
 have hl := hs.len
 have hl2 := hs'.len
 have HR := Lib.hid h
 have HR' := Lib.hid h'
 clear h h'
 by_cases hlen : l.length = m.length
 ·have HM := Lib.hid (Ms.start w)
  have gl : (((l.length : Int)) != (m.length : Int)) = false := by simp [hlen]
  have HL := Lib.hid hlen
  clear hlen
  go_enter Try.func40, Try.ntmps40
  go_wp2
  go_loopw [17] (fun i wr => ∃ j : Nat, j ≤ l.length ∧ i = .int .i64 (j : Int) ∧ entriesB l m = entriesB (l.drop j) (m.drop j) ∧ Ms w [] wr) (fun i _ => l.length - (intOf i).toNat)
  case atStart => exact ⟨0, Nat.zero_le _, rfl, by simp, HM.out⟩
  case round =>
   obtain ⟨j, hj, rfl, hi, hm⟩ := hrel
   clear HM
   have HM := Lib.hid hm
   have HI := Lib.hid hi
   clear hm hi
   by_cases hlt : j < l.length
   ·have hlt2 : j < m.length := by have := HL.out; omega
    obtain ⟨b, off, e, A5, c5, rfl, hbb, hp, y0, y1, y2, q2⟩ := atEns HR.out hlt
    obtain ⟨b', off', u, A6, c6, rfl, hbb', hp', z0, z1, z2, q3⟩ := atEns HR'.out hlt2
    have x0 := (HM.out.bl.cell (p := ⟨b, off + j * 3, none⟩) hbb).trans y0
    have t0 := (HM.out.bl.cell (p := ⟨b', off' + j * 3, none⟩) hbb').trans z0
    have x1 := (HM.out.bl.cell (p := ⟨b, off + j * 3 + 1, none⟩) hbb).trans y1
    have t1 := (HM.out.bl.cell (p := ⟨b', off' + j * 3 + 1, none⟩) hbb').trans z1
    have x2 := (HM.out.bl.cell (p := ⟨b, off + j * 3 + 2, none⟩) hbb).trans y2
    have t2 := (HM.out.bl.cell (p := ⟨b', off' + j * 3 + 2, none⟩) hbb').trans z2
    have hbw : b < wr.heap.size := Nat.lt_of_lt_of_le hbb HM.out.size
    have hbw' : b' < wr.heap.size := Nat.lt_of_lt_of_le hbb' HM.out.size
    have u0 : (wr.alloc (.cells #[.int .i64 e.client, .int .i64 e.seq, .slice A5 e.o.length c5] 32)).cell? ⟨b', off' + j * 3, none⟩ = some (.int .i64 u.client) := ((alloc_below wr _).cell (p := ⟨b', off' + j * 3, none⟩) hbw').trans t0
    have u1 : (wr.alloc (.cells #[.int .i64 e.client, .int .i64 e.seq, .slice A5 e.o.length c5] 32)).cell? ⟨b', off' + j * 3 + 1, none⟩ = some (.int .i64 u.seq) := ((alloc_below wr _).cell (p := ⟨b', off' + j * 3 + 1, none⟩) hbw').trans t1
    have u2 : (wr.alloc (.cells #[.int .i64 e.client, .int .i64 e.seq, .slice A5 e.o.length c5] 32)).cell? ⟨b', off' + j * 3 + 2, none⟩ = some (.slice A6 u.o.length c6) := ((alloc_below wr _).cell (p := ⟨b', off' + j * 3 + 2, none⟩) hbw').trans t2
    clear y0 y1 y2 z0 z1 z2 t0 t1 t2
    have hse := hs.at_ (List.mem_of_getElem? hp)
    have hsu := hs'.at_ (List.mem_of_getElem? hp')
    have HS := Lib.hid (entriesB_step hp hp')
    have Q2 := Lib.hid q2
    have Q3 := Lib.hid q3
    clear hp hp' q2 q3
    replace HM := Lib.hid (HM.out.new #[.int .i64 e.client, .int .i64 e.seq, .slice A5 e.o.length c5] 32)
    have hm := HM.out.new #[.int .i64 u.client, .int .i64 u.seq, .slice A6 u.o.length c6] 32
    simp only [World.size_alloc] at hm
    replace HM := Lib.hid hm
    clear hm
    go_wp2_with fail
    obtain ⟨W1, hW, hm⟩ := HM.out.name
    rw [← hW]
    replace HM := Lib.hid hm
    clear hm hW
    refine (implEntrySame_d _ _ e u _ (rdEn e (HM.out.arg Q2.out)) (rdEn u (HM.out.arg Q3.out)) hse hsu).mono ?_
    rintro e' W2 ⟨rfl, b'⟩
    replace HM := Lib.hid (HM.out.past b')
    clear b'
    clear x0 x1 x2 u0 u1 u2 hbw hbw'
    cases h1 : entrySameB e u
    ·have HE := Lib.hid (show entriesB l m = false by rw [HI.out, HS.out, h1, Bool.false_and])
     go_wp2
     go_ret
     exact ⟨ret_b HE.out.symm, HM.out.bl⟩
    have HE := Lib.hid (show entriesB l m = entriesB (l.drop (j + 1)) (m.drop (j + 1)) by rw [HI.out, HS.out, h1, Bool.true_and])
    go_wp2
    go_roundw
    case rel => exact ⟨j + 1, by omega, by go_num, HE.out, HM.out.pick (ks := []) (by decide) rfl⟩
    case measure => simp [intOf]; omega
   ·have h9 : l.drop j = [] := List.drop_eq_nil_of_le (by omega)
    have h8 : m.drop j = [] := List.drop_eq_nil_of_le (by have := HL.out; omega)
    have HE := Lib.hid (show entriesB l m = true by rw [HI.out, h9, h8]; rfl)
    clear h9 h8
    go_wp2
    go_ret
    exact ⟨ret_b HE.out.symm, HM.out.bl⟩
 ·have gl : (((l.length : Int)) != (m.length : Int)) = true := by simp; omega
  have HS2 := Lib.hid (entriesB_len hlen)
  clear hlen
  go_enter Try.func40, Try.ntmps40
  go_wp2
  go_ret
  exact ⟨ret_b HS2.out.symm, Below.refl _ _⟩
theorem implRingOk_d (v : Value) (x : Ri) (w : World) (h : RdC w w.heap.size (datRi x) v) (hs : SmRi x) : Calls Try.prog 14 #[v] w (Tells (ringB x) w) := by
 have HR := Lib.hid h
 obtain ⟨A3, c3, rfl, r3⟩ := aggRi h
 have R3 := Lib.hid r3
 have hl := hs.list.len
 clear h r3
 have HM := Lib.hid (Ms.start w)
 replace HM := Lib.hid (HM.out.new #[.int .i64 x.cap, .int .i64 x.next, .bool x.out, .slice A3 x.list.length c3] 27)
 have HB := Lib.hid (show ringB x = (x.list.all entryB && (inB x.cap 1 6 && (inB x.next 1 1000000000 && (decide ((x.list.length : Int) ≤ x.cap) && (!x.out || decide ((x.list.length : Int) = 0)))))) from rfl)
 by_cases h0 : x.cap < 1
 ·have H9 := Lib.hid (show inB x.cap 1 6 = false from inB_f (by omega))
  have g0 : decide (x.cap < 1) = true := decide_eq_true h0
  go_enter Try.func14, Try.ntmps14
  go_wp2
  go_ret
  exact ⟨ret_b (show false = ringB x by rw [HB.out, H9.out]; simp), HM.out.bl⟩
 have g0 : decide (x.cap < 1) = false := decide_eq_false h0
 by_cases h1 : 6 < x.cap
 ·have H9 := Lib.hid (show inB x.cap 1 6 = false from inB_f (by omega))
  have g1 : decide (6 < x.cap) = true := decide_eq_true h1
  go_enter Try.func14, Try.ntmps14
  go_wp2
  go_ret
  exact ⟨ret_b (show false = ringB x by rw [HB.out, H9.out]; simp), HM.out.bl⟩
 have g1 : decide (6 < x.cap) = false := decide_eq_false h1
 by_cases h2 : x.next < 1
 ·have H9 := Lib.hid (show inB x.next 1 1000000000 = false from inB_f (by omega))
  have g2 : decide (x.next < 1) = true := decide_eq_true h2
  go_enter Try.func14, Try.ntmps14
  go_wp2
  go_ret
  exact ⟨ret_b (show false = ringB x by rw [HB.out, H9.out]; simp), HM.out.bl⟩
 have g2 : decide (x.next < 1) = false := decide_eq_false h2
 by_cases h3 : 1000000000 < x.next
 ·have H9 := Lib.hid (show inB x.next 1 1000000000 = false from inB_f (by omega))
  have g3 : decide (1000000000 < x.next) = true := decide_eq_true h3
  go_enter Try.func14, Try.ntmps14
  go_wp2
  go_ret
  exact ⟨ret_b (show false = ringB x by rw [HB.out, H9.out]; simp), HM.out.bl⟩
 have g3 : decide (1000000000 < x.next) = false := decide_eq_false h3
 have HC := Lib.hid (show inB x.cap 1 6 = true ∧ inB x.next 1 1000000000 = true from ⟨inB_t (by omega), inB_t (by omega)⟩)
 by_cases h4 : x.cap < (x.list.length : Int)
 ·have g4 : decide (x.cap < (x.list.length : Int)) = true := decide_eq_true h4
  have H9 := Lib.hid (show decide ((x.list.length : Int) ≤ x.cap) = false from decide_eq_false (by omega))
  go_enter Try.func14, Try.ntmps14
  go_wp2
  go_ret
  exact ⟨ret_b (show false = ringB x by rw [HB.out, H9.out]; simp), HM.out.bl⟩
 have g4 : decide (x.cap < (x.list.length : Int)) = false := decide_eq_false h4
 have H9 := Lib.hid (show decide ((x.list.length : Int) ≤ x.cap) = true from decide_eq_true (by omega))
 clear h0 h1 h2 h3 h4
 go_enter Try.func14, Try.ntmps14
 go_wp2_with fail
 obtain ⟨W1, hW, hm⟩ := HM.out.name
 rw [← hW]
 replace HM := Lib.hid hm
 clear hm hW
 refine (implEntriesOk_d _ x.list _ (HM.out.arg R3.out) hs.list).mono ?_
 rintro e' W2 ⟨rfl, b'⟩
 replace HM := Lib.hid (HM.out.past b')
 clear b'
 clear g0 g1 g2 g3 g4
 cases he : x.list.all entryB
 ·go_wp2
  go_ret
  exact ⟨ret_b (show false = ringB x by rw [HB.out, he]; rfl), HM.out.bl⟩
 obtain ⟨kx0, kx1, kx2, kx3⟩ := HM.out.c4 0 rfl
 have HQ := Lib.hid (show ringB x = (!x.out || decide ((x.list.length : Int) = 0)) by rw [HB.out, he, HC.out.1, HC.out.2, H9.out]; rfl)
 rcases (show x.out = true ∨ x.out = false by cases x.out <;> simp) with hO | hO
 ·rw [hO] at kx2
  have HQ2 := Lib.hid (show ringB x = decide ((x.list.length : Int) = 0) by rw [HQ.out, hO]; rfl)
  clear hO
  by_cases h5 : x.list.length = 0
  ·have g5 : ((x.list.length : Int) == 0) = true := by simp [h5]
   have HQ3 := Lib.hid (show ringB x = true by rw [HQ2.out]; simp [h5])
   clear h5
   go_wp2
   go_ret
   exact ⟨ret_b (show true = ringB x by exact HQ3.out.symm), HM.out.bl⟩
  have g5 : ((x.list.length : Int) == 0) = false := by rw [beq_eq_false_iff_ne]; omega
  have HQ3 := Lib.hid (show ringB x = false by rw [HQ2.out]; exact decide_eq_false (by omega))
  clear h5
  go_wp2
  go_ret
  exact ⟨ret_b (show false = ringB x by exact HQ3.out.symm), HM.out.bl⟩
 rw [hO] at kx2
 have HQ2 := Lib.hid (show ringB x = true by rw [HQ.out, hO]; rfl)
 clear hO
 go_wp2
 go_ret
 exact ⟨ret_b (show true = ringB x by exact HQ2.out.symm), HM.out.bl⟩
theorem implRingNew_w (room rev : Int) (w : World) (hr : Rng rev) : Calls Try.prog 11 #[.int .i64 room, .int .i64 rev] w (ResB (datRi (ringNewT room rev)) (ringNewB room rev) w) := by
 have HM := Lib.hid (Ms.start w)
 replace HM := Lib.hid (HM.out.new #[.int .i64 0, .int .i64 0, .bool false, .slice none 0 0] 27)
 by_cases h1 : rev = 9223372036854775807
 ·have H1 := Lib.hid h1
  clear h1
  have HW1 := Lib.hid (show ringB ⟨room, -9223372036854775808, false, []⟩ = false by unfold ringB; rw [inB_f (n := (-9223372036854775808 : Int)) (by omega)]; simp)
  have HN := Lib.hid (ringNew_f (ringNew_big (room := room) (rev := rev) (by have := H1.out; omega)))
  have hw1 : IntKind.i64.wrap (rev + 1) = -9223372036854775808 := by rw [H1.out]; decide
  have hm := HM.out.new #[.int .i64 room, .int .i64 (-9223372036854775808), .bool false, .slice none 0 0] 27
  simp only [World.size_alloc] at hm
  replace HM := Lib.hid hm
  clear hm
  go_enter Try.func11, Try.ntmps11
  go_wp2_with fail
  obtain ⟨W1, hW, hm⟩ := HM.out.name
  rw [← hW]
  replace HM := Lib.hid hm
  clear hm hW
  refine (implRingOk_d _ ⟨room, -9223372036854775808, false, []⟩ _ (rdNew _ _ _ _) (smNew _ _)).mono ?_
  rw [HW1.out]
  rintro e' W2 ⟨rfl, b'⟩
  replace HM := Lib.hid (HM.out.past b')
  clear b'
  obtain ⟨kd0, kd1, kd2, kd3⟩ := HM.out.c4 0 rfl
  obtain ⟨kr0, kr1, kr2, kr3⟩ := HM.out.c4 1 rfl
  obtain ⟨fr0, fr1, fr2, fr3⟩ := HM.out.f4 1 rfl
  go_wp2
  have hm := HM.out.pk [1, 0] (by decide) (by simp)
  simp only [low.pk, low.gz, low.gs] at hm
  replace HM := Lib.hid hm
  clear hm
  have hm := HM.out.putRow (ys := [.int .i64 0, .int .i64 0, .bool false, .slice none 0 0]) rfl
  simp only [low.putRow, Nat.zero_add, Nat.reduceAdd] at hm
  replace HM := Lib.hid hm
  clear hm
  obtain ⟨W3, hW, hm⟩ := HM.out.name
  rw [← hW]
  replace HM := Lib.hid hm
  clear hm hW
  obtain ⟨kr0, kr1, kr2, kr3⟩ := HM.out.c4 0 rfl
  rw [HN.out.1, HN.out.2]
  exact bodyPost_ret (v := .tuple #[.agg #[.int .i64 0, .int .i64 0, .bool false, .slice none 0 0], .bool false]) (by simp [results, Try.results11, go_sem, kr0, kr1, kr2, kr3]) rfl (HM.out.noRi.resB false)
 have hr0 := hr.1
 have hr1 := hr.2
 have hw1 : IntKind.i64.wrap (rev + 1) = rev + 1 := IntWalk.i64_in _ (by omega)
 have HW1 := Lib.hid (show ringB ⟨room, rev + 1, false, []⟩ = ringNewB room rev by
  by_cases h2 : rev ≤ 1000000000
  ·exact ring_new h2
  ·rw [ringNew_big (by omega)]; unfold ringB; rw [inB_f (n := rev + 1) (by omega)]; simp)
 clear h1
 have hm := HM.out.new #[.int .i64 room, .int .i64 (rev + 1), .bool false, .slice none 0 0] 27
 simp only [World.size_alloc] at hm
 replace HM := Lib.hid hm
 clear hm
 go_enter Try.func11, Try.ntmps11
 go_wp2_with fail
 obtain ⟨W4, hW, hm⟩ := HM.out.name
 rw [← hW]
 replace HM := Lib.hid hm
 clear hm hW
 refine (implRingOk_d _ ⟨room, rev + 1, false, []⟩ _ (rdNew _ _ _ _) (smNew _ _)).mono ?_
 rw [HW1.out]
 rintro e' W5 ⟨rfl, b'⟩
 replace HM := Lib.hid (HM.out.past b')
 clear b'
 cases hb : ringNewB room rev
 ·have HN := Lib.hid (ringNew_f hb)
  obtain ⟨kd0, kd1, kd2, kd3⟩ := HM.out.c4 0 rfl
  obtain ⟨kr0, kr1, kr2, kr3⟩ := HM.out.c4 1 rfl
  obtain ⟨fr0, fr1, fr2, fr3⟩ := HM.out.f4 1 rfl
  go_wp2
  have hm := HM.out.pk [1, 0] (by decide) (by simp)
  simp only [low.pk, low.gz, low.gs] at hm
  replace HM := Lib.hid hm
  clear hm
  have hm := HM.out.putRow (ys := [.int .i64 0, .int .i64 0, .bool false, .slice none 0 0]) rfl
  simp only [low.putRow, Nat.zero_add, Nat.reduceAdd] at hm
  replace HM := Lib.hid hm
  clear hm
  obtain ⟨W6, hW, hm⟩ := HM.out.name
  rw [← hW]
  replace HM := Lib.hid hm
  clear hm hW
  obtain ⟨kr0, kr1, kr2, kr3⟩ := HM.out.c4 0 rfl
  rw [HN.out.1, HN.out.2]
  exact bodyPost_ret (v := .tuple #[.agg #[.int .i64 0, .int .i64 0, .bool false, .slice none 0 0], .bool false]) (by simp [results, Try.results11, go_sem, kr0, kr1, kr2, kr3]) rfl (HM.out.noRi.resB false)
 have HN := Lib.hid (ringNew_t hb)
 obtain ⟨kd0, kd1, kd2, kd3⟩ := HM.out.c4 0 rfl
 obtain ⟨kr0, kr1, kr2, kr3⟩ := HM.out.c4 1 rfl
 obtain ⟨fr0, fr1, fr2, fr3⟩ := HM.out.f4 1 rfl
 go_wp2
 have hm := HM.out.pk [1, 0] (by decide) (by simp)
 simp only [low.pk, low.gz, low.gs] at hm
 replace HM := Lib.hid hm
 clear hm
 have hm := HM.out.putRow (ys := [.int .i64 room, .int .i64 (rev + 1), .bool false, .slice none 0 0]) rfl
 simp only [low.putRow, Nat.zero_add, Nat.reduceAdd] at hm
 replace HM := Lib.hid hm
 clear hm
 obtain ⟨W7, hW, hm⟩ := HM.out.name
 rw [← hW]
 replace HM := Lib.hid hm
 clear hm hW
 obtain ⟨kr0, kr1, kr2, kr3⟩ := HM.out.c4 0 rfl
 rw [HN.out.1, HN.out.2]
 exact bodyPost_ret (v := .tuple #[.agg #[.int .i64 room, .int .i64 (rev + 1), .bool false, .slice none 0 0], .bool true]) (by simp [results, Try.results11, go_sem, kr0, kr1, kr2, kr3]) rfl ((HM.out.newRi room (rev + 1)).resB true)
theorem implRingLag_d (v : Value) (x : Ri) (w : World) (h : RdC w w.heap.size (datRi x) v) (hs : SmRi x) : Calls Try.prog 12 #[v] w (Nums1 (ringLagT x) w) := by
 obtain ⟨A3, c3, rfl, -⟩ := aggRi h
 clear h
 unfold ringLagT
 generalize x.out = ou
 cases ou
 ·have HM := Lib.hid (Ms.start w)
  replace HM := Lib.hid (HM.out.new #[.int .i64 x.cap, .int .i64 x.next, .bool false, .slice A3 x.list.length c3] 27)
  go_enter Try.func12, Try.ntmps12
  go_wp2
  go_ret
  exact ⟨rfl, HM.out.bl⟩
 ·have HM := Lib.hid (Ms.start w)
  replace HM := Lib.hid (HM.out.new #[.int .i64 x.cap, .int .i64 x.next, .bool true, .slice A3 x.list.length c3] 27)
  go_enter Try.func12, Try.ntmps12
  go_wp2
  go_ret
  exact ⟨rfl, HM.out.bl⟩
theorem implRingResync_d (v : Value) (x : Ri) (rev : Int) (w : World) (h : RdC w w.heap.size (datRi x) v) (hs : SmRi x) (hr : Rng rev) : Calls Try.prog 17 #[v, .int .i64 rev] w (ResB (datRi (ringResyncT x rev)) (ringResyncB x rev) w) := by
 have HR := Lib.hid h
 obtain ⟨A3, c3, rfl, r3⟩ := aggRi h
 have R3 := Lib.hid r3
 have hl := hs.list.len
 clear h r3
 have HM := Lib.hid (Ms.start w)
 replace HM := Lib.hid (HM.out.new #[.int .i64 x.cap, .int .i64 x.next, .bool x.out, .slice A3 x.list.length c3] 27)
 have hm := HM.out.new #[.int .i64 0, .int .i64 0, .bool false, .slice none 0 0] 27
 simp only [World.size_alloc] at hm
 replace HM := Lib.hid hm
 clear hm
 go_enter Try.func17, Try.ntmps17
 go_wp2_with fail
 obtain ⟨W1, hW, hm⟩ := HM.out.name
 rw [← hW]
 replace HM := Lib.hid hm
 clear hm hW
 refine (implRingOk_d _ x _ (HM.out.arg HR.out) hs).mono ?_
 rintro e' W2 ⟨rfl, b'⟩
 replace HM := Lib.hid (HM.out.past b')
 clear b'
 cases hb : ringB x
 ·have HN := Lib.hid (ringRes_f (rev := rev) hb)
  obtain ⟨kr0, kr1, kr2, kr3⟩ := HM.out.c4 0 rfl
  obtain ⟨fr0, fr1, fr2, fr3⟩ := HM.out.f4 0 rfl
  go_wp2
  have hm := HM.out.putRow (ys := [.int .i64 0, .int .i64 0, .bool false, .slice none 0 0]) rfl
  simp only [low.putRow, Nat.zero_add, Nat.reduceAdd] at hm
  replace HM := Lib.hid hm
  clear hm
  obtain ⟨W3, hW, hm⟩ := HM.out.name
  rw [← hW]
  replace HM := Lib.hid hm
  clear hm hW
  obtain ⟨kr0, kr1, kr2, kr3⟩ := HM.out.c4 0 rfl
  rw [HN.out.1, HN.out.2]
  exact bodyPost_ret (v := .tuple #[.agg #[.int .i64 0, .int .i64 0, .bool false, .slice none 0 0], .bool false]) (by simp [results, Try.results17, go_sem, kr0, kr1, kr2, kr3]) rfl (HM.out.noRi.resB false)
 have HN := Lib.hid (ringRes_t (rev := rev) hb)
 obtain ⟨kx0, kx1, kx2, kx3⟩ := HM.out.c4 1 rfl
 go_wp2_with fail
 clear kx0 kx1 kx2 kx3
 refine (implRingNew_w x.cap rev _ hr).mono ?_
 rw [← HN.out.1, ← HN.out.2]
 rintro e' W4 ⟨v', rfl, o', b'⟩
 obtain ⟨An, cn, rfl, -⟩ := aggRi o'.read
 obtain ⟨bn, hm⟩ := HM.out.got o' b'
 clear o' b'
 replace HM := Lib.hid hm
 clear hm
 obtain ⟨kr0, kr1, kr2, kr3⟩ := HM.out.c4 1 rfl
 obtain ⟨fr0, fr1, fr2, fr3⟩ := HM.out.f4 1 rfl
 go_wp2
 have hm := HM.out.pk [1, 0, 2] (by decide) (by simp)
 simp only [low.pk, low.gz, low.gs] at hm
 replace HM := Lib.hid hm
 clear hm
 have hm := HM.out.putRow (ys := [.int .i64 (ringResyncT x rev).cap, .int .i64 (ringResyncT x rev).next, .bool (ringResyncT x rev).out, .slice An (ringResyncT x rev).list.length cn]) rfl
 simp only [low.putRow, Nat.zero_add, Nat.reduceAdd] at hm
 replace HM := Lib.hid hm
 clear hm
 obtain ⟨W5, hW, hm⟩ := HM.out.name
 rw [← hW]
 replace HM := Lib.hid hm
 clear hm hW
 obtain ⟨kr0, kr1, kr2, kr3⟩ := HM.out.c4 0 rfl
 have hm := HM.out.pk [1, 0, 2] (by decide) (by simp)
 simp only [low.pk, low.gz, low.gs] at hm
 replace HM := Lib.hid hm
 clear hm
 exact bodyPost_ret (v := .tuple #[.agg #[.int .i64 (ringResyncT x rev).cap, .int .i64 (ringResyncT x rev).next, .bool (ringResyncT x rev).out, .slice An (ringResyncT x rev).list.length cn], .bool (ringResyncB x rev)]) (by simp [results, Try.results17, go_sem, kr0, kr1, kr2, kr3]) rfl (HM.out.resB _)
theorem implCopyRing_d (v : Value) (x : Ri) (w : World) (h : RdC w w.heap.size (datRi x) v) (hs : SmRi x) : Calls Try.prog 33 #[v] w (OwnPost (datRi x) w) := by
 have HR := Lib.hid h
 obtain ⟨A3, c3, rfl, r3⟩ := aggRi h
 have R3 := Lib.hid r3
 have hl := hs.list.len
 clear h r3
 have HM := Lib.hid (Ms.start w)
 replace HM := Lib.hid (HM.out.new #[.int .i64 x.cap, .int .i64 x.next, .bool x.out, .slice A3 x.list.length c3] 27)
 have hm := HM.out.new #[.int .i64 0, .int .i64 0, .bool false, .slice none 0 0] 27
 simp only [World.size_alloc] at hm
 replace HM := Lib.hid hm
 clear hm
 go_enter Try.func33, Try.ntmps33
 go_wp2_with fail
 obtain ⟨W1, hW, hm⟩ := HM.out.name
 rw [← hW]
 replace HM := Lib.hid hm
 clear hm hW
 refine (implCopyEntries_d _ x.list _ (HM.out.arg R3.out) hs.list).mono ?_
 rintro e' W2 ⟨v', rfl, o', b'⟩
 obtain ⟨Al, cl, rfl⟩ := sliceEns o'.read
 obtain ⟨bl, hm⟩ := HM.out.got o' b'
 clear o' b'
 replace HM := Lib.hid hm
 clear hm
 obtain ⟨kx0, kx1, kx2, kx3⟩ := HM.out.c4 2 rfl
 obtain ⟨fx0, fx1, fx2, fx3⟩ := HM.out.f4 2 rfl
 obtain ⟨kr0, kr1, kr2, kr3⟩ := HM.out.c4 1 rfl
 obtain ⟨fr0, fr1, fr2, fr3⟩ := HM.out.f4 1 rfl
 obtain ⟨nxr, nrx⟩ := HM.out.ne (i := 1) (j := 2) rfl rfl (by omega)
 go_wp2
 clear kx0 kx1 kx2 kx3 fx0 fx1 fx2 fx3 kr0 kr1 kr2 kr3 fr0 fr1 fr2 fr3
 have hm := HM.out.pk [2, 0, 1] (by decide) (by simp)
 simp only [low.pk, low.gz, low.gs] at hm
 replace HM := Lib.hid hm
 clear hm
 have hm := HM.out.set (j := 3) (.slice Al x.list.length cl)
 simp only [pa, pb, pc] at hm
 replace HM := Lib.hid hm
 clear hm
 have hm := HM.out.pk [2, 0, 1] (by decide) (by simp)
 simp only [low.pk, low.gz, low.gs] at hm
 replace HM := Lib.hid hm
 clear hm
 have hm := HM.out.putRow (ys := [.int .i64 x.cap, .int .i64 x.next, .bool x.out, .slice Al x.list.length cl]) rfl
 simp only [low.putRow, Nat.zero_add, Nat.reduceAdd] at hm
 replace HM := Lib.hid hm
 clear hm
 obtain ⟨W3, hW, hm⟩ := HM.out.name
 rw [← hW]
 replace HM := Lib.hid hm
 clear hm hW
 obtain ⟨kr0, kr1, kr2, kr3⟩ := HM.out.c4 0 rfl
 have hm := HM.out.pk [2, 0, 1] (by decide) (by simp)
 simp only [low.pk, low.gz, low.gs] at hm
 replace HM := Lib.hid hm
 clear hm
 exact bodyPost_ret (v := .agg #[.int .i64 x.cap, .int .i64 x.next, .bool x.out, .slice Al x.list.length cl]) (by simp [results, Try.results33, go_sem, kr0, kr1, kr2, kr3]) rfl (show Ms w (.dt (datRi x) (.agg #[.int .i64 x.cap, .int .i64 x.next, .bool x.out, .slice Al x.list.length cl]) _ :: _) _ from ((HM.out.pk0.pkO.pkF rfl).pkF rfl).pkF rfl).post
end Go.Proofs.Ytglklgnggkenhaa.low
namespace Go.Proofs.Ytglklgnggkenhaa.low
open Go.RowKit
def bodyPostN (P : Program) (fn : Func) (R : Ending → World → Prop) : Exit → Act → World → Prop
 | .normal, a, w | .ret, a, w => Leaves P fn a.tmps R a.defers .returning w
 | .outgrown, _, w => R .outgrown w
 | _, _, _ => False
theorem calls_of_wp_dn {P : Program} {f : FuncId} {fn : Func} {c : Code} {args : Array Value} {w : World} {R : Ending → World → Prop} (hf : P.funcs[f]? = some fn) (hb : fn.body = some c)
  (h : c.wp P (bodyPostN P fn R) { tmps := args ++ Array.replicate (fn.ntmps - args.size) undef, defers := [] } w) : Calls P f args w R :=
 calls_of_wp_defers hf hb (Code.wp_mono (fun e a w hq => by cases e <;> first | exact hq | exact hq.elim) h)
end Go.Proofs.Ytglklgnggkenhaa.low
namespace Go.Proofs.Ytglklgnggkenhaa.low
open Go.RowKit Go.MuLone
set_option linter.unusedVariables false
theorem push_room (g : Nat) (v : Value) (e : En) (sv : List Value) (rm nx af : Int) (out : Bool) (s len : Nat) (w0 w : World) (T : List It) (hm : Ms w0 (.bx g (bufO 0 sv rm nx af out) :: T) w) (h : RdC w0 w0.heap.size (datEn e) v) (hs : SmEn e) (h18 : sv.length = 18) (h1 : 1 ≤ rm) (h6 : rm ≤ 6) (hn : 0 ≤ nx) (hn2 : nx ≤ 2000000000) (haf : af = nx + (len : Int)) (hlen : (len : Int) < rm) (hsl : af.tmod rm = (s : Int)) (hs6 : s < 6) :
  Calls Try.prog 35 #[.pointer (some ⟨g, 0, none⟩), v] w fun E w' => E = .returned (.tuple #[]) ∧ Below w0.heap.size w0 w' ∧ ∃ A c b, Ms w0 (.dt (encPs e.o) (.slice A e.o.length c) b :: .bx g (bufO 0 (set3 sv (s * 3) (.int .i64 e.client) (.int .i64 e.seq) (.slice A e.o.length c)) rm nx (af + 1) out) :: T) w' := by
 have HE := Lib.hid h
 obtain ⟨A2, c2, rfl, r2⟩ := aggEn h
 have H18 := Lib.hid h18
 have HM := Lib.hid hm
 clear h hm r2
 have hw1 : IntKind.i64.wrap (af - nx) = af - nx := IntWalk.i64_in _ (by omega)
 have gq : ((af - nx) == rm) = false := by rw [beq_eq_false_iff_ne]; omega
 have hw2 : IntKind.i64.wrap (af + 1) = af + 1 := IntWalk.i64_in _ (by omega)
 have hr0 : ¬ rm = 0 := by omega
 have hs6i : (s : Int) < 6 := by omega
 have HAF := Lib.hid haf
 clear haf
 replace HM := Lib.hid (HM.out.new #[.int .i64 e.client, .int .i64 e.seq, .slice A2 e.o.length c2] 32)
 obtain ⟨kb0, kb20, kb21, kb22, kb23⟩ := HM.out.bq (i := 1) rfl H18.out
 have fb := HM.out.bf (i := 1) rfl
 refine calls_of_wp_dn Try.func35 rfl ?_
 simp only [Try.ntmps35, List.size_toArray, List.length_cons, List.length_nil, Nat.reduceAdd, Nat.reduceSub, Array.replicate_succ, Array.replicate_zero, List.push_toArray, List.append_toArray, List.nil_append, List.cons_append]
 go_wp2_with (go_at_call 56; refine (lock_free muLib ⟨g, 0, none⟩ _ kb0 (fb 0)).mono ?_; rintro e' w' ⟨rfl, rfl⟩)
 clear kb0 kb20 kb21 kb22 kb23 fb
 replace HM := Lib.hid (HM.out.fr1)
 replace HM := Lib.hid (HM.out.b0 1)
 obtain ⟨W1, hW, hm⟩ := HM.out.name
 rw [← hW]
 replace HM := Lib.hid hm
 clear hm hW
 have HSL := Lib.hid (show ∀ k, k < 3 → ∃ u, sv[s * 3 + k]? = some u from fun k hk => ⟨_, List.getElem?_eq_getElem (by have := H18.out; omega)⟩)
 replace HM := Lib.hid (HM.out.drew)
 refine wp_region_held_drew (S := fun W => Ms w0 [.bx g (bufO 1 sv rm nx af out)] W) (by kernel_rfl) (HM.out.pick (ks := [0]) (by decide) rfl) (fun hS => ?_)
 generalize W1.drew = W2 at HM hS  ⊢
 refine tk (v := ?_) 0 11 rfl (fun w' hS' => ?_) hS ?_
 rotate_left
 ·go_simp; all_goals (with_reducible rfl)
 try simp only [Act.put, pa, pb, pc]
 refine tk (v := ?_) 1 12 rfl (fun w' hS' => ?_) hS ?_
 rotate_left
 ·go_simp; all_goals (with_reducible rfl)
 try simp only [Act.put, pa, pb, pc]
 refine tk (v := ?_) 2 13 rfl (fun w' hS' => ?_) hS ?_
 rotate_left
 ·go_simp; all_goals (with_reducible rfl)
 try simp only [Act.put, pa, pb, pc]
 refine tk (v := ?_) 3 14 rfl (fun w' hS' => ?_) hS ?_
 rotate_left
 ·(try dsimp only at hS'); obtain ⟨kb0, kb20, kb21, kb22, kb23⟩ := hS'.bq (i := 0) rfl H18.out; go_simp; all_goals (with_reducible rfl)
 try simp only [Act.put, pa, pb, pc]
 refine tk (v := ?_) 4 15 rfl (fun w' hS' => ?_) hS ?_
 rotate_left
 ·go_simp; all_goals (with_reducible rfl)
 try simp only [Act.put, pa, pb, pc]
 refine tk (v := ?_) 5 16 rfl (fun w' hS' => ?_) hS ?_
 rotate_left
 ·go_simp; all_goals (with_reducible rfl)
 try simp only [Act.put, pa, pb, pc]
 refine tk (v := ?_) 6 17 rfl (fun w' hS' => ?_) hS ?_
 rotate_left
 ·go_simp; all_goals (with_reducible rfl)
 try simp only [Act.put, pa, pb, pc]
 refine tk (v := ?_) 7 18 rfl (fun w' hS' => ?_) hS ?_
 rotate_left
 ·(try dsimp only at hS'); obtain ⟨kb0, kb20, kb21, kb22, kb23⟩ := hS'.bq (i := 0) rfl H18.out; go_simp; all_goals (with_reducible rfl)
 try simp only [Act.put, pa, pb, pc]
 refine tk (v := ?_) 8 19 rfl (fun w' hS' => ?_) hS ?_
 rotate_left
 ·go_simp; all_goals (with_reducible rfl)
 try simp only [Act.put, pa, pb, pc]
 refine tk (v := ?_) 9 20 rfl (fun w' hS' => ?_) hS ?_
 rotate_left
 ·go_simp; all_goals (with_reducible rfl)
 try simp only [Act.put, pa, pb, pc]
 refine tk (v := ?_) 10 21 rfl (fun w' hS' => ?_) hS ?_
 rotate_left
 ·go_simp; all_goals (with_reducible rfl)
 try simp only [Act.put, pa, pb, pc]
 refine tk (v := ?_) 11 22 rfl (fun w' hS' => ?_) hS ?_
 rotate_left
 ·go_simp; all_goals (with_reducible rfl)
 try simp only [Act.put, pa, pb, pc]
 refine tk (v := ?_) 12 23 rfl (fun w' hS' => ?_) hS ?_
 rotate_left
 ·(try dsimp only at hS'); obtain ⟨kb0, kb20, kb21, kb22, kb23⟩ := hS'.bq (i := 0) rfl H18.out; go_simp; all_goals (with_reducible rfl)
 try simp only [Act.put, pa, pb, pc]
 refine tk (v := ?_) 13 24 rfl (fun w' hS' => ?_) hS ?_
 rotate_left
 ·go_simp; all_goals (with_reducible rfl)
 try simp only [Act.put, pa, pb, pc]
 refine wpAnyH_done (by kernel_rfl) ?_ _
 clear hS
 go_wp2
 replace HM := Lib.hid (HM.out.drew)
 refine wp_region_held_drew (S := fun W => Ms w0 [.bx w.heap.size (.cells #[.int .i64 e.client, .int .i64 e.seq, .slice A2 e.o.length c2] 32 (0, 0))] W ∧ ∃ sv' : List Value, sv'.length = 18 ∧ Ms w0 [.bx g (bufO 1 sv' rm nx af out)] W) (by kernel_rfl) ⟨HM.out.pick (ks := [1]) (by decide) rfl, ⟨_, by first | exact H18.out | simp [set3, H18.out], HM.out.pick (ks := [0]) (by decide) rfl⟩⟩ (fun hS => ?_)
 generalize W2.drew = W3 at HM hS  ⊢
 refine tk (v := ?_) 0 35 rfl (fun w' hS' => ?_) hS ?_
 rotate_left
 ·go_simp; all_goals (with_reducible rfl)
 try simp only [Act.put, pa, pb, pc]
 refine tk (v := ?_) 1 36 rfl (fun w' hS' => ?_) hS ?_
 rotate_left
 ·go_simp; all_goals (with_reducible rfl)
 try simp only [Act.put, pa, pb, pc]
 refine tk (v := ?_) 2 37 rfl (fun w' hS' => ?_) hS ?_
 rotate_left
 ·go_simp; all_goals (with_reducible rfl)
 try simp only [Act.put, pa, pb, pc]
 refine tk (v := ?_) 3 38 rfl (fun w' hS' => ?_) hS ?_
 rotate_left
 ·go_simp; all_goals (with_reducible rfl)
 try simp only [Act.put, pa, pb, pc]
 refine tk (v := ?_) 4 39 rfl (fun w' hS' => ?_) hS ?_
 rotate_left
 ·(try dsimp only at hS'); obtain ⟨hS1, sv', hl', hS2⟩ := hS'; obtain ⟨p0, p1, p2⟩ := hS1.c3 0 rfl; obtain ⟨kb0, kb20, kb21, kb22, kb23⟩ := hS2.bq (i := 0) rfl hl'; go_simp; all_goals (with_reducible rfl)
 try simp only [Act.put, pa, pb, pc]
 refine tk (v := ?_) 5 40 rfl (fun w' hS' => ?_) hS ?_
 rotate_left
 ·go_simp; all_goals (with_reducible rfl)
 try simp only [Act.put, pa, pb, pc]
 refine tk (v := ?_) 6 41 rfl (fun w' hS' => ?_) hS ?_
 rotate_left
 ·go_simp; all_goals (with_reducible rfl)
 try simp only [Act.put, pa, pb, pc]
 refine tk (v := ?_) 7 42 rfl (fun w' hS' => ?_) hS ?_
 rotate_left
 ·go_simp; all_goals (with_reducible rfl)
 try simp only [Act.put, pa, pb, pc]
 refine tk (v := ?_) 8 43 rfl (fun w' hS' => ?_) hS ?_
 rotate_left
 ·(try dsimp only at hS'); obtain ⟨hS1, sv', hl', hS2⟩ := hS'; obtain ⟨p0, p1, p2⟩ := hS1.c3 0 rfl; obtain ⟨kb0, kb20, kb21, kb22, kb23⟩ := hS2.bq (i := 0) rfl hl'; go_simp; all_goals (with_reducible rfl)
 try simp only [Act.put, pa, pb, pc]
 refine tk (v := ?_) 9 44 rfl (fun w' hS' => ?_) hS ?_
 rotate_left
 ·go_simp; all_goals (with_reducible rfl)
 try simp only [Act.put, pa, pb, pc]
 refine tk (v := ?_) 10 45 rfl (fun w' hS' => ?_) hS ?_
 rotate_left
 ·(try dsimp only at hS'); obtain ⟨hS1, sv', hl', hS2⟩ := hS'; obtain ⟨p0, p1, p2⟩ := hS1.c3 0 rfl; obtain ⟨kb0, kb20, kb21, kb22, kb23⟩ := hS2.bq (i := 0) rfl hl'; go_simp; all_goals (with_reducible rfl)
 try simp only [Act.put, pa, pb, pc]
 refine tk (v := ?_) 12 47 rfl (fun w' hS' => ?_) hS ?_
 rotate_left
 ·go_simp; all_goals (with_reducible rfl)
 try simp only [Act.put, pa, pb, pc]
 refine tk (v := ?_) 13 48 rfl (fun w' hS' => ?_) hS ?_
 rotate_left
 ·go_simp; all_goals (with_reducible rfl)
 try simp only [Act.put, pa, pb, pc]
 refine r1 11 (some 46) rfl (fun K hK => ?_)
 go_simp
 refine (implCopyEntry_d _ e _ (HM.out.arg HE.out) hs).mono ?_
 rintro e' W4 ⟨v', rfl, o', b'⟩
 obtain ⟨An, cn, rfl, -⟩ := aggEn o'.read
 obtain ⟨bn, hm⟩ := HM.out.got o' b'
 clear o' b'
 obtain ⟨bm, hm⟩ := hm.unEn
 replace HM := Lib.hid hm
 clear hm
 clear hS
 refine hK.out _ _ ⟨HM.out.pick (ks := [2]) (by decide) rfl, ⟨_, by first | exact H18.out | simp [set3, H18.out], HM.out.pick (ks := [1]) (by decide) rfl⟩⟩ (fun hS => ?_)
 clear hK K
 try simp only [Act.put, pa, pb, pc]
 refine tk (v := ?_) 14 49 rfl (fun w' hS' => ?_) hS ?_
 rotate_left
 ·go_simp; all_goals (with_reducible rfl)
 try simp only [Act.put, pa, pb, pc]
 refine r1 15 none rfl (fun K hK => ?_)
 replace HM := Lib.hid (HM.out.fr2)
 replace HM := Lib.hid (HM.out.fr1)
 replace HM := Lib.hid (HM.out.fr2)
 obtain ⟨u0, hu0⟩ := HSL.out 0 (by omega)
 obtain ⟨u1, hu1⟩ := HSL.out 1 (by omega)
 obtain ⟨u2, hu2⟩ := HSL.out 2 (by omega)
 have ks0 : W4.cell? ⟨g, 2 + s * 3, none⟩ = some u0 := HM.out.bs (i := 0) rfl hu0
 have ks1 : W4.cell? ⟨g, 2 + s * 3 + 1, none⟩ = some u1 := HM.out.bs (i := 0) rfl hu1
 have ks2 : W4.cell? ⟨g, 2 + s * 3 + 2, none⟩ = some u2 := HM.out.bs (i := 0) rfl hu2
 have fb := HM.out.bf (i := 0) rfl
 clear hu0 hu1 hu2
 go_simp
 clear hS ks0 ks1 ks2 fb
 replace HM := Lib.hid (HM.out.bslot (s := s * 3) (by have := H18.out; omega) (.int .i64 e.client) (.int .i64 e.seq) (.slice An e.o.length cn))
 obtain ⟨W5, hW, hm⟩ := HM.out.name
 rw [← hW]
 replace HM := Lib.hid hm
 clear hm hW
 refine hK.out _ _ ⟨HM.out.pick (ks := [2]) (by decide) rfl, ⟨_, by first | exact H18.out | simp [set3, H18.out], HM.out.pick (ks := [0]) (by decide) rfl⟩⟩ (fun hS => ?_)
 clear hK K
 try simp only [Act.put]
 refine wpAnyH_done (by kernel_rfl) ?_ _
 clear hS
 have H18b := Lib.hid (show (set3 sv (s * 3) (.int .i64 e.client) (.int .i64 e.seq) (.slice An e.o.length cn)).length = 18 by simp [set3, H18.out])
 obtain ⟨kb0, kb20, kb21, kb22, kb23⟩ := HM.out.bq (i := 0) rfl H18b.out
 have fb := HM.out.bf (i := 0) rfl
 go_wp2
 clear kb0 kb20 kb21 kb22 kb23 fb
 replace HM := Lib.hid (HM.out.fr2)
 replace HM := Lib.hid (HM.out.fr2)
 replace HM := Lib.hid (HM.out.fr2)
 replace HM := Lib.hid (HM.out.b22 H18b.out (af + 1))
 obtain ⟨W6, hW, hm⟩ := HM.out.name
 rw [← hW]
 replace HM := Lib.hid hm
 clear hm hW
 refine leaves_cons (f := 57) (args := #[.pointer (some ⟨g, 0, none⟩)]) (by simp) (by simp [go_sem]) ?_
 obtain ⟨kb0, -, -, -, -⟩ := HM.out.bq (i := 0) rfl H18b.out
 refine (unlock_deferred muLib ⟨g, 0, none⟩ .returning _ kb0 (HM.out.bf (i := 0) rfl 0)).mono ?_
 rintro e' u' w'' ⟨rfl, rfl, rfl⟩
 replace HM := Lib.hid (HM.out.fr2)
 replace HM := Lib.hid (HM.out.fr2)
 replace HM := Lib.hid (HM.out.fr2)
 replace HM := Lib.hid (HM.out.b0 0)
 replace HM := Lib.hid (HM.out.fr2)
 replace HM := Lib.hid (HM.out.fr1)
 replace HM := Lib.hid (HM.out.fr2)
 exact ⟨_, results_none rfl _ _ _, rfl, HM.out.bl, _, _, _, HM.out.fr2.tail⟩
theorem push_full (g : Nat) (v : Value) (e : En) (sv : List Value) (rm nx af : Int) (out : Bool) (len : Nat) (w0 w : World) (T : List It) (hm : Ms w0 (.bx g (bufO 0 sv rm nx af out) :: T) w) (h : RdC w0 w0.heap.size (datEn e) v) (hs : SmEn e) (h18 : sv.length = 18) (hn : 0 ≤ nx) (hn2 : nx ≤ 2000000000) (haf : af = nx + (len : Int)) (hlen : (len : Int) = rm) (h6 : rm ≤ 6) :
  Calls Try.prog 35 #[.pointer (some ⟨g, 0, none⟩), v] w fun E w' => E = .returned (.tuple #[]) ∧ Below w0.heap.size w0 w' ∧ Ms w0 (.bx g (bufO 0 sv rm nx nx true) :: T) w' := by
 have HE := Lib.hid h
 obtain ⟨A2, c2, rfl, r2⟩ := aggEn h
 have H18 := Lib.hid h18
 have HM := Lib.hid hm
 clear h hm r2
 have hw1 : IntKind.i64.wrap (af - nx) = af - nx := IntWalk.i64_in _ (by omega)
 have gq : ((af - nx) == rm) = true := by rw [beq_iff_eq]; omega
 have HAF := Lib.hid haf
 clear haf
 replace HM := Lib.hid (HM.out.new #[.int .i64 e.client, .int .i64 e.seq, .slice A2 e.o.length c2] 32)
 obtain ⟨kb0, kb20, kb21, kb22, kb23⟩ := HM.out.bq (i := 1) rfl H18.out
 have fb := HM.out.bf (i := 1) rfl
 refine calls_of_wp_dn Try.func35 rfl ?_
 simp only [Try.ntmps35, List.size_toArray, List.length_cons, List.length_nil, Nat.reduceAdd, Nat.reduceSub, Array.replicate_succ, Array.replicate_zero, List.push_toArray, List.append_toArray, List.nil_append, List.cons_append]
 go_wp2_with (go_at_call 56; refine (lock_free muLib ⟨g, 0, none⟩ _ kb0 (fb 0)).mono ?_; rintro e' w' ⟨rfl, rfl⟩)
 clear kb0 kb20 kb21 kb22 kb23 fb
 replace HM := Lib.hid (HM.out.fr1)
 replace HM := Lib.hid (HM.out.b0 1)
 obtain ⟨W1, hW, hm⟩ := HM.out.name
 rw [← hW]
 replace HM := Lib.hid hm
 clear hm hW
 replace HM := Lib.hid (HM.out.drew)
 refine wp_region_held_drew (S := fun W => Ms w0 [.bx g (bufO 1 sv rm nx af out)] W) (by kernel_rfl) (HM.out.pick (ks := [0]) (by decide) rfl) (fun hS => ?_)
 generalize W1.drew = W2 at HM hS  ⊢
 refine tk (v := ?_) 0 11 rfl (fun w' hS' => ?_) hS ?_
 rotate_left
 ·go_simp; all_goals (with_reducible rfl)
 try simp only [Act.put, pa, pb, pc]
 refine tk (v := ?_) 1 12 rfl (fun w' hS' => ?_) hS ?_
 rotate_left
 ·go_simp; all_goals (with_reducible rfl)
 try simp only [Act.put, pa, pb, pc]
 refine tk (v := ?_) 2 13 rfl (fun w' hS' => ?_) hS ?_
 rotate_left
 ·go_simp; all_goals (with_reducible rfl)
 try simp only [Act.put, pa, pb, pc]
 refine tk (v := ?_) 3 14 rfl (fun w' hS' => ?_) hS ?_
 rotate_left
 ·(try dsimp only at hS'); obtain ⟨kb0, kb20, kb21, kb22, kb23⟩ := hS'.bq (i := 0) rfl H18.out; go_simp; all_goals (with_reducible rfl)
 try simp only [Act.put, pa, pb, pc]
 refine tk (v := ?_) 4 15 rfl (fun w' hS' => ?_) hS ?_
 rotate_left
 ·go_simp; all_goals (with_reducible rfl)
 try simp only [Act.put, pa, pb, pc]
 refine tk (v := ?_) 5 16 rfl (fun w' hS' => ?_) hS ?_
 rotate_left
 ·go_simp; all_goals (with_reducible rfl)
 try simp only [Act.put, pa, pb, pc]
 refine tk (v := ?_) 6 17 rfl (fun w' hS' => ?_) hS ?_
 rotate_left
 ·go_simp; all_goals (with_reducible rfl)
 try simp only [Act.put, pa, pb, pc]
 refine tk (v := ?_) 7 18 rfl (fun w' hS' => ?_) hS ?_
 rotate_left
 ·(try dsimp only at hS'); obtain ⟨kb0, kb20, kb21, kb22, kb23⟩ := hS'.bq (i := 0) rfl H18.out; go_simp; all_goals (with_reducible rfl)
 try simp only [Act.put, pa, pb, pc]
 refine tk (v := ?_) 8 19 rfl (fun w' hS' => ?_) hS ?_
 rotate_left
 ·go_simp; all_goals (with_reducible rfl)
 try simp only [Act.put, pa, pb, pc]
 refine tk (v := ?_) 9 20 rfl (fun w' hS' => ?_) hS ?_
 rotate_left
 ·go_simp; all_goals (with_reducible rfl)
 try simp only [Act.put, pa, pb, pc]
 refine tk (v := ?_) 10 21 rfl (fun w' hS' => ?_) hS ?_
 rotate_left
 ·go_simp; all_goals (with_reducible rfl)
 try simp only [Act.put, pa, pb, pc]
 refine tk (v := ?_) 11 22 rfl (fun w' hS' => ?_) hS ?_
 rotate_left
 ·go_simp; all_goals (with_reducible rfl)
 try simp only [Act.put, pa, pb, pc]
 refine tk (v := ?_) 12 23 rfl (fun w' hS' => ?_) hS ?_
 rotate_left
 ·(try dsimp only at hS'); obtain ⟨kb0, kb20, kb21, kb22, kb23⟩ := hS'.bq (i := 0) rfl H18.out; go_simp; all_goals (with_reducible rfl)
 try simp only [Act.put, pa, pb, pc]
 refine tk (v := ?_) 13 24 rfl (fun w' hS' => ?_) hS ?_
 rotate_left
 ·go_simp; all_goals (with_reducible rfl)
 try simp only [Act.put, pa, pb, pc]
 refine wpAnyH_done (by kernel_rfl) ?_ _
 clear hS
 obtain ⟨kb0, kb20, kb21, kb22, kb23⟩ := HM.out.bq (i := 0) rfl H18.out
 have fb := HM.out.bf (i := 0) rfl
 go_wp2
 clear kb0 kb20 kb21 kb22 kb23 fb
 replace HM := Lib.hid (HM.out.fr1)
 replace HM := Lib.hid (HM.out.fr1)
 replace HM := Lib.hid (HM.out.b23 H18.out true)
 replace HM := Lib.hid (HM.out.fr1)
 replace HM := Lib.hid (HM.out.fr1)
 replace HM := Lib.hid (HM.out.b22 H18.out nx)
 obtain ⟨W3, hW, hm⟩ := HM.out.name
 rw [← hW]
 replace HM := Lib.hid hm
 clear hm hW
 refine leaves_cons (f := 57) (args := #[.pointer (some ⟨g, 0, none⟩)]) (by simp) (by simp [go_sem]) ?_
 obtain ⟨kb0, -, -, -, -⟩ := HM.out.bq (i := 0) rfl H18.out
 refine (unlock_deferred muLib ⟨g, 0, none⟩ .returning _ kb0 (HM.out.bf (i := 0) rfl 0)).mono ?_
 rintro e' u' w'' ⟨rfl, rfl, rfl⟩
 replace HM := Lib.hid (HM.out.fr1)
 replace HM := Lib.hid (HM.out.fr1)
 replace HM := Lib.hid (HM.out.b0 0)
 replace HM := Lib.hid (HM.out.fr1)
 exact ⟨_, results_none rfl _ _ _, rfl, HM.out.bl, HM.out.tail⟩
theorem drop_one {α : Type} {l : List α} {j : Nat} {x : α} (h : l[j]? = some x) : l.drop j = x :: l.drop (j + 1) := by
 obtain ⟨hj, e⟩ := List.getElem?_eq_some_iff.1 h
 rw [List.drop_eq_getElem_cons hj, e]
theorem ens_snoc {qs : List QE} {j : Nat} {e : En} {v : Value} {b : List Nat} (h : qs[j]? = some ⟨e, v, b⟩) : ((ens qs).take (j + 1)).map encEn = ((ens qs).take j).map encEn ++ [[.int e.client, .int e.seq, encPs e.o]] := by
 have h2 : (ens qs)[j]? = some e := by unfold ens; rw [List.getElem?_map, h]; rfl
 rw [List.take_add_one, h2]
 simp [encEn]
theorem first_any (g m : Nat) (n : Int) (sv : List Value) (rm nx : Nat) (lk af : Int) (out : Bool) (qs : List QE) (w0 w : World) (L : List It) (hm : Ms w0 (.bx g (bufO lk sv rm nx af out) :: (qs.map QE.it ++ L)) w) (hsl : Slots sv rm nx qs) (haf : af = (nx : Int) + (qs.length : Int)) (h0 : 0 ≤ n) (hmi : (m : Int) = min n (qs.length : Int)) (hnx : nx ≤ 2000000000) :
  Calls Try.prog 59 #[.pointer (some ⟨g, 0, none⟩), .int .i64 n] w fun E w' => ∃ g' b, E = .returned (.slice (some ⟨g', 0, none⟩) m m) ∧ Below w0.heap.size w0 w' ∧ Ms w0 (.dt (encEns ((ens qs).take m)) (.slice (some ⟨g', 0, none⟩) m m) b :: .bx g (bufO lk sv rm nx af out) :: ((qs.drop m).map QE.it ++ L)) w' := by
 have HM := Lib.hid hm
 have H18 := Lib.hid hsl.len
 have HSL := Lib.hid hsl
 have HAF := Lib.hid haf
 obtain ⟨hr1, hr6, hfit⟩ := And.intro hsl.r1 (And.intro hsl.r6 hsl.fit)
 have hw1 : IntKind.i64.wrap (af - (nx : Int)) = (qs.length : Int) := by rw [haf]; exact (IntWalk.i64_in _ (by omega)).trans (by omega)
 have hmi1 : (if (qs.length : Int) < n then (qs.length : Int) else n) = (m : Int) := by rw [hmi]; split <;> omega
 have hmi2 : min n (qs.length : Int) = (m : Int) := hmi.symm
 have hmi3 : min (qs.length : Int) n = (m : Int) := by rw [hmi]; omega
 have hmq : m ≤ qs.length := by omega
 clear hm hsl haf hmi h0
 go_enter Try.func59, Try.ntmps59
 go_wp2
 replace HM := Lib.hid (HM.out.drew)
 refine wp_region_held_drew (S := fun W => Ms w0 [.bx g (bufO lk sv rm nx af out)] W) (by kernel_rfl) (HM.out.pick (ks := [0]) (by decide) rfl) (fun hS => ?_)
 generalize w.drew = W1 at HM hS  ⊢
 refine tk (v := ?_) 0 7 rfl (fun w' hS' => ?_) hS ?_
 rotate_left
 ·go_simp; all_goals (with_reducible rfl)
 try simp only [Act.put, pa, pb, pc]
 refine tk (v := ?_) 1 8 rfl (fun w' hS' => ?_) hS ?_
 rotate_left
 ·go_simp; all_goals (with_reducible rfl)
 try simp only [Act.put, pa, pb, pc]
 refine tk (v := ?_) 2 9 rfl (fun w' hS' => ?_) hS ?_
 rotate_left
 ·go_simp; all_goals (with_reducible rfl)
 try simp only [Act.put, pa, pb, pc]
 refine tk (v := ?_) 3 10 rfl (fun w' hS' => ?_) hS ?_
 rotate_left
 ·go_simp; all_goals (with_reducible rfl)
 try simp only [Act.put, pa, pb, pc]
 refine tk (v := ?_) 4 11 rfl (fun w' hS' => ?_) hS ?_
 rotate_left
 ·(try dsimp only at hS'); obtain ⟨kb0, kb20, kb21, kb22, kb23⟩ := hS'.bq (i := 0) rfl H18.out; go_simp; all_goals (with_reducible rfl)
 try simp only [Act.put, pa, pb, pc]
 refine tk (v := ?_) 5 12 rfl (fun w' hS' => ?_) hS ?_
 rotate_left
 ·go_simp; all_goals (with_reducible rfl)
 try simp only [Act.put, pa, pb, pc]
 refine tk (v := ?_) 6 13 rfl (fun w' hS' => ?_) hS ?_
 rotate_left
 ·go_simp; all_goals (with_reducible rfl)
 try simp only [Act.put, pa, pb, pc]
 refine tk (v := ?_) 7 14 rfl (fun w' hS' => ?_) hS ?_
 rotate_left
 ·go_simp; all_goals (with_reducible rfl)
 try simp only [Act.put, pa, pb, pc]
 refine tk (v := ?_) 8 15 rfl (fun w' hS' => ?_) hS ?_
 rotate_left
 ·(try dsimp only at hS'); obtain ⟨kb0, kb20, kb21, kb22, kb23⟩ := hS'.bq (i := 0) rfl H18.out; go_simp; all_goals (with_reducible rfl)
 try simp only [Act.put, pa, pb, pc]
 refine tk (v := ?_) 9 16 rfl (fun w' hS' => ?_) hS ?_
 rotate_left
 ·go_simp; all_goals (with_reducible rfl)
 try simp only [Act.put, pa, pb, pc]
 refine tk (v := ?_) 10 17 rfl (fun w' hS' => ?_) hS ?_
 rotate_left
 ·go_simp; all_goals (with_reducible rfl)
 try simp only [Act.put, pa, pb, pc]
 refine r1 11 (some 18) rfl (fun K hK => ?_)
 refine step_make ?_ (.tmp 17) (.tmp 17) 23 ?_ eltEn HM.out m ?_ ?_ (by omega) ?_
 ·rfl
 ·rfl
 ·rfl
 ·rfl
 intro W2 hm
 replace HM := Lib.hid hm
 clear hm
 clear hS
 refine hK.out _ _ (HM.out.pick (ks := [1]) (by decide) rfl) (fun hS => ?_)
 clear hK K
 try simp only [Act.put, pa, pb, pc]
 refine tk (v := ?_) 12 5 rfl (fun w' hS' => ?_) hS ?_
 rotate_left
 ·go_simp; all_goals (with_reducible rfl)
 try simp only [Act.put, pa, pb, pc]
 refine wpAnyH_done (by kernel_rfl) ?_ _
 clear hS
 clear hw1 hmi1 hmi2 hmi3
 go_wp2
 generalize W1.heap.size = gl at HM ⊢
 go_loopw [21] (fun i wr => ∃ (j : Nat) (bs : List Nat), j ≤ m ∧ i = .int .i64 (j : Int) ∧ Ms w0 (.dt (.rows 32 3 (((ens qs).take j).map encEn)) (.slice (some ⟨gl, 0, none⟩) j m) bs :: .bx g (bufO lk sv rm nx af out) :: ((qs.drop j).map QE.it ++ L)) wr) (fun i _ => m - (intOf i).toNat)
 case atStart => exact ⟨0, _, Nat.zero_le _, rfl, HM.out⟩
 case round =>
  obtain ⟨j, bs, hj, rfl, hm⟩ := hrel
  clear HM
  by_cases hlt : j < m
  ·obtain ⟨⟨e, v, bq⟩, hq⟩ : ∃ q, qs[j]? = some q := ⟨_, List.getElem?_eq_getElem (by omega)⟩
   have hsv := HSL.out.at_ j _ hq
   have HT := Lib.hid (ens_snoc hq)
   rw [drop_one hq] at hm
   have HM := Lib.hid (show Ms w0 (.dt (.rows 32 3 (((ens qs).take j).map encEn)) (.slice (some ⟨gl, 0, none⟩) j m) bs :: .bx g (bufO lk sv rm nx af out) :: .dt (encPs e.o) v bq :: ((qs.drop (j + 1)).map QE.it ++ L)) wr from hm)
   clear hm hq
   obtain ⟨A5, c5, rfl⟩ := sliceP (HM.out.read (i := 2) rfl)
   obtain ⟨s, hs⟩ : ∃ s, (nx + j) % rm = s := ⟨_, rfl⟩
   rw [hs] at hsv
   have hs6 := slot_lt (n := nx + j) hr1 hr6
   rw [hs] at hs6
   have k0 : sv[s * 3]? = some (.int .i64 e.client) := hsv 0 _ rfl
   have k1 : sv[s * 3 + 1]? = some (.int .i64 e.seq) := hsv 1 _ rfl
   have k2 : sv[s * 3 + 2]? = some (.slice A5 e.o.length c5) := hsv 2 _ rfl
   have HK := Lib.hid (And.intro k0 (And.intro k1 k2))
   have hmod : ((nx : Int) + (j : Int)).tmod (rm : Int) = (s : Int) := by rw [← hs]; rfl
   have hw : IntKind.i64.wrap ((nx : Int) + (j : Int)) = (nx : Int) + (j : Int) := IntWalk.i64_in _ (by omega)
   have hr0 : ¬ (rm : Int) = 0 := by omega
   have hr00 : ¬ rm = 0 := by omega
   have hsi : (s : Int) < 6 := by omega
   have hsn : s < 6 := by omega
   clear hsv k0 k1 k2 hs
   have HLN := Lib.hid (show j = (((ens qs).take j).map encEn).length by unfold ens; simp; omega)
   go_wp2
   replace HM := Lib.hid (HM.out.drew)
   refine wp_region_held_drew (S := fun W => Ms w0 [.bx g (bufO lk sv rm nx af out)] W) (by kernel_rfl) (HM.out.pick (ks := [1]) (by decide) rfl) (fun hS => ?_)
   generalize wr.drew = W3 at HM hS  ⊢
   refine tk (v := ?_) 0 24 rfl (fun w' hS' => ?_) hS ?_
   rotate_left
   ·go_simp; all_goals (with_reducible rfl)
   try simp only [Act.put, pa, pb, pc]
   refine tk (v := ?_) 1 25 rfl (fun w' hS' => ?_) hS ?_
   rotate_left
   ·go_simp; all_goals (with_reducible rfl)
   try simp only [Act.put, pa, pb, pc]
   refine tk (v := ?_) 2 26 rfl (fun w' hS' => ?_) hS ?_
   rotate_left
   ·go_simp; all_goals (with_reducible rfl)
   try simp only [Act.put, pa, pb, pc]
   refine tk (v := ?_) 3 27 rfl (fun w' hS' => ?_) hS ?_
   rotate_left
   ·go_simp; all_goals (with_reducible rfl)
   try simp only [Act.put, pa, pb, pc]
   refine tk (v := ?_) 4 28 rfl (fun w' hS' => ?_) hS ?_
   rotate_left
   ·go_simp; all_goals (with_reducible rfl)
   try simp only [Act.put, pa, pb, pc]
   refine tk (v := ?_) 5 29 rfl (fun w' hS' => ?_) hS ?_
   rotate_left
   ·go_simp; all_goals (with_reducible rfl)
   try simp only [Act.put, pa, pb, pc]
   refine tk (v := ?_) 6 30 rfl (fun w' hS' => ?_) hS ?_
   rotate_left
   ·(try dsimp only at hS'); obtain ⟨kb0, kb20, kb21, kb22, kb23⟩ := hS'.bq (i := 0) rfl H18.out; have ks0 : w'.cell? ⟨g, 2 + s * 3, none⟩ = some (.int .i64 e.client) := hS'.bs (i := 0) rfl HK.out.1; have ks1 : w'.cell? ⟨g, 2 + s * 3 + 1, none⟩ = some (.int .i64 e.seq) := hS'.bs (i := 0) rfl HK.out.2.1; have ks2 : w'.cell? ⟨g, 2 + s * 3 + 2, none⟩ = some (.slice A5 e.o.length c5) := hS'.bs (i := 0) rfl HK.out.2.2; go_simp; all_goals (with_reducible rfl)
   try simp only [Act.put, pa, pb, pc]
   refine tk (v := ?_) 7 31 rfl (fun w' hS' => ?_) hS ?_
   rotate_left
   ·go_simp; all_goals (with_reducible rfl)
   try simp only [Act.put, pa, pb, pc]
   refine tk (v := ?_) 8 32 rfl (fun w' hS' => ?_) hS ?_
   rotate_left
   ·go_simp; all_goals (with_reducible rfl)
   try simp only [Act.put, pa, pb, pc]
   refine tk (v := ?_) 9 33 rfl (fun w' hS' => ?_) hS ?_
   rotate_left
   ·go_simp; all_goals (with_reducible rfl)
   try simp only [Act.put, pa, pb, pc]
   refine tk (v := ?_) 10 34 rfl (fun w' hS' => ?_) hS ?_
   rotate_left
   ·go_simp; all_goals (with_reducible rfl)
   try simp only [Act.put, pa, pb, pc]
   refine tk (v := ?_) 11 35 rfl (fun w' hS' => ?_) hS ?_
   rotate_left
   ·go_simp; all_goals (with_reducible rfl)
   try simp only [Act.put, pa, pb, pc]
   refine tk (v := ?_) 12 36 rfl (fun w' hS' => ?_) hS ?_
   rotate_left
   ·(try dsimp only at hS'); obtain ⟨kb0, kb20, kb21, kb22, kb23⟩ := hS'.bq (i := 0) rfl H18.out; have ks0 : w'.cell? ⟨g, 2 + s * 3, none⟩ = some (.int .i64 e.client) := hS'.bs (i := 0) rfl HK.out.1; have ks1 : w'.cell? ⟨g, 2 + s * 3 + 1, none⟩ = some (.int .i64 e.seq) := hS'.bs (i := 0) rfl HK.out.2.1; have ks2 : w'.cell? ⟨g, 2 + s * 3 + 2, none⟩ = some (.slice A5 e.o.length c5) := hS'.bs (i := 0) rfl HK.out.2.2; go_simp; all_goals (with_reducible rfl)
   try simp only [Act.put, pa, pb, pc]
   refine tk (v := ?_) 13 37 rfl (fun w' hS' => ?_) hS ?_
   rotate_left
   ·go_simp; all_goals (with_reducible rfl)
   try simp only [Act.put, pa, pb, pc]
   refine tk (v := ?_) 14 38 rfl (fun w' hS' => ?_) hS ?_
   rotate_left
   ·go_simp; all_goals (with_reducible rfl)
   try simp only [Act.put, pa, pb, pc]
   refine tk (v := ?_) 15 39 rfl (fun w' hS' => ?_) hS ?_
   rotate_left
   ·go_simp; all_goals (with_reducible rfl)
   try simp only [Act.put, pa, pb, pc]
   refine tk (v := ?_) 16 40 rfl (fun w' hS' => ?_) hS ?_
   rotate_left
   ·go_simp; all_goals (with_reducible rfl)
   try simp only [Act.put, pa, pb, pc]
   refine tk (v := ?_) 17 41 rfl (fun w' hS' => ?_) hS ?_
   rotate_left
   ·(try dsimp only at hS'); obtain ⟨kb0, kb20, kb21, kb22, kb23⟩ := hS'.bq (i := 0) rfl H18.out; have ks0 : w'.cell? ⟨g, 2 + s * 3, none⟩ = some (.int .i64 e.client) := hS'.bs (i := 0) rfl HK.out.1; have ks1 : w'.cell? ⟨g, 2 + s * 3 + 1, none⟩ = some (.int .i64 e.seq) := hS'.bs (i := 0) rfl HK.out.2.1; have ks2 : w'.cell? ⟨g, 2 + s * 3 + 2, none⟩ = some (.slice A5 e.o.length c5) := hS'.bs (i := 0) rfl HK.out.2.2; go_simp; all_goals (with_reducible rfl)
   try simp only [Act.put, pa, pb, pc]
   refine tk (v := ?_) 18 42 rfl (fun w' hS' => ?_) hS ?_
   rotate_left
   ·go_simp; all_goals (with_reducible rfl)
   try simp only [Act.put, pa, pb, pc]
   refine r1 19 none rfl (fun K hK => ?_)
   replace HM := Lib.hid (HM.out.fr2)
   replace HM := Lib.hid (HM.out.fr2)
   replace HM := Lib.hid (HM.out.fr2)
   obtain ⟨⟨y0, hy0⟩, hz0⟩ := HM.out.hasC (o := j * 3) (by omega)
   obtain ⟨⟨y1, hy1⟩, hz1⟩ := HM.out.hasC (o := j * 3 + 1) (by omega)
   obtain ⟨⟨y2, hy2⟩, hz2⟩ := HM.out.hasC (o := j * 3 + 2) (by omega)
   go_simp
   clear hS hy0 hy1 hy2 hz0 hz1 hz2
   replace HM := Lib.hid (HM.out.fr1)
   replace HM := Lib.hid (HM.out.fr2)
   replace HM := Lib.hid (HM.out.fr2)
   obtain ⟨b8, hm⟩ := HM.out.fillA e.client e.seq HLN.out hlt
   rw [← HT.out] at hm
   replace HM := Lib.hid hm
   clear hm
   obtain ⟨W4, hW, hm⟩ := HM.out.name
   rw [← hW]
   replace HM := Lib.hid hm
   clear hm hW
   refine hK.out _ _ (HM.out.pick (ks := [1]) (by decide) rfl) (fun hS => ?_)
   clear hK K
   try simp only [Act.put]
   refine wpAnyH_done (by kernel_rfl) ?_ _
   clear hS
   go_wp2
   go_roundw
   replace HM := Lib.hid (HM.out.fr1)
   replace HM := Lib.hid (HM.out.fr1)
   case rel => exact ⟨j + 1, b8, by omega, by go_num, HM.out⟩
   case measure => simp [intOf]; omega
  ·obtain rfl : j = m := by omega
   go_wp2
   go_ret
   exact ⟨gl, bs, rfl, hm.bl, hm⟩
theorem ens_len (qs : List QE) : (ens qs).length = qs.length := by unfold ens; simp
theorem Ms.pkRi2 {w0 W : World} {L : List It} {cap next : Int} {out : Bool} {l : List En} {v : Value} {b : List Nat} (h : Ms w0 (.dt (encEns l) v b :: L) W) : Ms w0 (.dt (datRi ⟨cap, next, out, l⟩) (.agg #[.int .i64 cap, .int .i64 next, .bool out, v]) (b ++ []) :: L) W := ((h.pk0.pkO.pkF rfl).pkF rfl).pkF rfl
theorem pull_any (g m : Nat) (n : Int) (sv : List Value) (rm nx : Nat) (af : Int) (out : Bool) (qs : List QE) (w0 w : World) (L : List It) (hm : Ms w0 (.bx g (bufO 0 sv rm nx af out) :: (qs.map QE.it ++ L)) w) (hsl : Slots sv rm nx qs) (haf : af = (nx : Int) + (qs.length : Int)) (h0 : 0 ≤ n) (hmi : (m : Int) = min n (qs.length : Int)) (hnx : nx ≤ 2000000000) :
  Calls Try.prog 38 #[.pointer (some ⟨g, 0, none⟩), .int .i64 n] w fun E w' => ∃ g' b, E = .returned (.slice (some ⟨g', 0, none⟩) m m) ∧ Below w0.heap.size w0 w' ∧ Ms w0 (.dt (encEns ((ens qs).take m)) (.slice (some ⟨g', 0, none⟩) m m) b :: .bx g (bufO 0 sv rm ((nx : Int) + (m : Int)) af out) :: ((qs.drop m).map QE.it ++ L)) w' := by
 have HM := Lib.hid hm
 have H18 := Lib.hid hsl.len
 have HSL := Lib.hid hsl
 have HAF := Lib.hid haf
 have hw1 : IntKind.i64.wrap ((nx : Int) + (m : Int)) = (nx : Int) + (m : Int) := IntWalk.i64_in _ (by have := hsl.fit; have := hsl.r6; omega)
 have HMI := Lib.hid hmi
 have HFIT := Lib.hid hsl.fit
 have HR6 := Lib.hid hsl.r6
 clear hm hsl haf hmi
 obtain ⟨kb0, kb20, kb21, kb22, kb23⟩ := HM.out.bq (i := 0) rfl H18.out
 have fb := HM.out.bf (i := 0) rfl
 refine calls_of_wp_dn Try.func38 rfl ?_
 simp only [Try.ntmps38, List.size_toArray, List.length_cons, List.length_nil, Nat.reduceAdd, Nat.reduceSub, Array.replicate_succ, Array.replicate_zero, List.push_toArray, List.append_toArray, List.nil_append, List.cons_append]
 go_wp2_with (go_at_call 56; refine (lock_free muLib ⟨g, 0, none⟩ _ kb0 (fb 0)).mono ?_; rintro e' w' ⟨rfl, rfl⟩)
 clear kb0 kb20 kb21 kb22 kb23 fb
 replace HM := Lib.hid (HM.out.b0 1)
 obtain ⟨W1, hW, hm⟩ := HM.out.name
 rw [← hW]
 replace HM := Lib.hid hm
 clear hm hW
 refine (first_any g m n sv rm nx 1 af out qs w0 _ L HM.out HSL.out HAF.out h0 HMI.out hnx).mono ?_
 rintro e' W2 ⟨gl, bl, rfl, -, hm⟩
 replace HM := Lib.hid hm
 clear hm
 obtain ⟨kb0, kb20, kb21, kb22, kb23⟩ := HM.out.bq (i := 1) rfl H18.out
 have fb := HM.out.bf (i := 1) rfl
 go_wp2
 clear kb0 kb20 kb21 kb22 kb23 fb
 replace HM := Lib.hid (HM.out.fr1)
 replace HM := Lib.hid (HM.out.b21 H18.out ((nx : Int) + (m : Int)))
 obtain ⟨W3, hW, hm⟩ := HM.out.name
 rw [← hW]
 replace HM := Lib.hid hm
 clear hm hW
 refine leaves_cons (f := 57) (args := #[.pointer (some ⟨g, 0, none⟩)]) (by simp) (by simp [go_sem]) ?_
 obtain ⟨kb0, -, -, -, -⟩ := HM.out.bq (i := 0) rfl H18.out
 refine (unlock_deferred muLib ⟨g, 0, none⟩ .returning _ kb0 (HM.out.bf (i := 0) rfl 0)).mono ?_
 rintro e' u' w'' ⟨rfl, rfl, rfl⟩
 replace HM := Lib.hid (HM.out.fr1)
 replace HM := Lib.hid (HM.out.fr1)
 replace HM := Lib.hid (HM.out.b0 0)
 replace HM := Lib.hid (HM.out.fr1)
 exact ⟨_, results_tmp rfl _ _ _, gl, bl, rfl, HM.out.bl, HM.out⟩
theorem ring_any (g : Nat) (sv : List Value) (rm nx : Nat) (af : Int) (out : Bool) (qs : List QE) (w0 w : World) (L : List It) (hm : Ms w0 (.bx g (bufO 0 sv rm nx af out) :: (qs.map QE.it ++ L)) w) (hsl : Slots sv rm nx qs) (haf : af = (nx : Int) + (qs.length : Int)) (hnx : nx ≤ 2000000000) :
  Calls Try.prog 36 #[.pointer (some ⟨g, 0, none⟩)] w fun E w' => ∃ l v b, E = .returned v ∧ l = ens qs ∧ Below w0.heap.size w0 w' ∧ Ms w0 (.dt (datRi ⟨(rm : Int), (nx : Int), out, l⟩) v b :: .bx g (bufO 0 sv rm nx af out) :: L) w' := by
 have HM := Lib.hid hm
 have H18 := Lib.hid hsl.len
 have HSL := Lib.hid hsl
 have HAF := Lib.hid haf
 have HFIT := Lib.hid hsl.fit
 have HR6 := Lib.hid hsl.r6
 clear hm hsl haf
 replace HM := Lib.hid (HM.out.new #[.int .i64 0, .int .i64 0, .bool false, .slice none 0 0] 27)
 obtain ⟨kb0, kb20, kb21, kb22, kb23⟩ := HM.out.bq (i := 1) rfl H18.out
 have fb := HM.out.bf (i := 1) rfl
 refine calls_of_wp_dn Try.func36 rfl ?_
 simp only [Try.ntmps36, List.size_toArray, List.length_cons, List.length_nil, Nat.reduceAdd, Nat.reduceSub, Array.replicate_succ, Array.replicate_zero, List.push_toArray, List.append_toArray, List.nil_append, List.cons_append]
 go_wp2_with (go_at_call 56; refine (lock_free muLib ⟨g, 0, none⟩ _ kb0 (fb 0)).mono ?_; rintro e' w' ⟨rfl, rfl⟩)
 clear kb0 kb20 kb21 kb22 kb23 fb
 replace HM := Lib.hid (HM.out.fr1)
 replace HM := Lib.hid (HM.out.b0 1)
 obtain ⟨W1, hW, hm⟩ := HM.out.name
 rw [← hW]
 replace HM := Lib.hid hm
 clear hm hW
 replace HM := Lib.hid (HM.out.drew)
 refine wp_region_held_drew (S := fun W => Ms w0 [.bx g (bufO 1 sv rm nx af out)] W) (by kernel_rfl) (HM.out.pick (ks := [0]) (by decide) rfl) (fun hS => ?_)
 generalize W1.drew = W2 at HM hS  ⊢
 refine tk (v := ?_) 0 10 rfl (fun w' hS' => ?_) hS ?_
 rotate_left
 ·go_simp; all_goals (with_reducible rfl)
 try simp only [Act.put, pa, pb, pc]
 refine tk (v := ?_) 1 11 rfl (fun w' hS' => ?_) hS ?_
 rotate_left
 ·go_simp; all_goals (with_reducible rfl)
 try simp only [Act.put, pa, pb, pc]
 refine tk (v := ?_) 2 12 rfl (fun w' hS' => ?_) hS ?_
 rotate_left
 ·go_simp; all_goals (with_reducible rfl)
 try simp only [Act.put, pa, pb, pc]
 refine tk (v := ?_) 3 13 rfl (fun w' hS' => ?_) hS ?_
 rotate_left
 ·(try dsimp only at hS'); obtain ⟨kb0, kb20, kb21, kb22, kb23⟩ := hS'.bq (i := 0) rfl H18.out; go_simp; all_goals (with_reducible rfl)
 try simp only [Act.put, pa, pb, pc]
 refine tk (v := ?_) 4 14 rfl (fun w' hS' => ?_) hS ?_
 rotate_left
 ·go_simp; all_goals (with_reducible rfl)
 try simp only [Act.put, pa, pb, pc]
 refine tk (v := ?_) 5 15 rfl (fun w' hS' => ?_) hS ?_
 rotate_left
 ·go_simp; all_goals (with_reducible rfl)
 try simp only [Act.put, pa, pb, pc]
 refine tk (v := ?_) 6 16 rfl (fun w' hS' => ?_) hS ?_
 rotate_left
 ·go_simp; all_goals (with_reducible rfl)
 try simp only [Act.put, pa, pb, pc]
 refine tk (v := ?_) 7 17 rfl (fun w' hS' => ?_) hS ?_
 rotate_left
 ·(try dsimp only at hS'); obtain ⟨kb0, kb20, kb21, kb22, kb23⟩ := hS'.bq (i := 0) rfl H18.out; go_simp; all_goals (with_reducible rfl)
 try simp only [Act.put, pa, pb, pc]
 refine tk (v := ?_) 8 18 rfl (fun w' hS' => ?_) hS ?_
 rotate_left
 ·go_simp; all_goals (with_reducible rfl)
 try simp only [Act.put, pa, pb, pc]
 refine tk (v := ?_) 9 19 rfl (fun w' hS' => ?_) hS ?_
 rotate_left
 ·go_simp; all_goals (with_reducible rfl)
 try simp only [Act.put, pa, pb, pc]
 refine tk (v := ?_) 10 20 rfl (fun w' hS' => ?_) hS ?_
 rotate_left
 ·go_simp; all_goals (with_reducible rfl)
 try simp only [Act.put, pa, pb, pc]
 refine tk (v := ?_) 11 21 rfl (fun w' hS' => ?_) hS ?_
 rotate_left
 ·(try dsimp only at hS'); obtain ⟨kb0, kb20, kb21, kb22, kb23⟩ := hS'.bq (i := 0) rfl H18.out; go_simp; all_goals (with_reducible rfl)
 try simp only [Act.put, pa, pb, pc]
 refine tk (v := ?_) 12 22 rfl (fun w' hS' => ?_) hS ?_
 rotate_left
 ·go_simp; all_goals (with_reducible rfl)
 try simp only [Act.put, pa, pb, pc]
 refine tk (v := ?_) 13 23 rfl (fun w' hS' => ?_) hS ?_
 rotate_left
 ·go_simp; all_goals (with_reducible rfl)
 try simp only [Act.put, pa, pb, pc]
 refine tk (v := ?_) 14 24 rfl (fun w' hS' => ?_) hS ?_
 rotate_left
 ·go_simp; all_goals (with_reducible rfl)
 try simp only [Act.put, pa, pb, pc]
 refine tk (v := ?_) 15 25 rfl (fun w' hS' => ?_) hS ?_
 rotate_left
 ·go_simp; all_goals (with_reducible rfl)
 try simp only [Act.put, pa, pb, pc]
 refine tk (v := ?_) 16 26 rfl (fun w' hS' => ?_) hS ?_
 rotate_left
 ·(try dsimp only at hS'); obtain ⟨kb0, kb20, kb21, kb22, kb23⟩ := hS'.bq (i := 0) rfl H18.out; go_simp; all_goals (with_reducible rfl)
 try simp only [Act.put, pa, pb, pc]
 refine r1 17 (some 27) rfl (fun K hK => ?_)
 replace HM := Lib.hid (HM.out.fr1)
 replace HM := Lib.hid (HM.out.fr1)
 replace HM := Lib.hid (HM.out.fr1)
 replace HM := Lib.hid (HM.out.fr1)
 go_simp
 have hm := (show Ms w0 (.bx g (bufO 1 sv rm nx af out) :: (qs.map QE.it ++ (.bx w.heap.size (.cells #[.int .i64 0, .int .i64 0, .bool false, .slice none 0 0] 27 (0, 0)) :: L))) W2 from HM.out.perm (List.Perm.cons _ List.perm_middle.symm))
 refine (first_any g qs.length rm sv rm nx 1 af out qs w0 _ (.bx w.heap.size (.cells #[.int .i64 0, .int .i64 0, .bool false, .slice none 0 0] 27 (0, 0)) :: L) hm HSL.out HAF.out (by omega) (by have := HFIT.out; omega) hnx).mono ?_
 rintro e' W3 ⟨gl, bl, rfl, -, hm9⟩
 clear hm
 rw [List.drop_length, List.take_of_length_le (by rw [ens_len]; exact Nat.le_refl _)] at hm9
 have hm := (show Ms w0 (.dt (encEns (ens qs)) (.slice (some ⟨gl, 0, none⟩) qs.length qs.length) bl :: .bx g (bufO 1 sv rm nx af out) :: .bx w.heap.size (.cells #[.int .i64 0, .int .i64 0, .bool false, .slice none 0 0] 27 (0, 0)) :: L) W3 from hm9)
 clear hm9
 replace HM := Lib.hid hm
 clear hm
 clear hS
 refine hK.out _ _ (HM.out.pick (ks := [1]) (by decide) rfl) (fun hS => ?_)
 clear hK K
 try simp only [Act.put, pa, pb, pc]
 refine r1 18 none rfl (fun K hK => ?_)
 obtain ⟨kr0, kr1, kr2, kr3⟩ := HM.out.c4 2 rfl
 obtain ⟨fr0, fr1, fr2, fr3⟩ := HM.out.f4 2 rfl
 go_simp
 clear hS kr0 kr1 kr2 kr3 fr0 fr1 fr2 fr3
 replace HM := Lib.hid (HM.out.fr1)
 replace HM := Lib.hid (HM.out.fr1)
 replace HM := Lib.hid (HM.out.fr2)
 have hm := HM.out.putRow (ys := [.int .i64 0, .int .i64 0, .bool false, .slice none 0 0]) rfl
 simp only [low.putRow, Nat.zero_add, Nat.reduceAdd] at hm
 replace HM := Lib.hid hm
 clear hm
 obtain ⟨W4, hW, hm⟩ := HM.out.name
 rw [← hW]
 replace HM := Lib.hid hm
 clear hm hW
 refine hK.out _ _ (HM.out.pick (ks := [2]) (by decide) rfl) (fun hS => ?_)
 clear hK K
 try simp only [Act.put]
 refine tk (v := ?_) 19 28 rfl (fun w' hS' => ?_) hS ?_
 rotate_left
 ·go_simp; all_goals (with_reducible rfl)
 try simp only [Act.put, pa, pb, pc]
 refine r1 20 none rfl (fun K hK => ?_)
 obtain ⟨kr0, kr1, kr2, kr3⟩ := HM.out.c4 0 rfl
 obtain ⟨fr0, fr1, fr2, fr3⟩ := HM.out.f4 0 rfl
 go_simp
 clear hS kr0 kr1 kr2 kr3 fr0 fr1 fr2 fr3
 replace HM := Lib.hid (HM.out.fr2)
 replace HM := Lib.hid (HM.out.fr2)
 replace HM := Lib.hid (HM.out.fr2)
 have hm := HM.out.set (j := 0) (.int .i64 rm)
 simp only [pa, pb] at hm
 replace HM := Lib.hid hm
 clear hm
 obtain ⟨W5, hW, hm⟩ := HM.out.name
 rw [← hW]
 replace HM := Lib.hid hm
 clear hm hW
 refine hK.out _ _ (HM.out.pick (ks := [2]) (by decide) rfl) (fun hS => ?_)
 clear hK K
 try simp only [Act.put]
 refine tk (v := ?_) 21 29 rfl (fun w' hS' => ?_) hS ?_
 rotate_left
 ·go_simp; all_goals (with_reducible rfl)
 try simp only [Act.put, pa, pb, pc]
 refine r1 22 none rfl (fun K hK => ?_)
 obtain ⟨kr0, kr1, kr2, kr3⟩ := HM.out.c4 0 rfl
 obtain ⟨fr0, fr1, fr2, fr3⟩ := HM.out.f4 0 rfl
 go_simp
 clear hS kr0 kr1 kr2 kr3 fr0 fr1 fr2 fr3
 replace HM := Lib.hid (HM.out.fr2)
 replace HM := Lib.hid (HM.out.fr2)
 replace HM := Lib.hid (HM.out.fr2)
 have hm := HM.out.set (j := 1) (.int .i64 nx)
 simp only [pa, pb, pc] at hm
 replace HM := Lib.hid hm
 clear hm
 obtain ⟨W6, hW, hm⟩ := HM.out.name
 rw [← hW]
 replace HM := Lib.hid hm
 clear hm hW
 refine hK.out _ _ (HM.out.pick (ks := [2]) (by decide) rfl) (fun hS => ?_)
 clear hK K
 try simp only [Act.put]
 refine tk (v := ?_) 23 30 rfl (fun w' hS' => ?_) hS ?_
 rotate_left
 ·go_simp; all_goals (with_reducible rfl)
 try simp only [Act.put, pa, pb, pc]
 refine r1 24 none rfl (fun K hK => ?_)
 obtain ⟨kr0, kr1, kr2, kr3⟩ := HM.out.c4 0 rfl
 obtain ⟨fr0, fr1, fr2, fr3⟩ := HM.out.f4 0 rfl
 go_simp
 clear hS kr0 kr1 kr2 kr3 fr0 fr1 fr2 fr3
 replace HM := Lib.hid (HM.out.fr2)
 replace HM := Lib.hid (HM.out.fr2)
 replace HM := Lib.hid (HM.out.fr2)
 have hm := HM.out.set (j := 2) (.bool out)
 simp only [pa, pb, pc] at hm
 replace HM := Lib.hid hm
 clear hm
 obtain ⟨W7, hW, hm⟩ := HM.out.name
 rw [← hW]
 replace HM := Lib.hid hm
 clear hm hW
 refine hK.out _ _ (HM.out.pick (ks := [2]) (by decide) rfl) (fun hS => ?_)
 clear hK K
 try simp only [Act.put]
 refine tk (v := ?_) 25 31 rfl (fun w' hS' => ?_) hS ?_
 rotate_left
 ·go_simp; all_goals (with_reducible rfl)
 try simp only [Act.put, pa, pb, pc]
 refine r1 26 none rfl (fun K hK => ?_)
 obtain ⟨kr0, kr1, kr2, kr3⟩ := HM.out.c4 0 rfl
 obtain ⟨fr0, fr1, fr2, fr3⟩ := HM.out.f4 0 rfl
 go_simp
 clear hS kr0 kr1 kr2 kr3 fr0 fr1 fr2 fr3
 replace HM := Lib.hid (HM.out.fr2)
 replace HM := Lib.hid (HM.out.fr2)
 replace HM := Lib.hid (HM.out.fr2)
 have hm := HM.out.set (j := 3) (.slice (some ⟨gl, 0, none⟩) qs.length qs.length)
 simp only [pa, pb, pc] at hm
 replace HM := Lib.hid hm
 clear hm
 obtain ⟨W8, hW, hm⟩ := HM.out.name
 rw [← hW]
 replace HM := Lib.hid hm
 clear hm hW
 refine hK.out _ _ (HM.out.pick (ks := [2]) (by decide) rfl) (fun hS => ?_)
 clear hK K
 try simp only [Act.put]
 refine wpAnyH_done (by kernel_rfl) ?_ _
 clear hS
 go_wp2
 refine leaves_cons (f := 57) (args := #[.pointer (some ⟨g, 0, none⟩)]) (by simp) (by simp [go_sem]) ?_
 obtain ⟨kb0, -, -, -, -⟩ := HM.out.bq (i := 2) rfl H18.out
 refine (unlock_deferred muLib ⟨g, 0, none⟩ .returning _ kb0 (HM.out.bf (i := 2) rfl 0)).mono ?_
 rintro e' u' w'' ⟨rfl, rfl, rfl⟩
 replace HM := Lib.hid (HM.out.fr1)
 replace HM := Lib.hid (HM.out.fr1)
 replace HM := Lib.hid (HM.out.fr2)
 replace HM := Lib.hid (HM.out.b0 0)
 obtain ⟨kr0, kr1, kr2, kr3⟩ := HM.out.c4 1 rfl
 replace HM := Lib.hid (HM.out.fr2)
 replace HM := Lib.hid (HM.out.fr2)
 exact ⟨_, (show (results Try.f36 _).run Try.prog _ = .ok (.agg #[.int .i64 rm, .int .i64 nx, .bool out, .slice (some ⟨gl, 0, none⟩) qs.length qs.length]) _ by simp [results, Try.results36, go_sem, kr0, kr1, kr2, kr3]), ens qs, _, _, rfl, rfl, HM.out.bl, HM.out.tail.pkRi2⟩
end Go.Proofs.Ytglklgnggkenhaa.low
namespace Go.Proofs.Ytglklgnggkenhaa.low
open Go.RowKit
set_option linter.unusedVariables false
theorem Ms.qpush {w0 W : World} {x : It} {q : QE} {qs : List QE} {Z : List It} (h : Ms w0 (q.it :: x :: (qs.map QE.it ++ Z)) W) : Ms w0 (x :: ((qs ++ [q]).map QE.it ++ Z)) W := by
 refine h.fr1.perm (.cons _ ?_)
 rw [List.map_append, List.append_assoc]
 exact List.perm_middle.symm
def zsv : List Value := [.int .i64 0, .int .i64 0, .slice none 0 0, .int .i64 0, .int .i64 0, .slice none 0 0, .int .i64 0, .int .i64 0, .slice none 0 0, .int .i64 0, .int .i64 0, .slice none 0 0, .int .i64 0, .int .i64 0, .slice none 0 0, .int .i64 0, .int .i64 0, .slice none 0 0]
theorem bufferOf_any (v : Value) (x : Ri) (w : World) (h : RdC w w.heap.size (datRi x) v) (hs : SmRi x) (hb : ringB x = true) : Calls Try.prog 34 #[v] w fun E w' => ∃ (g : Nat) (sv : List Value) (qs : List QE) (Z : List It) (rm nx : Nat), E = .returned (.pointer (some ⟨g, 0, none⟩)) ∧ x.cap = (rm : Int) ∧ x.next = (nx : Int) ∧ ens qs = x.list ∧ Slots sv rm nx qs ∧ Ms w (.bx g (bufO 0 sv (rm : Int) (nx : Int) ((nx : Int) + (qs.length : Int)) false) :: (qs.map QE.it ++ Z)) w' := by
 have HR := Lib.hid h
 obtain ⟨A3, c3, rfl, r3⟩ := aggRi h
 have R3 := Lib.hid r3
 have hl := hs.list.len
 have hx := ringB_of hb
 obtain ⟨rm, hrm⟩ : ∃ rm : Nat, x.cap = (rm : Int) := ⟨x.cap.toNat, by omega⟩
 obtain ⟨nx, hnx⟩ : ∃ nx : Nat, x.next = (nx : Int) := ⟨x.next.toNat, by omega⟩
 have HRM := Lib.hid hrm
 have HNX := Lib.hid hnx
 obtain ⟨hc1, hc2, hn1, hn2, hfit⟩ := And.intro hx.2.1 (And.intro hx.2.2.1 (And.intro hx.2.2.2.1 (And.intro hx.2.2.2.2.1 hx.2.2.2.2.2.1)))
 clear h r3 hb hx hrm hnx
 have HM := Lib.hid (Ms.start w)
 replace HM := Lib.hid (HM.out.new #[.int .i64 x.cap, .int .i64 x.next, .bool x.out, .slice A3 x.list.length c3] 27)
 have hm := HM.out.new (bufC 0 zsv x.cap x.next x.next false) 88
 simp only [World.size_alloc] at hm
 replace HM := Lib.hid (show Ms w (.bx (w.heap.size + 1) (bufO 0 zsv x.cap x.next (x.next + ((0 : Nat) : Int)) false) :: (([] : List QE).map QE.it ++ [.bx w.heap.size (.cells #[.int .i64 x.cap, .int .i64 x.next, .bool x.out, .slice A3 x.list.length c3] 27 (0, 0))])) ((w.alloc (.cells #[.int .i64 x.cap, .int .i64 x.next, .bool x.out, .slice A3 x.list.length c3] 27)).alloc (.cells (bufC 0 zsv x.cap x.next x.next false) 88)) from by rw [show x.next + ((0 : Nat) : Int) = x.next by omega]; exact hm)
 clear hm
 go_enter Try.func34, Try.ntmps34
 go_wp2
 go_loopw [17] (fun i wr => ∃ (j : Nat) (sv : List Value) (qs : List QE), j ≤ x.list.length ∧ i = .int .i64 (j : Int) ∧ ens qs = x.list.take j ∧ Slots sv rm nx qs ∧ Ms w (.bx (w.heap.size + 1) (bufO 0 sv x.cap x.next (x.next + (j : Int)) false) :: (qs.map QE.it ++ [.bx w.heap.size (.cells #[.int .i64 x.cap, .int .i64 x.next, .bool x.out, .slice A3 x.list.length c3] 27 (0, 0))])) wr) (fun i _ => x.list.length - (intOf i).toNat)
 case atStart => exact ⟨0, zsv, [], Nat.zero_le _, rfl, by simp [ens], Slots.none rfl (by have := HRM.out; omega) (by have := HRM.out; omega), HM.out⟩
 case round =>
  obtain ⟨j, sv, qs, hj, rfl, hen, hsl, hm⟩ := hrel
  clear HM
  have HM := Lib.hid hm
  have HE := Lib.hid hen
  have HSL := Lib.hid hsl
  have HQL := Lib.hid (show qs.length = j by rw [← ens_len qs, hen]; simp; omega)
  clear hm hen hsl
  by_cases hlt : j < x.list.length
  ·obtain ⟨b, off, e, A5, c5, rfl, hbb, hp, y0, y1, y2, q2⟩ := atEns R3.out hlt
   have x0 := (HM.out.bl.cell (p := ⟨b, off + j * 3, none⟩) hbb).trans y0
   have x1 := (HM.out.bl.cell (p := ⟨b, off + j * 3 + 1, none⟩) hbb).trans y1
   have x2 := (HM.out.bl.cell (p := ⟨b, off + j * 3 + 2, none⟩) hbb).trans y2
   clear y0 y1 y2
   have hse := hs.list.at_ (List.mem_of_getElem? hp)
   have HP := Lib.hid hp
   have HQ2 := Lib.hid q2
   clear hp q2
   replace HM := Lib.hid (HM.out.new #[.int .i64 e.client, .int .i64 e.seq, .slice A5 e.o.length c5] 32)
   go_wp2_with fail
   clear x0 x1 x2
   obtain ⟨W1, hW, hm⟩ := HM.out.name
   rw [← hW]
   replace HM := Lib.hid hm
   clear hm hW
   refine (push_room (w.heap.size + 1) _ e sv x.cap x.next (x.next + (j : Int)) false ((nx + j) % rm) j w _ _ HM.out.tail (rdEn e HQ2.out) hse HSL.out.len (by omega) (by omega) (by omega) (by omega) rfl (by omega) (by rw [HNX.out, HRM.out]; rfl) (by have := slot_lt (n := nx + j) HSL.out.r1 HSL.out.r6; omega)).mono ?_
   rintro e' w' ⟨rfl, -, A6, c6, b6, hm⟩
   have HS2 := Lib.hid (HSL.out.push (by have := HQL.out; have := HRM.out; omega) ⟨e, .slice A6 e.o.length c6, b6⟩)
   have hm2 := Ms.qpush (q := ⟨e, .slice A6 e.o.length c6, b6⟩) hm
   rw [show x.next + (j : Int) + 1 = x.next + ((j + 1 : Nat) : Int) by omega] at hm2
   have hs2 := HS2.out
   rw [HQL.out] at hs2
   have HS3 := Lib.hid hs2
   have HM3 := Lib.hid hm2
   have HE3 := Lib.hid (show ens (qs ++ [⟨e, .slice A6 e.o.length c6, b6⟩]) = x.list.take (j + 1) by rw [List.take_add_one, HP.out, ← HE.out]; simp [ens])
   clear hm hm2 hs2 HM HS2
   go_wp2
   go_roundw
   case rel => exact ⟨j + 1, _, _, by omega, by go_num, HE3.out, HS3.out, HM3.out⟩
   case measure => simp [intOf]; omega
  ·obtain rfl : j = x.list.length := by omega
   go_wp2
   go_ret
   have hm := HM.out
   have hen : ens qs = x.list := by rw [HE.out, List.take_length]
   rw [HRM.out, HNX.out, ← HQL.out] at hm
   exact ⟨_, sv, qs, _, rm, nx, rfl, HRM.out, HNX.out, hen, HSL.out, hm⟩
theorem ringPush_no {x : Ri} {e : En} (h : ringB x = false ∨ entryB e = false ∨ x.out = true) : ringPushT x e = x := by
 unfold ringPushT
 rw [if_neg]
 rintro ⟨h1, h2, h3⟩
 rcases h with h | h | h
 ·rw [h] at h1; cases h1
 ·rw [h] at h2; cases h2
 ·rw [h] at h3; cases h3
theorem ringPush_full {x : Ri} {e : En} (h1 : ringB x = true) (h2 : entryB e = true) (h3 : x.out = false) (h4 : (x.list.length : Int) = x.cap) : ringPushT x e = ⟨x.cap, x.next, true, []⟩ := by
 unfold ringPushT
 rw [if_pos ⟨h1, h2, h3⟩, if_pos h4]
theorem ringPush_room {x : Ri} {e : En} (h1 : ringB x = true) (h2 : entryB e = true) (h3 : x.out = false) (h4 : ¬ (x.list.length : Int) = x.cap) : ringPushT x e = ⟨x.cap, x.next, x.out, x.list ++ [e]⟩ := by
 unfold ringPushT
 rw [if_pos ⟨h1, h2, h3⟩, if_neg h4]
theorem Ms.unRi {w0 W : World} {L : List It} {x : Ri} {v : Value} {b : List Nat} (h : Ms w0 (.dt (datRi x) (.agg #[.int .i64 x.cap, .int .i64 x.next, .bool x.out, v]) b :: L) W) : ∃ c, Ms w0 (.dt (encEns x.list) v c :: L) W := by
 obtain ⟨d1, d2, h1⟩ := (show Ms w0 (.dt (.agg (encRi x)) (.agg ([.int .i64 x.cap, .int .i64 x.next, .bool x.out, v] : List Value).toArray) b :: L) W from h).un
 obtain ⟨d3, d4, h2⟩ := h1.tail.un
 obtain ⟨d5, d6, h3⟩ := h2.tail.un
 obtain ⟨d7, d8, h4⟩ := h3.tail.un
 exact ⟨d7, (h4.perm (.swap _ _ _)).tail⟩
theorem Ms.qin {w0 W : World} {x : It} {q : QE} {qs : List QE} {A Z : List It} (h : Ms w0 (q.it :: x :: (A ++ (qs.map QE.it ++ Z))) W) : Ms w0 (x :: ((qs ++ [q]).map QE.it ++ (A ++ Z))) W := by
 refine h.fr1.perm (.cons _ ?_)
 rw [List.map_append, List.append_assoc]
 exact (List.Perm.cons _ (List.perm_append_comm_assoc _ _ _)).trans List.perm_middle.symm
theorem Ms.qmid {w0 W : World} {x : It} {qs : List QE} {A Z : List It} (h : Ms w0 (x :: (A ++ (qs.map QE.it ++ Z))) W) : Ms w0 (x :: (qs.map QE.it ++ (A ++ Z))) W := h.perm (.cons _ (List.perm_append_comm_assoc _ _ _))
theorem Ms.both {w0 W W' : World} {L L' : List It} (h : Ms w0 L W) (h' : Ms W L' W') : Ms w0 (L ++ L') W' := (h.join h').perm List.perm_append_comm
theorem implRingPush_d (v v' : Value) (x : Ri) (e : En) (w : World) (h : RdC w w.heap.size (datRi x) v) (h' : RdC w w.heap.size (datEn e) v') (hs : SmRi x) (hs' : SmEn e) : Calls Try.prog 13 #[v, v'] w (OwnPost (datRi (ringPushT x e)) w) := by
 have HR := Lib.hid h
 have HE := Lib.hid h'
 obtain ⟨A3, c3, rfl, r3⟩ := aggRi h
 obtain ⟨A2, c2, rfl, r2⟩ := aggEn h'
 have hl := hs.list.len
 clear h h' r3 r2
 have HM := Lib.hid (Ms.start w)
 replace HM := Lib.hid (HM.out.new #[.int .i64 x.cap, .int .i64 x.next, .bool x.out, .slice A3 x.list.length c3] 27)
 have hm := HM.out.new #[.int .i64 e.client, .int .i64 e.seq, .slice A2 e.o.length c2] 32
 simp only [World.size_alloc] at hm
 replace HM := Lib.hid hm
 clear hm
 have hm := HM.out.new #[.int .i64 0, .int .i64 0, .bool false, .slice none 0 0] 27
 simp only [World.size_alloc] at hm
 replace HM := Lib.hid hm
 clear hm
 go_enter Try.func13, Try.ntmps13
 go_wp2_with fail
 obtain ⟨W1, hW, hm⟩ := HM.out.name
 rw [← hW]
 replace HM := Lib.hid hm
 clear hm hW
 refine (implRingOk_d _ x _ (HM.out.arg HR.out) hs).mono ?_
 rintro e' W2 ⟨rfl, b'⟩
 replace HM := Lib.hid (HM.out.past b')
 clear b'
 cases hb : ringB x
 ·obtain ⟨kx0, kx1, kx2, kx3⟩ := HM.out.c4 2 rfl
  go_wp2_with fail
  clear kx0 kx1 kx2 kx3
  refine (implCopyRing_d _ x _ (HM.out.arg HR.out) hs).mono ?_
  rintro e' W3 ⟨v', rfl, o', b'⟩
  obtain ⟨Al, cl, rfl, -⟩ := aggRi o'.read
  obtain ⟨bl, hm⟩ := HM.out.got o' b'
  clear o' b'
  replace HM := Lib.hid hm
  clear hm
  obtain ⟨kr0, kr1, kr2, kr3⟩ := HM.out.c4 1 rfl
  obtain ⟨fr0, fr1, fr2, fr3⟩ := HM.out.f4 1 rfl
  go_wp2
  clear kr0 kr1 kr2 kr3 fr0 fr1 fr2 fr3
  have hm := HM.out.pk [1, 0, 2, 3] (by decide) (by simp)
  simp only [low.pk, low.gz, low.gs] at hm
  replace HM := Lib.hid hm
  clear hm
  have hm := HM.out.putRow (ys := [.int .i64 x.cap, .int .i64 x.next, .bool x.out, .slice Al x.list.length cl]) rfl
  simp only [low.putRow, Nat.zero_add, Nat.reduceAdd] at hm
  replace HM := Lib.hid hm
  clear hm
  obtain ⟨W4, hW, hm⟩ := HM.out.name
  rw [← hW]
  replace HM := Lib.hid hm
  clear hm hW
  obtain ⟨kr0, kr1, kr2, kr3⟩ := HM.out.c4 0 rfl
  have hm := HM.out.pk [1, 0, 2, 3] (by decide) (by simp)
  simp only [low.pk, low.gz, low.gs] at hm
  replace HM := Lib.hid hm
  clear hm
  rw [ringPush_no (.inl hb)]
  exact bodyPost_ret (v := .agg #[.int .i64 x.cap, .int .i64 x.next, .bool x.out, .slice Al x.list.length cl]) (by simp [results, Try.results13, go_sem, kr0, kr1, kr2, kr3]) rfl HM.out.post
 obtain ⟨ke0, ke1, ke2⟩ := HM.out.c3 1 rfl
 go_wp2_with fail
 clear ke0 ke1 ke2
 refine (implEntryOk_d _ e _ (HM.out.arg HE.out) hs').mono ?_
 rintro e' W5 ⟨rfl, b'⟩
 replace HM := Lib.hid (HM.out.past b')
 clear b'
 cases he : entryB e
 ·obtain ⟨kx0, kx1, kx2, kx3⟩ := HM.out.c4 2 rfl
  go_wp2_with fail
  clear kx0 kx1 kx2 kx3
  refine (implCopyRing_d _ x _ (HM.out.arg HR.out) hs).mono ?_
  rintro e' W6 ⟨v', rfl, o', b'⟩
  obtain ⟨Al, cl, rfl, -⟩ := aggRi o'.read
  obtain ⟨bl, hm⟩ := HM.out.got o' b'
  clear o' b'
  replace HM := Lib.hid hm
  clear hm
  obtain ⟨kr0, kr1, kr2, kr3⟩ := HM.out.c4 1 rfl
  obtain ⟨fr0, fr1, fr2, fr3⟩ := HM.out.f4 1 rfl
  go_wp2
  clear kr0 kr1 kr2 kr3 fr0 fr1 fr2 fr3
  have hm := HM.out.pk [1, 0, 2, 3] (by decide) (by simp)
  simp only [low.pk, low.gz, low.gs] at hm
  replace HM := Lib.hid hm
  clear hm
  have hm := HM.out.putRow (ys := [.int .i64 x.cap, .int .i64 x.next, .bool x.out, .slice Al x.list.length cl]) rfl
  simp only [low.putRow, Nat.zero_add, Nat.reduceAdd] at hm
  replace HM := Lib.hid hm
  clear hm
  obtain ⟨W7, hW, hm⟩ := HM.out.name
  rw [← hW]
  replace HM := Lib.hid hm
  clear hm hW
  obtain ⟨kr0, kr1, kr2, kr3⟩ := HM.out.c4 0 rfl
  have hm := HM.out.pk [1, 0, 2, 3] (by decide) (by simp)
  simp only [low.pk, low.gz, low.gs] at hm
  replace HM := Lib.hid hm
  clear hm
  rw [ringPush_no (.inr (.inl he))]
  exact bodyPost_ret (v := .agg #[.int .i64 x.cap, .int .i64 x.next, .bool x.out, .slice Al x.list.length cl]) (by simp [results, Try.results13, go_sem, kr0, kr1, kr2, kr3]) rfl HM.out.post
 obtain ⟨kx0, kx1, kx2, kx3⟩ := HM.out.c4 2 rfl
 rcases (show x.out = true ∨ x.out = false by cases x.out <;> simp) with hO | hO
 ·rw [hO] at kx2
  have HRo := Lib.hid (show RdC w w.heap.size (datRi x) (.agg #[.int .i64 x.cap, .int .i64 x.next, .bool true, .slice A3 x.list.length c3]) from by have h9 := HR.out; rw [hO] at h9; exact h9)
  replace hO := Lib.hid hO
  go_wp2_with fail
  clear kx0 kx1 kx2 kx3
  refine (implCopyRing_d _ x _ (HM.out.arg HRo.out) hs).mono ?_
  rintro e' W8 ⟨v', rfl, o', b'⟩
  obtain ⟨Al, cl, rfl, -⟩ := aggRi o'.read
  obtain ⟨bl, hm⟩ := HM.out.got o' b'
  clear o' b'
  replace HM := Lib.hid hm
  clear hm
  obtain ⟨kr0, kr1, kr2, kr3⟩ := HM.out.c4 1 rfl
  obtain ⟨fr0, fr1, fr2, fr3⟩ := HM.out.f4 1 rfl
  go_wp2
  clear kr0 kr1 kr2 kr3 fr0 fr1 fr2 fr3
  have hm := HM.out.pk [1, 0, 2, 3] (by decide) (by simp)
  simp only [low.pk, low.gz, low.gs] at hm
  replace HM := Lib.hid hm
  clear hm
  have hm := HM.out.putRow (ys := [.int .i64 x.cap, .int .i64 x.next, .bool x.out, .slice Al x.list.length cl]) rfl
  simp only [low.putRow, Nat.zero_add, Nat.reduceAdd] at hm
  replace HM := Lib.hid hm
  clear hm
  obtain ⟨W9, hW, hm⟩ := HM.out.name
  rw [← hW]
  replace HM := Lib.hid hm
  clear hm hW
  obtain ⟨kr0, kr1, kr2, kr3⟩ := HM.out.c4 0 rfl
  have hm := HM.out.pk [1, 0, 2, 3] (by decide) (by simp)
  simp only [low.pk, low.gz, low.gs] at hm
  replace HM := Lib.hid hm
  clear hm
  rw [ringPush_no (.inr (.inr hO.out))]
  exact bodyPost_ret (v := .agg #[.int .i64 x.cap, .int .i64 x.next, .bool x.out, .slice Al x.list.length cl]) (by simp [results, Try.results13, go_sem, kr0, kr1, kr2, kr3]) rfl HM.out.post
 rw [hO] at kx2
 have HRo := Lib.hid (show RdC w w.heap.size (datRi x) (.agg #[.int .i64 x.cap, .int .i64 x.next, .bool false, .slice A3 x.list.length c3]) from by have h9 := HR.out; rw [hO] at h9; exact h9)
 replace hO := Lib.hid hO
 go_wp2_with fail
 clear kx0 kx1 kx2 kx3
 refine (bufferOf_any _ x _ (HM.out.arg HRo.out) hs hb).mono ?_
 rintro e' W10 ⟨g, sv, qs, Z, rm, nx, rfl, hrm, hnx, hen, hsl, hm⟩
 have hx := ringB_of hb
 have HC := Lib.hid (And.intro hrm (And.intro hnx hen))
 have HSL := Lib.hid hsl
 have hql : qs.length = x.list.length := by rw [← hen, ens_len]
 have HQL := Lib.hid hql
 obtain ⟨hn1, hn2, hc1, hc2, hfit⟩ : (1 : Int) ≤ (nx : Int) ∧ (nx : Int) ≤ 1000000000 ∧ (1 : Int) ≤ (rm : Int) ∧ (rm : Int) ≤ 6 ∧ qs.length ≤ rm := by rw [← hnx, ← hrm]; exact ⟨hx.2.2.2.1, hx.2.2.2.2.1, hx.2.1, hx.2.2.1, hsl.fit⟩
 have hm := (show Ms w (.bx (w.heap.size + 1 + 1) (.cells #[.int .i64 0, .int .i64 0, .bool false, .slice none 0 0] 27 (0, 0)) :: .bx (w.heap.size + 1) (.cells #[.int .i64 e.client, .int .i64 e.seq, .slice A2 e.o.length c2] 32 (0, 0)) :: .bx w.heap.size (.cells #[.int .i64 x.cap, .int .i64 x.next, .bool x.out, .slice A3 x.list.length c3] 27 (0, 0)) :: .bx g (bufO 0 sv (rm : Int) (nx : Int) ((nx : Int) + (qs.length : Int)) false) :: (qs.map QE.it ++ Z)) W10 from HM.out.both hm)
 clear hsl hen hrm hnx hql hx HM
 have HM := Lib.hid hm
 clear hm
 obtain ⟨ke0, ke1, ke2⟩ := HM.out.c3 1 rfl
 go_wp2_with fail
 clear ke0 ke1 ke2
 replace HM := Lib.hid (HM.out.fr2)
 replace HM := Lib.hid (HM.out.fr2)
 replace HM := Lib.hid (HM.out.fr2)
 replace HM := Lib.hid (HM.out.fr3)
 by_cases h4 : (x.list.length : Int) = x.cap
 ·have h4 := Lib.hid h4
  refine (push_full g _ e sv rm nx ((nx : Int) + (qs.length : Int)) false qs.length w _ _ HM.out HE.out hs' HSL.out.len (by omega) (by omega) rfl (by rw [HQL.out, h4.out, HC.out.1]) hc2).mono ?_
  rintro e' W11 ⟨rfl, -, hm⟩
  replace HM := Lib.hid hm
  clear hm
  go_wp2_with fail
  have hm := (show Ms w (.bx g (bufO 0 sv (rm : Int) (nx : Int) (nx : Int) true) :: (([] : List QE).map QE.it ++ (.bx (w.heap.size + 1 + 1) (.cells #[.int .i64 0, .int .i64 0, .bool false, .slice none 0 0] 27 (0, 0)) :: .bx (w.heap.size + 1) (.cells #[.int .i64 e.client, .int .i64 e.seq, .slice A2 e.o.length c2] 32 (0, 0)) :: .bx w.heap.size (.cells #[.int .i64 x.cap, .int .i64 x.next, .bool x.out, .slice A3 x.list.length c3] 27 (0, 0)) :: (qs.map QE.it ++ Z)))) W11 from HM.out)
  refine (ring_any g sv rm nx (nx : Int) true [] w _ _ hm (Slots.none HSL.out.len HSL.out.r1 HSL.out.r6) (by simp) (by omega)).mono ?_
  rintro e' W12 ⟨l, v', bl, rfl, rfl, -, hm9⟩
  obtain ⟨Al, cl, rfl, -⟩ := aggRi (hm9.read (i := 0) rfl)
  clear hm
  replace HM := Lib.hid (show Ms w (.dt (datRi ⟨(rm : Int), (nx : Int), true, ens []⟩) (.agg #[.int .i64 (rm : Int), .int .i64 (nx : Int), .bool true, .slice Al (ens []).length cl]) bl :: .bx g (bufO 0 sv (rm : Int) (nx : Int) (nx : Int) true) :: .bx (w.heap.size + 1 + 1) (.cells #[.int .i64 0, .int .i64 0, .bool false, .slice none 0 0] 27 (0, 0)) :: .bx (w.heap.size + 1) (.cells #[.int .i64 e.client, .int .i64 e.seq, .slice A2 e.o.length c2] 32 (0, 0)) :: .bx w.heap.size (.cells #[.int .i64 x.cap, .int .i64 x.next, .bool x.out, .slice A3 x.list.length c3] 27 (0, 0)) :: (qs.map QE.it ++ Z)) W12 from hm9)
  clear hm9
  obtain ⟨kr0, kr1, kr2, kr3⟩ := HM.out.c4 2 rfl
  obtain ⟨fr0, fr1, fr2, fr3⟩ := HM.out.f4 2 rfl
  go_wp2
  clear kr0 kr1 kr2 kr3 fr0 fr1 fr2 fr3
  replace HM := Lib.hid (HM.out.fr4)
  replace HM := Lib.hid (HM.out.fr4)
  replace HM := Lib.hid (HM.out.fr3)
  replace HM := Lib.hid (HM.out.fr3)
  replace HM := Lib.hid (HM.out.fr4)
  have hm := HM.out.putRow (ys := [.int .i64 (rm : Int), .int .i64 (nx : Int), .bool true, .slice Al (ens []).length cl]) rfl
  simp only [low.putRow, Nat.zero_add, Nat.reduceAdd] at hm
  replace HM := Lib.hid hm
  clear hm
  obtain ⟨W13, hW, hm⟩ := HM.out.name
  rw [← hW]
  replace HM := Lib.hid hm
  clear hm hW
  obtain ⟨kr0, kr1, kr2, kr3⟩ := HM.out.c4 0 rfl
  replace HM := Lib.hid (HM.out.fr4)
  replace HM := Lib.hid (HM.out.fr4)
  replace HM := Lib.hid (HM.out.fr4)
  replace HM := Lib.hid (HM.out.fr3)
  replace HM := Lib.hid (HM.out.fr4)
  rw [show ringPushT x e = ⟨(rm : Int), (nx : Int), true, ens []⟩ by rw [ringPush_full hb he hO.out h4.out, HC.out.1, HC.out.2.1]; rfl]
  exact bodyPost_ret (v := .agg #[.int .i64 (rm : Int), .int .i64 (nx : Int), .bool true, .slice Al (ens []).length cl]) (by simp [results, Try.results13, go_sem, kr0, kr1, kr2, kr3]) rfl HM.out.post
 have h4 := Lib.hid h4
 refine (push_room g _ e sv rm nx ((nx : Int) + (qs.length : Int)) false ((nx + qs.length) % rm) qs.length w _ _ HM.out HE.out hs' HSL.out.len hc1 hc2 (by omega) (by omega) rfl (by have h1 := h4.out; rw [← HQL.out, HC.out.1] at h1; omega) rfl (by have := slot_lt (n := nx + qs.length) HSL.out.r1 HSL.out.r6; omega)).mono ?_
 rintro e' W14 ⟨rfl, -, A6, c6, b6, hm⟩
 have hm2 := Ms.qin (q := ⟨e, .slice A6 e.o.length c6, b6⟩) (A := [.bx (w.heap.size + 1 + 1) (.cells #[.int .i64 0, .int .i64 0, .bool false, .slice none 0 0] 27 (0, 0)), .bx (w.heap.size + 1) (.cells #[.int .i64 e.client, .int .i64 e.seq, .slice A2 e.o.length c2] 32 (0, 0)), .bx w.heap.size (.cells #[.int .i64 x.cap, .int .i64 x.next, .bool x.out, .slice A3 x.list.length c3] 27 (0, 0))]) hm
 have HS2 := Lib.hid (HSL.out.push (by have h1 := h4.out; rw [← HQL.out, HC.out.1] at h1; omega) ⟨e, .slice A6 e.o.length c6, b6⟩)
 clear hm
 replace HM := Lib.hid hm2
 clear hm2
 go_wp2_with fail
 have hm := HM.out
 refine (ring_any g (set3 sv ((nx + qs.length) % rm * 3) (.int .i64 e.client) (.int .i64 e.seq) (.slice A6 e.o.length c6)) rm nx ((nx : Int) + (qs.length : Int) + 1) false (qs ++ [⟨e, .slice A6 e.o.length c6, b6⟩]) w _ _ hm HS2.out (by rw [List.length_append, List.length_singleton]; omega) (by omega)).mono ?_
 rintro e' W15 ⟨l, v', bl, rfl, rfl, -, hm9⟩
 obtain ⟨Al, cl, rfl, -⟩ := aggRi (hm9.read (i := 0) rfl)
 clear hm
 replace HM := Lib.hid (show Ms w (.dt (datRi ⟨(rm : Int), (nx : Int), false, ens (qs ++ [⟨e, .slice A6 e.o.length c6, b6⟩])⟩) (.agg #[.int .i64 (rm : Int), .int .i64 (nx : Int), .bool false, .slice Al (ens (qs ++ [⟨e, .slice A6 e.o.length c6, b6⟩])).length cl]) bl :: .bx g (bufO 0 (set3 sv ((nx + qs.length) % rm * 3) (.int .i64 e.client) (.int .i64 e.seq) (.slice A6 e.o.length c6)) (rm : Int) (nx : Int) ((nx : Int) + (qs.length : Int) + 1) false) :: .bx (w.heap.size + 1 + 1) (.cells #[.int .i64 0, .int .i64 0, .bool false, .slice none 0 0] 27 (0, 0)) :: .bx (w.heap.size + 1) (.cells #[.int .i64 e.client, .int .i64 e.seq, .slice A2 e.o.length c2] 32 (0, 0)) :: .bx w.heap.size (.cells #[.int .i64 x.cap, .int .i64 x.next, .bool x.out, .slice A3 x.list.length c3] 27 (0, 0)) :: Z) W15 from hm9)
 clear hm9
 obtain ⟨kr0, kr1, kr2, kr3⟩ := HM.out.c4 2 rfl
 obtain ⟨fr0, fr1, fr2, fr3⟩ := HM.out.f4 2 rfl
 go_wp2
 clear kr0 kr1 kr2 kr3 fr0 fr1 fr2 fr3
 replace HM := Lib.hid (HM.out.fr4)
 replace HM := Lib.hid (HM.out.fr4)
 replace HM := Lib.hid (HM.out.fr3)
 replace HM := Lib.hid (HM.out.fr3)
 replace HM := Lib.hid (HM.out.fr4)
 have hm := HM.out.putRow (ys := [.int .i64 (rm : Int), .int .i64 (nx : Int), .bool false, .slice Al (ens (qs ++ [⟨e, .slice A6 e.o.length c6, b6⟩])).length cl]) rfl
 simp only [low.putRow, Nat.zero_add, Nat.reduceAdd] at hm
 replace HM := Lib.hid hm
 clear hm
 obtain ⟨W16, hW, hm⟩ := HM.out.name
 rw [← hW]
 replace HM := Lib.hid hm
 clear hm hW
 obtain ⟨kr0, kr1, kr2, kr3⟩ := HM.out.c4 0 rfl
 replace HM := Lib.hid (HM.out.fr4)
 replace HM := Lib.hid (HM.out.fr4)
 replace HM := Lib.hid (HM.out.fr4)
 replace HM := Lib.hid (HM.out.fr3)
 replace HM := Lib.hid (HM.out.fr4)
 rw [show ringPushT x e = ⟨(rm : Int), (nx : Int), false, ens (qs ++ [⟨e, .slice A6 e.o.length c6, b6⟩])⟩ by rw [ringPush_room hb he hO.out h4.out, HC.out.1, HC.out.2.1, hO.out, ← HC.out.2.2]; simp [ens]]
 exact bodyPost_ret (v := .agg #[.int .i64 (rm : Int), .int .i64 (nx : Int), .bool false, .slice Al (ens (qs ++ [⟨e, .slice A6 e.o.length c6, b6⟩])).length cl]) (by simp [results, Try.results13, go_sem, kr0, kr1, kr2, kr3]) rfl HM.out.post
theorem Ms.res2N {w0 W : World} {L : List It} {d d' : Dat} {v v' : Value} {b b' : List Nat} (n : Int) (h : Ms w0 (.dt d v b :: .dt d' v' b' :: L) W) : Res2N d d' n w0 (.returned (.tuple #[v, v', .int .i64 n])) W :=
 ⟨v, v', b, b', rfl, h.owb (i := 0) rfl, h.owb (i := 1) rfl, fun q hq hq' => h.apart (i := 0) (j := 1) (x := .dt d v b) (y := .dt d' v' b') rfl rfl (by omega) hq hq', h.bl⟩
theorem poll_no {x : Ri} {n k : Int} (hk : ¬ k = 0) (h : ringPollC x n = k) : ringPollC x n = k ∧ ringPollT x n = x ∧ ringPollL x n = [] := ⟨h, by unfold ringPollT; rw [h, if_neg hk], by unfold ringPollL; rw [h, if_neg hk]⟩
theorem poll_ok {x : Ri} {n : Int} {m : Nat} (h1 : ringB x = true) (h2 : ¬ n < 1) (h3 : x.out = false) (hm : takeN x n = m) : ringPollC x n = 0 ∧ ringPollT x n = ⟨x.cap, x.next + (m : Int), x.out, x.list.drop m⟩ ∧ ringPollL x n = x.list.take m := by
 have h : ringPollC x n = 0 := by unfold ringPollC; rw [if_neg (by rw [h1]; simp; omega), h3]; rfl
 exact ⟨h, by unfold ringPollT; rw [if_pos h, hm], by unfold ringPollL; rw [if_pos h, hm]⟩
theorem Ms.qend {w0 W : World} {x y : It} {B L : List It} (h : Ms w0 (y :: x :: (B ++ L)) W) : Ms w0 (x :: (B ++ (y :: L))) W := h.fr1.perm (.cons _ List.perm_middle.symm)
theorem implRingPoll_d (v : Value) (x : Ri) (n : Int) (w : World) (h : RdC w w.heap.size (datRi x) v) (hs : SmRi x) : Calls Try.prog 15 #[v, .int .i64 n] w (Res2N (datRi (ringPollT x n)) (encEns (ringPollL x n)) (ringPollC x n) w) := by
 have HR := Lib.hid h
 obtain ⟨A3, c3, rfl, r3⟩ := aggRi h
 have hl := hs.list.len
 clear h r3
 have HM := Lib.hid (Ms.start w)
 replace HM := Lib.hid (HM.out.new #[.int .i64 x.cap, .int .i64 x.next, .bool x.out, .slice A3 x.list.length c3] 27)
 have hm := HM.out.new #[.int .i64 0, .int .i64 0, .bool false, .slice none 0 0] 27
 simp only [World.size_alloc] at hm
 replace HM := Lib.hid hm
 clear hm
 go_enter Try.func15, Try.ntmps15
 go_wp2_with fail
 obtain ⟨W1, hW, hm⟩ := HM.out.name
 rw [← hW]
 replace HM := Lib.hid hm
 clear hm hW
 refine (implRingOk_d _ x _ (HM.out.arg HR.out) hs).mono ?_
 rintro e' W2 ⟨rfl, b'⟩
 replace HM := Lib.hid (HM.out.past b')
 clear b'
 cases hb : ringB x
 ·obtain ⟨kx0, kx1, kx2, kx3⟩ := HM.out.c4 1 rfl
  go_wp2_with fail
  clear kx0 kx1 kx2 kx3
  refine (implCopyRing_d _ x _ (HM.out.arg HR.out) hs).mono ?_
  rintro e' W3 ⟨v', rfl, o', b'⟩
  obtain ⟨Al, cl, rfl, -⟩ := aggRi o'.read
  obtain ⟨bl, hm⟩ := HM.out.got o' b'
  clear o' b'
  replace HM := Lib.hid hm
  clear hm
  obtain ⟨kr0, kr1, kr2, kr3⟩ := HM.out.c4 1 rfl
  obtain ⟨fr0, fr1, fr2, fr3⟩ := HM.out.f4 1 rfl
  go_wp2
  clear kr0 kr1 kr2 kr3 fr0 fr1 fr2 fr3
  have hm := HM.out.pk [1, 0, 2] (by decide) (by simp)
  simp only [low.pk, low.gz, low.gs] at hm
  replace HM := Lib.hid hm
  clear hm
  have hm := HM.out.putRow (ys := [.int .i64 x.cap, .int .i64 x.next, .bool x.out, .slice Al x.list.length cl]) rfl
  simp only [low.putRow, Nat.zero_add, Nat.reduceAdd] at hm
  replace HM := Lib.hid hm
  clear hm
  obtain ⟨W4, hW, hm⟩ := HM.out.name
  rw [← hW]
  replace HM := Lib.hid hm
  clear hm hW
  obtain ⟨kr0, kr1, kr2, kr3⟩ := HM.out.c4 0 rfl
  have hm := HM.out.pk [1, 0, 2] (by decide) (by simp)
  simp only [low.pk, low.gz, low.gs] at hm
  replace HM := Lib.hid hm
  clear hm
  have HN := Lib.hid (poll_no (x := x) (n := n) (k := 1) (by decide) (by unfold ringPollC; rw [if_pos (.inl hb)]))
  rw [HN.out.1, HN.out.2.1, HN.out.2.2]
  exact bodyPost_ret (v := .tuple #[.agg #[.int .i64 x.cap, .int .i64 x.next, .bool x.out, .slice Al x.list.length cl], .slice none 0 0, .int .i64 1]) (by simp [results, Try.results15, go_sem, kr0, kr1, kr2, kr3]) rfl ((show Ms w (.dt (datRi x) _ _ :: .dt (encEns []) _ _ :: _) _ from (HM.out.nil 32 3).perm (.swap _ _ _)).res2N 1)
 by_cases h1 : n < 1
 ·have g1 : decide (n < 1) = true := decide_eq_true h1
  obtain ⟨kx0, kx1, kx2, kx3⟩ := HM.out.c4 1 rfl
  go_wp2_with fail
  clear kx0 kx1 kx2 kx3
  refine (implCopyRing_d _ x _ (HM.out.arg HR.out) hs).mono ?_
  rintro e' W5 ⟨v', rfl, o', b'⟩
  obtain ⟨Al, cl, rfl, -⟩ := aggRi o'.read
  obtain ⟨bl, hm⟩ := HM.out.got o' b'
  clear o' b'
  replace HM := Lib.hid hm
  clear hm
  obtain ⟨kr0, kr1, kr2, kr3⟩ := HM.out.c4 1 rfl
  obtain ⟨fr0, fr1, fr2, fr3⟩ := HM.out.f4 1 rfl
  go_wp2
  clear kr0 kr1 kr2 kr3 fr0 fr1 fr2 fr3
  have hm := HM.out.pk [1, 0, 2] (by decide) (by simp)
  simp only [low.pk, low.gz, low.gs] at hm
  replace HM := Lib.hid hm
  clear hm
  have hm := HM.out.putRow (ys := [.int .i64 x.cap, .int .i64 x.next, .bool x.out, .slice Al x.list.length cl]) rfl
  simp only [low.putRow, Nat.zero_add, Nat.reduceAdd] at hm
  replace HM := Lib.hid hm
  clear hm
  obtain ⟨W6, hW, hm⟩ := HM.out.name
  rw [← hW]
  replace HM := Lib.hid hm
  clear hm hW
  obtain ⟨kr0, kr1, kr2, kr3⟩ := HM.out.c4 0 rfl
  have hm := HM.out.pk [1, 0, 2] (by decide) (by simp)
  simp only [low.pk, low.gz, low.gs] at hm
  replace HM := Lib.hid hm
  clear hm
  have HN := Lib.hid (poll_no (x := x) (n := n) (k := 1) (by decide) (by unfold ringPollC; rw [if_pos (.inr h1)]))
  rw [HN.out.1, HN.out.2.1, HN.out.2.2]
  exact bodyPost_ret (v := .tuple #[.agg #[.int .i64 x.cap, .int .i64 x.next, .bool x.out, .slice Al x.list.length cl], .slice none 0 0, .int .i64 1]) (by simp [results, Try.results15, go_sem, kr0, kr1, kr2, kr3]) rfl ((show Ms w (.dt (datRi x) _ _ :: .dt (encEns []) _ _ :: _) _ from (HM.out.nil 32 3).perm (.swap _ _ _)).res2N 1)
 have g1 : decide (n < 1) = false := decide_eq_false h1
 obtain ⟨kx0, kx1, kx2, kx3⟩ := HM.out.c4 1 rfl
 rcases (show x.out = true ∨ x.out = false by cases x.out <;> simp) with hO | hO
 ·rw [hO] at kx2
  have HRo := Lib.hid (show RdC w w.heap.size (datRi x) (.agg #[.int .i64 x.cap, .int .i64 x.next, .bool true, .slice A3 x.list.length c3]) from by have h9 := HR.out; rw [hO] at h9; exact h9)
  replace hO := Lib.hid hO
  go_wp2_with fail
  clear kx0 kx1 kx2 kx3
  refine (implCopyRing_d _ x _ (HM.out.arg HRo.out) hs).mono ?_
  rintro e' W7 ⟨v', rfl, o', b'⟩
  obtain ⟨Al, cl, rfl, -⟩ := aggRi o'.read
  obtain ⟨bl, hm⟩ := HM.out.got o' b'
  clear o' b'
  replace HM := Lib.hid hm
  clear hm
  obtain ⟨kr0, kr1, kr2, kr3⟩ := HM.out.c4 1 rfl
  obtain ⟨fr0, fr1, fr2, fr3⟩ := HM.out.f4 1 rfl
  go_wp2
  clear kr0 kr1 kr2 kr3 fr0 fr1 fr2 fr3
  have hm := HM.out.pk [1, 0, 2] (by decide) (by simp)
  simp only [low.pk, low.gz, low.gs] at hm
  replace HM := Lib.hid hm
  clear hm
  have hm := HM.out.putRow (ys := [.int .i64 x.cap, .int .i64 x.next, .bool x.out, .slice Al x.list.length cl]) rfl
  simp only [low.putRow, Nat.zero_add, Nat.reduceAdd] at hm
  replace HM := Lib.hid hm
  clear hm
  obtain ⟨W8, hW, hm⟩ := HM.out.name
  rw [← hW]
  replace HM := Lib.hid hm
  clear hm hW
  obtain ⟨kr0, kr1, kr2, kr3⟩ := HM.out.c4 0 rfl
  have hm := HM.out.pk [1, 0, 2] (by decide) (by simp)
  simp only [low.pk, low.gz, low.gs] at hm
  replace HM := Lib.hid hm
  clear hm
  have HN := Lib.hid (poll_no (x := x) (n := n) (k := 9) (by decide) (by unfold ringPollC; rw [if_neg (by rw [hb]; simp; omega), if_pos hO.out]))
  rw [HN.out.1, HN.out.2.1, HN.out.2.2]
  exact bodyPost_ret (v := .tuple #[.agg #[.int .i64 x.cap, .int .i64 x.next, .bool x.out, .slice Al x.list.length cl], .slice none 0 0, .int .i64 9]) (by simp [results, Try.results15, go_sem, kr0, kr1, kr2, kr3]) rfl ((show Ms w (.dt (datRi x) _ _ :: .dt (encEns []) _ _ :: _) _ from (HM.out.nil 32 3).perm (.swap _ _ _)).res2N 9)
 rw [hO] at kx2
 have HRo := Lib.hid (show RdC w w.heap.size (datRi x) (.agg #[.int .i64 x.cap, .int .i64 x.next, .bool false, .slice A3 x.list.length c3]) from by have h9 := HR.out; rw [hO] at h9; exact h9)
 replace hO := Lib.hid hO
 obtain ⟨m, hm0⟩ : ∃ m : Nat, takeN x n = m := ⟨_, rfl⟩
 have HN := Lib.hid (poll_ok hb h1 hO.out hm0)
 unfold takeN at hm0
 go_wp2_with fail
 clear kx0 kx1 kx2 kx3
 refine (bufferOf_any _ x _ (HM.out.arg HRo.out) hs hb).mono ?_
 rintro e' W9 ⟨g, sv, qs, Z, rm, nx, rfl, hrm, hnx, hen, hsl, hm⟩
 have hx := ringB_of hb
 have HC := Lib.hid (And.intro hrm (And.intro hnx hen))
 have HSL := Lib.hid hsl
 have hql : qs.length = x.list.length := by rw [← hen, ens_len]
 have HQL := Lib.hid hql
 obtain ⟨hn1, hn2, hc1, hc2, hfit⟩ : (1 : Int) ≤ (nx : Int) ∧ (nx : Int) ≤ 1000000000 ∧ (1 : Int) ≤ (rm : Int) ∧ (rm : Int) ≤ 6 ∧ qs.length ≤ rm := by rw [← hnx, ← hrm]; exact ⟨hx.2.2.2.1, hx.2.2.2.2.1, hx.2.1, hx.2.2.1, hsl.fit⟩
 have hm := (show Ms w (.bx (w.heap.size + 1) (.cells #[.int .i64 0, .int .i64 0, .bool false, .slice none 0 0] 27 (0, 0)) :: .bx w.heap.size (.cells #[.int .i64 x.cap, .int .i64 x.next, .bool x.out, .slice A3 x.list.length c3] 27 (0, 0)) :: .bx g (bufO 0 sv (rm : Int) (nx : Int) ((nx : Int) + (qs.length : Int)) false) :: (qs.map QE.it ++ Z)) W9 from HM.out.both hm)
 clear hsl hen hrm hnx hql hx HM
 have HM := Lib.hid hm
 clear hm
 have HMI := Lib.hid (show (m : Int) = min n (qs.length : Int) by rw [HQL.out, ← hm0]; omega)
 have hmq : m ≤ qs.length := by rw [HQL.out]; omega
 clear hm0
 go_wp2_with fail
 replace HM := Lib.hid (HM.out.fr1)
 replace HM := Lib.hid (HM.out.fr1)
 replace HM := Lib.hid (HM.out.fr2)
 have hm := Ms.qmid (A := [.bx (w.heap.size + 1) (.cells #[.int .i64 0, .int .i64 0, .bool false, .slice none 0 0] 27 (0, 0)), .bx w.heap.size (.cells #[.int .i64 x.cap, .int .i64 x.next, .bool x.out, .slice A3 x.list.length c3] 27 (0, 0))]) HM.out
 refine (pull_any g m n sv rm nx _ false qs w _ _ hm HSL.out rfl (by omega) HMI.out (by omega)).mono ?_
 rintro e' W10 ⟨gl, bl, rfl, -, hm9⟩
 clear hm HM
 have HM := Lib.hid hm9.qend
 clear hm9
 go_wp2_with fail
 have hm := HM.out
 rw [show (nx : Int) + (m : Int) = ((nx + m : Nat) : Int) by omega] at hm
 refine (ring_any g sv rm (nx + m) _ false (qs.drop m) w _ _ hm (HSL.out.drop m) (by rw [List.length_drop]; omega) (by omega)).mono ?_
 rintro e' W11 ⟨l, v', bl2, rfl, rfl, -, hm9⟩
 obtain ⟨Al, cl, rfl, -⟩ := aggRi (hm9.read (i := 0) rfl)
 clear hm
 have HM := Lib.hid (show Ms w (.dt (datRi ⟨(rm : Int), ((nx : Int) + (m : Int)), false, ens (qs.drop m)⟩) (.agg #[.int .i64 (rm : Int), .int .i64 ((nx : Int) + (m : Int)), .bool false, .slice Al (ens (qs.drop m)).length cl]) bl2 :: .bx g (bufO 0 sv (rm : Int) ((nx : Int) + (m : Int)) ((nx : Int) + (qs.length : Int)) false) :: .dt (encEns ((ens qs).take m)) (.slice (some ⟨gl, 0, none⟩) m m) bl :: .bx (w.heap.size + 1) (.cells #[.int .i64 0, .int .i64 0, .bool false, .slice none 0 0] 27 (0, 0)) :: .bx w.heap.size (.cells #[.int .i64 x.cap, .int .i64 x.next, .bool x.out, .slice A3 x.list.length c3] 27 (0, 0)) :: Z) W11 from hm9)
 clear hm9
 obtain ⟨kr0, kr1, kr2, kr3⟩ := HM.out.c4 3 rfl
 obtain ⟨fr0, fr1, fr2, fr3⟩ := HM.out.f4 3 rfl
 go_wp2
 clear kr0 kr1 kr2 kr3 fr0 fr1 fr2 fr3
 replace HM := Lib.hid (HM.out.fr4)
 replace HM := Lib.hid (HM.out.fr3)
 replace HM := Lib.hid (HM.out.fr3)
 replace HM := Lib.hid (HM.out.fr3)
 replace HM := Lib.hid (HM.out.fr4)
 have hm := HM.out.putRow (ys := [.int .i64 (rm : Int), .int .i64 ((nx : Int) + (m : Int)), .bool false, .slice Al (ens (qs.drop m)).length cl]) rfl
 simp only [low.putRow, Nat.zero_add, Nat.reduceAdd] at hm
 replace HM := Lib.hid hm
 clear hm
 obtain ⟨W12, hW, hm⟩ := HM.out.name
 rw [← hW]
 replace HM := Lib.hid hm
 clear hm hW
 obtain ⟨kr0, kr1, kr2, kr3⟩ := HM.out.c4 0 rfl
 replace HM := Lib.hid (HM.out.fr4)
 replace HM := Lib.hid (HM.out.fr3)
 replace HM := Lib.hid (HM.out.fr2)
 replace HM := Lib.hid (HM.out.fr4)
 replace HM := Lib.hid (HM.out.fr4)
 rw [HN.out.1, HN.out.2.1, HN.out.2.2, show (⟨x.cap, x.next + (m : Int), x.out, x.list.drop m⟩ : Ri) = ⟨(rm : Int), ((nx : Int) + (m : Int)), false, ens (qs.drop m)⟩ by rw [HC.out.1, HC.out.2.1, hO.out, ← HC.out.2.2]; simp [ens], show x.list.take m = (ens qs).take m by rw [HC.out.2.2]]
 exact bodyPost_ret (v := .tuple #[.agg #[.int .i64 (rm : Int), .int .i64 ((nx : Int) + (m : Int)), .bool false, .slice Al (ens (qs.drop m)).length cl], .slice (some ⟨gl, 0, none⟩) m m, .int .i64 0]) (by simp [results, Try.results15, go_sem, kr0, kr1, kr2, kr3]) rfl (HM.out.res2N 0)
theorem implRingSame_d (v v' : Value) (x y : Ri) (w : World) (h : RdC w w.heap.size (datRi x) v) (h' : RdC w w.heap.size (datRi y) v') (hs : SmRi x) (hs' : SmRi y) : Calls Try.prog 18 #[v, v'] w (Tells (ringSameB x y) w) := by
 have HR := Lib.hid h
 have HS := Lib.hid h'
 obtain ⟨A3, c3, rfl, r3⟩ := aggRi h
 obtain ⟨B3, d3, rfl, s3⟩ := aggRi h'
 have R3 := Lib.hid r3
 have S3 := Lib.hid s3
 have hl := hs.list.len
 have hl' := hs'.list.len
 clear h h' r3 s3
 generalize hY : y.out = oy
 have HY := Lib.hid hY
 clear hY
 have HB := Lib.hid (show ringSameB x y = (decide (x.cap = y.cap) && (decide (x.next = y.next) && (x.out == y.out && entriesB x.list y.list))) from rfl)
 by_cases h0 : x.cap = y.cap
 rotate_left
 ·have g0 : (x.cap == y.cap) = false := by simp [h0]
  have H9 := Lib.hid (show decide (x.cap = y.cap) = false from decide_eq_false h0)
  clear h0
  have HM := Lib.hid (Ms.start w)
  replace HM := Lib.hid (HM.out.new #[.int .i64 x.cap, .int .i64 x.next, .bool x.out, .slice A3 x.list.length c3] 27)
  have hm := HM.out.new #[.int .i64 y.cap, .int .i64 y.next, .bool oy, .slice B3 y.list.length d3] 27
  simp only [World.size_alloc] at hm
  replace HM := Lib.hid hm
  clear hm
  go_enter Try.func18, Try.ntmps18
  go_wp2
  go_ret
  exact ⟨ret_b (show false = ringSameB x y by rw [HB.out, H9.out]; simp), HM.out.bl⟩
 have g0 : (x.cap == y.cap) = true := by simp [h0]
 have H0 := Lib.hid h0
 clear h0
 by_cases h1 : x.next = y.next
 rotate_left
 ·have g1 : (x.next == y.next) = false := by simp [h1]
  have H9 := Lib.hid (show decide (x.next = y.next) = false from decide_eq_false h1)
  clear h1
  have HM := Lib.hid (Ms.start w)
  replace HM := Lib.hid (HM.out.new #[.int .i64 x.cap, .int .i64 x.next, .bool x.out, .slice A3 x.list.length c3] 27)
  have hm := HM.out.new #[.int .i64 y.cap, .int .i64 y.next, .bool oy, .slice B3 y.list.length d3] 27
  simp only [World.size_alloc] at hm
  replace HM := Lib.hid hm
  clear hm
  go_enter Try.func18, Try.ntmps18
  go_wp2
  go_ret
  exact ⟨ret_b (show false = ringSameB x y by rw [HB.out, H9.out]; simp), HM.out.bl⟩
 have g1 : (x.next == y.next) = true := by simp [h1]
 have H1 := Lib.hid h1
 clear h1
 by_cases h2 : x.out = oy
 rotate_left
 ·obtain rfl : oy = !x.out := by revert h2; cases x.out <;> cases oy <;> simp
  have H9 := Lib.hid (show (x.out == y.out) = false by rw [HY.out]; cases x.out <;> rfl)
  clear h2
  have HM := Lib.hid (Ms.start w)
  replace HM := Lib.hid (HM.out.new #[.int .i64 x.cap, .int .i64 x.next, .bool x.out, .slice A3 x.list.length c3] 27)
  have hm := HM.out.new #[.int .i64 y.cap, .int .i64 y.next, .bool (!x.out), .slice B3 y.list.length d3] 27
  simp only [World.size_alloc] at hm
  replace HM := Lib.hid hm
  clear hm
  go_enter Try.func18, Try.ntmps18
  go_wp2
  go_ret
  exact ⟨ret_b (show false = ringSameB x y by rw [HB.out, H9.out]; simp), HM.out.bl⟩
 subst h2
 have H2 := Lib.hid (show (x.out == y.out) = true by rw [HY.out]; simp)
 have HM := Lib.hid (Ms.start w)
 replace HM := Lib.hid (HM.out.new #[.int .i64 x.cap, .int .i64 x.next, .bool x.out, .slice A3 x.list.length c3] 27)
 have hm := HM.out.new #[.int .i64 y.cap, .int .i64 y.next, .bool x.out, .slice B3 y.list.length d3] 27
 simp only [World.size_alloc] at hm
 replace HM := Lib.hid hm
 clear hm
 have HQ := Lib.hid (show ringSameB x y = entriesB x.list y.list by rw [HB.out, decide_eq_true H0.out, decide_eq_true H1.out, H2.out]; rfl)
 go_enter Try.func18, Try.ntmps18
 go_wp2_with fail
 obtain ⟨W1, hW, hm⟩ := HM.out.name
 rw [← hW]
 replace HM := Lib.hid hm
 clear hm hW
 refine (equalEn_d _ _ x.list y.list _ (HM.out.arg R3.out) (HM.out.arg S3.out) hs.list hs'.list).mono ?_
 rintro e' W2 ⟨rfl, b'⟩
 replace HM := Lib.hid (HM.out.past b')
 clear b'
 go_wp2
 go_ret
 exact ⟨ret_b HQ.out.symm, HM.out.bl⟩
end Go.Proofs.Ytglklgnggkenhaa.low
