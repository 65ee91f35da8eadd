/-
  Texts that the proofs over this seat rest on, one behind the other (5 of 6).
-/
import Derived.Test.YtbpeeokgpkjnmaaGreatDoorM4
import Derived.Test.YtbpeeokgpkjnmaaGreatDoorM1
import Derived.Lib.SliceRun
import Derived.WalkKit
import Derived.LaidEql
import Derived.Stop.Asserts
import Derived.RowKitTokens
import Derived.Test.YtbpeeokgpkjnmaaGreatDoorM3
import Derived.Test.YtbpeeokgpkjnmaaGreatDoorM2
import Derived.StillTailTactics
set_option maxHeartbeats 12800000
set_option maxRecDepth 1000000
namespace Go.Proofs.YtbpeeokgpkjnmaaGreatDoor.low
open Go.RowKit
set_option linter.unusedVariables false
section
variable {w0 W W' : World} {L : List It}
theorem Ms.fillA {g n cap : Nat} {e : TypeId} {ds : List (List Dat)} {d : Dat} {v : Value} {b c : List Nat} (x y : Int) (h : Ms w0 (.dt (.rows e 3 ds) (.slice (some ⟨g, 0, none⟩) n cap) b :: .dt d v c :: L) W) (hn : n = ds.length) (hcap : n < cap) :
  ∃ b', Ms w0 (.dt (.rows e 3 (ds ++ [[.int x, .int y, d]])) (.slice (some ⟨g, 0, none⟩) (n + 1) cap) b' :: L) (((W.setCell ⟨g, n * 3, none⟩ (.int .i64 x)).setCell ⟨g, n * 3 + 1, none⟩ (.int .i64 y)).setCell ⟨g, n * 3 + 2, none⟩ v) := by
 subst hn
 have hd : OwC W d v c := h.at_ (i := 1) rfl
 have hrow : OwR W 3 [[.int x, .int y, d]] [.int .i64 x, .int .i64 y, v] c := OwR.one ⟨_, _, [], c, rfl, rfl, ⟨rfl, rfl⟩, _, _, [], c, rfl, rfl, ⟨rfl, rfl⟩, v, [], c, [], rfl, by simp, hd, rfl, rfl⟩ rfl
 obtain ⟨xs, hown, grow⟩ := Ms.grow (Y := [.dt d v c]) h hrow (h.ndAt (i := 1) (x := .dt d v c) rfl) (fun q hq => by simpa [It.bs] using hq)
 obtain ⟨hxs, hcase⟩ := hown
 rcases hcase with ⟨h0, _⟩ | ⟨g', cap', cur, hv, _, hh, hnc, hcm, hcs, htk⟩
 ·cases h0
 injection hv with hv1 _ hv3
 injection hv1 with hv1
 injection hv1 with hv1 _ _
 subst hv1 hv3
 refine grow g (ds.length + 1) cap _ ?_ ⟨rfl, rfl, rfl, by simp [World.setCell], fun k hk hne => ?_⟩ (.inl rfl) (by simp only [World.setCell, Array.size_modify]; exact lt_of_some hh)
 rotate_left
 ·have hne' : k ≠ g := fun e => hne (by rw [e]; rfl)
  exact ((Below.heap_setCell _ _ _ _ hne').trans (Below.heap_setCell _ _ _ _ hne')).trans (Below.heap_setCell _ _ _ _ hne')
 refine ⟨by simp [hxs]; omega, .inr ⟨g, cap, ((cur.setIfInBounds (ds.length * 3) (.int .i64 x)).setIfInBounds (ds.length * 3 + 1) (.int .i64 y)).setIfInBounds (ds.length * 3 + 2) v, by simp, Nat.zero_le _, bxset (bxset (bxset hh _) _) v, by simp; omega, hcm, by simpa using hcs, ?_⟩⟩
 have hsz : ds.length * 3 + 3 ≤ cur.toList.length := by
  have e : cur.toList.length = cap * 3 := by rw [Array.length_toList]; exact hcs
  rw [e]
  have : (ds.length + 1) * 3 ≤ cap * 3 := Nat.mul_le_mul_right 3 hcap
  omega
 rw [Array.toList_setIfInBounds, Array.toList_setIfInBounds, Array.toList_setIfInBounds, List.length_append, List.length_singleton, Nat.add_mul, Nat.one_mul]
 apply List.ext_getElem?
 intro t
 rw [List.getElem?_take]
 by_cases ht : t < ds.length * 3
 ·rw [if_pos (by omega), List.getElem?_set_ne (by omega), List.getElem?_set_ne (by omega), List.getElem?_set_ne (by omega), List.getElem?_append_left (by rw [hxs]; exact ht), ← htk, List.getElem?_take, if_pos ht]
 ·rw [List.getElem?_append_right (by rw [hxs]; omega), hxs]
  by_cases h3 : t < ds.length * 3 + 3
  ·rw [if_pos h3]
   obtain ⟨k, rfl⟩ : ∃ k, t = ds.length * 3 + k := ⟨t - ds.length * 3, by omega⟩
   rw [Nat.add_sub_cancel_left]
   have hk : k = 0 ∨ k = 1 ∨ k = 2 := by omega
   rcases hk with rfl | rfl | rfl
   ·rw [List.getElem?_set_ne (by omega), List.getElem?_set_ne (by omega), Nat.add_zero, List.getElem?_set_self (by omega)]
    rfl
   ·rw [List.getElem?_set_ne (by omega), List.getElem?_set_self (by simp; omega)]
    rfl
   ·rw [List.getElem?_set_self (by simp; omega)]
    rfl
  ·rw [if_neg h3, List.getElem?_eq_none (by simp; omega)]
theorem Ms.unEn {x : En} {v : Value} {b : List Nat} (h : Ms w0 (.dt (datEn x) (.agg #[.int .i64 x.client, .int .i64 x.seq, v]) b :: L) W) : ∃ c, Ms w0 (.dt (encPs x.o) v c :: L) W := by
 obtain ⟨d1, d2, h1⟩ := (show Ms w0 (.dt (.agg (encEn x)) (.agg ([.int .i64 x.client, .int .i64 x.seq, v] : List Value).toArray) b :: L) W from h).un
 obtain ⟨d3, d4, h2⟩ := h1.tail.un
 obtain ⟨d5, d6, h3⟩ := h2.tail.un
 exact ⟨d5, (h3.perm (.swap _ _ _)).tail⟩
theorem Ms.made {n sz : Nat} {e : TypeId} {xs : List Value} (h : Ms w0 L W) (ho : W'.ownsRow W.heap.size e sz (.slice (some ⟨W.heap.size, 0, none⟩) n n) n xs) (hg : Below W.heap.size W W') : Ms w0 (.dt (.rows e sz []) (.slice (some ⟨W.heap.size, 0, none⟩) 0 n) [W.heap.size] :: L) W' := by
 obtain ⟨hxs, hcase⟩ := ho
 rcases hcase with ⟨h0, _⟩ | ⟨g', cap', cur, hv, _, hh, hnc, hcm, hcs, htk⟩
 ·cases h0
 injection hv with hv1 _ hv3
 injection hv1 with hv1
 injection hv1 with hv1 _ _
 subst hv1 hv3
 refine h.cons hg ⟨[], [], ⟨by simp, .inr ⟨_, n, cur, rfl, Nat.zero_le _, hh, Nat.zero_le _, hcm, hcs, by simp⟩⟩, ⟨rfl, rfl⟩, rfl⟩ (by simp [It.bs]) (fun q hq => by simp [It.bs] at hq; omega)
end
theorem cloneEns_d (v : Value) (l : List En) (w : World) (h : RdC w w.heap.size (encEns l) v) (hs : l.length ≤ 1048576) : Calls Tryz.prog 76 #[v] w (RawPost 86 (l.map encEn) w) := by
 obtain ⟨A, c, rfl⟩ := sliceEns h
 have hq : ∀ (w : World) (A : Option Addr) (n c n' c' : Nat), (binOp .eql 33 (.slice A n c) (.slice none n' c')).run Tryz.prog w = .ok (.bool A.isNone) w := fun w A n c n' c' => Lib.run_eql_slice_nil w _ _ A n c n' c' Tryz.underlying33
 cases A with
 | none =>
  obtain rfl : l = [] := by
   obtain ⟨A9, c9, hv, _, h9⟩ := h
   injection hv with e1 e2 e3
   by_cases h0 : 0 < l.length
   ·obtain ⟨ad, e4, _⟩ := h9 (by simpa using h0)
    rw [← e1] at e4
    cases e4
   ·exact List.eq_nil_of_length_eq_zero (by omega)
  clear h
  go_enter Tryz.func76, Tryz.ntmps76
  go_wp2
  go_ret
  exact .inl ⟨rfl, rfl, rfl⟩
 | some ad =>
  have HR := Lib.hid h
  clear h
  have e0 : (l.map encEn).length = l.length := List.length_map _
  have E0 := Lib.hid e0
  clear e0
  have HM := Lib.hid (Ms.start w)
  replace HM := Lib.hid (HM.out.empty 86 3)
  go_enter Tryz.func76, Tryz.ntmps76
  go_wp2_with (at_builtin; refine wpList_raw (rs := l.map encEn) rfl (.tmp 5) (.tmp 6) 33 rfl eltEn HM.out rfl (some ad) l.length c rfl HR.out (fun r hr => by obtain ⟨q, _, rfl⟩ := List.mem_map.1 hr; exact ⟨rfl, fun d hd => by simp only [encEn, List.mem_cons, List.not_mem_nil, or_false] at hd; rcases hd with rfl | rfl | rfl <;> rfl⟩) (by rw [E0.out]; omega) ?_; intro g cap w1 b1 ys hcap hm hraw hcells)
  have HM1 := Lib.hid hm
  have HX := Lib.hid (And.intro hraw (And.intro hcells hcap))
  clear hm HM hraw hcells hcap
  go_wp2
  go_ret
  exact .inr ⟨g, cap, ys, by rw [E0.out]; rfl, by rw [E0.out]; exact HX.out.2.2, HM1.out.own (i := 0) rfl, HX.out.1, HX.out.2.1, HM1.out.bl⟩
theorem implCopyEntry_d (v : Value) (x : En) (w : World) (h : RdC w w.heap.size (datEn x) v) (hs : SmEn x) : Calls Tryz.prog 77 #[v] w (OwnPost (datEn x) w) := by
 obtain ⟨A2, c2, rfl, r2⟩ := aggEn h
 have HR := Lib.hid r2
 clear h r2
 have HM := Lib.hid (Ms.start w)
 replace HM := Lib.hid (HM.out.new #[.int .i64 x.client, .int .i64 x.seq, .slice A2 x.o.length c2] 86)
 have hm := HM.out.new #[.int .i64 0, .int .i64 0, .slice none 0 0] 86
 simp only [World.size_alloc] at hm
 replace HM := Lib.hid hm
 clear hm
 go_enter Tryz.func77, Tryz.ntmps77
 go_wp2_with fail
 obtain ⟨W1, hW, hm⟩ := HM.out.name
 rw [← hW]
 replace HM := Lib.hid hm
 clear hm hW
 refine (implCopyOp_d _ x.o _ (HM.out.arg HR.out) hs.o).mono ?_
 rintro e' W2 ⟨v', rfl, o', b'⟩
 obtain ⟨An, cn, rfl⟩ := sliceP o'.read
 obtain ⟨bn, hm⟩ := HM.out.got o' b'
 clear o' b'
 replace HM := Lib.hid hm
 clear hm
 obtain ⟨kx0, kx1, kx2⟩ := HM.out.c3 2 rfl
 obtain ⟨fx0, fx1, fx2⟩ := HM.out.f3 2 rfl
 obtain ⟨kr0, kr1, kr2⟩ := HM.out.c3 1 rfl
 obtain ⟨fr0, fr1, fr2⟩ := HM.out.f3 1 rfl
 obtain ⟨nxr, nrx⟩ := HM.out.ne (i := 1) (j := 2) rfl rfl (by omega)
 go_wp2
 clear kx0 kx1 kx2 kr0 kr1 kr2 fx0 fx1 fx2 fr0 fr1 fr2
 have hm := HM.out.pk [2, 0, 1] (by decide) (by simp)
 simp only [low.pk, low.gz, low.gs] at hm
 replace HM := Lib.hid hm
 clear hm
 have hm := HM.out.set (j := 2) (.slice An x.o.length cn)
 simp only [pa, pb, pc] at hm
 replace HM := Lib.hid hm
 clear hm
 have hm := HM.out.pk [2, 0, 1] (by decide) (by simp)
 simp only [low.pk, low.gz, low.gs] at hm
 replace HM := Lib.hid hm
 clear hm
 have hm := HM.out.putRow (ys := [.int .i64 x.client, .int .i64 x.seq, .slice An x.o.length cn]) rfl
 simp only [low.putRow, Nat.zero_add, Nat.reduceAdd] at hm
 replace HM := Lib.hid hm
 clear hm
 obtain ⟨W3, hW, hm⟩ := HM.out.name
 rw [← hW]
 replace HM := Lib.hid hm
 clear hm hW
 obtain ⟨kr0, kr1, kr2⟩ := HM.out.c3 0 rfl
 have hm := HM.out.pk [2, 0, 1] (by decide) (by simp)
 simp only [low.pk, low.gz, low.gs] at hm
 replace HM := Lib.hid hm
 clear hm
 exact bodyPost_ret (v := .agg #[.int .i64 x.client, .int .i64 x.seq, .slice An x.o.length cn]) (by simp [results, Tryz.results77, go_sem, kr0, kr1, kr2]) rfl (show Ms w (.dt (datEn x) (.agg #[.int .i64 x.client, .int .i64 x.seq, .slice An x.o.length cn]) _ :: _) _ from (HM.out.pk0.pkO.pkF rfl).pkF rfl).post
theorem implCopyEntries_d (v : Value) (l : List En) (w : World) (h : RdC w w.heap.size (encEns l) v) (hs : SmEns l) : Calls Tryz.prog 51 #[v] w (OwnPost (encEns l) w) := by
 obtain ⟨A, c, rfl⟩ := sliceEns h
 have hl : l.length ≤ 1048576 := by have := hs.len; omega
 have HR := Lib.hid h
 clear h
 have HM := Lib.hid (Ms.start w)
 go_enter Tryz.func51, Tryz.ntmps51
 go_wp2_with fail
 refine (cloneEns_d _ l _ HR.out hl).mono ?_
 rintro e' W1 (⟨h0, rfl, rfl⟩ | ⟨g, cap, ys, rfl, hcap, o', hraw, hcells, b'⟩)
 ·obtain rfl : l = [] := List.map_eq_nil_iff.1 h0
  go_wp2
  refine wp_loop_rounds 1 ?_
  rw [rounds_succ]
  go_wp2
  go_ret
  exact (HM.out.nil 86 3).post
 ·rw [show (l.map encEn).length = l.length from List.length_map _] at hcap ⊢
  have HW := Lib.hid hraw
  have HC := Lib.hid hcells
  clear hraw hcells
  obtain ⟨bp, hm⟩ := HM.out.got o' b'
  clear o' b'
  replace HM := Lib.hid hm
  clear hm
  go_wp2
  go_loopw [10] (fun i wr => ∃ (j : Nat) (bs : List Nat), j ≤ l.length ∧ i = .int .i64 (j : Int) ∧ Ms w [.dt (.rows 86 3 ((l.take j).map encEn)) (.slice (some ⟨g, 0, none⟩) j cap) bs] wr ∧ Raw wr g (j * 3) ys) (fun i _ => l.length - (intOf i).toNat)
  case atStart => exact ⟨0, _, Nat.zero_le _, rfl, HM.out, by simpa using HW.out⟩
  case round =>
   obtain ⟨j, bs, hj, rfl, hm, hw⟩ := hrel
   clear HM HW
   have HM := Lib.hid hm
   have HW := Lib.hid hw
   clear hm hw
   by_cases hlt : j < l.length
   ·obtain ⟨p, hp⟩ : ∃ p, l[j]? = some p := ⟨_, List.getElem?_eq_getElem hlt⟩
    obtain ⟨y, hy, hyl, hyk⟩ := HC.out j (encEn p) (by rw [List.getElem?_map, hp]; rfl)
    obtain ⟨_, _, rfl, rfl, _, _, rfl, rfl, v2, _, rfl, hr2, rfl⟩ := hy
    obtain ⟨A5, c5, rfl⟩ := sliceP hr2
    have x0 : wr.cell? ⟨g, j * 3, none⟩ = some (.int .i64 p.client) := HW.out.cell (by omega) (hyk 0 _ rfl)
    have X0 := Lib.hid (show ys[j * 3]? = some (.int .i64 p.client) from hyk 0 _ rfl)
    have x1 : wr.cell? ⟨g, j * 3 + 1, none⟩ = some (.int .i64 p.seq) := HW.out.cell (by omega) (hyk 1 _ rfl)
    have X1 := Lib.hid (show ys[j * 3 + 1]? = some (.int .i64 p.seq) from hyk 1 _ rfl)
    have x2 : wr.cell? ⟨g, j * 3 + 2, none⟩ = some (.slice A5 p.o.length c5) := HW.out.cell (by omega) (hyk 2 _ rfl)
    have X2 := Lib.hid (show ys[j * 3 + 2]? = some (.slice A5 p.o.length c5) from hyk 2 _ rfl)
    have HR2 := Lib.hid hr2
    have HT := Lib.hid (show (l.take (j + 1)).map encEn = (l.take j).map encEn ++ [[.int p.client, .int p.seq, encPs p.o]] by rw [List.take_add_one, hp]; simp [encEn])
    have hsm := hs.at_ (List.mem_of_getElem? hp)
    have hlj : j < cap := by omega
    have hlen : ((l.take j).map encEn).length = j := by simp; omega
    have HLN := Lib.hid hlen
    clear hyk hyl hr2 hp hlen
    have HW := Lib.hid (HW.out.past (alloc_below wr (.cells #[.int .i64 p.client, .int .i64 p.seq, .slice A5 p.o.length c5] 86)))
    replace HM := Lib.hid (HM.out.new #[.int .i64 p.client, .int .i64 p.seq, .slice A5 p.o.length c5] 86)
    go_wp2_with fail
    generalize (wr.alloc (.cells #[.int .i64 p.client, .int .i64 p.seq, .slice A5 p.o.length c5] 86)) = W2 at HM HW ⊢
    refine (implCopyEntry_d _ p _ (rdEn p (HM.out.arg HR2.out)) hsm).mono ?_
    rintro e' W3 ⟨v', rfl, o', b'⟩
    obtain ⟨A6, c6, rfl, -⟩ := aggEn o'.read
    have HW := Lib.hid (HW.out.past b')
    obtain ⟨b6, hm⟩ := HM.out.got o' b'
    clear o' b'
    obtain ⟨b7, hm⟩ := hm.unEn
    replace HM := Lib.hid hm
    clear hm
    clear x0 x1 x2
    have y0 : W3.cell? ⟨g, j * 3, none⟩ = some (.int .i64 p.client) := HW.out.cell (by omega) X0.out
    have f0 : W3.frozen? ⟨g, j * 3, none⟩ = false := HW.out.free
    have y1 : W3.cell? ⟨g, j * 3 + 1, none⟩ = some (.int .i64 p.seq) := HW.out.cell (by omega) X1.out
    have f1 : W3.frozen? ⟨g, j * 3 + 1, none⟩ = false := HW.out.free
    have y2 : W3.cell? ⟨g, j * 3 + 2, none⟩ = some (.slice A5 p.o.length c5) := HW.out.cell (by omega) X2.out
    have f2 : W3.frozen? ⟨g, j * 3 + 2, none⟩ = false := HW.out.free
    have hm := HM.out.pk [2, 0, 1] (by decide) (by simp)
    simp only [low.pk, low.gz, low.gs] at hm
    replace HM := Lib.hid hm
    clear hm
    obtain ⟨b8, hm⟩ := HM.out.fillA p.client p.seq HLN.out.symm hlj
    rw [← HT.out] at hm
    have HM8 := Lib.hid hm
    have HW8 := Lib.hid (((HW.out.set (k' := (j + 1) * 3) (j * 3) (.int .i64 p.client) (by omega) (by omega)).set (k' := (j + 1) * 3) (j * 3 + 1) (.int .i64 p.seq) (by omega) (by omega)).set (k' := (j + 1) * 3) (j * 3 + 2) (.slice A6 p.o.length c6) (by omega) (by omega))
    clear hm HM HW X0 X1 X2 HT HR2
    go_wp2
    go_roundw
    case rel => exact ⟨j + 1, b8, by omega, by go_num, HM8.out.pick (ks := [0]) (by decide) rfl, HW8.out⟩
    case measure => simp [intOf]; omega
   ·obtain rfl : j = l.length := by omega
    have hm := HM.out
    rw [List.take_length] at hm
    have HM7 := Lib.hid hm
    clear hm HM
    go_wp2
    go_ret
    exact (show Ms w [.dt (encEns l) _ _] _ from HM7.out).post
end Go.Proofs.YtbpeeokgpkjnmaaGreatDoor.low
namespace Go.Proofs.YtbpeeokgpkjnmaaGreatDoor.low
open Go.RowKit Go.Extern.Stop Go.Stop Go.Extern
set_option linter.unusedVariables false
def ET (w : World) : Prop := w.cell? ⟨0, 0, none⟩ = some (.iface 146 (.agg #[.pointer (some ⟨1, 74, none⟩)]))
theorem ET.lt {w : World} (h : ET w) : 0 < w.heap.size := by
 unfold ET at h
 rcases Nat.lt_or_ge 0 w.heap.size with h1 | h1
 ·exact h1
 ·simp [World.cell?, Array.getElem?_eq_none h1] at h
theorem ET.past {w w' : World} (h : ET w) {B : Nat} (hB : B = w.heap.size) (hb : Below B w w') : ET w' := (hb.cell (p := ⟨0, 0, none⟩) (by rw [hB]; exact h.lt)).trans h
theorem asNil (t : Value) (w : World) : Calls Tryz.prog 71 #[.nilIface, t] w fun e w' => e = .returned (.bool false) ∧ w = w' := by
 go_enter Tryz.func71, Tryz.ntmps71
 go_wp2
 go_ret
 exact ⟨rfl, rfl⟩
theorem rlMethod (z : Sem Value) (f : TypeId → Addr → Nat → Nat → Sem Value) (v : Value) :
  ReflectliteValue.method z f #[v] = (do match ← ReflectliteValue.parts v with | none => z | some (t, a, fl) => f t a fl (fl % 32)) := rfl
theorem rlSet (v x : Value) : ReflectliteValue.set #[v, x] = (do
  let (some (dst, a, fl), some (src, b, _)) := (← ReflectliteValue.parts v, ← ReflectliteValue.parts x)
   | unsupported (.noEntry "extern/(internal/reflectlite.Value).Set.zeroValue")
  if fl / ReflectliteValue.flagAddr % 2 == 0 then unsupported (.noEntry "extern/(internal/reflectlite.Value).Set.unaddressable")
  let val ← loadVar src b
  if ← Rtype.directlyAssignable dst src then storeVar dst a val
  else if ← Rtype.implements dst src then
   if (← Rtype.kind src) == 20 then
    match val with
    | .nilIface => unsupported (.noEntry "extern/reflectlite: a nil value of one interface type handed on as a value of another")
    | _ => storeVar dst a val
   else storeVar dst a (.iface src val)
  else panicString ("reflectlite.Set: value of type " ++ (← Rtype.spelt src) ++ " is not assignable to type " ++ (← Rtype.spelt dst))
  pure (.tuple #[])) := rfl
theorem rjValueOfP (t : Addr) (w : World) : (ReflectliteValue.unpack (.iface 107 (.pointer (some t)))).run Tryz.prog w
  = .ok (.agg #[.pointer (some ⟨1, 107, none⟩), .pointer (some ⟨w.heap.size, 0, none⟩), .int .u64 150]) (w.alloc (.cells #[.pointer (some t)] 107)) := by kernel_rfl
theorem rjTypeP (a : Addr) (w : World) : (ReflectliteValue.methodAny (ReflectliteValue.valueError "reflectlite.Value.Type" 0) (fun t _ _ _ => ReflectliteType.toType t) #[.agg #[.pointer (some ⟨1, 107, none⟩), .pointer (some a), .int .u64 150]]).run Tryz.prog w
  = .ok (.iface 146 (.agg #[.pointer (some ⟨1, 107, none⟩)])) w := by kernel_rfl
theorem rjMKind (h : Value) (w : World) : (Go.method 348 146 (.agg #[h]) "Kind").run Tryz.prog w = .ok (193, h) w := by kernel_rfl
theorem rjKindP (w : World) : ((ReflectliteType.abiMethod fun t => (fun a : Nat => Value.int IntKind.u8 (a : Int)) <$> Rtype.kind t) #[.pointer (some ⟨1, 107, none⟩)]).run Tryz.prog w = .ok (.int .u8 22) w := by kernel_rfl
theorem rjKind (w : World) : ((ReflectliteType.abiMethod fun t => (fun a : Nat => Value.int IntKind.u8 (a : Int)) <$> Rtype.kind t) #[.pointer (some ⟨1, 105, none⟩)]).run Tryz.prog w = .ok (.int .u8 2) w := by kernel_rfl
theorem rjPartsP (a : Addr) (w : World) : (ReflectliteValue.parts (.agg #[.pointer (some ⟨1, 107, none⟩), .pointer (some a), .int .u64 150])).run Tryz.prog w = .ok (some (107, a, 150)) w := by kernel_rfl
theorem rjIsNilP (a p : Addr) (W : World) (ha : W.cell? a = some (.pointer (some p))) :
  (ReflectliteValue.method (ReflectliteValue.valueError "reflectlite.Value.IsNil" 0) ReflectliteValue.isNil #[.agg #[.pointer (some ⟨1, 107, none⟩), .pointer (some a), .int .u64 150]]).run Tryz.prog W = .ok (.bool false) W := by
 rw [rlMethod]
 simp only [Sem.run_bind, rjPartsP, Result.andThen]
 simp [ReflectliteValue.isNil, loadVar, isAgg, underlying, Tryz.underlying107, ha, Result.andThen]
theorem rjMElem (h : Value) (w : World) : (Go.method 348 146 (.agg #[h]) "Elem").run Tryz.prog w = .ok (203, .agg #[h]) w := by kernel_rfl
theorem rjMImpl (h : Value) (w : World) : (Go.method 348 146 (.agg #[h]) "Implements").run Tryz.prog w = .ok (204, .agg #[h]) w := by kernel_rfl
theorem rjMAssign (h : Value) (w : World) : (Go.method 348 146 (.agg #[h]) "AssignableTo").run Tryz.prog w = .ok (201, .agg #[h]) w := by kernel_rfl
theorem rjElemT (w : World) : (ReflectliteType.method ReflectliteType.elem #[.agg #[.pointer (some ⟨1, 107, none⟩)]]).run Tryz.prog w = .ok (.iface 146 (.agg #[.pointer (some ⟨1, 105, none⟩)])) w := by kernel_rfl
theorem rjImpl (w : World) : (ReflectliteType.relation "Implements" ReflectliteType.implements_ #[.agg #[.pointer (some ⟨1, 105, none⟩)], .iface 146 (.agg #[.pointer (some ⟨1, 74, none⟩)])]).run Tryz.prog w = .ok (.bool true) w := by kernel_rfl
theorem rjTypeOf (v : Value) (w : World) : (ReflectliteType.typeOf #[.iface 105 v]).run Tryz.prog w = .ok (.iface 146 (.agg #[.pointer (some ⟨1, 105, none⟩)])) w := by kernel_rfl
theorem rjAssign (w : World) : (ReflectliteType.relation "AssignableTo" ReflectliteType.assignableTo #[.agg #[.pointer (some ⟨1, 105, none⟩)], .iface 146 (.agg #[.pointer (some ⟨1, 105, none⟩)])]).run Tryz.prog w = .ok (.bool true) w := by kernel_rfl
theorem rjValueOf (k : Int) (w : World) : (ReflectliteValue.unpack (.iface 105 (.int .i64 k))).run Tryz.prog w
  = .ok (.agg #[.pointer (some ⟨1, 105, none⟩), .pointer (some ⟨w.heap.size, 0, none⟩), .int .u64 130]) (w.alloc (.cells #[.int .i64 k] 105)) := by kernel_rfl
theorem rjElemOf (w : World) : (Rtype.elem? 107).run Tryz.prog w = .ok (some 105) w := by kernel_rfl
theorem rjMk (p : Addr) (w : World) : (ReflectliteValue.mk 105 p ReflectliteValue.flagAddr).run Tryz.prog w = .ok (.agg #[.pointer (some ⟨1, 105, none⟩), .pointer (some p), .int .u64 386]) w := by kernel_rfl
theorem rjElemV (a p : Addr) (W : World) (ha : W.cell? a = some (.pointer (some p))) :
  (ReflectliteValue.method (ReflectliteValue.valueError "reflectlite.Value.Elem" 0) ReflectliteValue.elem #[.agg #[.pointer (some ⟨1, 107, none⟩), .pointer (some a), .int .u64 150]]).run Tryz.prog W
   = .ok (.agg #[.pointer (some ⟨1, 105, none⟩), .pointer (some p), .int .u64 386]) W := by
 rw [rlMethod]
 simp only [Sem.run_bind, rjPartsP, Result.andThen]
 simp [ReflectliteValue.elem, loadVar, isAgg, underlying, Tryz.underlying107, ha, Result.andThen, rjElemOf, rjMk]
theorem rjPartsA (a : Addr) (w : World) : (ReflectliteValue.parts (.agg #[.pointer (some ⟨1, 105, none⟩), .pointer (some a), .int .u64 386])).run Tryz.prog w = .ok (some (105, a, 386)) w := by kernel_rfl
theorem rjParts (a : Addr) (w : World) : (ReflectliteValue.parts (.agg #[.pointer (some ⟨1, 105, none⟩), .pointer (some a), .int .u64 130])).run Tryz.prog w = .ok (some (105, a, 130)) w := by kernel_rfl
theorem rjDirect (w : World) : (Rtype.directlyAssignable 105 105).run Tryz.prog w = .ok true w := by kernel_rfl
theorem rjSet (ta b : Addr) (k : Int) (old : Value) (W : World) (hb : W.cell? b = some (.int .i64 k)) (ht : W.cell? ta = some old) (hf : W.frozen? ta = false) :
  (ReflectliteValue.set #[.agg #[.pointer (some ⟨1, 105, none⟩), .pointer (some ta), .int .u64 386], .agg #[.pointer (some ⟨1, 105, none⟩), .pointer (some b), .int .u64 130]]).run Tryz.prog W
   = .ok (.tuple #[]) (W.setCell ta (.int .i64 k)) := by
 rw [rlSet]
 simp only [Sem.run_bind, rjPartsA, rjParts, Result.andThen]
 simp [ReflectliteValue.flagAddr, loadVar, isAgg, underlying, Tryz.underlying105, hb, Result.andThen, rjDirect, storeVar, Value.cells, storeCells, Addr.add]
 rw [run_store Tryz.prog W ta _ _ (by rfl)]
 simp [ht, hf]
theorem asHit (k : Int) (t : Addr) (old : Value) (w : World) (hg : ET w) (ht0 : w.cell? t = some old) (hf0 : w.frozen? t = false) :
  Calls Tryz.prog 71 #[.iface 105 (.int .i64 k), .iface 107 (.pointer (some t))] w fun ev w' => ev = .returned (.bool true) ∧ w' = ((((w.alloc (.cells #[.pointer (some t)] 107)).alloc (.cells #[.pointer (some ⟨1, 107, none⟩), .pointer (some ⟨w.heap.size, 0, none⟩), .int .u64 150] 119)).alloc (.cells #[.pointer (some ⟨1, 107, none⟩), .pointer (some ⟨w.heap.size, 0, none⟩), .int .u64 150] 119)).alloc (.cells #[.int .i64 k] 105)).setCell t (.int .i64 k) := by
 have h0 := @run_callFunc_extern Tryz.prog 90 _ (fun args => ReflectliteValue.unpack (args.getD 0 (.tuple #[]))) Tryz.func90 (by kernel_rfl) (by kernel_rfl) (by kernel_rfl) (by kernel_rfl)
 have h1 := @run_callFunc_extern Tryz.prog 91 _ (ReflectliteValue.methodAny (ReflectliteValue.valueError "reflectlite.Value.Type" 0) (fun t _ _ _ => ReflectliteType.toType t)) Tryz.func91 (by kernel_rfl) (by kernel_rfl) (by kernel_rfl) (by kernel_rfl)
 have h2 := @run_callFunc_extern Tryz.prog 92 _ (ReflectliteValue.method (ReflectliteValue.valueError "reflectlite.Value.IsNil" 0) ReflectliteValue.isNil) Tryz.func92 (by kernel_rfl) (by kernel_rfl) (by kernel_rfl) (by kernel_rfl)
 have h3 := @run_callFunc_extern Tryz.prog 193 _ (ReflectliteType.abiMethod fun t => do pure (.int .u8 (← Rtype.kind t))) Tryz.func193 (by kernel_rfl) (by kernel_rfl) (by kernel_rfl) (by kernel_rfl)
 have h4 := @run_callFunc_extern Tryz.prog 203 _ (ReflectliteType.method ReflectliteType.elem) Tryz.func203 (by kernel_rfl) (by kernel_rfl) (by kernel_rfl) (by kernel_rfl)
 have h5 := @run_callFunc_extern Tryz.prog 204 _ (ReflectliteType.relation "Implements" ReflectliteType.implements_) Tryz.func204 (by kernel_rfl) (by kernel_rfl) (by kernel_rfl) (by kernel_rfl)
 have h6 := @run_callFunc_extern Tryz.prog 114 _ ReflectliteType.typeOf Tryz.func114 (by kernel_rfl) (by kernel_rfl) (by kernel_rfl) (by kernel_rfl)
 have h7 := @run_callFunc_extern Tryz.prog 201 _ (ReflectliteType.relation "AssignableTo" ReflectliteType.assignableTo) Tryz.func201 (by kernel_rfl) (by kernel_rfl) (by kernel_rfl) (by kernel_rfl)
 have h8 := @run_callFunc_extern Tryz.prog 115 _ (ReflectliteValue.method (ReflectliteValue.valueError "reflectlite.Value.Elem" 0) ReflectliteValue.elem) Tryz.func115 (by kernel_rfl) (by kernel_rfl) (by kernel_rfl) (by kernel_rfl)
 have h9 := @run_callFunc_extern Tryz.prog 116 _ ReflectliteValue.set Tryz.func116 (by kernel_rfl) (by kernel_rfl) (by kernel_rfl) (by kernel_rfl)
 have q0 := rjTypeOf
 have q1 := rjMAssign
 have q2 := rjAssign
 have q3 := rjValueOf
 have q4 := rjValueOfP
 have q5 := rjTypeP
 have q6 := rjMKind
 have q7 := rjMElem
 have q8 := rjMImpl
 have q9 := rjKindP
 have q10 := rjKind
 have q11 := rjElemT
 have q12 := rjImpl
 have n8 := rjIsNilP ⟨w.heap.size, 0, none⟩ t ((w.alloc (.cells #[.pointer (some t)] 107)).alloc (.cells #[.pointer (some ⟨1, 107, none⟩), .pointer (some ⟨w.heap.size, 0, none⟩), .int .u64 150] 119)) (by simp)
 have hlt := hg.lt
 unfold ET at hg
 have hg2 : ((w.alloc (.cells #[.pointer (some t)] 107)).alloc (.cells #[.pointer (some ⟨1, 107, none⟩), .pointer (some ⟨w.heap.size, 0, none⟩), .int .u64 150] 119)).cell? ⟨0, 0, none⟩ = some (.iface 146 (.agg #[.pointer (some ⟨1, 74, none⟩)])) := by
  rw [World.cell?_alloc_lt _ _ ⟨0, 0, none⟩ (by simp), World.cell?_alloc_lt _ _ ⟨0, 0, none⟩ hlt]; exact hg
 have htl : t.block < w.heap.size := by
  rcases Nat.lt_or_ge t.block w.heap.size with h | h
  ·exact h
  ·simp [World.cell?, Array.getElem?_eq_none h] at ht0
 have el := rjElemV ⟨w.heap.size, 0, none⟩ t (((w.alloc (.cells #[.pointer (some t)] 107)).alloc (.cells #[.pointer (some ⟨1, 107, none⟩), .pointer (some ⟨w.heap.size, 0, none⟩), .int .u64 150] 119)).alloc (.cells #[.pointer (some ⟨1, 107, none⟩), .pointer (some ⟨w.heap.size, 0, none⟩), .int .u64 150] 119)) (by rw [World.cell?_alloc_lt _ _ ⟨w.heap.size, 0, none⟩ (by simp; omega)]; simp)
 have st := rjSet t ⟨w.heap.size + 1 + 1 + 1, 0, none⟩ k old ((((w.alloc (.cells #[.pointer (some t)] 107)).alloc (.cells #[.pointer (some ⟨1, 107, none⟩), .pointer (some ⟨w.heap.size, 0, none⟩), .int .u64 150] 119)).alloc (.cells #[.pointer (some ⟨1, 107, none⟩), .pointer (some ⟨w.heap.size, 0, none⟩), .int .u64 150] 119)).alloc (.cells #[.int .i64 k] 105))
  (by rw [World.cell?_alloc_at _ _ _ _ (by simp)]; rfl)
  (by rw [World.cell?_alloc_lt _ _ t (by simp; omega), World.cell?_alloc_lt _ _ t (by simp; omega), World.cell?_alloc_lt _ _ t (by simp; omega), World.cell?_alloc_lt _ _ t htl]; exact ht0)
  (by rw [World.frozen?_alloc_old _ _ t (by simp; omega), World.frozen?_alloc_old _ _ t (by simp; omega), World.frozen?_alloc_old _ _ t (by simp; omega), World.frozen?_alloc_old _ _ t (Nat.ne_of_lt htl)]; exact hf0)
 go_enter Tryz.func71, Tryz.ntmps71
 go_wp2
 refine wp_loop_rounds 1 ?_
 rw [rounds_succ]
 go_wp2
 go_ret
 exact ⟨rfl, rfl⟩
theorem codeOf_nil (w : World) : Calls Tryz.prog 42 #[.nilIface] w (Nums1 0 w) := by
 go_enter Tryz.func42, Tryz.ntmps42
 go_wp2_with (go_at_call 71; refine (asNil _ _).mono ?_; rintro e w' ⟨rfl, rfl⟩)
 go_ret
 exact ⟨rfl, alloc_below _ _⟩
theorem codeOf_hit (k : Int) (w : World) (hg : ET w) : Calls Tryz.prog 42 #[.iface 105 (.int .i64 k)] w (Nums1 k w) := by
 have b0 := alloc_below w (.cells #[.int .i64 0] 105)
 have HG := Lib.hid (hg.past rfl b0)
 have HB := Lib.hid b0
 have hcon := Lib.hid (asHit k ⟨w.heap.size, 0, none⟩ (.int .i64 0) (w.alloc (.cells #[.int .i64 0] 105)) HG.out (by simp) (by simp))
 clear hg b0
 go_enter Tryz.func42, Tryz.ntmps42
 go_wp2_with fail
 refine (hcon.out).mono ?_
 rintro e w' ⟨rfl, hw⟩
 have hk : w'.cell? ⟨w.heap.size, 0, none⟩ = some (.int .i64 k) := by
  rw [hw]
  refine bxcell (bxset (j := 0) (cs := #[.int .i64 0]) (T := 105) ?_ (.int .i64 k)) rfl
  refine (Below.block (B := w.heap.size + 1) (w := w.alloc (.cells #[.int .i64 0] 105)) ((((Below.refl _ _).alloc (by simp) _).alloc (by simp) _).alloc (by simp) _ |>.alloc (by simp) _) w.heap.size (by omega)).trans (heap_alloc_new w _)
 have hbl : Below w.heap.size w w' := by
  rw [hw]
  exact ((((HB.out.alloc (by simp) _).alloc (by simp; omega) _).alloc (by simp; omega) _).alloc (by simp; omega) _).setCell (p := ⟨w.heap.size, 0, none⟩) (Nat.le_refl _) _
 have HBL := Lib.hid hbl
 clear hw hbl
 go_wp2
 go_ret
 exact ⟨rfl, HBL.out⟩
end Go.Proofs.YtbpeeokgpkjnmaaGreatDoor.low
namespace Go.Proofs.YtbpeeokgpkjnmaaGreatDoor.low
open Go.RowKit
set_option linter.unusedVariables false
noncomputable def trBody : Code := (((Tryz.f82.body.map loopsOf).getD []).headD .skip)
def TrR (K : Fx) (g1 g2 : Nat) (w0 w' : World) : Prop := ∃ O P L M RX RY, TT K g1 g2 134 O P L M w' none none RX RY ∧ XInv K.a K.b RX RY L M ∧ Below K.lo w0 w'
theorem TrR.mk {K : Fx} {g1 g2 : Nat} {w0 w' : World} {O P : Nat → Prop} {L M : List Pt} {RX RY : List U} (h : TT K g1 g2 134 O P L M w' none none RX RY) (hi : XInv K.a K.b RX RY L M) (D : Below K.lo w0 w') : TrR K g1 g2 w0 w' := ⟨O, P, L, M, RX, RY, h, hi, D⟩
def TrI (K : Fx) (g1 g2 : Nat) (w0 : World) (c0 c1 c2 c3 c4 c5 c6 c16 c17 c18 c19 c20 c21 c22 c23 c24 c25 c26 c27 c28 c29 c30 c31 c32 c33 c34 c35 c36 c37 c38 c39 c40 c41 c42 c127 c128 c129 c130 c131 c132 c133 c134 c135 c136 c137 c138 c139 c140 : Value) (a : Act) (w' : World) : Prop := ∃ u11 u12 u13 u14 u15 u43 u44 u45 u46 u47 u48 u49 u50 u51 u52 u53 u54 u55 u56 u57 u58 u59 u60 u61 u62 u63 u64 u65 u66 u67 u68 u69 u70 u71 u72 u73 u74 u75 u76 u77 u78 u79 u80 u81 u82 u83 u84 u85 u86 u87 u88 u89 u90 u91 u92 u93 u94 u95 u96 u97 u98 u99 u100 u101 u102 u103 u104 u105 u106 u107 u108 u109 u110 u111 u112 u113 u114 u115 u116 u117 u118 u119 u120 u121 u122 u123 u124 u125 u126 : Value, TrR K g1 g2 w0 w' ∧ a = ⟨#[c0, c1, c2, c3, c4, c5, c6, .pointer (some ⟨K.gx, 0, none⟩), .pointer (some ⟨K.gy, 0, none⟩), .pointer (some ⟨g1, 0, none⟩), .pointer (some ⟨g2, 0, none⟩), u11, u12, u13, u14, u15, c16, c17, c18, c19, c20, c21, c22, c23, c24, c25, c26, c27, c28, c29, c30, c31, c32, c33, c34, c35, c36, c37, c38, c39, c40, c41, c42, u43, u44, u45, u46, u47, u48, u49, u50, u51, u52, u53, u54, u55, u56, u57, u58, u59, u60, u61, u62, u63, u64, u65, u66, u67, u68, u69, u70, u71, u72, u73, u74, u75, u76, u77, u78, u79, u80, u81, u82, u83, u84, u85, u86, u87, u88, u89, u90, u91, u92, u93, u94, u95, u96, u97, u98, u99, u100, u101, u102, u103, u104, u105, u106, u107, u108, u109, u110, u111, u112, u113, u114, u115, u116, u117, u118, u119, u120, u121, u122, u123, u124, u125, u126, c127, c128, c129, c130, c131, c132, c133, c134, c135, c136, c137, c138, c139, c140], []⟩
def TrX (K : Fx) (g1 g2 : Nat) (w0 w' : World) : Prop := ∃ O P L M, TT K g1 g2 134 O P L M w' none none [] [] ∧ XInv K.a K.b [] [] L M ∧ Below K.lo w0 w'
def TrE (K : Fx) (g1 g2 : Nat) (w0 : World) (c0 c1 c2 c3 c4 c5 c6 c16 c17 c18 c19 c20 c21 c22 c23 c24 c25 c26 c27 c28 c29 c30 c31 c32 c33 c34 c35 c36 c37 c38 c39 c40 c41 c42 c127 c128 c129 c130 c131 c132 c133 c134 c135 c136 c137 c138 c139 c140 : Value) (a : Act) (w' : World) : Prop := ∃ u11 u12 u13 u14 u15 u43 u44 u45 u46 u47 u48 u49 u50 u51 u52 u53 u54 u55 u56 u57 u58 u59 u60 u61 u62 u63 u64 u65 u66 u67 u68 u69 u70 u71 u72 u73 u74 u75 u76 u77 u78 u79 u80 u81 u82 u83 u84 u85 u86 u87 u88 u89 u90 u91 u92 u93 u94 u95 u96 u97 u98 u99 u100 u101 u102 u103 u104 u105 u106 u107 u108 u109 u110 u111 u112 u113 u114 u115 u116 u117 u118 u119 u120 u121 u122 u123 u124 u125 u126 : Value, TrX K g1 g2 w0 w' ∧ a = ⟨#[c0, c1, c2, c3, c4, c5, c6, .pointer (some ⟨K.gx, 0, none⟩), .pointer (some ⟨K.gy, 0, none⟩), .pointer (some ⟨g1, 0, none⟩), .pointer (some ⟨g2, 0, none⟩), u11, u12, u13, u14, u15, c16, c17, c18, c19, c20, c21, c22, c23, c24, c25, c26, c27, c28, c29, c30, c31, c32, c33, c34, c35, c36, c37, c38, c39, c40, c41, c42, u43, u44, u45, u46, u47, u48, u49, u50, u51, u52, u53, u54, u55, u56, u57, u58, u59, u60, u61, u62, u63, u64, u65, u66, u67, u68, u69, u70, u71, u72, u73, u74, u75, u76, u77, u78, u79, u80, u81, u82, u83, u84, u85, u86, u87, u88, u89, u90, u91, u92, u93, u94, u95, u96, u97, u98, u99, u100, u101, u102, u103, u104, u105, u106, u107, u108, u109, u110, u111, u112, u113, u114, u115, u116, u117, u118, u119, u120, u121, u122, u123, u124, u125, u126, c127, c128, c129, c130, c131, c132, c133, c134, c135, c136, c137, c138, c139, c140], []⟩
theorem trE (K : Fx) (hT : K.TC = 140) (g1 g2 : Nat) (w0 wr : World) (c0 c1 c2 c3 c4 c5 c6 c16 c17 c18 c19 c20 c21 c22 c23 c24 c25 c26 c27 c28 c29 c30 c31 c32 c33 c34 c35 c36 c37 c38 c39 c40 c41 c42 c127 c128 c129 c130 c131 c132 c133 c134 c135 c136 c137 c138 c139 c140 u11 u12 u13 u14 u15 u43 u44 u45 u46 u47 u48 u49 u50 u51 u52 u53 u54 u55 u56 u57 u58 u59 u60 u61 u62 u63 u64 u65 u66 u67 u68 u69 u70 u71 u72 u73 u74 u75 u76 u77 u78 u79 u80 u81 u82 u83 u84 u85 u86 u87 u88 u89 u90 u91 u92 u93 u94 u95 u96 u97 u98 u99 u100 u101 u102 u103 u104 u105 u106 u107 u108 u109 u110 u111 u112 u113 u114 u115 u116 u117 u118 u119 u120 u121 u122 u123 u124 u125 u126 : Value) (Q0 : Exit → Act → World → Prop) (O P : Nat → Prop) (L M : List Pt) (RX RY : List U) (hs : TT K g1 g2 134 O P L M wr none none RX RY) (hi : XInv K.a K.b RX RY L M) (D : Below K.lo w0 wr) (hx : RX = []) (hy : RY = []) (hexit : ∀ a w, TrE K g1 g2 w0 c0 c1 c2 c3 c4 c5 c6 c16 c17 c18 c19 c20 c21 c22 c23 c24 c25 c26 c27 c28 c29 c30 c31 c32 c33 c34 c35 c36 c37 c38 c39 c40 c41 c42 c127 c128 c129 c130 c131 c132 c133 c134 c135 c136 c137 c138 c139 c140 a w → Q0 (.exit 0) a w) :
  Code.wp Tryz.prog trBody (Exit.then (fun a' w'' => TrI K g1 g2 w0 c0 c1 c2 c3 c4 c5 c6 c16 c17 c18 c19 c20 c21 c22 c23 c24 c25 c26 c27 c28 c29 c30 c31 c32 c33 c34 c35 c36 c37 c38 c39 c40 c41 c42 c127 c128 c129 c130 c131 c132 c133 c134 c135 c136 c137 c138 c139 c140 a' w'' ∧ muC K w'' < muC K wr) Q0) ⟨#[c0, c1, c2, c3, c4, c5, c6, .pointer (some ⟨K.gx, 0, none⟩), .pointer (some ⟨K.gy, 0, none⟩), .pointer (some ⟨g1, 0, none⟩), .pointer (some ⟨g2, 0, none⟩), u11, u12, u13, u14, u15, c16, c17, c18, c19, c20, c21, c22, c23, c24, c25, c26, c27, c28, c29, c30, c31, c32, c33, c34, c35, c36, c37, c38, c39, c40, c41, c42, u43, u44, u45, u46, u47, u48, u49, u50, u51, u52, u53, u54, u55, u56, u57, u58, u59, u60, u61, u62, u63, u64, u65, u66, u67, u68, u69, u70, u71, u72, u73, u74, u75, u76, u77, u78, u79, u80, u81, u82, u83, u84, u85, u86, u87, u88, u89, u90, u91, u92, u93, u94, u95, u96, u97, u98, u99, u100, u101, u102, u103, u104, u105, u106, u107, u108, u109, u110, u111, u112, u113, u114, u115, u116, u117, u118, u119, u120, u121, u122, u123, u124, u125, u126, c127, c128, c129, c130, c131, c132, c133, c134, c135, c136, c137, c138, c139, c140], []⟩ wr := by
 have HMU := Lib.hid hs.cs.mu
 have hLb : L.length < 100000 := by have := hi.len; omega
 have hMb : M.length < 100000 := by have := hi.len; omega
 have HS := Lib.hid hs
 have HI := Lib.hid hi
 clear hs hi
 conv => arg 2; whnf
 subst hx
 subst hy
 have hk0 : kindOf [] = 0 := rfl
 go_wp2_with fail
 refine (HS.out.kindx hT).mono ?_
 rintro e w1 ⟨rfl, m1, q1, h1, b1⟩
 simp only at h1
 replace HS := Lib.hid h1
 replace D := D.trans b1
 clear h1 b1
 clear q1
 rw [hk0]
 have hmx := HS.out.cs.lead
 go_wp2_with fail
 refine (HS.out.kindy hT).mono ?_
 rintro e w2 ⟨rfl, m2, q2, h2, b2⟩
 simp only at h2
 replace HS := Lib.hid h2
 replace D := D.trans b2
 clear h2 b2
 clear q2
 rw [hk0]
 have hmy := HS.out.cs.swap.lead
 clear hmx hmy
 go_wp2
 have HR : TrX K g1 g2 w0 _ := ⟨_, _, _, _, HS.out.weak, HI.out, D⟩
 unfold TrE
 iterate 89 apply Exists.intro
 exact ⟨HR, rfl⟩
theorem trA (K : Fx) (hT : K.TC = 140) (g1 g2 : Nat) (w0 wr : World) (c0 c1 c2 c3 c4 c5 c6 c16 c17 c18 c19 c20 c21 c22 c23 c24 c25 c26 c27 c28 c29 c30 c31 c32 c33 c34 c35 c36 c37 c38 c39 c40 c41 c42 c127 c128 c129 c130 c131 c132 c133 c134 c135 c136 c137 c138 c139 c140 u11 u12 u13 u14 u15 u43 u44 u45 u46 u47 u48 u49 u50 u51 u52 u53 u54 u55 u56 u57 u58 u59 u60 u61 u62 u63 u64 u65 u66 u67 u68 u69 u70 u71 u72 u73 u74 u75 u76 u77 u78 u79 u80 u81 u82 u83 u84 u85 u86 u87 u88 u89 u90 u91 u92 u93 u94 u95 u96 u97 u98 u99 u100 u101 u102 u103 u104 u105 u106 u107 u108 u109 u110 u111 u112 u113 u114 u115 u116 u117 u118 u119 u120 u121 u122 u123 u124 u125 u126 : Value) (Q0 : Exit → Act → World → Prop) (O P : Nat → Prop) (L M : List Pt) (RX RY : List U) (hs : TT K g1 g2 134 O P L M wr none none RX RY) (hi : XInv K.a K.b RX RY L M) (D : Below K.lo w0 wr) (hkx : kindOf RX = 2) :
  Code.wp Tryz.prog trBody (Exit.then (fun a' w'' => TrI K g1 g2 w0 c0 c1 c2 c3 c4 c5 c6 c16 c17 c18 c19 c20 c21 c22 c23 c24 c25 c26 c27 c28 c29 c30 c31 c32 c33 c34 c35 c36 c37 c38 c39 c40 c41 c42 c127 c128 c129 c130 c131 c132 c133 c134 c135 c136 c137 c138 c139 c140 a' w'' ∧ muC K w'' < muC K wr) Q0) ⟨#[c0, c1, c2, c3, c4, c5, c6, .pointer (some ⟨K.gx, 0, none⟩), .pointer (some ⟨K.gy, 0, none⟩), .pointer (some ⟨g1, 0, none⟩), .pointer (some ⟨g2, 0, none⟩), u11, u12, u13, u14, u15, c16, c17, c18, c19, c20, c21, c22, c23, c24, c25, c26, c27, c28, c29, c30, c31, c32, c33, c34, c35, c36, c37, c38, c39, c40, c41, c42, u43, u44, u45, u46, u47, u48, u49, u50, u51, u52, u53, u54, u55, u56, u57, u58, u59, u60, u61, u62, u63, u64, u65, u66, u67, u68, u69, u70, u71, u72, u73, u74, u75, u76, u77, u78, u79, u80, u81, u82, u83, u84, u85, u86, u87, u88, u89, u90, u91, u92, u93, u94, u95, u96, u97, u98, u99, u100, u101, u102, u103, u104, u105, u106, u107, u108, u109, u110, u111, u112, u113, u114, u115, u116, u117, u118, u119, u120, u121, u122, u123, u124, u125, u126, c127, c128, c129, c130, c131, c132, c133, c134, c135, c136, c137, c138, c139, c140], []⟩ wr := by
 have HMU := Lib.hid hs.cs.mu
 have hLb : L.length < 100000 := by have := hi.len; omega
 have hMb : M.length < 100000 := by have := hi.len; omega
 have HS := Lib.hid hs
 have HI := Lib.hid hi
 clear hs hi
 conv => arg 2; whnf
 go_wp2_with fail
 refine (HS.out.kindx hT).mono ?_
 rintro e w1 ⟨rfl, m1, q1, h1, b1⟩
 simp only at h1
 replace HS := Lib.hid h1
 replace D := D.trans b1
 clear h1 b1
 clear q1
 rw [hkx]
 have hmx := HS.out.cs.lead
 go_wp2_with fail
 refine (HS.out.kindx hT).mono ?_
 rintro e w2 ⟨rfl, m2, q2, h2, b2⟩
 rw [q2 _ rfl] at h2
 simp only at h2
 replace HS := Lib.hid h2
 replace D := D.trans b2
 clear h2 b2
 clear q2 m2
 rw [hkx]
 have hpx := hmx.pos (by rw [hkx]; decide)
 have HMx := Lib.hid hmx
 clear hmx
 go_wp2_with fail
 refine (HS.out.leftx hT (by rw [hkx]; decide)).mono ?_
 rintro e w3 ⟨rfl, h3, b3⟩
 replace HS := Lib.hid h3
 replace D := D.trans b3
 clear h3 b3
 go_wp2_with fail
 refine (HS.out.takex hT hkx (Nat.le_refl _ : m1 ≤ m1) hpx.1).mono ?_
 rintro e w4 ⟨A4, c4, z4, rfl, hl4, hz4, row4, h4, b4⟩
 have HZ4 := Lib.hid hz4
 have HL4 := Lib.hid hl4
 have HR4 := Lib.hid row4
 clear hz4 hl4 row4
 replace HS := Lib.hid h4
 replace D := D.trans b4
 clear h4 b4
 go_wp2_with fail
 refine (HS.out.put1 HR4.out HL4.out (by omega) hLb).mono ?_
 rintro e w5 ⟨rfl, O5, h5, b5⟩
 replace HS := Lib.hid h5
 replace D := D.trans b5
 clear h5 b5
 go_wp2_with fail
 refine (HS.out.keep2 (n := (m1 : Int)) (by omega) (by omega) hMb).mono ?_
 rintro e w6 ⟨rfl, O6, h6, b6⟩
 replace HS := Lib.hid h6
 replace D := D.trans b6
 clear h6 b6
 go_wp2
 have hz := HZ4.out
 have hl := HL4.out
 have HR := TrR.mk HS.out.weak (show XInv K.a K.b (RX.drop m1) RY _ (M ++ [⟨1, (m1 : Int), []⟩]) by rw [← hl] at hz ⊢; exact (by rw [← hz]; exact HI.out : XInv K.a K.b (z4.map .p ++ RX.drop z4.length) RY L M).px (by omega)) D
 refine ⟨?_, ?_⟩
 ·unfold TrI
  iterate 89 apply Exists.intro
  exact ⟨HR, rfl⟩
 rw [HS.out.weak.cs.mu, HMU.out]
 rw [List.length_drop]
 omega
theorem trB0 (K : Fx) (hT : K.TC = 140) (g1 g2 : Nat) (w0 wr : World) (c0 c1 c2 c3 c4 c5 c6 c16 c17 c18 c19 c20 c21 c22 c23 c24 c25 c26 c27 c28 c29 c30 c31 c32 c33 c34 c35 c36 c37 c38 c39 c40 c41 c42 c127 c128 c129 c130 c131 c132 c133 c134 c135 c136 c137 c138 c139 c140 u11 u12 u13 u14 u15 u43 u44 u45 u46 u47 u48 u49 u50 u51 u52 u53 u54 u55 u56 u57 u58 u59 u60 u61 u62 u63 u64 u65 u66 u67 u68 u69 u70 u71 u72 u73 u74 u75 u76 u77 u78 u79 u80 u81 u82 u83 u84 u85 u86 u87 u88 u89 u90 u91 u92 u93 u94 u95 u96 u97 u98 u99 u100 u101 u102 u103 u104 u105 u106 u107 u108 u109 u110 u111 u112 u113 u114 u115 u116 u117 u118 u119 u120 u121 u122 u123 u124 u125 u126 : Value) (Q0 : Exit → Act → World → Prop) (O P : Nat → Prop) (L M : List Pt) (RX RY : List U) (hs : TT K g1 g2 134 O P L M wr none none RX RY) (hi : XInv K.a K.b RX RY L M) (D : Below K.lo w0 wr) (hnp : noP RX) (hkx : kindOf RX = 0) (hky : kindOf RY = 2) :
  Code.wp Tryz.prog trBody (Exit.then (fun a' w'' => TrI K g1 g2 w0 c0 c1 c2 c3 c4 c5 c6 c16 c17 c18 c19 c20 c21 c22 c23 c24 c25 c26 c27 c28 c29 c30 c31 c32 c33 c34 c35 c36 c37 c38 c39 c40 c41 c42 c127 c128 c129 c130 c131 c132 c133 c134 c135 c136 c137 c138 c139 c140 a' w'' ∧ muC K w'' < muC K wr) Q0) ⟨#[c0, c1, c2, c3, c4, c5, c6, .pointer (some ⟨K.gx, 0, none⟩), .pointer (some ⟨K.gy, 0, none⟩), .pointer (some ⟨g1, 0, none⟩), .pointer (some ⟨g2, 0, none⟩), u11, u12, u13, u14, u15, c16, c17, c18, c19, c20, c21, c22, c23, c24, c25, c26, c27, c28, c29, c30, c31, c32, c33, c34, c35, c36, c37, c38, c39, c40, c41, c42, u43, u44, u45, u46, u47, u48, u49, u50, u51, u52, u53, u54, u55, u56, u57, u58, u59, u60, u61, u62, u63, u64, u65, u66, u67, u68, u69, u70, u71, u72, u73, u74, u75, u76, u77, u78, u79, u80, u81, u82, u83, u84, u85, u86, u87, u88, u89, u90, u91, u92, u93, u94, u95, u96, u97, u98, u99, u100, u101, u102, u103, u104, u105, u106, u107, u108, u109, u110, u111, u112, u113, u114, u115, u116, u117, u118, u119, u120, u121, u122, u123, u124, u125, u126, c127, c128, c129, c130, c131, c132, c133, c134, c135, c136, c137, c138, c139, c140], []⟩ wr := by
 have HMU := Lib.hid hs.cs.mu
 have hLb : L.length < 100000 := by have := hi.len; omega
 have hMb : M.length < 100000 := by have := hi.len; omega
 have HS := Lib.hid hs
 have HI := Lib.hid hi
 clear hs hi
 conv => arg 2; whnf
 go_wp2_with fail
 refine (HS.out.kindx hT).mono ?_
 rintro e w1 ⟨rfl, m1, q1, h1, b1⟩
 simp only at h1
 replace HS := Lib.hid h1
 replace D := D.trans b1
 clear h1 b1
 clear q1
 rw [hkx]
 have hmx := HS.out.cs.lead
 go_wp2_with fail
 refine (HS.out.kindy hT).mono ?_
 rintro e w2 ⟨rfl, m2, q2, h2, b2⟩
 simp only at h2
 replace HS := Lib.hid h2
 replace D := D.trans b2
 clear h2 b2
 clear q2
 rw [hky]
 have hmy := HS.out.cs.swap.lead
 go_wp2_with fail
 refine (HS.out.kindx hT).mono ?_
 rintro e w3 ⟨rfl, m3, q3, h3, b3⟩
 rw [q3 _ rfl] at h3
 simp only at h3
 replace HS := Lib.hid h3
 replace D := D.trans b3
 clear h3 b3
 clear q3 m3
 rw [hkx]
 go_wp2_with fail
 refine (HS.out.kindy hT).mono ?_
 rintro e w4 ⟨rfl, m4, q4, h4, b4⟩
 rw [q4 _ rfl] at h4
 simp only at h4
 replace HS := Lib.hid h4
 replace D := D.trans b4
 clear h4 b4
 clear q4 m4
 rw [hky]
 have hpy := hmy.pos (by rw [hky]; decide)
 have HMy := Lib.hid hmy
 clear hmy
 clear hmx
 go_wp2_with fail
 refine (HS.out.lefty hT (by rw [hky]; decide)).mono ?_
 rintro e w5 ⟨rfl, h5, b5⟩
 replace HS := Lib.hid h5
 replace D := D.trans b5
 clear h5 b5
 go_wp2_with fail
 refine (HS.out.takey hT hky (Nat.le_refl _ : m2 ≤ m2) hpy.1).mono ?_
 rintro e w6 ⟨A6, c6, z6, rfl, hl6, hz6, row6, h6, b6⟩
 have HZ6 := Lib.hid hz6
 have HL6 := Lib.hid hl6
 have HR6 := Lib.hid row6
 clear hz6 hl6 row6
 replace HS := Lib.hid h6
 replace D := D.trans b6
 clear h6 b6
 go_wp2_with fail
 refine (HS.out.put2 HR6.out HL6.out (by omega) hMb).mono ?_
 rintro e w7 ⟨rfl, O7, h7, b7⟩
 replace HS := Lib.hid h7
 replace D := D.trans b7
 clear h7 b7
 go_wp2_with fail
 refine (HS.out.keep1 (n := (m2 : Int)) (by omega) (by omega) hLb).mono ?_
 rintro e w8 ⟨rfl, O8, h8, b8⟩
 replace HS := Lib.hid h8
 replace D := D.trans b8
 clear h8 b8
 go_wp2
 have hz := HZ6.out
 have hl := HL6.out
 have HR := TrR.mk HS.out.weak (show XInv K.a K.b RX (RY.drop m2) (L ++ [⟨1, (m2 : Int), []⟩]) _ by rw [← hl] at hz ⊢; exact (by rw [← hz]; exact HI.out : XInv K.a K.b RX (z6.map .p ++ RY.drop z6.length) L M).py hnp (by omega)) D
 refine ⟨?_, ?_⟩
 ·unfold TrI
  iterate 89 apply Exists.intro
  exact ⟨HR, rfl⟩
 rw [HS.out.weak.cs.mu, HMU.out]
 rw [List.length_drop]
 omega
theorem trB1 (K : Fx) (hT : K.TC = 140) (g1 g2 : Nat) (w0 wr : World) (c0 c1 c2 c3 c4 c5 c6 c16 c17 c18 c19 c20 c21 c22 c23 c24 c25 c26 c27 c28 c29 c30 c31 c32 c33 c34 c35 c36 c37 c38 c39 c40 c41 c42 c127 c128 c129 c130 c131 c132 c133 c134 c135 c136 c137 c138 c139 c140 u11 u12 u13 u14 u15 u43 u44 u45 u46 u47 u48 u49 u50 u51 u52 u53 u54 u55 u56 u57 u58 u59 u60 u61 u62 u63 u64 u65 u66 u67 u68 u69 u70 u71 u72 u73 u74 u75 u76 u77 u78 u79 u80 u81 u82 u83 u84 u85 u86 u87 u88 u89 u90 u91 u92 u93 u94 u95 u96 u97 u98 u99 u100 u101 u102 u103 u104 u105 u106 u107 u108 u109 u110 u111 u112 u113 u114 u115 u116 u117 u118 u119 u120 u121 u122 u123 u124 u125 u126 : Value) (Q0 : Exit → Act → World → Prop) (O P : Nat → Prop) (L M : List Pt) (RX RY : List U) (hs : TT K g1 g2 134 O P L M wr none none RX RY) (hi : XInv K.a K.b RX RY L M) (D : Below K.lo w0 wr) (hnp : noP RX) (hkx : kindOf RX = 1) (hky : kindOf RY = 2) :
  Code.wp Tryz.prog trBody (Exit.then (fun a' w'' => TrI K g1 g2 w0 c0 c1 c2 c3 c4 c5 c6 c16 c17 c18 c19 c20 c21 c22 c23 c24 c25 c26 c27 c28 c29 c30 c31 c32 c33 c34 c35 c36 c37 c38 c39 c40 c41 c42 c127 c128 c129 c130 c131 c132 c133 c134 c135 c136 c137 c138 c139 c140 a' w'' ∧ muC K w'' < muC K wr) Q0) ⟨#[c0, c1, c2, c3, c4, c5, c6, .pointer (some ⟨K.gx, 0, none⟩), .pointer (some ⟨K.gy, 0, none⟩), .pointer (some ⟨g1, 0, none⟩), .pointer (some ⟨g2, 0, none⟩), u11, u12, u13, u14, u15, c16, c17, c18, c19, c20, c21, c22, c23, c24, c25, c26, c27, c28, c29, c30, c31, c32, c33, c34, c35, c36, c37, c38, c39, c40, c41, c42, u43, u44, u45, u46, u47, u48, u49, u50, u51, u52, u53, u54, u55, u56, u57, u58, u59, u60, u61, u62, u63, u64, u65, u66, u67, u68, u69, u70, u71, u72, u73, u74, u75, u76, u77, u78, u79, u80, u81, u82, u83, u84, u85, u86, u87, u88, u89, u90, u91, u92, u93, u94, u95, u96, u97, u98, u99, u100, u101, u102, u103, u104, u105, u106, u107, u108, u109, u110, u111, u112, u113, u114, u115, u116, u117, u118, u119, u120, u121, u122, u123, u124, u125, u126, c127, c128, c129, c130, c131, c132, c133, c134, c135, c136, c137, c138, c139, c140], []⟩ wr := by
 have HMU := Lib.hid hs.cs.mu
 have hLb : L.length < 100000 := by have := hi.len; omega
 have hMb : M.length < 100000 := by have := hi.len; omega
 have HS := Lib.hid hs
 have HI := Lib.hid hi
 clear hs hi
 conv => arg 2; whnf
 go_wp2_with fail
 refine (HS.out.kindx hT).mono ?_
 rintro e w1 ⟨rfl, m1, q1, h1, b1⟩
 simp only at h1
 replace HS := Lib.hid h1
 replace D := D.trans b1
 clear h1 b1
 clear q1
 rw [hkx]
 have hmx := HS.out.cs.lead
 go_wp2_with fail
 refine (HS.out.kindx hT).mono ?_
 rintro e w2 ⟨rfl, m2, q2, h2, b2⟩
 rw [q2 _ rfl] at h2
 simp only at h2
 replace HS := Lib.hid h2
 replace D := D.trans b2
 clear h2 b2
 clear q2 m2
 rw [hkx]
 go_wp2_with fail
 refine (HS.out.kindy hT).mono ?_
 rintro e w3 ⟨rfl, m3, q3, h3, b3⟩
 simp only at h3
 replace HS := Lib.hid h3
 replace D := D.trans b3
 clear h3 b3
 clear q3
 rw [hky]
 have hmy := HS.out.cs.swap.lead
 have hpy := hmy.pos (by rw [hky]; decide)
 have HMy := Lib.hid hmy
 clear hmy
 clear hmx
 go_wp2_with fail
 refine (HS.out.lefty hT (by rw [hky]; decide)).mono ?_
 rintro e w4 ⟨rfl, h4, b4⟩
 replace HS := Lib.hid h4
 replace D := D.trans b4
 clear h4 b4
 go_wp2_with fail
 refine (HS.out.takey hT hky (Nat.le_refl _ : m3 ≤ m3) hpy.1).mono ?_
 rintro e w5 ⟨A5, c5, z5, rfl, hl5, hz5, row5, h5, b5⟩
 have HZ5 := Lib.hid hz5
 have HL5 := Lib.hid hl5
 have HR5 := Lib.hid row5
 clear hz5 hl5 row5
 replace HS := Lib.hid h5
 replace D := D.trans b5
 clear h5 b5
 go_wp2_with fail
 refine (HS.out.put2 HR5.out HL5.out (by omega) hMb).mono ?_
 rintro e w6 ⟨rfl, O6, h6, b6⟩
 replace HS := Lib.hid h6
 replace D := D.trans b6
 clear h6 b6
 go_wp2_with fail
 refine (HS.out.keep1 (n := (m3 : Int)) (by omega) (by omega) hLb).mono ?_
 rintro e w7 ⟨rfl, O7, h7, b7⟩
 replace HS := Lib.hid h7
 replace D := D.trans b7
 clear h7 b7
 go_wp2
 have hz := HZ5.out
 have hl := HL5.out
 have HR := TrR.mk HS.out.weak (show XInv K.a K.b RX (RY.drop m3) (L ++ [⟨1, (m3 : Int), []⟩]) _ by rw [← hl] at hz ⊢; exact (by rw [← hz]; exact HI.out : XInv K.a K.b RX (z5.map .p ++ RY.drop z5.length) L M).py hnp (by omega)) D
 refine ⟨?_, ?_⟩
 ·unfold TrI
  iterate 89 apply Exists.intro
  exact ⟨HR, rfl⟩
 rw [HS.out.weak.cs.mu, HMU.out]
 rw [List.length_drop]
 omega
theorem trB3 (K : Fx) (hT : K.TC = 140) (g1 g2 : Nat) (w0 wr : World) (c0 c1 c2 c3 c4 c5 c6 c16 c17 c18 c19 c20 c21 c22 c23 c24 c25 c26 c27 c28 c29 c30 c31 c32 c33 c34 c35 c36 c37 c38 c39 c40 c41 c42 c127 c128 c129 c130 c131 c132 c133 c134 c135 c136 c137 c138 c139 c140 u11 u12 u13 u14 u15 u43 u44 u45 u46 u47 u48 u49 u50 u51 u52 u53 u54 u55 u56 u57 u58 u59 u60 u61 u62 u63 u64 u65 u66 u67 u68 u69 u70 u71 u72 u73 u74 u75 u76 u77 u78 u79 u80 u81 u82 u83 u84 u85 u86 u87 u88 u89 u90 u91 u92 u93 u94 u95 u96 u97 u98 u99 u100 u101 u102 u103 u104 u105 u106 u107 u108 u109 u110 u111 u112 u113 u114 u115 u116 u117 u118 u119 u120 u121 u122 u123 u124 u125 u126 : Value) (Q0 : Exit → Act → World → Prop) (O P : Nat → Prop) (L M : List Pt) (RX RY : List U) (hs : TT K g1 g2 134 O P L M wr none none RX RY) (hi : XInv K.a K.b RX RY L M) (D : Below K.lo w0 wr) (hnp : noP RX) (hkx : kindOf RX = 3) (hky : kindOf RY = 2) :
  Code.wp Tryz.prog trBody (Exit.then (fun a' w'' => TrI K g1 g2 w0 c0 c1 c2 c3 c4 c5 c6 c16 c17 c18 c19 c20 c21 c22 c23 c24 c25 c26 c27 c28 c29 c30 c31 c32 c33 c34 c35 c36 c37 c38 c39 c40 c41 c42 c127 c128 c129 c130 c131 c132 c133 c134 c135 c136 c137 c138 c139 c140 a' w'' ∧ muC K w'' < muC K wr) Q0) ⟨#[c0, c1, c2, c3, c4, c5, c6, .pointer (some ⟨K.gx, 0, none⟩), .pointer (some ⟨K.gy, 0, none⟩), .pointer (some ⟨g1, 0, none⟩), .pointer (some ⟨g2, 0, none⟩), u11, u12, u13, u14, u15, c16, c17, c18, c19, c20, c21, c22, c23, c24, c25, c26, c27, c28, c29, c30, c31, c32, c33, c34, c35, c36, c37, c38, c39, c40, c41, c42, u43, u44, u45, u46, u47, u48, u49, u50, u51, u52, u53, u54, u55, u56, u57, u58, u59, u60, u61, u62, u63, u64, u65, u66, u67, u68, u69, u70, u71, u72, u73, u74, u75, u76, u77, u78, u79, u80, u81, u82, u83, u84, u85, u86, u87, u88, u89, u90, u91, u92, u93, u94, u95, u96, u97, u98, u99, u100, u101, u102, u103, u104, u105, u106, u107, u108, u109, u110, u111, u112, u113, u114, u115, u116, u117, u118, u119, u120, u121, u122, u123, u124, u125, u126, c127, c128, c129, c130, c131, c132, c133, c134, c135, c136, c137, c138, c139, c140], []⟩ wr := by
 have HMU := Lib.hid hs.cs.mu
 have hLb : L.length < 100000 := by have := hi.len; omega
 have hMb : M.length < 100000 := by have := hi.len; omega
 have HS := Lib.hid hs
 have HI := Lib.hid hi
 clear hs hi
 conv => arg 2; whnf
 go_wp2_with fail
 refine (HS.out.kindx hT).mono ?_
 rintro e w1 ⟨rfl, m1, q1, h1, b1⟩
 simp only at h1
 replace HS := Lib.hid h1
 replace D := D.trans b1
 clear h1 b1
 clear q1
 rw [hkx]
 have hmx := HS.out.cs.lead
 go_wp2_with fail
 refine (HS.out.kindx hT).mono ?_
 rintro e w2 ⟨rfl, m2, q2, h2, b2⟩
 rw [q2 _ rfl] at h2
 simp only at h2
 replace HS := Lib.hid h2
 replace D := D.trans b2
 clear h2 b2
 clear q2 m2
 rw [hkx]
 go_wp2_with fail
 refine (HS.out.kindy hT).mono ?_
 rintro e w3 ⟨rfl, m3, q3, h3, b3⟩
 simp only at h3
 replace HS := Lib.hid h3
 replace D := D.trans b3
 clear h3 b3
 clear q3
 rw [hky]
 have hmy := HS.out.cs.swap.lead
 have hpy := hmy.pos (by rw [hky]; decide)
 have HMy := Lib.hid hmy
 clear hmy
 clear hmx
 go_wp2_with fail
 refine (HS.out.lefty hT (by rw [hky]; decide)).mono ?_
 rintro e w4 ⟨rfl, h4, b4⟩
 replace HS := Lib.hid h4
 replace D := D.trans b4
 clear h4 b4
 go_wp2_with fail
 refine (HS.out.takey hT hky (Nat.le_refl _ : m3 ≤ m3) hpy.1).mono ?_
 rintro e w5 ⟨A5, c5, z5, rfl, hl5, hz5, row5, h5, b5⟩
 have HZ5 := Lib.hid hz5
 have HL5 := Lib.hid hl5
 have HR5 := Lib.hid row5
 clear hz5 hl5 row5
 replace HS := Lib.hid h5
 replace D := D.trans b5
 clear h5 b5
 go_wp2_with fail
 refine (HS.out.put2 HR5.out HL5.out (by omega) hMb).mono ?_
 rintro e w6 ⟨rfl, O6, h6, b6⟩
 replace HS := Lib.hid h6
 replace D := D.trans b6
 clear h6 b6
 go_wp2_with fail
 refine (HS.out.keep1 (n := (m3 : Int)) (by omega) (by omega) hLb).mono ?_
 rintro e w7 ⟨rfl, O7, h7, b7⟩
 replace HS := Lib.hid h7
 replace D := D.trans b7
 clear h7 b7
 go_wp2
 have hz := HZ5.out
 have hl := HL5.out
 have HR := TrR.mk HS.out.weak (show XInv K.a K.b RX (RY.drop m3) (L ++ [⟨1, (m3 : Int), []⟩]) _ by rw [← hl] at hz ⊢; exact (by rw [← hz]; exact HI.out : XInv K.a K.b RX (z5.map .p ++ RY.drop z5.length) L M).py hnp (by omega)) D
 refine ⟨?_, ?_⟩
 ·unfold TrI
  iterate 89 apply Exists.intro
  exact ⟨HR, rfl⟩
 rw [HS.out.weak.cs.mu, HMU.out]
 rw [List.length_drop]
 omega
theorem trM11 (K : Fx) (hT : K.TC = 140) (g1 g2 : Nat) (w0 wr : World) (c0 c1 c2 c3 c4 c5 c6 c16 c17 c18 c19 c20 c21 c22 c23 c24 c25 c26 c27 c28 c29 c30 c31 c32 c33 c34 c35 c36 c37 c38 c39 c40 c41 c42 c127 c128 c129 c130 c131 c132 c133 c134 c135 c136 c137 c138 c139 c140 u11 u12 u13 u14 u15 u43 u44 u45 u46 u47 u48 u49 u50 u51 u52 u53 u54 u55 u56 u57 u58 u59 u60 u61 u62 u63 u64 u65 u66 u67 u68 u69 u70 u71 u72 u73 u74 u75 u76 u77 u78 u79 u80 u81 u82 u83 u84 u85 u86 u87 u88 u89 u90 u91 u92 u93 u94 u95 u96 u97 u98 u99 u100 u101 u102 u103 u104 u105 u106 u107 u108 u109 u110 u111 u112 u113 u114 u115 u116 u117 u118 u119 u120 u121 u122 u123 u124 u125 u126 : Value) (Q0 : Exit → Act → World → Prop) (O P : Nat → Prop) (L M : List Pt) (RX RY : List U) (hs : TT K g1 g2 134 O P L M wr none none RX RY) (hi : XInv K.a K.b RX RY L M) (D : Below K.lo w0 wr) (hkx : kindOf RX = 1) (hky : kindOf RY = 1) :
  Code.wp Tryz.prog trBody (Exit.then (fun a' w'' => TrI K g1 g2 w0 c0 c1 c2 c3 c4 c5 c6 c16 c17 c18 c19 c20 c21 c22 c23 c24 c25 c26 c27 c28 c29 c30 c31 c32 c33 c34 c35 c36 c37 c38 c39 c40 c41 c42 c127 c128 c129 c130 c131 c132 c133 c134 c135 c136 c137 c138 c139 c140 a' w'' ∧ muC K w'' < muC K wr) Q0) ⟨#[c0, c1, c2, c3, c4, c5, c6, .pointer (some ⟨K.gx, 0, none⟩), .pointer (some ⟨K.gy, 0, none⟩), .pointer (some ⟨g1, 0, none⟩), .pointer (some ⟨g2, 0, none⟩), u11, u12, u13, u14, u15, c16, c17, c18, c19, c20, c21, c22, c23, c24, c25, c26, c27, c28, c29, c30, c31, c32, c33, c34, c35, c36, c37, c38, c39, c40, c41, c42, u43, u44, u45, u46, u47, u48, u49, u50, u51, u52, u53, u54, u55, u56, u57, u58, u59, u60, u61, u62, u63, u64, u65, u66, u67, u68, u69, u70, u71, u72, u73, u74, u75, u76, u77, u78, u79, u80, u81, u82, u83, u84, u85, u86, u87, u88, u89, u90, u91, u92, u93, u94, u95, u96, u97, u98, u99, u100, u101, u102, u103, u104, u105, u106, u107, u108, u109, u110, u111, u112, u113, u114, u115, u116, u117, u118, u119, u120, u121, u122, u123, u124, u125, u126, c127, c128, c129, c130, c131, c132, c133, c134, c135, c136, c137, c138, c139, c140], []⟩ wr := by
 have HMU := Lib.hid hs.cs.mu
 have hLb : L.length < 100000 := by have := hi.len; omega
 have hMb : M.length < 100000 := by have := hi.len; omega
 have HS := Lib.hid hs
 have HI := Lib.hid hi
 clear hs hi
 conv => arg 2; whnf
 go_wp2_with fail
 refine (HS.out.kindx hT).mono ?_
 rintro e w1 ⟨rfl, m1, q1, h1, b1⟩
 simp only at h1
 replace HS := Lib.hid h1
 replace D := D.trans b1
 clear h1 b1
 clear q1
 rw [hkx]
 have hmx := HS.out.cs.lead
 go_wp2_with fail
 refine (HS.out.kindx hT).mono ?_
 rintro e w2 ⟨rfl, m2, q2, h2, b2⟩
 rw [q2 _ rfl] at h2
 simp only at h2
 replace HS := Lib.hid h2
 replace D := D.trans b2
 clear h2 b2
 clear q2 m2
 rw [hkx]
 go_wp2_with fail
 refine (HS.out.kindy hT).mono ?_
 rintro e w3 ⟨rfl, m3, q3, h3, b3⟩
 simp only at h3
 replace HS := Lib.hid h3
 replace D := D.trans b3
 clear h3 b3
 clear q3
 rw [hky]
 have hmy := HS.out.cs.swap.lead
 have hpx := hmx.pos (by rw [hkx]; decide)
 have HMx := Lib.hid hmx
 clear hmx
 have hpy := hmy.pos (by rw [hky]; decide)
 have HMy := Lib.hid hmy
 clear hmy
 go_wp2_with fail
 refine (HS.out.leftx hT (by rw [hkx]; decide)).mono ?_
 rintro e w4 ⟨rfl, h4, b4⟩
 replace HS := Lib.hid h4
 replace D := D.trans b4
 clear h4 b4
 go_wp2_with fail
 refine (HS.out.lefty hT (by rw [hky]; decide)).mono ?_
 rintro e w5 ⟨rfl, h5, b5⟩
 replace HS := Lib.hid h5
 replace D := D.trans b5
 clear h5 b5
 go_wp2_with fail
 refine (specMin_d _ _ _).mono ?_
 rintro e w'_ ⟨rfl, rfl⟩
 rw [show (if (m1 : Int) < (m3 : Int) then (m1 : Int) else (m3 : Int)) = ((min m1 m3 : Nat) : Int) by split <;> omega]
 have hn1 : min m1 m3 ≤ m1 := Nat.min_le_left _ _
 have hn2 : min m1 m3 ≤ m3 := Nat.min_le_right _ _
 have hn3 : 0 < min m1 m3 := by omega
 generalize min m1 m3 = n at *
 go_wp2_with fail
 refine (HS.out.kindx hT).mono ?_
 rintro e w6 ⟨rfl, m6, q6, h6, b6⟩
 rw [q6 _ rfl] at h6
 simp only at h6
 replace HS := Lib.hid h6
 replace D := D.trans b6
 clear h6 b6
 clear q6 m6
 rw [hkx]
 go_wp2_with fail
 refine (HS.out.kindy hT).mono ?_
 rintro e w7 ⟨rfl, m7, q7, h7, b7⟩
 rw [q7 _ rfl] at h7
 simp only at h7
 replace HS := Lib.hid h7
 replace D := D.trans b7
 clear h7 b7
 clear q7 m7
 rw [hky]
 have hne := HS.out.cs.ne
 have hne2 : ¬ K.gy = K.gx := fun h => hne h.symm
 go_wp2_with fail
 refine (HS.out.keep1 (n := (n : Int)) (by omega) (by omega) hLb).mono ?_
 rintro e w8 ⟨rfl, O8, h8, b8⟩
 replace HS := Lib.hid h8
 replace D := D.trans b8
 clear h8 b8
 go_wp2_with fail
 refine (HS.out.keep2 (n := (n : Int)) (by omega) (by omega) hMb).mono ?_
 rintro e w9 ⟨rfl, O9, h9, b9⟩
 replace HS := Lib.hid h9
 replace D := D.trans b9
 clear h9 b9
 obtain ⟨d10, f10, hd10, hf10, hc10, hg10, hu10, hv10, ha10⟩ := HS.out.adv2 (by rw [hkx]; decide) (by rw [hky]; decide)
 have HA10 := Lib.hid (ha10 n hn1 hn2)
 clear ha10
 go_wp2
 have ex := HMx.out.k hkx hn1
 have ey := HMy.out.k hky hn2
 have HR := TrR.mk HA10.out.weak ((by rw [← ex, ← ey]; exact HI.out : XInv K.a K.b (List.replicate n .k ++ RX.drop n) (List.replicate n .k ++ RY.drop n) L M).kk hn3) ((D.setCell HS.out.cs.lx _).setCell HS.out.cs.ly _)
 refine ⟨?_, ?_⟩
 ·unfold TrI
  iterate 89 apply Exists.intro
  exact ⟨HR, rfl⟩
 rw [HA10.out.weak.cs.mu, HMU.out]
 rw [List.length_drop, List.length_drop]
 omega
theorem trM13 (K : Fx) (hT : K.TC = 140) (g1 g2 : Nat) (w0 wr : World) (c0 c1 c2 c3 c4 c5 c6 c16 c17 c18 c19 c20 c21 c22 c23 c24 c25 c26 c27 c28 c29 c30 c31 c32 c33 c34 c35 c36 c37 c38 c39 c40 c41 c42 c127 c128 c129 c130 c131 c132 c133 c134 c135 c136 c137 c138 c139 c140 u11 u12 u13 u14 u15 u43 u44 u45 u46 u47 u48 u49 u50 u51 u52 u53 u54 u55 u56 u57 u58 u59 u60 u61 u62 u63 u64 u65 u66 u67 u68 u69 u70 u71 u72 u73 u74 u75 u76 u77 u78 u79 u80 u81 u82 u83 u84 u85 u86 u87 u88 u89 u90 u91 u92 u93 u94 u95 u96 u97 u98 u99 u100 u101 u102 u103 u104 u105 u106 u107 u108 u109 u110 u111 u112 u113 u114 u115 u116 u117 u118 u119 u120 u121 u122 u123 u124 u125 u126 : Value) (Q0 : Exit → Act → World → Prop) (O P : Nat → Prop) (L M : List Pt) (RX RY : List U) (hs : TT K g1 g2 134 O P L M wr none none RX RY) (hi : XInv K.a K.b RX RY L M) (D : Below K.lo w0 wr) (hkx : kindOf RX = 1) (hky : kindOf RY = 3) :
  Code.wp Tryz.prog trBody (Exit.then (fun a' w'' => TrI K g1 g2 w0 c0 c1 c2 c3 c4 c5 c6 c16 c17 c18 c19 c20 c21 c22 c23 c24 c25 c26 c27 c28 c29 c30 c31 c32 c33 c34 c35 c36 c37 c38 c39 c40 c41 c42 c127 c128 c129 c130 c131 c132 c133 c134 c135 c136 c137 c138 c139 c140 a' w'' ∧ muC K w'' < muC K wr) Q0) ⟨#[c0, c1, c2, c3, c4, c5, c6, .pointer (some ⟨K.gx, 0, none⟩), .pointer (some ⟨K.gy, 0, none⟩), .pointer (some ⟨g1, 0, none⟩), .pointer (some ⟨g2, 0, none⟩), u11, u12, u13, u14, u15, c16, c17, c18, c19, c20, c21, c22, c23, c24, c25, c26, c27, c28, c29, c30, c31, c32, c33, c34, c35, c36, c37, c38, c39, c40, c41, c42, u43, u44, u45, u46, u47, u48, u49, u50, u51, u52, u53, u54, u55, u56, u57, u58, u59, u60, u61, u62, u63, u64, u65, u66, u67, u68, u69, u70, u71, u72, u73, u74, u75, u76, u77, u78, u79, u80, u81, u82, u83, u84, u85, u86, u87, u88, u89, u90, u91, u92, u93, u94, u95, u96, u97, u98, u99, u100, u101, u102, u103, u104, u105, u106, u107, u108, u109, u110, u111, u112, u113, u114, u115, u116, u117, u118, u119, u120, u121, u122, u123, u124, u125, u126, c127, c128, c129, c130, c131, c132, c133, c134, c135, c136, c137, c138, c139, c140], []⟩ wr := by
 have HMU := Lib.hid hs.cs.mu
 have hLb : L.length < 100000 := by have := hi.len; omega
 have hMb : M.length < 100000 := by have := hi.len; omega
 have HS := Lib.hid hs
 have HI := Lib.hid hi
 clear hs hi
 conv => arg 2; whnf
 go_wp2_with fail
 refine (HS.out.kindx hT).mono ?_
 rintro e w1 ⟨rfl, m1, q1, h1, b1⟩
 simp only at h1
 replace HS := Lib.hid h1
 replace D := D.trans b1
 clear h1 b1
 clear q1
 rw [hkx]
 have hmx := HS.out.cs.lead
 go_wp2_with fail
 refine (HS.out.kindx hT).mono ?_
 rintro e w2 ⟨rfl, m2, q2, h2, b2⟩
 rw [q2 _ rfl] at h2
 simp only at h2
 replace HS := Lib.hid h2
 replace D := D.trans b2
 clear h2 b2
 clear q2 m2
 rw [hkx]
 go_wp2_with fail
 refine (HS.out.kindy hT).mono ?_
 rintro e w3 ⟨rfl, m3, q3, h3, b3⟩
 simp only at h3
 replace HS := Lib.hid h3
 replace D := D.trans b3
 clear h3 b3
 clear q3
 rw [hky]
 have hmy := HS.out.cs.swap.lead
 have hpx := hmx.pos (by rw [hkx]; decide)
 have HMx := Lib.hid hmx
 clear hmx
 have hpy := hmy.pos (by rw [hky]; decide)
 have HMy := Lib.hid hmy
 clear hmy
 go_wp2_with fail
 refine (HS.out.leftx hT (by rw [hkx]; decide)).mono ?_
 rintro e w4 ⟨rfl, h4, b4⟩
 replace HS := Lib.hid h4
 replace D := D.trans b4
 clear h4 b4
 go_wp2_with fail
 refine (HS.out.lefty hT (by rw [hky]; decide)).mono ?_
 rintro e w5 ⟨rfl, h5, b5⟩
 replace HS := Lib.hid h5
 replace D := D.trans b5
 clear h5 b5
 go_wp2_with fail
 refine (specMin_d _ _ _).mono ?_
 rintro e w'_ ⟨rfl, rfl⟩
 rw [show (if (m1 : Int) < (m3 : Int) then (m1 : Int) else (m3 : Int)) = ((min m1 m3 : Nat) : Int) by split <;> omega]
 have hn1 : min m1 m3 ≤ m1 := Nat.min_le_left _ _
 have hn2 : min m1 m3 ≤ m3 := Nat.min_le_right _ _
 have hn3 : 0 < min m1 m3 := by omega
 generalize min m1 m3 = n at *
 go_wp2_with fail
 refine (HS.out.kindx hT).mono ?_
 rintro e w6 ⟨rfl, m6, q6, h6, b6⟩
 rw [q6 _ rfl] at h6
 simp only at h6
 replace HS := Lib.hid h6
 replace D := D.trans b6
 clear h6 b6
 clear q6 m6
 rw [hkx]
 go_wp2_with fail
 refine (HS.out.kindy hT).mono ?_
 rintro e w7 ⟨rfl, m7, q7, h7, b7⟩
 rw [q7 _ rfl] at h7
 simp only at h7
 replace HS := Lib.hid h7
 replace D := D.trans b7
 clear h7 b7
 clear q7 m7
 rw [hky]
 have hne := HS.out.cs.ne
 have hne2 : ¬ K.gy = K.gx := fun h => hne h.symm
 go_wp2_with fail
 refine (HS.out.drop2 (n := (n : Int)) (by omega) (by omega) hMb).mono ?_
 rintro e w8 ⟨rfl, O8, h8, b8⟩
 replace HS := Lib.hid h8
 replace D := D.trans b8
 clear h8 b8
 obtain ⟨d9, f9, hd9, hf9, hc9, hg9, hu9, hv9, ha9⟩ := HS.out.adv2 (by rw [hkx]; decide) (by rw [hky]; decide)
 have HA9 := Lib.hid (ha9 n hn1 hn2)
 clear ha9
 go_wp2
 have ex := HMx.out.k hkx hn1
 have ey := HMy.out.d hky hn2
 have HR := TrR.mk HA9.out.weak ((by rw [← ex, ← ey]; exact HI.out : XInv K.a K.b (List.replicate n .k ++ RX.drop n) (List.replicate n .d ++ RY.drop n) L M).kd hn3) ((D.setCell HS.out.cs.lx _).setCell HS.out.cs.ly _)
 refine ⟨?_, ?_⟩
 ·unfold TrI
  iterate 89 apply Exists.intro
  exact ⟨HR, rfl⟩
 rw [HA9.out.weak.cs.mu, HMU.out]
 rw [List.length_drop, List.length_drop]
 omega
theorem trM31 (K : Fx) (hT : K.TC = 140) (g1 g2 : Nat) (w0 wr : World) (c0 c1 c2 c3 c4 c5 c6 c16 c17 c18 c19 c20 c21 c22 c23 c24 c25 c26 c27 c28 c29 c30 c31 c32 c33 c34 c35 c36 c37 c38 c39 c40 c41 c42 c127 c128 c129 c130 c131 c132 c133 c134 c135 c136 c137 c138 c139 c140 u11 u12 u13 u14 u15 u43 u44 u45 u46 u47 u48 u49 u50 u51 u52 u53 u54 u55 u56 u57 u58 u59 u60 u61 u62 u63 u64 u65 u66 u67 u68 u69 u70 u71 u72 u73 u74 u75 u76 u77 u78 u79 u80 u81 u82 u83 u84 u85 u86 u87 u88 u89 u90 u91 u92 u93 u94 u95 u96 u97 u98 u99 u100 u101 u102 u103 u104 u105 u106 u107 u108 u109 u110 u111 u112 u113 u114 u115 u116 u117 u118 u119 u120 u121 u122 u123 u124 u125 u126 : Value) (Q0 : Exit → Act → World → Prop) (O P : Nat → Prop) (L M : List Pt) (RX RY : List U) (hs : TT K g1 g2 134 O P L M wr none none RX RY) (hi : XInv K.a K.b RX RY L M) (D : Below K.lo w0 wr) (hkx : kindOf RX = 3) (hky : kindOf RY = 1) :
  Code.wp Tryz.prog trBody (Exit.then (fun a' w'' => TrI K g1 g2 w0 c0 c1 c2 c3 c4 c5 c6 c16 c17 c18 c19 c20 c21 c22 c23 c24 c25 c26 c27 c28 c29 c30 c31 c32 c33 c34 c35 c36 c37 c38 c39 c40 c41 c42 c127 c128 c129 c130 c131 c132 c133 c134 c135 c136 c137 c138 c139 c140 a' w'' ∧ muC K w'' < muC K wr) Q0) ⟨#[c0, c1, c2, c3, c4, c5, c6, .pointer (some ⟨K.gx, 0, none⟩), .pointer (some ⟨K.gy, 0, none⟩), .pointer (some ⟨g1, 0, none⟩), .pointer (some ⟨g2, 0, none⟩), u11, u12, u13, u14, u15, c16, c17, c18, c19, c20, c21, c22, c23, c24, c25, c26, c27, c28, c29, c30, c31, c32, c33, c34, c35, c36, c37, c38, c39, c40, c41, c42, u43, u44, u45, u46, u47, u48, u49, u50, u51, u52, u53, u54, u55, u56, u57, u58, u59, u60, u61, u62, u63, u64, u65, u66, u67, u68, u69, u70, u71, u72, u73, u74, u75, u76, u77, u78, u79, u80, u81, u82, u83, u84, u85, u86, u87, u88, u89, u90, u91, u92, u93, u94, u95, u96, u97, u98, u99, u100, u101, u102, u103, u104, u105, u106, u107, u108, u109, u110, u111, u112, u113, u114, u115, u116, u117, u118, u119, u120, u121, u122, u123, u124, u125, u126, c127, c128, c129, c130, c131, c132, c133, c134, c135, c136, c137, c138, c139, c140], []⟩ wr := by
 have HMU := Lib.hid hs.cs.mu
 have hLb : L.length < 100000 := by have := hi.len; omega
 have hMb : M.length < 100000 := by have := hi.len; omega
 have HS := Lib.hid hs
 have HI := Lib.hid hi
 clear hs hi
 conv => arg 2; whnf
 go_wp2_with fail
 refine (HS.out.kindx hT).mono ?_
 rintro e w1 ⟨rfl, m1, q1, h1, b1⟩
 simp only at h1
 replace HS := Lib.hid h1
 replace D := D.trans b1
 clear h1 b1
 clear q1
 rw [hkx]
 have hmx := HS.out.cs.lead
 go_wp2_with fail
 refine (HS.out.kindx hT).mono ?_
 rintro e w2 ⟨rfl, m2, q2, h2, b2⟩
 rw [q2 _ rfl] at h2
 simp only at h2
 replace HS := Lib.hid h2
 replace D := D.trans b2
 clear h2 b2
 clear q2 m2
 rw [hkx]
 go_wp2_with fail
 refine (HS.out.kindy hT).mono ?_
 rintro e w3 ⟨rfl, m3, q3, h3, b3⟩
 simp only at h3
 replace HS := Lib.hid h3
 replace D := D.trans b3
 clear h3 b3
 clear q3
 rw [hky]
 have hmy := HS.out.cs.swap.lead
 have hpx := hmx.pos (by rw [hkx]; decide)
 have HMx := Lib.hid hmx
 clear hmx
 have hpy := hmy.pos (by rw [hky]; decide)
 have HMy := Lib.hid hmy
 clear hmy
 go_wp2_with fail
 refine (HS.out.leftx hT (by rw [hkx]; decide)).mono ?_
 rintro e w4 ⟨rfl, h4, b4⟩
 replace HS := Lib.hid h4
 replace D := D.trans b4
 clear h4 b4
 go_wp2_with fail
 refine (HS.out.lefty hT (by rw [hky]; decide)).mono ?_
 rintro e w5 ⟨rfl, h5, b5⟩
 replace HS := Lib.hid h5
 replace D := D.trans b5
 clear h5 b5
 go_wp2_with fail
 refine (specMin_d _ _ _).mono ?_
 rintro e w'_ ⟨rfl, rfl⟩
 rw [show (if (m1 : Int) < (m3 : Int) then (m1 : Int) else (m3 : Int)) = ((min m1 m3 : Nat) : Int) by split <;> omega]
 have hn1 : min m1 m3 ≤ m1 := Nat.min_le_left _ _
 have hn2 : min m1 m3 ≤ m3 := Nat.min_le_right _ _
 have hn3 : 0 < min m1 m3 := by omega
 generalize min m1 m3 = n at *
 go_wp2_with fail
 refine (HS.out.kindx hT).mono ?_
 rintro e w6 ⟨rfl, m6, q6, h6, b6⟩
 rw [q6 _ rfl] at h6
 simp only at h6
 replace HS := Lib.hid h6
 replace D := D.trans b6
 clear h6 b6
 clear q6 m6
 rw [hkx]
 go_wp2_with fail
 refine (HS.out.kindy hT).mono ?_
 rintro e w7 ⟨rfl, m7, q7, h7, b7⟩
 rw [q7 _ rfl] at h7
 simp only at h7
 replace HS := Lib.hid h7
 replace D := D.trans b7
 clear h7 b7
 clear q7 m7
 rw [hky]
 have hne := HS.out.cs.ne
 have hne2 : ¬ K.gy = K.gx := fun h => hne h.symm
 go_wp2_with fail
 refine (HS.out.drop1 (n := (n : Int)) (by omega) (by omega) hLb).mono ?_
 rintro e w8 ⟨rfl, O8, h8, b8⟩
 replace HS := Lib.hid h8
 replace D := D.trans b8
 clear h8 b8
 obtain ⟨d9, f9, hd9, hf9, hc9, hg9, hu9, hv9, ha9⟩ := HS.out.adv2 (by rw [hkx]; decide) (by rw [hky]; decide)
 have HA9 := Lib.hid (ha9 n hn1 hn2)
 clear ha9
 go_wp2
 have ex := HMx.out.d hkx hn1
 have ey := HMy.out.k hky hn2
 have HR := TrR.mk HA9.out.weak ((by rw [← ex, ← ey]; exact HI.out : XInv K.a K.b (List.replicate n .d ++ RX.drop n) (List.replicate n .k ++ RY.drop n) L M).dk hn3) ((D.setCell HS.out.cs.lx _).setCell HS.out.cs.ly _)
 refine ⟨?_, ?_⟩
 ·unfold TrI
  iterate 89 apply Exists.intro
  exact ⟨HR, rfl⟩
 rw [HA9.out.weak.cs.mu, HMU.out]
 rw [List.length_drop, List.length_drop]
 omega
theorem trM33 (K : Fx) (hT : K.TC = 140) (g1 g2 : Nat) (w0 wr : World) (c0 c1 c2 c3 c4 c5 c6 c16 c17 c18 c19 c20 c21 c22 c23 c24 c25 c26 c27 c28 c29 c30 c31 c32 c33 c34 c35 c36 c37 c38 c39 c40 c41 c42 c127 c128 c129 c130 c131 c132 c133 c134 c135 c136 c137 c138 c139 c140 u11 u12 u13 u14 u15 u43 u44 u45 u46 u47 u48 u49 u50 u51 u52 u53 u54 u55 u56 u57 u58 u59 u60 u61 u62 u63 u64 u65 u66 u67 u68 u69 u70 u71 u72 u73 u74 u75 u76 u77 u78 u79 u80 u81 u82 u83 u84 u85 u86 u87 u88 u89 u90 u91 u92 u93 u94 u95 u96 u97 u98 u99 u100 u101 u102 u103 u104 u105 u106 u107 u108 u109 u110 u111 u112 u113 u114 u115 u116 u117 u118 u119 u120 u121 u122 u123 u124 u125 u126 : Value) (Q0 : Exit → Act → World → Prop) (O P : Nat → Prop) (L M : List Pt) (RX RY : List U) (hs : TT K g1 g2 134 O P L M wr none none RX RY) (hi : XInv K.a K.b RX RY L M) (D : Below K.lo w0 wr) (hkx : kindOf RX = 3) (hky : kindOf RY = 3) :
  Code.wp Tryz.prog trBody (Exit.then (fun a' w'' => TrI K g1 g2 w0 c0 c1 c2 c3 c4 c5 c6 c16 c17 c18 c19 c20 c21 c22 c23 c24 c25 c26 c27 c28 c29 c30 c31 c32 c33 c34 c35 c36 c37 c38 c39 c40 c41 c42 c127 c128 c129 c130 c131 c132 c133 c134 c135 c136 c137 c138 c139 c140 a' w'' ∧ muC K w'' < muC K wr) Q0) ⟨#[c0, c1, c2, c3, c4, c5, c6, .pointer (some ⟨K.gx, 0, none⟩), .pointer (some ⟨K.gy, 0, none⟩), .pointer (some ⟨g1, 0, none⟩), .pointer (some ⟨g2, 0, none⟩), u11, u12, u13, u14, u15, c16, c17, c18, c19, c20, c21, c22, c23, c24, c25, c26, c27, c28, c29, c30, c31, c32, c33, c34, c35, c36, c37, c38, c39, c40, c41, c42, u43, u44, u45, u46, u47, u48, u49, u50, u51, u52, u53, u54, u55, u56, u57, u58, u59, u60, u61, u62, u63, u64, u65, u66, u67, u68, u69, u70, u71, u72, u73, u74, u75, u76, u77, u78, u79, u80, u81, u82, u83, u84, u85, u86, u87, u88, u89, u90, u91, u92, u93, u94, u95, u96, u97, u98, u99, u100, u101, u102, u103, u104, u105, u106, u107, u108, u109, u110, u111, u112, u113, u114, u115, u116, u117, u118, u119, u120, u121, u122, u123, u124, u125, u126, c127, c128, c129, c130, c131, c132, c133, c134, c135, c136, c137, c138, c139, c140], []⟩ wr := by
 have HMU := Lib.hid hs.cs.mu
 have hLb : L.length < 100000 := by have := hi.len; omega
 have hMb : M.length < 100000 := by have := hi.len; omega
 have HS := Lib.hid hs
 have HI := Lib.hid hi
 clear hs hi
 conv => arg 2; whnf
 go_wp2_with fail
 refine (HS.out.kindx hT).mono ?_
 rintro e w1 ⟨rfl, m1, q1, h1, b1⟩
 simp only at h1
 replace HS := Lib.hid h1
 replace D := D.trans b1
 clear h1 b1
 clear q1
 rw [hkx]
 have hmx := HS.out.cs.lead
 go_wp2_with fail
 refine (HS.out.kindx hT).mono ?_
 rintro e w2 ⟨rfl, m2, q2, h2, b2⟩
 rw [q2 _ rfl] at h2
 simp only at h2
 replace HS := Lib.hid h2
 replace D := D.trans b2
 clear h2 b2
 clear q2 m2
 rw [hkx]
 go_wp2_with fail
 refine (HS.out.kindy hT).mono ?_
 rintro e w3 ⟨rfl, m3, q3, h3, b3⟩
 simp only at h3
 replace HS := Lib.hid h3
 replace D := D.trans b3
 clear h3 b3
 clear q3
 rw [hky]
 have hmy := HS.out.cs.swap.lead
 have hpx := hmx.pos (by rw [hkx]; decide)
 have HMx := Lib.hid hmx
 clear hmx
 have hpy := hmy.pos (by rw [hky]; decide)
 have HMy := Lib.hid hmy
 clear hmy
 go_wp2_with fail
 refine (HS.out.leftx hT (by rw [hkx]; decide)).mono ?_
 rintro e w4 ⟨rfl, h4, b4⟩
 replace HS := Lib.hid h4
 replace D := D.trans b4
 clear h4 b4
 go_wp2_with fail
 refine (HS.out.lefty hT (by rw [hky]; decide)).mono ?_
 rintro e w5 ⟨rfl, h5, b5⟩
 replace HS := Lib.hid h5
 replace D := D.trans b5
 clear h5 b5
 go_wp2_with fail
 refine (specMin_d _ _ _).mono ?_
 rintro e w'_ ⟨rfl, rfl⟩
 rw [show (if (m1 : Int) < (m3 : Int) then (m1 : Int) else (m3 : Int)) = ((min m1 m3 : Nat) : Int) by split <;> omega]
 have hn1 : min m1 m3 ≤ m1 := Nat.min_le_left _ _
 have hn2 : min m1 m3 ≤ m3 := Nat.min_le_right _ _
 have hn3 : 0 < min m1 m3 := by omega
 generalize min m1 m3 = n at *
 go_wp2_with fail
 refine (HS.out.kindx hT).mono ?_
 rintro e w6 ⟨rfl, m6, q6, h6, b6⟩
 rw [q6 _ rfl] at h6
 simp only at h6
 replace HS := Lib.hid h6
 replace D := D.trans b6
 clear h6 b6
 clear q6 m6
 rw [hkx]
 go_wp2_with fail
 refine (HS.out.kindy hT).mono ?_
 rintro e w7 ⟨rfl, m7, q7, h7, b7⟩
 rw [q7 _ rfl] at h7
 simp only at h7
 replace HS := Lib.hid h7
 replace D := D.trans b7
 clear h7 b7
 clear q7 m7
 rw [hky]
 have hne := HS.out.cs.ne
 have hne2 : ¬ K.gy = K.gx := fun h => hne h.symm
 obtain ⟨d8, f8, hd8, hf8, hc8, hg8, hu8, hv8, ha8⟩ := HS.out.adv2 (by rw [hkx]; decide) (by rw [hky]; decide)
 have HA8 := Lib.hid (ha8 n hn1 hn2)
 clear ha8
 go_wp2
 have ex := HMx.out.d hkx hn1
 have ey := HMy.out.d hky hn2
 have HR := TrR.mk HA8.out.weak ((by rw [← ex, ← ey]; exact HI.out : XInv K.a K.b (List.replicate n .d ++ RX.drop n) (List.replicate n .d ++ RY.drop n) L M).dd) ((D.setCell HS.out.cs.lx _).setCell HS.out.cs.ly _)
 refine ⟨?_, ?_⟩
 ·unfold TrI
  iterate 89 apply Exists.intro
  exact ⟨HR, rfl⟩
 rw [HA8.out.weak.cs.mu, HMU.out]
 rw [List.length_drop, List.length_drop]
 omega
theorem trRound (K : Fx) (hT : K.TC = 140) (g1 g2 : Nat) (w0 : World) (c0 c1 c2 c3 c4 c5 c6 c16 c17 c18 c19 c20 c21 c22 c23 c24 c25 c26 c27 c28 c29 c30 c31 c32 c33 c34 c35 c36 c37 c38 c39 c40 c41 c42 c127 c128 c129 c130 c131 c132 c133 c134 c135 c136 c137 c138 c139 c140 : Value) (Q0 : Exit → Act → World → Prop) (hexit : ∀ a w, TrE K g1 g2 w0 c0 c1 c2 c3 c4 c5 c6 c16 c17 c18 c19 c20 c21 c22 c23 c24 c25 c26 c27 c28 c29 c30 c31 c32 c33 c34 c35 c36 c37 c38 c39 c40 c41 c42 c127 c128 c129 c130 c131 c132 c133 c134 c135 c136 c137 c138 c139 c140 a w → Q0 (.exit 0) a w) (a : Act) (w' : World) (hI : TrI K g1 g2 w0 c0 c1 c2 c3 c4 c5 c6 c16 c17 c18 c19 c20 c21 c22 c23 c24 c25 c26 c27 c28 c29 c30 c31 c32 c33 c34 c35 c36 c37 c38 c39 c40 c41 c42 c127 c128 c129 c130 c131 c132 c133 c134 c135 c136 c137 c138 c139 c140 a w') :
  Code.wp Tryz.prog trBody (Exit.then (fun a' w'' => TrI K g1 g2 w0 c0 c1 c2 c3 c4 c5 c6 c16 c17 c18 c19 c20 c21 c22 c23 c24 c25 c26 c27 c28 c29 c30 c31 c32 c33 c34 c35 c36 c37 c38 c39 c40 c41 c42 c127 c128 c129 c130 c131 c132 c133 c134 c135 c136 c137 c138 c139 c140 a' w'' ∧ muC K w'' < muC K w') Q0) a w' := by
 unfold TrI at hI
 obtain ⟨u11, hI⟩ := hI
 obtain ⟨u12, hI⟩ := hI
 obtain ⟨u13, hI⟩ := hI
 obtain ⟨u14, hI⟩ := hI
 obtain ⟨u15, hI⟩ := hI
 obtain ⟨u43, hI⟩ := hI
 obtain ⟨u44, hI⟩ := hI
 obtain ⟨u45, hI⟩ := hI
 obtain ⟨u46, hI⟩ := hI
 obtain ⟨u47, hI⟩ := hI
 obtain ⟨u48, hI⟩ := hI
 obtain ⟨u49, hI⟩ := hI
 obtain ⟨u50, hI⟩ := hI
 obtain ⟨u51, hI⟩ := hI
 obtain ⟨u52, hI⟩ := hI
 obtain ⟨u53, hI⟩ := hI
 obtain ⟨u54, hI⟩ := hI
 obtain ⟨u55, hI⟩ := hI
 obtain ⟨u56, hI⟩ := hI
 obtain ⟨u57, hI⟩ := hI
 obtain ⟨u58, hI⟩ := hI
 obtain ⟨u59, hI⟩ := hI
 obtain ⟨u60, hI⟩ := hI
 obtain ⟨u61, hI⟩ := hI
 obtain ⟨u62, hI⟩ := hI
 obtain ⟨u63, hI⟩ := hI
 obtain ⟨u64, hI⟩ := hI
 obtain ⟨u65, hI⟩ := hI
 obtain ⟨u66, hI⟩ := hI
 obtain ⟨u67, hI⟩ := hI
 obtain ⟨u68, hI⟩ := hI
 obtain ⟨u69, hI⟩ := hI
 obtain ⟨u70, hI⟩ := hI
 obtain ⟨u71, hI⟩ := hI
 obtain ⟨u72, hI⟩ := hI
 obtain ⟨u73, hI⟩ := hI
 obtain ⟨u74, hI⟩ := hI
 obtain ⟨u75, hI⟩ := hI
 obtain ⟨u76, hI⟩ := hI
 obtain ⟨u77, hI⟩ := hI
 obtain ⟨u78, hI⟩ := hI
 obtain ⟨u79, hI⟩ := hI
 obtain ⟨u80, hI⟩ := hI
 obtain ⟨u81, hI⟩ := hI
 obtain ⟨u82, hI⟩ := hI
 obtain ⟨u83, hI⟩ := hI
 obtain ⟨u84, hI⟩ := hI
 obtain ⟨u85, hI⟩ := hI
 obtain ⟨u86, hI⟩ := hI
 obtain ⟨u87, hI⟩ := hI
 obtain ⟨u88, hI⟩ := hI
 obtain ⟨u89, hI⟩ := hI
 obtain ⟨u90, hI⟩ := hI
 obtain ⟨u91, hI⟩ := hI
 obtain ⟨u92, hI⟩ := hI
 obtain ⟨u93, hI⟩ := hI
 obtain ⟨u94, hI⟩ := hI
 obtain ⟨u95, hI⟩ := hI
 obtain ⟨u96, hI⟩ := hI
 obtain ⟨u97, hI⟩ := hI
 obtain ⟨u98, hI⟩ := hI
 obtain ⟨u99, hI⟩ := hI
 obtain ⟨u100, hI⟩ := hI
 obtain ⟨u101, hI⟩ := hI
 obtain ⟨u102, hI⟩ := hI
 obtain ⟨u103, hI⟩ := hI
 obtain ⟨u104, hI⟩ := hI
 obtain ⟨u105, hI⟩ := hI
 obtain ⟨u106, hI⟩ := hI
 obtain ⟨u107, hI⟩ := hI
 obtain ⟨u108, hI⟩ := hI
 obtain ⟨u109, hI⟩ := hI
 obtain ⟨u110, hI⟩ := hI
 obtain ⟨u111, hI⟩ := hI
 obtain ⟨u112, hI⟩ := hI
 obtain ⟨u113, hI⟩ := hI
 obtain ⟨u114, hI⟩ := hI
 obtain ⟨u115, hI⟩ := hI
 obtain ⟨u116, hI⟩ := hI
 obtain ⟨u117, hI⟩ := hI
 obtain ⟨u118, hI⟩ := hI
 obtain ⟨u119, hI⟩ := hI
 obtain ⟨u120, hI⟩ := hI
 obtain ⟨u121, hI⟩ := hI
 obtain ⟨u122, hI⟩ := hI
 obtain ⟨u123, hI⟩ := hI
 obtain ⟨u124, hI⟩ := hI
 obtain ⟨u125, hI⟩ := hI
 obtain ⟨u126, hI⟩ := hI
 obtain ⟨⟨O, P, L, M, RX, RY, hs, hi, D⟩, rfl⟩ := hI
 rcases xf_cases hi.bal with ⟨hx, hy⟩ | hkx | ⟨hnp, hkx | hkx | hkx, hky⟩ | ⟨hkx | hkx, hky | hky⟩
 ·exact trE K hT g1 g2 w0 w' c0 c1 c2 c3 c4 c5 c6 c16 c17 c18 c19 c20 c21 c22 c23 c24 c25 c26 c27 c28 c29 c30 c31 c32 c33 c34 c35 c36 c37 c38 c39 c40 c41 c42 c127 c128 c129 c130 c131 c132 c133 c134 c135 c136 c137 c138 c139 c140 u11 u12 u13 u14 u15 u43 u44 u45 u46 u47 u48 u49 u50 u51 u52 u53 u54 u55 u56 u57 u58 u59 u60 u61 u62 u63 u64 u65 u66 u67 u68 u69 u70 u71 u72 u73 u74 u75 u76 u77 u78 u79 u80 u81 u82 u83 u84 u85 u86 u87 u88 u89 u90 u91 u92 u93 u94 u95 u96 u97 u98 u99 u100 u101 u102 u103 u104 u105 u106 u107 u108 u109 u110 u111 u112 u113 u114 u115 u116 u117 u118 u119 u120 u121 u122 u123 u124 u125 u126 Q0 O P L M RX RY hs hi D hx hy hexit
 ·exact trA K hT g1 g2 w0 w' c0 c1 c2 c3 c4 c5 c6 c16 c17 c18 c19 c20 c21 c22 c23 c24 c25 c26 c27 c28 c29 c30 c31 c32 c33 c34 c35 c36 c37 c38 c39 c40 c41 c42 c127 c128 c129 c130 c131 c132 c133 c134 c135 c136 c137 c138 c139 c140 u11 u12 u13 u14 u15 u43 u44 u45 u46 u47 u48 u49 u50 u51 u52 u53 u54 u55 u56 u57 u58 u59 u60 u61 u62 u63 u64 u65 u66 u67 u68 u69 u70 u71 u72 u73 u74 u75 u76 u77 u78 u79 u80 u81 u82 u83 u84 u85 u86 u87 u88 u89 u90 u91 u92 u93 u94 u95 u96 u97 u98 u99 u100 u101 u102 u103 u104 u105 u106 u107 u108 u109 u110 u111 u112 u113 u114 u115 u116 u117 u118 u119 u120 u121 u122 u123 u124 u125 u126 Q0 O P L M RX RY hs hi D hkx
 ·exact trB0 K hT g1 g2 w0 w' c0 c1 c2 c3 c4 c5 c6 c16 c17 c18 c19 c20 c21 c22 c23 c24 c25 c26 c27 c28 c29 c30 c31 c32 c33 c34 c35 c36 c37 c38 c39 c40 c41 c42 c127 c128 c129 c130 c131 c132 c133 c134 c135 c136 c137 c138 c139 c140 u11 u12 u13 u14 u15 u43 u44 u45 u46 u47 u48 u49 u50 u51 u52 u53 u54 u55 u56 u57 u58 u59 u60 u61 u62 u63 u64 u65 u66 u67 u68 u69 u70 u71 u72 u73 u74 u75 u76 u77 u78 u79 u80 u81 u82 u83 u84 u85 u86 u87 u88 u89 u90 u91 u92 u93 u94 u95 u96 u97 u98 u99 u100 u101 u102 u103 u104 u105 u106 u107 u108 u109 u110 u111 u112 u113 u114 u115 u116 u117 u118 u119 u120 u121 u122 u123 u124 u125 u126 Q0 O P L M RX RY hs hi D hnp hkx hky
 ·exact trB1 K hT g1 g2 w0 w' c0 c1 c2 c3 c4 c5 c6 c16 c17 c18 c19 c20 c21 c22 c23 c24 c25 c26 c27 c28 c29 c30 c31 c32 c33 c34 c35 c36 c37 c38 c39 c40 c41 c42 c127 c128 c129 c130 c131 c132 c133 c134 c135 c136 c137 c138 c139 c140 u11 u12 u13 u14 u15 u43 u44 u45 u46 u47 u48 u49 u50 u51 u52 u53 u54 u55 u56 u57 u58 u59 u60 u61 u62 u63 u64 u65 u66 u67 u68 u69 u70 u71 u72 u73 u74 u75 u76 u77 u78 u79 u80 u81 u82 u83 u84 u85 u86 u87 u88 u89 u90 u91 u92 u93 u94 u95 u96 u97 u98 u99 u100 u101 u102 u103 u104 u105 u106 u107 u108 u109 u110 u111 u112 u113 u114 u115 u116 u117 u118 u119 u120 u121 u122 u123 u124 u125 u126 Q0 O P L M RX RY hs hi D hnp hkx hky
 ·exact trB3 K hT g1 g2 w0 w' c0 c1 c2 c3 c4 c5 c6 c16 c17 c18 c19 c20 c21 c22 c23 c24 c25 c26 c27 c28 c29 c30 c31 c32 c33 c34 c35 c36 c37 c38 c39 c40 c41 c42 c127 c128 c129 c130 c131 c132 c133 c134 c135 c136 c137 c138 c139 c140 u11 u12 u13 u14 u15 u43 u44 u45 u46 u47 u48 u49 u50 u51 u52 u53 u54 u55 u56 u57 u58 u59 u60 u61 u62 u63 u64 u65 u66 u67 u68 u69 u70 u71 u72 u73 u74 u75 u76 u77 u78 u79 u80 u81 u82 u83 u84 u85 u86 u87 u88 u89 u90 u91 u92 u93 u94 u95 u96 u97 u98 u99 u100 u101 u102 u103 u104 u105 u106 u107 u108 u109 u110 u111 u112 u113 u114 u115 u116 u117 u118 u119 u120 u121 u122 u123 u124 u125 u126 Q0 O P L M RX RY hs hi D hnp hkx hky
 ·exact trM11 K hT g1 g2 w0 w' c0 c1 c2 c3 c4 c5 c6 c16 c17 c18 c19 c20 c21 c22 c23 c24 c25 c26 c27 c28 c29 c30 c31 c32 c33 c34 c35 c36 c37 c38 c39 c40 c41 c42 c127 c128 c129 c130 c131 c132 c133 c134 c135 c136 c137 c138 c139 c140 u11 u12 u13 u14 u15 u43 u44 u45 u46 u47 u48 u49 u50 u51 u52 u53 u54 u55 u56 u57 u58 u59 u60 u61 u62 u63 u64 u65 u66 u67 u68 u69 u70 u71 u72 u73 u74 u75 u76 u77 u78 u79 u80 u81 u82 u83 u84 u85 u86 u87 u88 u89 u90 u91 u92 u93 u94 u95 u96 u97 u98 u99 u100 u101 u102 u103 u104 u105 u106 u107 u108 u109 u110 u111 u112 u113 u114 u115 u116 u117 u118 u119 u120 u121 u122 u123 u124 u125 u126 Q0 O P L M RX RY hs hi D hkx hky
 ·exact trM13 K hT g1 g2 w0 w' c0 c1 c2 c3 c4 c5 c6 c16 c17 c18 c19 c20 c21 c22 c23 c24 c25 c26 c27 c28 c29 c30 c31 c32 c33 c34 c35 c36 c37 c38 c39 c40 c41 c42 c127 c128 c129 c130 c131 c132 c133 c134 c135 c136 c137 c138 c139 c140 u11 u12 u13 u14 u15 u43 u44 u45 u46 u47 u48 u49 u50 u51 u52 u53 u54 u55 u56 u57 u58 u59 u60 u61 u62 u63 u64 u65 u66 u67 u68 u69 u70 u71 u72 u73 u74 u75 u76 u77 u78 u79 u80 u81 u82 u83 u84 u85 u86 u87 u88 u89 u90 u91 u92 u93 u94 u95 u96 u97 u98 u99 u100 u101 u102 u103 u104 u105 u106 u107 u108 u109 u110 u111 u112 u113 u114 u115 u116 u117 u118 u119 u120 u121 u122 u123 u124 u125 u126 Q0 O P L M RX RY hs hi D hkx hky
 ·exact trM31 K hT g1 g2 w0 w' c0 c1 c2 c3 c4 c5 c6 c16 c17 c18 c19 c20 c21 c22 c23 c24 c25 c26 c27 c28 c29 c30 c31 c32 c33 c34 c35 c36 c37 c38 c39 c40 c41 c42 c127 c128 c129 c130 c131 c132 c133 c134 c135 c136 c137 c138 c139 c140 u11 u12 u13 u14 u15 u43 u44 u45 u46 u47 u48 u49 u50 u51 u52 u53 u54 u55 u56 u57 u58 u59 u60 u61 u62 u63 u64 u65 u66 u67 u68 u69 u70 u71 u72 u73 u74 u75 u76 u77 u78 u79 u80 u81 u82 u83 u84 u85 u86 u87 u88 u89 u90 u91 u92 u93 u94 u95 u96 u97 u98 u99 u100 u101 u102 u103 u104 u105 u106 u107 u108 u109 u110 u111 u112 u113 u114 u115 u116 u117 u118 u119 u120 u121 u122 u123 u124 u125 u126 Q0 O P L M RX RY hs hi D hkx hky
 ·exact trM33 K hT g1 g2 w0 w' c0 c1 c2 c3 c4 c5 c6 c16 c17 c18 c19 c20 c21 c22 c23 c24 c25 c26 c27 c28 c29 c30 c31 c32 c33 c34 c35 c36 c37 c38 c39 c40 c41 c42 c127 c128 c129 c130 c131 c132 c133 c134 c135 c136 c137 c138 c139 c140 u11 u12 u13 u14 u15 u43 u44 u45 u46 u47 u48 u49 u50 u51 u52 u53 u54 u55 u56 u57 u58 u59 u60 u61 u62 u63 u64 u65 u66 u67 u68 u69 u70 u71 u72 u73 u74 u75 u76 u77 u78 u79 u80 u81 u82 u83 u84 u85 u86 u87 u88 u89 u90 u91 u92 u93 u94 u95 u96 u97 u98 u99 u100 u101 u102 u103 u104 u105 u106 u107 u108 u109 u110 u111 u112 u113 u114 u115 u116 u117 u118 u119 u120 u121 u122 u123 u124 u125 u126 Q0 O P L M RX RY hs hi D hkx hky
theorem trLoop (K : Fx) (hT : K.TC = 140) (g1 g2 : Nat) (w0 : World) (c0 c1 c2 c3 c4 c5 c6 c16 c17 c18 c19 c20 c21 c22 c23 c24 c25 c26 c27 c28 c29 c30 c31 c32 c33 c34 c35 c36 c37 c38 c39 c40 c41 c42 c127 c128 c129 c130 c131 c132 c133 c134 c135 c136 c137 c138 c139 c140 u11 u12 u13 u14 u15 u43 u44 u45 u46 u47 u48 u49 u50 u51 u52 u53 u54 u55 u56 u57 u58 u59 u60 u61 u62 u63 u64 u65 u66 u67 u68 u69 u70 u71 u72 u73 u74 u75 u76 u77 u78 u79 u80 u81 u82 u83 u84 u85 u86 u87 u88 u89 u90 u91 u92 u93 u94 u95 u96 u97 u98 u99 u100 u101 u102 u103 u104 u105 u106 u107 u108 u109 u110 u111 u112 u113 u114 u115 u116 u117 u118 u119 u120 u121 u122 u123 u124 u125 u126 : Value) (Q0 : Exit → Act → World → Prop) (w' : World) (hR : TrR K g1 g2 w0 w') (hexit : ∀ a w, TrE K g1 g2 w0 c0 c1 c2 c3 c4 c5 c6 c16 c17 c18 c19 c20 c21 c22 c23 c24 c25 c26 c27 c28 c29 c30 c31 c32 c33 c34 c35 c36 c37 c38 c39 c40 c41 c42 c127 c128 c129 c130 c131 c132 c133 c134 c135 c136 c137 c138 c139 c140 a w → Q0 (.exit 0) a w) :
  Code.wp Tryz.prog (Code.loop trBody) Q0 ⟨#[c0, c1, c2, c3, c4, c5, c6, .pointer (some ⟨K.gx, 0, none⟩), .pointer (some ⟨K.gy, 0, none⟩), .pointer (some ⟨g1, 0, none⟩), .pointer (some ⟨g2, 0, none⟩), u11, u12, u13, u14, u15, c16, c17, c18, c19, c20, c21, c22, c23, c24, c25, c26, c27, c28, c29, c30, c31, c32, c33, c34, c35, c36, c37, c38, c39, c40, c41, c42, u43, u44, u45, u46, u47, u48, u49, u50, u51, u52, u53, u54, u55, u56, u57, u58, u59, u60, u61, u62, u63, u64, u65, u66, u67, u68, u69, u70, u71, u72, u73, u74, u75, u76, u77, u78, u79, u80, u81, u82, u83, u84, u85, u86, u87, u88, u89, u90, u91, u92, u93, u94, u95, u96, u97, u98, u99, u100, u101, u102, u103, u104, u105, u106, u107, u108, u109, u110, u111, u112, u113, u114, u115, u116, u117, u118, u119, u120, u121, u122, u123, u124, u125, u126, c127, c128, c129, c130, c131, c132, c133, c134, c135, c136, c137, c138, c139, c140], []⟩ w' := by
 refine wp_loop (TrI K g1 g2 w0 c0 c1 c2 c3 c4 c5 c6 c16 c17 c18 c19 c20 c21 c22 c23 c24 c25 c26 c27 c28 c29 c30 c31 c32 c33 c34 c35 c36 c37 c38 c39 c40 c41 c42 c127 c128 c129 c130 c131 c132 c133 c134 c135 c136 c137 c138 c139 c140) (fun _ w => muC K w) ?_ (fun a w'' hI => trRound K hT g1 g2 w0 c0 c1 c2 c3 c4 c5 c6 c16 c17 c18 c19 c20 c21 c22 c23 c24 c25 c26 c27 c28 c29 c30 c31 c32 c33 c34 c35 c36 c37 c38 c39 c40 c41 c42 c127 c128 c129 c130 c131 c132 c133 c134 c135 c136 c137 c138 c139 c140 Q0 hexit a w'' hI)
 unfold TrI
 iterate 89 apply Exists.intro
 exact ⟨hR, rfl⟩
theorem nil2 {w w' : World} (hb : Below w.heap.size w w') : Res2B (encPs []) (encPs []) false w (.returned (.tuple #[.slice none 0 0, .slice none 0 0, .bool false])) w' := by
 obtain ⟨b1, o1⟩ := (nilOwn (encPs []) w' rfl hb.size).blocks
 have e : b1 = [] := by obtain ⟨_, _, ho, hr, he⟩ := o1.ow; obtain ⟨_, hc⟩ := hr; rw [he, hc]; rfl
 subst e
 exact ⟨_, _, [], [], rfl, o1, o1, by simp, hb⟩
theorem xform_f {a b : List Pt} (h : xformOk a b = false) : xformOk a b = false ∧ xformA a b = [] ∧ xformB a b = [] := ⟨h, by unfold xformA; rw [h]; rfl, by unfold xformB; rw [h]; rfl⟩
theorem TT.new {w : World} {A B : Option Addr} {ca cb lo : Nat} {a b : List Pt} {TC TB : TypeId} (hlo : lo ≤ w.heap.size) (ra : RdC w lo (encPs a) (.slice A a.length ca)) (rb : RdC w lo (encPs b) (.slice B b.length cb)) (sa : ∀ p ∈ a, szP_ p) (sb : ∀ p ∈ b, szP_ p) (na : a.length ≤ 1048576) (nb : b.length ≤ 1048576) :
  TT ⟨lo, w.heap.size, w.heap.size + 1, TC, A, ca, a, B, cb, b⟩ (w.heap.size + 1 + 1) (w.heap.size + 1 + 1 + 1) TB (fun q => q = w.heap.size + 1 + 1) (fun q => q = w.heap.size + 1 + 1 + 1) [] [] ((((w.alloc (.cells #[.slice A a.length ca, .int .i64 0, .int .i64 0] TC)).alloc (.cells #[.slice B b.length cb, .int .i64 0, .int .i64 0] TC)).alloc (.cells #[.slice none 0 0, .slice none 0 0, .int .i64 0] TB)).alloc (.cells #[.slice none 0 0, .slice none 0 0, .int .i64 0] TB)) none none (units a) (units b) ∧
  Below lo w ((((w.alloc (.cells #[.slice A a.length ca, .int .i64 0, .int .i64 0] TC)).alloc (.cells #[.slice B b.length cb, .int .i64 0, .int .i64 0] TC)).alloc (.cells #[.slice none 0 0, .slice none 0 0, .int .i64 0] TB)).alloc (.cells #[.slice none 0 0, .slice none 0 0, .int .i64 0] TB)) := by
 obtain ⟨h1, b1⟩ := CB.new (TC := TC) (TB := TB) hlo ra rb sa sb na nb
 have s3 : (((w.alloc (.cells #[.slice A a.length ca, .int .i64 0, .int .i64 0] TC)).alloc (.cells #[.slice B b.length cb, .int .i64 0, .int .i64 0] TC)).alloc (.cells #[.slice none 0 0, .slice none 0 0, .int .i64 0] TB)).heap.size = w.heap.size + 1 + 1 + 1 := by simp
 generalize (((w.alloc (.cells #[.slice A a.length ca, .int .i64 0, .int .i64 0] TC)).alloc (.cells #[.slice B b.length cb, .int .i64 0, .int .i64 0] TC)).alloc (.cells #[.slice none 0 0, .slice none 0 0, .int .i64 0] TB)) = w3 at *
 have hb := Bld.new lo TB w3 (by omega)
 have ba := alloc_below w3 (.cells #[.slice none 0 0, .slice none 0 0, .int .i64 0] TB)
 rw [s3] at hb
 have h2 := h1.past ba
 exact ⟨⟨h2.cs, h2.bd, hb, h2.ox, h2.oy, by show ¬ w.heap.size = _; omega, by show ¬ w.heap.size + 1 = _; omega, fun q e1 e2 => by have e1' : q = w.heap.size + 1 + 1 := e1; have e2' : q = w.heap.size + 1 + 1 + 1 := e2; omega⟩, b1.trans (ba.mono (by omega))⟩
theorem specTransform_t (A B : Option Addr) (ca cb : Nat) (a b : List Pt) (w : World) (h : RdC w w.heap.size (encPs a) (.slice A a.length ca)) (h' : RdC w w.heap.size (encPs b) (.slice B b.length cb)) (hs : SmP a) (hs' : SmP b) (hoa : okOp a = true) (hob : okOp b = true) (hbal : sumK a + sumD a = sumK b + sumD b) :
  Calls Tryz.prog 82 #[.slice A a.length ca, .slice B b.length cb] w (Res2B (encPs (xformA a b)) (encPs (xformB a b)) (xformOk a b) w) := by
 obtain ⟨A_, ca_, eA, hra, _⟩ := parts_rd h
 obtain ⟨rfl, rfl⟩ : A = A_ ∧ ca = ca_ := by injection eA with e1 _ e3; exact ⟨e1, e3⟩
 obtain ⟨B_, cb_, eB, hrb, _⟩ := parts_rd h'
 obtain ⟨rfl, rfl⟩ : B = B_ ∧ cb = cb_ := by injection eB with e1 _ e3; exact ⟨e1, e3⟩
 clear eA eB
 have hlA := hs.1
 have hlB := hs'.1
 have hne : ((sumK a + sumD a) != (sumK b + sumD b)) = false := by simp [hbal]
 have HI := Lib.hid (xinv0 hoa hob hbal)
 have HOA := Lib.hid hoa
 have HOB := Lib.hid hob
 have HBAL := Lib.hid hbal
 clear hbal
 go_enter Tryz.func82, Tryz.ntmps82
 go_wp2_with fail
 refine (specOpOk_any A ca a _ hra (by omega) hs.all4).mono ?_
 rintro e w1 ⟨rfl, b1⟩
 rw [hoa]
 go_wp2_with fail
 refine (specOpOk_any B cb b _ (hrb.past b1) (by omega) hs'.all4).mono ?_
 rintro e w2 ⟨rfl, b2⟩
 rw [hob]
 have d2 := b1.trans (b2.mono b1.size)
 go_wp2_with fail
 refine (specOpFrom_any A ca a _ (hra.past d2) (by omega) hs.all4).mono ?_
 rintro e w3 ⟨rfl, b3⟩
 have d3 := d2.trans (b3.mono d2.size)
 go_wp2_with fail
 refine (specOpFrom_any B cb b _ (hrb.past d3) (by omega) hs'.all4).mono ?_
 rintro e w4 ⟨rfl, b4⟩
 have d4 := d3.trans (b4.mono d3.size)
 clear hoa hob b1 b2 d2 b3 d3 b4
 go_wp2
 obtain ⟨htt, bN⟩ := TT.new (TC := 140) (TB := 134) d4.size (h.below d4) (h'.below d4) (okOp_units HOA.out).2.1 (okOp_units HOB.out).2.1 hlA hlB
 have D := d4.trans bN
 have HTT := Lib.hid htt
 clear htt bN hne
 refine trLoop ⟨w.heap.size, w4.heap.size, w4.heap.size + 1, 140, A, ca, a, B, cb, b⟩ rfl (w4.heap.size + 1 + 1) (w4.heap.size + 1 + 1 + 1) w _ _ _ _ _ _ _ _ _ _ _ _ _ _ _ _ _ _ _ _ _ _ _ _ _ _ _ _ _ _ _ _ _ _ _ _ _ _ _ _ _ _ _ _ _ _ _ _ _ _ _ _ _ _ _ _ _ _ _ _ _ _ _ _ _ _ _ _ _ _ _ _ _ _ _ _ _ _ _ _ _ _ _ _ _ _ _ _ _ _ _ _ _ _ _ _ _ _ _ _ _ _ _ _ _ _ _ _ _ _ _ _ _ _ _ _ _ _ _ _ _ _ _ _ _ _ _ _ _ _ _ _ _ _ _ _ _ _ _ ⟨_, _, _, _, _, _, HTT.out, HI.out, D⟩ ?_
 intro act w8 hE
 clear HTT D HI
 unfold TrE at hE
 obtain ⟨u11, hE⟩ := hE
 obtain ⟨u12, hE⟩ := hE
 obtain ⟨u13, hE⟩ := hE
 obtain ⟨u14, hE⟩ := hE
 obtain ⟨u15, hE⟩ := hE
 obtain ⟨u43, hE⟩ := hE
 obtain ⟨u44, hE⟩ := hE
 obtain ⟨u45, hE⟩ := hE
 obtain ⟨u46, hE⟩ := hE
 obtain ⟨u47, hE⟩ := hE
 obtain ⟨u48, hE⟩ := hE
 obtain ⟨u49, hE⟩ := hE
 obtain ⟨u50, hE⟩ := hE
 obtain ⟨u51, hE⟩ := hE
 obtain ⟨u52, hE⟩ := hE
 obtain ⟨u53, hE⟩ := hE
 obtain ⟨u54, hE⟩ := hE
 obtain ⟨u55, hE⟩ := hE
 obtain ⟨u56, hE⟩ := hE
 obtain ⟨u57, hE⟩ := hE
 obtain ⟨u58, hE⟩ := hE
 obtain ⟨u59, hE⟩ := hE
 obtain ⟨u60, hE⟩ := hE
 obtain ⟨u61, hE⟩ := hE
 obtain ⟨u62, hE⟩ := hE
 obtain ⟨u63, hE⟩ := hE
 obtain ⟨u64, hE⟩ := hE
 obtain ⟨u65, hE⟩ := hE
 obtain ⟨u66, hE⟩ := hE
 obtain ⟨u67, hE⟩ := hE
 obtain ⟨u68, hE⟩ := hE
 obtain ⟨u69, hE⟩ := hE
 obtain ⟨u70, hE⟩ := hE
 obtain ⟨u71, hE⟩ := hE
 obtain ⟨u72, hE⟩ := hE
 obtain ⟨u73, hE⟩ := hE
 obtain ⟨u74, hE⟩ := hE
 obtain ⟨u75, hE⟩ := hE
 obtain ⟨u76, hE⟩ := hE
 obtain ⟨u77, hE⟩ := hE
 obtain ⟨u78, hE⟩ := hE
 obtain ⟨u79, hE⟩ := hE
 obtain ⟨u80, hE⟩ := hE
 obtain ⟨u81, hE⟩ := hE
 obtain ⟨u82, hE⟩ := hE
 obtain ⟨u83, hE⟩ := hE
 obtain ⟨u84, hE⟩ := hE
 obtain ⟨u85, hE⟩ := hE
 obtain ⟨u86, hE⟩ := hE
 obtain ⟨u87, hE⟩ := hE
 obtain ⟨u88, hE⟩ := hE
 obtain ⟨u89, hE⟩ := hE
 obtain ⟨u90, hE⟩ := hE
 obtain ⟨u91, hE⟩ := hE
 obtain ⟨u92, hE⟩ := hE
 obtain ⟨u93, hE⟩ := hE
 obtain ⟨u94, hE⟩ := hE
 obtain ⟨u95, hE⟩ := hE
 obtain ⟨u96, hE⟩ := hE
 obtain ⟨u97, hE⟩ := hE
 obtain ⟨u98, hE⟩ := hE
 obtain ⟨u99, hE⟩ := hE
 obtain ⟨u100, hE⟩ := hE
 obtain ⟨u101, hE⟩ := hE
 obtain ⟨u102, hE⟩ := hE
 obtain ⟨u103, hE⟩ := hE
 obtain ⟨u104, hE⟩ := hE
 obtain ⟨u105, hE⟩ := hE
 obtain ⟨u106, hE⟩ := hE
 obtain ⟨u107, hE⟩ := hE
 obtain ⟨u108, hE⟩ := hE
 obtain ⟨u109, hE⟩ := hE
 obtain ⟨u110, hE⟩ := hE
 obtain ⟨u111, hE⟩ := hE
 obtain ⟨u112, hE⟩ := hE
 obtain ⟨u113, hE⟩ := hE
 obtain ⟨u114, hE⟩ := hE
 obtain ⟨u115, hE⟩ := hE
 obtain ⟨u116, hE⟩ := hE
 obtain ⟨u117, hE⟩ := hE
 obtain ⟨u118, hE⟩ := hE
 obtain ⟨u119, hE⟩ := hE
 obtain ⟨u120, hE⟩ := hE
 obtain ⟨u121, hE⟩ := hE
 obtain ⟨u122, hE⟩ := hE
 obtain ⟨u123, hE⟩ := hE
 obtain ⟨u124, hE⟩ := hE
 obtain ⟨u125, hE⟩ := hE
 obtain ⟨u126, hE⟩ := hE
 obtain ⟨⟨O, P, L, M, ht, hi, D⟩, rfl⟩ := hE
 have HT := Lib.hid ht
 have e1 : doneN (foldN L) = xfA a b := by
  have h1 := hi.eq1
  rw [xf_nil, List.append_nil] at h1
  unfold xfA
  rw [foldN_units ht.b1.sz, h1]
 have e2 : doneN (foldN M) = xfB a b := by
  have h1 := hi.eq2
  rw [xf_nil, List.append_nil] at h1
  unfold xfB
  rw [foldN_units ht.b2.sz, h1]
 have hs1 : SmP (xfA a b) := by rw [← e1]; exact built_small ht.b1.sz (by have := hi.len; omega)
 have hs2 : SmP (xfB a b) := by rw [← e2]; exact built_small ht.b2.sz (by have := hi.len; omega)
 have HE1 := Lib.hid e1
 have HE2 := Lib.hid e2
 have HB2 := Lib.hid (show xformOk a b = (okOp (xfA a b) && okOp (xfB a b)) by unfold xformOk; rw [HOA.out, HOB.out, HBAL.out]; simp)
 clear ht hi e1 e2
 go_wp2_with fail
 refine (specDoneB O _ _ L _ HT.out.b1).mono ?_
 rintro e w9 ⟨v9, k9, rfl, o9, _, bl9, gr9⟩
 obtain ⟨b2', ap⟩ := HT.out.b2.apart gr9 (fun q hq ho => HT.out.dis q ho hq)
 rw [HE1.out] at o9
 replace D := D.trans bl9
 have HB9 := Lib.hid b2'
 have HAP := Lib.hid ap
 obtain ⟨A9, c9, rfl⟩ := sliceP o9.read
 have H9 := Lib.hid o9
 clear o9 bl9 gr9 b2' ap HE1
 have l1 := hs1.1
 have l2 := hs2.1
 generalize hUA : xfA a b = UA at *
 generalize hUB : xfB a b = UB at *
 have HUA := Lib.hid hUA
 have HUB := Lib.hid hUB
 clear hUA hUB
 go_wp2_with fail
 refine (specDoneB P _ _ M _ HB9.out).mono ?_
 rintro e w10 ⟨v10, k10, rfl, o10, in10, bl10, gr10⟩
 rw [HE2.out] at o10
 replace D := D.trans bl10
 have H9' := Lib.hid (H9.out.grew2 gr10 (fun x hx hp => HAP.out x hp hx))
 have HDS := Lib.hid (show ∀ x ∈ k9, x ∉ k10 from fun x hx hx' => by
  rcases in10 x hx' with h1 | h1
  ·exact HAP.out x h1 hx
  ·have := OwC.lt _ _ _ H9.out.ow x hx; omega)
 obtain ⟨A10, c10, rfl, r10, _⟩ := parts_rd o10.read
 have H10 := Lib.hid o10
 have hz10 := gr10.size
 obtain ⟨A9_, c9_, e9, r9, _⟩ := parts_rd H9'.out.read
 obtain ⟨rfl, rfl⟩ : A9 = A9_ ∧ c9 = c9_ := by injection e9 with q1 _ q3; exact ⟨q1, q3⟩
 clear o10 bl10 gr10 in10 H9 HAP HB9 HE2 e9 HT
 go_wp2_with fail
 refine (specOpOk_any A9 c9 UA _ r9 (by omega) hs1.all4).mono ?_
 rintro e w11 ⟨rfl, b11⟩
 replace D := D.trans (b11.mono D.size)
 cases ho1 : okOp UA
 ·have HN := Lib.hid (xform_f (a := a) (b := b) (by rw [HB2.out, ho1]; rfl))
  clear HB2
  go_wp2
  go_ret3
  rw [HN.out.1, HN.out.2.1, HN.out.2.2]
  exact nil2 D
 ·go_wp2_with fail
  refine (specOpOk_any A10 c10 UB _ (r10.past b11) (by omega) hs2.all4).mono ?_
  rintro e w12 ⟨rfl, b12⟩
  replace D := D.trans (b12.mono D.size)
  have HP9 := Lib.hid ((H9'.out.past b11).past b12)
  have HP10 := Lib.hid ((H10.out.past b11).past b12)
  have hzz := Nat.le_trans b11.size b12.size
  clear H9' H10 r9 r10 b11 b12
  cases ho2 : okOp UB
  ·have HN := Lib.hid (xform_f (a := a) (b := b) (by rw [HB2.out, ho1, ho2]; rfl))
   clear HB2
   go_wp2
   go_ret3
   rw [HN.out.1, HN.out.2.1, HN.out.2.2]
   exact nil2 D
  ·have HN := Lib.hid (show xformOk a b = true ∧ xformA a b = UA ∧ xformB a b = UB by
    have e : xformOk a b = true := by rw [HB2.out, ho1, ho2]; rfl
    exact ⟨e, by unfold xformA; rw [if_pos e, HUA.out], by unfold xformB; rw [if_pos e, HUB.out]⟩)
   clear HB2
   go_wp2
   go_ret3
   rw [HN.out.1, HN.out.2.1, HN.out.2.2]
   exact ⟨_, _, k9, k10, rfl, HP9.out.upto (Nat.le_trans hz10 hzz) (Nat.le_refl _), HP10.out.upto hzz (Nat.le_refl _), HDS.out, D⟩
theorem specTransform_d (v v' : Value) (a b : List Pt) (w : World) (h : RdC w w.heap.size (encPs a) v) (h' : RdC w w.heap.size (encPs b) v') (hs : SmP a) (hs' : SmP b) : Calls Tryz.prog 82 #[v, v'] w (Res2B (encPs (xformA a b)) (encPs (xformB a b)) (xformOk a b) w) := by
 obtain ⟨A, ca, rfl, hra, _⟩ := parts_rd h
 obtain ⟨B, cb, rfl, hrb, _⟩ := parts_rd h'
 have hlA := hs.1
 have hlB := hs'.1
 cases hoa : okOp a
 ·have HN := Lib.hid (xform_f (a := a) (b := b) (by unfold xformOk; rw [hoa]; rfl))
  go_enter Tryz.func82, Tryz.ntmps82
  go_wp2_with fail
  refine (specOpOk_any A ca a _ hra (by omega) hs.all4).mono ?_
  rintro e w1 ⟨rfl, b1⟩
  rw [hoa]
  go_wp2
  go_ret3
  rw [HN.out.1, HN.out.2.1, HN.out.2.2]
  exact nil2 b1
 cases hob : okOp b
 ·have HN := Lib.hid (xform_f (a := a) (b := b) (by unfold xformOk; rw [hoa, hob]; rfl))
  go_enter Tryz.func82, Tryz.ntmps82
  go_wp2_with fail
  refine (specOpOk_any A ca a _ hra (by omega) hs.all4).mono ?_
  rintro e w1 ⟨rfl, b1⟩
  rw [hoa]
  go_wp2_with fail
  refine (specOpOk_any B cb b _ (hrb.past b1) (by omega) hs'.all4).mono ?_
  rintro e w2 ⟨rfl, b2⟩
  rw [hob]
  have d2 := b1.trans (b2.mono b1.size)
  go_wp2
  go_ret3
  rw [HN.out.1, HN.out.2.1, HN.out.2.2]
  exact nil2 d2
 by_cases hbal : sumK a + sumD a = sumK b + sumD b
 ·exact specTransform_t A B ca cb a b w h h' hs hs' hoa hob hbal
 ·have hne : ((sumK a + sumD a) != (sumK b + sumD b)) = true := by simp [hbal]
  have HN := Lib.hid (xform_f (a := a) (b := b) (by unfold xformOk; rw [hoa, hob]; simp [hbal]))
  clear hbal
  go_enter Tryz.func82, Tryz.ntmps82
  go_wp2_with fail
  refine (specOpOk_any A ca a _ hra (by omega) hs.all4).mono ?_
  rintro e w1 ⟨rfl, b1⟩
  rw [hoa]
  go_wp2_with fail
  refine (specOpOk_any B cb b _ (hrb.past b1) (by omega) hs'.all4).mono ?_
  rintro e w2 ⟨rfl, b2⟩
  rw [hob]
  have d2 := b1.trans (b2.mono b1.size)
  go_wp2_with fail
  refine (specOpFrom_any A ca a _ (hra.past d2) (by omega) hs.all4).mono ?_
  rintro e w3 ⟨rfl, b3⟩
  have d3 := d2.trans (b3.mono d2.size)
  go_wp2_with fail
  refine (specOpFrom_any B cb b _ (hrb.past d3) (by omega) hs'.all4).mono ?_
  rintro e w4 ⟨rfl, b4⟩
  have d4 := d3.trans (b4.mono d3.size)
  go_wp2
  go_ret3
  rw [HN.out.1, HN.out.2.1, HN.out.2.2]
  exact nil2 d4
def stepPast (s : Option (List (List Pt) × List Pt)) (o : List Pt) : Option (List (List Pt) × List Pt) := match s with
 | none => none
 | some (xs, q) => if xformOk o q = true then some (xs ++ [xformA o q], xformB o q) else none
def foldPast (l : List (List Pt)) (b : List Pt) : Option (List (List Pt) × List Pt) := l.foldl stepPast (some ([], normL b))
def pastS (l : List (List Pt)) (b : List Pt) : Option (List (List Pt) × List Pt) := if okOp b = true then foldPast l b else none
def pastB (l : List (List Pt)) (b : List Pt) : Bool := (pastS l b).isSome
def pastAllT (l : List (List Pt)) (b : List Pt) : List (List Pt) := ((pastS l b).map (·.1)).getD []
def pastT (l : List (List Pt)) (b : List Pt) : List Pt := ((pastS l b).map (·.2)).getD []
theorem foldPast_snoc {l : List (List Pt)} {b : List Pt} {k : Nat} {ps : List Pt} (h : l[k]? = some ps) : foldPast (l.take (k + 1)) b = stepPast (foldPast (l.take k) b) ps := by
 unfold foldPast
 rw [List.take_add_one, h]
 simp
theorem foldlPast_none (l : List (List Pt)) : l.foldl stepPast none = none := by
 induction l with
 | nil => rfl
 | cons p l ih => exact ih
theorem foldPast_none {l : List (List Pt)} {b : List Pt} {k : Nat} (h : foldPast (l.take k) b = none) : foldPast l b = none := by
 have e : foldPast l b = (l.drop k).foldl stepPast (foldPast (l.take k) b) := by
  unfold foldPast
  rw [← List.foldl_append, List.take_append_drop]
 rw [e, h, foldlPast_none]
theorem normL_small {ps : List Pt} (h : okOp ps = true) : SmP (normL ps) := by
 obtain ⟨n1, _, _⟩ := norm_ok h
 obtain ⟨_, h1, h2⟩ := okOp_units n1
 have := signsIn_le h1
 exact ⟨by omega, by omega⟩
theorem foldPast_small {l : List (List Pt)} {b : List Pt} (hb : okOp b = true) : ∀ {k : Nat} {xs : List (List Pt)} {q : List Pt}, k ≤ l.length → foldPast (l.take k) b = some (xs, q) → SmP q ∧ xs.length = k ∧ ∀ x ∈ xs, x.length ≤ 600 ∧ signsIn x ≤ 120000
 | 0, xs, q, _, h => by
  have : xs = [] ∧ q = normL b := by simpa [foldPast, and_comm, eq_comm] using h
  obtain ⟨rfl, rfl⟩ := this
  exact ⟨normL_small hb, rfl, by simp⟩
 | k + 1, xs, q, hk, h => by
  obtain ⟨ps, hp⟩ := idx_some (l := l) (i := k) (by omega)
  rw [foldPast_snoc hp] at h
  cases hq : foldPast (l.take k) b with
  | none => rw [hq] at h; cases h
  | some u =>
   obtain ⟨ys, r⟩ := u
   obtain ⟨i1, i2, i3⟩ := foldPast_small hb (by omega) hq
   rw [hq] at h
   unfold stepPast at h
   simp only at h
   split at h
   ·rename_i hx
    injection h with h
    injection h with h1 h2
    subst h1
    subst h2
    refine ⟨xformB_sm _ _, by simp [i2], fun x hx' => ?_⟩
    rcases List.mem_append.1 hx' with hx' | hx'
    ·exact i3 x hx'
    ·simp at hx'
     subst hx'
     unfold xformA
     rw [if_pos hx]
     unfold xformOk at hx
     rw [Bool.and_eq_true, Bool.and_eq_true] at hx
     obtain ⟨_, h1, h2⟩ := okOp_units hx.1.2
     have := signsIn_le h1
     exact ⟨by omega, by omega⟩
   ·cases h
theorem past_f {l : List (List Pt)} {b : List Pt} (h : pastS l b = none) : pastB l b = false ∧ pastAllT l b = [] ∧ pastT l b = [] := by
 unfold pastB pastAllT pastT
 rw [h]
 exact ⟨rfl, rfl, rfl⟩
theorem past_t {l : List (List Pt)} {b : List Pt} {xs : List (List Pt)} {q : List Pt} (h : pastS l b = some (xs, q)) : pastB l b = true ∧ pastAllT l b = xs ∧ pastT l b = q := by
 unfold pastB pastAllT pastT
 rw [h]
 exact ⟨rfl, rfl, rfl⟩
theorem pastT_sm (l : List (List Pt)) (b : List Pt) : SmP (pastT l b) := by
 cases h : pastS l b with
 | none => rw [(past_f h).2.2]; exact smP_nil
 | some u =>
  obtain ⟨xs, q⟩ := u
  rw [(past_t h).2.2]
  unfold pastS at h
  split at h
  ·rename_i hb
   exact (foldPast_small hb (Nat.le_refl l.length) (by rw [List.take_length]; exact h)).1
  ·cases h
theorem nilPP {w w' : World} (hb : Below w.heap.size w w') : Res2B (encPss []) (encPs []) false w (.returned (.tuple #[.slice none 0 0, .slice none 0 0, .bool false])) w' := by
 obtain ⟨b1, o1⟩ := (nilOwn (encPss []) w' rfl hb.size).blocks
 obtain ⟨b2, o2⟩ := (nilOwn (encPs []) w' rfl hb.size).blocks
 have e : b1 = [] := by obtain ⟨_, _, ho, hr, he⟩ := o1.ow; obtain ⟨_, hc⟩ := hr; rw [he, hc]; rfl
 subst e
 exact ⟨_, _, [], b2, rfl, o1, o2, by simp, hb⟩
def PastR (lo : Nat) (w : World) (o q : Value) (xs : List (List Pt)) (cur : List Pt) : Prop := ∃ b1 b2, OwB lo w.heap.size w (encPss xs) o b1 ∧ OwB lo w.heap.size w (encPs cur) q b2 ∧ ∀ x ∈ b1, x ∉ b2
theorem specPast5_d (v v' : Value) (l : List (List Pt)) (b : List Pt) (w : World) (h : RdC w w.heap.size (encPss l) v) (h' : RdC w w.heap.size (encPs b) v') (hs : SmPP l) (hs' : SmP b) : Calls Tryz.prog 62 #[v, v'] w (Res2B (encPss (pastAllT l b)) (encPs (pastT l b)) (pastB l b) w) := by
 obtain ⟨A, c, rfl⟩ := pss_len h
 obtain ⟨B, cb, rfl, hrb, _⟩ := parts_rd h'
 obtain ⟨i0, hi0, hz0, hz1, hz2⟩ := info_parts pss_info
 have hl := hs.1
 have hlb := hs'.1
 cases hob : okOp b
 ·have HN := Lib.hid (past_f (l := l) (b := b) (by unfold pastS; rw [hob]; rfl))
  go_enter Tryz.func62, Tryz.ntmps62
  go_wp2_with fail
  refine (specOpOk_any B cb b _ hrb (by omega) hs'.all4).mono ?_
  rintro e w1 ⟨rfl, b1⟩
  rw [hob]
  go_wp2
  go_ret3
  rw [HN.out.1, HN.out.2.1, HN.out.2.2]
  exact nilPP b1
 ·have HOB := Lib.hid hob
  go_enter Tryz.func62, Tryz.ntmps62
  go_wp2_with fail
  refine (specOpOk_any B cb b _ hrb (by omega) hs'.all4).mono ?_
  rintro e w1 ⟨rfl, b1⟩
  rw [hob]
  clear hob
  go_wp2_with fail
  have hbn := b1.trans ((alloc_below w1 (.cells #[] 30)).mono b1.size)
  have hib : OwB w.heap.size (w1.alloc (.cells #[] 30)).heap.size (w1.alloc (.cells #[] 30)) (encPss []) (.slice (some ⟨w1.heap.size, 0, none⟩) 0 0) [w1.heap.size] :=
   ⟨⟨[], [], ⟨rfl, .inr ⟨w1.heap.size, 0, #[], rfl, Nat.zero_le _, heap_alloc_new w1 _, Nat.le_refl _, by unfold maxLen; omega, rfl, rfl⟩⟩, ⟨rfl, rfl⟩, rfl⟩, by simp, fun x hx => by obtain rfl : x = w1.heap.size := (by simpa using hx); exact ⟨b1.size, lt_of_some (heap_alloc_new w1 _)⟩, Nat.le_refl _, hbn.size⟩
  generalize w1.alloc (.cells #[] 30) = w2 at *
  generalize (Value.slice (some ⟨w1.heap.size, 0, none⟩) 0 0) = v0 at *
  refine (specOpNorm_d _ b w2 (h'.past hbn) hs').mono ?_
  rintro e w3 ⟨v3, rfl, o3, b3⟩
  obtain ⟨k3, o3⟩ := o3.blocks
  have HR0 := Lib.hid (show PastR w.heap.size w3 v0 v3 [] (normL b) from ⟨_, _, (hib.past b3).upto b3.size (Nat.le_refl _), ⟨o3.ow, o3.nd, fun x hx => ⟨Nat.le_trans hbn.size (o3.rng x hx).1, (o3.rng x hx).2⟩, o3.top, Nat.le_trans hbn.size o3.le⟩, fun x hx hx' => by have q1 := (hib.rng x hx).2; have q2 := (o3.rng x hx').1; omega⟩)
  have D := hbn.trans (b3.mono hbn.size)
  clear o3 b3 hib hbn b1
  obtain ⟨A0, c0, rfl⟩ : ∃ A0 c0, v0 = .slice A0 0 c0 := by obtain ⟨_, _, h1, _⟩ := HR0.out; exact pss_len h1.read
  obtain ⟨A3, c3, rfl⟩ : ∃ A3 c3, v3 = .slice A3 (normL b).length c3 := by obtain ⟨_, _, _, h1, _⟩ := HR0.out; exact sliceP h1.read
  go_wp2
  go_loopw [7, 8, 22] (fun o q i wr => ∃ (k : Nat) (xs : List (List Pt)) (cur : List Pt), k ≤ l.length ∧ i = .int .i64 k ∧ foldPast (l.take k) b = some (xs, cur) ∧ PastR w.heap.size wr o q xs cur ∧ Below w.heap.size w wr) (fun _ _ i _ => l.length - (intOf i).toNat)
  case atStart => exact ⟨0, [], normL b, Nat.zero_le _, rfl, rfl, HR0.out, D⟩
  case round =>
   obtain ⟨k, xs, cur, hk, rfl, hf, hpr, hbel⟩ := hrel
   clear HR0 D
   have HF := Lib.hid hf
   obtain ⟨hsc, hxl, hxs⟩ := foldPast_small HOB.out hk hf
   have HXL := Lib.hid hxl
   clear hf hxs hxl
   obtain ⟨b1, b2, o1, o2, dis⟩ := hpr
   obtain ⟨A1, c1, rfl⟩ := pss_len o1.read
   obtain ⟨A2, c2, rfl⟩ := sliceP o2.read
   have HO1 := Lib.hid o1
   have HO2 := Lib.hid o2
   have HDS := Lib.hid dis
   clear o1 o2 dis
   by_cases hlt : k < l.length
   ·obtain ⟨ad, ps, A4, c4, rfl, hb, hp, hc, hprd⟩ := pss_at (h.below hbel) hlt
    have K1 := Lib.hid (foldPast_snoc (b := b) hp)
    rw [HF.out] at K1
    have hsp := hs.all ps (List.mem_of_getElem? hp)
    clear hp
    have HPR := Lib.hid (RdC.more hbel.size _ _ hprd)
    clear hprd
    have hxl2 : xs.length ≤ 1048576 := by rw [HXL.out]; omega
    go_wp2_with fail
    refine (specTransform_d _ _ ps cur _ HPR.out HO2.out.read hsp hsc).mono ?_
    rintro e w4 ⟨x4, y4, kx, ky, rfl, ox, oy, ds4, b4⟩
    obtain ⟨A5, c5, rfl⟩ := sliceP ox.read
    obtain ⟨A6, c6, rfl⟩ := sliceP oy.read
    have hz4 := b4.size
    have HX := Lib.hid ox
    have HY := Lib.hid oy
    have HDS4 := Lib.hid ds4
    have D4 := hbel.trans (b4.mono hbel.size)
    clear ox oy ds4
    cases hfit : xformOk ps cur
    ·have HN := Lib.hid (past_f (l := l) (b := b) (by
      have : foldPast l b = none := foldPast_none (k := k + 1) (by rw [K1.out]; simp [stepPast, hfit])
      unfold pastS; rw [this]; simp))
     go_wp2
     go_ret3
     rw [HN.out.1, HN.out.2.1, HN.out.2.2]
     exact nilPP D4
    ·have K2 := Lib.hid (show foldPast (l.take (k + 1)) b = some (xs ++ [xformA ps cur], xformB ps cur) by rw [K1.out]; simp [stepPast, hfit])
     have bA := alloc_below w4 (.cells #[.slice A5 (xformA ps cur).length c5] 30)
     have HO1' := Lib.hid ((HO1.out.past b4).past bA)
     have HX' := Lib.hid (HX.out.past bA)
     have HY' := Lib.hid (HY.out.past bA)
     have hnews : ∀ (j : Nat) (u : Value), [Value.slice A5 (xformA ps cur).length c5][j]? = some u → (w4.alloc (.cells #[.slice A5 (xformA ps cur).length c5] 30)).cell? ((⟨w4.heap.size, 0, none⟩ : Addr).add j) = some u := fun j u hu => by
      cases j with
      | zero =>
       simp at hu
       subst hu
       exact cell_of_row _ _ 0 _ _ _ (heap_alloc_new w4 _)
      | succ j => simp at hu
     have HNW := Lib.hid hnews
     have hlx : (xs.map fun ps => [encPs ps]).length ≤ 2000000 := by rw [List.length_map]; omega
     have DA := D4.trans (bA.mono D4.size)
     have hlo := hbel.size
     clear hnews bA
     go_wp2_with (at_builtin; refine wpList_append_row rfl (.tmp 35) (.tmp 37) 61 rfl 30 i0 (.slice none 0 0) 1 24 Tryz.underlying61 hi0 hz0 hz1 hz2 rfl (by decide) (by decide) w.heap.size _ (.slice A1 xs.length c1) (xs.map fun ps => [encPs ps]) b1 HO1'.out rfl hlx ⟨w4.heap.size, 0, none⟩ _ [.slice A5 (xformA ps cur).length c5] rfl rfl HNW.out (by simp [Value.oneCell']) [encPs (xformA ps cur)] kx HX'.out.ow.row1 HX.out.nd (fun q hq hq' => by have q1 := (HO1.out.rng q hq).2; have q2 := (HX.out.rng q hq').1; omega) (fun q hq => by have q2 := (HX.out.rng q hq).1; omega) ?_; intro A7 c7 w7 b7 o7 in7 g7 bl7)
     have o7' : OwB w.heap.size w7.heap.size w7 (encPss (xs ++ [xformA ps cur])) (.slice A7 (xs.length + 1) c7) b7 := by
      have e : encPss (xs ++ [xformA ps cur]) = .rows 30 1 ((xs.map fun ps => [encPs ps]) ++ [[encPs (xformA ps cur)]]) := by unfold encPss; rw [List.map_append]; rfl
      rw [e]
      simpa using o7
     have HPR7 := Lib.hid (show PastR w.heap.size w7 (.slice A7 (xs.length + 1) c7) (.slice A6 (xformB ps cur).length c6) (xs ++ [xformA ps cur]) (xformB ps cur) from by
      have oy7 := HY'.out.grew2 g7 (fun q hq hq' => by have q1 := (HO1.out.rng q hq').2; have q2 := (HY.out.rng q hq).1; omega)
      refine ⟨b7, ky, o7', ⟨oy7.ow, oy7.nd, fun q hq => ⟨by have q2 := (HY.out.rng q hq).1; omega, ?_⟩, Nat.le_refl _, (DA.trans bl7).size⟩, fun q hq hq' => ?_⟩
      ·exact OwC.lt _ _ _ oy7.ow q hq
      ·rcases in7 q hq with h1 | h1 | h1
       ·have q1 := (HO1.out.rng q h1).2; have q2 := (HY.out.rng q hq').1; omega
       ·exact HDS4.out q h1 hq'
       ·have q1 := (HY.out.rng q hq').2
        have q3 : w4.heap.size ≤ q := by simp at h1; omega
        omega)
     have D7 := DA.trans bl7
     clear o7 o7' in7 g7 bl7 HO1' HX' HY' HNW
     go_wp2
     go_roundw
     case rel => exact ⟨k + 1, _, _, by omega, by go_num, K2.out, by simpa using HPR7.out, D7⟩
     case measure => simp [intOf]; omega
   ·have hke : l.take k = l := List.take_of_length_le (by omega)
    have HN := Lib.hid (past_t (l := l) (b := b) (xs := xs) (q := cur) (by unfold pastS; rw [if_pos HOB.out, ← HF.out, hke]))
    go_wp2
    go_ret3
    rw [HN.out.1, HN.out.2.1, HN.out.2.2]
    exact ⟨_, _, b1, b2, rfl, HO1.out, HO2.out, HDS.out, hbel⟩
theorem specPast_d (v v' : Value) (l : List (List Pt)) (b : List Pt) (w : World) (h : RdC w w.heap.size (encPss l) v) (h' : RdC w w.heap.size (encPs b) v') (hs : SmPP l) (hs' : SmP b) : Calls Tryz.prog 34 #[v, v'] w (ResB (encPs (pastT l b)) (pastB l b) w) := by
 obtain ⟨A, c, rfl⟩ := pss_len h
 obtain ⟨B, cb, rfl⟩ := sliceP h'
 go_enter Tryz.func34, Tryz.ntmps34
 go_wp2_with fail
 refine (specPast5_d _ _ l b _ h h' hs hs').mono ?_
 rintro e w1 ⟨x, y, kx, ky, rfl, ox, oy, ds, b1⟩
 obtain ⟨A1, c1, rfl⟩ := pss_len ox.read
 obtain ⟨A2, c2, rfl⟩ := sliceP oy.read
 have HY := Lib.hid oy
 clear ox oy ds
 generalize pastB l b = q at *
 go_wp2
 go_ret2
 exact ⟨_, rfl, ⟨ky, HY.out.ow, HY.out.nd, HY.out.rng, HY.out.top, HY.out.le⟩, b1⟩
theorem specOpOk_r (v : Value) (ps : List Pt) (w : World) (h : RdC w w.heap.size (encPs ps) v) (hs : SmP ps) : Calls Tryz.prog 29 #[v] w (Tells (okOp ps) w) := by
 obtain ⟨A, c, rfl, hr, _⟩ := parts_rd h
 exact specOpOk_any A c ps w hr (by have := hs.1; omega) (fun p hp => by have := hs.all p hp; omega)
theorem specOpFrom_r (v : Value) (ps : List Pt) (w : World) (h : RdC w w.heap.size (encPs ps) v) (hs : SmP ps) : Calls Tryz.prog 32 #[v] w (Nums1 (sumK ps + sumD ps) w) := by
 obtain ⟨A, c, rfl, hr, _⟩ := parts_rd h
 exact specOpFrom_any A c ps w hr (by have := hs.1; omega) (fun p hp => by have := hs.all p hp; omega)
def rebCode (x : Do) (base : Int) (o : List Pt) : Int :=
 if docB x = false then 1 else if okOp o = false then 1 else if headRevT x < base then 2 else if base < x.from_ then 3 else if ¬ sumK o + sumD o = ((textAtT x base).length : Int) then 1 else if pastB (opsSinceT x base) o = false then 5 else if fitsB (pastT (opsSinceT x base) o) (headTextT x) = false then 5 else 0
def rebOp (x : Do) (base : Int) (o : List Pt) : List Pt := if rebCode x base o = 0 then pastT (opsSinceT x base) o else []
theorem reb_no {x : Do} {base : Int} {o : List Pt} {k : Int} (hk : ¬ k = 0) (h : rebCode x base o = k) : rebCode x base o = k ∧ rebOp x base o = [] := ⟨h, by unfold rebOp; rw [h, if_neg hk]⟩
theorem reb_yes {x : Do} {base : Int} {o : List Pt} (h : rebCode x base o = 0) : rebCode x base o = 0 ∧ rebOp x base o = pastT (opsSinceT x base) o := ⟨h, by unfold rebOp; rw [h, if_pos rfl]⟩
theorem bulk_map : ∀ l : List En, bulk (l.map En.o) = sumN totEn l
 | [] => rfl
 | e :: l => by
  have ih := bulk_map l
  rw [sumN_cons, ← ih]
  simp [bulk, totEn, totP]
theorem opsSince_pp {x : Do} {r : Int} (hd : docB x = true) : SmPP (opsSinceT x r) := by
 have hi := docB_in hd
 have h1 := sumN_drop totEn x.list (r - x.from_).toNat
 have h2 := hi.ops
 have h3 := hi.list
 unfold opsSinceT
 split
 ·refine ⟨by simp; omega, ?_⟩
  rw [bulk_map]
  omega
 ·exact ⟨by simp, by simp [bulk]⟩
theorem reb_small {x : Do} {base : Int} {o : List Pt} : SmP (rebOp x base o) := by
 unfold rebOp
 split
 ·exact pastT_sm _ _
 ·exact smP_nil
theorem specRebase_d (v v2 : Value) (x : Do) (base : Int) (o : List Pt) (w : World) (h : RdC w w.heap.size (datDo x) v) (h2 : RdC w w.heap.size (encPs o) v2) (hs : SmDo x) (hs2 : SmP o) : Calls Tryz.prog 8 #[v, .int .i64 base, v2] w (ResN (encPs (rebOp x base o)) (rebCode x base o) w) := by
 have HR := Lib.hid h
 have HO := Lib.hid h2
 obtain ⟨A2, c2, A3, c3, A4, c4, rfl, -, -, -⟩ := aggDo h
 obtain ⟨Ao, co, rfl⟩ := sliceP h2
 clear h h2
 have hl := hs.list.len
 have HM := Lib.hid (Ms.start w)
 replace HM := Lib.hid (HM.out.new #[.string x.name, .int .i64 x.from_, .slice A2 x.text.length c2, .slice A3 x.list.length c3, .slice A4 x.seen.length c4] 36)
 go_enter Tryz.func8, Tryz.ntmps8
 go_wp2_with fail
 obtain ⟨W1, hW, hm⟩ := HM.out.name
 rw [← hW]
 replace HM := Lib.hid hm
 clear hm hW
 refine (specDocOk_d _ x _ (HM.out.arg HR.out) hs).mono ?_
 rintro e' W2 ⟨rfl, b'⟩
 replace HM := Lib.hid (HM.out.past b')
 clear b'
 cases hd : docB x
 ·have HN := Lib.hid (reb_no (k := 1) (by decide) (show rebCode x base o = 1 by unfold rebCode; simp [hd]))
  go_wp2
  go_ret2
  rw [HN.out.1, HN.out.2]
  exact (HM.out.nil 71 3).resN 1
 go_wp2_with fail
 refine (specOpOk_r _ o _ (HM.out.arg HO.out) hs2).mono ?_
 rintro e' W3 ⟨rfl, b'⟩
 replace HM := Lib.hid (HM.out.past b')
 clear b'
 cases ho : okOp o
 ·have HN := Lib.hid (reb_no (k := 1) (by decide) (show rebCode x base o = 1 by unfold rebCode; simp [hd, ho]))
  go_wp2
  go_ret2
  rw [HN.out.1, HN.out.2]
  exact (HM.out.nil 71 3).resN 1
 obtain ⟨kx0, kx1, kx2, kx3, kx4⟩ := HM.out.c5 0 rfl
 go_wp2_with fail
 clear kx0 kx1 kx2 kx3 kx4
 refine (specHeadRev_d _ x _ (HM.out.arg HR.out) hs).mono ?_
 rintro e' W4 ⟨rfl, b'⟩
 replace HM := Lib.hid (HM.out.past b')
 clear b'
 by_cases h3 : headRevT x < base
 ·have HN := Lib.hid (reb_no (k := 2) (by decide) (show rebCode x base o = 2 by unfold rebCode; simp [hd, ho, h3]))
  have g3 : decide (headRevT x < base) = true := decide_eq_true h3
  go_wp2
  go_ret2
  rw [HN.out.1, HN.out.2]
  exact (HM.out.nil 71 3).resN 2
 have g3 : decide (headRevT x < base) = false := decide_eq_false h3
 by_cases h4 : base < x.from_
 ·have HN := Lib.hid (reb_no (k := 3) (by decide) (show rebCode x base o = 3 by have e3 : ¬ headRevT x < base := (by omega); unfold rebCode; simp [hd, ho, e3, h4]))
  have g4 : decide (base < x.from_) = true := decide_eq_true h4
  obtain ⟨kx0, kx1, kx2, kx3, kx4⟩ := HM.out.c5 0 rfl
  go_wp2
  go_ret2
  rw [HN.out.1, HN.out.2]
  exact (HM.out.nil 71 3).resN 3
 have g4 : decide (base < x.from_) = false := decide_eq_false h4
 obtain ⟨kx0, kx1, kx2, kx3, kx4⟩ := HM.out.c5 0 rfl
 go_wp2_with fail
 clear kx0 kx1 kx2 kx3 kx4
 refine (specTextAt_d _ x _ _ (HM.out.arg HR.out) hs).mono ?_
 rintro e' W5 ⟨v', rfl, o', b'⟩
 obtain ⟨At, ct, rfl⟩ := sliceI o'.read
 obtain ⟨bt, hm⟩ := HM.out.got o' b'
 clear o' b' g3 g4
 replace HM := Lib.hid hm
 clear hm
 go_wp2_with fail
 refine (specOpFrom_r _ o _ (HM.out.arg HO.out) hs2).mono ?_
 rintro e' W6 ⟨rfl, b'⟩
 replace HM := Lib.hid (HM.out.past b')
 clear b'
 by_cases h5 : sumK o + sumD o = ((textAtT x base).length : Int)
 rotate_left
 ·have HN := Lib.hid (reb_no (k := 1) (by decide) (show rebCode x base o = 1 by have e3 : ¬ headRevT x < base := (by omega); have e4 : ¬ base < x.from_ := (by omega); unfold rebCode; simp [hd, ho, e3, e4, h5]))
  have g5 : ((sumK o + sumD o) != ((textAtT x base).length : Int)) = true := by simpa using h5
  go_wp2
  go_ret2
  rw [HN.out.1, HN.out.2]
  exact (HM.out.nil 71 3).resN 1
 have g5 : ((sumK o + sumD o) != ((textAtT x base).length : Int)) = false := by simpa using h5
 obtain ⟨kx0, kx1, kx2, kx3, kx4⟩ := HM.out.c5 1 rfl
 go_wp2_with fail
 clear kx0 kx1 kx2 kx3 kx4
 refine (specOpsSince_d _ x _ _ (HM.out.arg HR.out) hs).mono ?_
 rintro e' W7 ⟨v', rfl, o', b'⟩
 obtain ⟨Al, nl, cl, rfl⟩ := sliceV o'.read
 obtain ⟨bl, hm⟩ := HM.out.got o' b'
 clear o' b' g5
 replace HM := Lib.hid hm
 clear hm
 go_wp2_with fail
 refine (specPast_d _ _ (opsSinceT x base) o _ (HM.out.read (i := 0) rfl) (HM.out.arg HO.out) (opsSince_pp hd) hs2).mono ?_
 rintro e' W8 ⟨v', rfl, o', b'⟩
 obtain ⟨Aq, nq, cq, rfl⟩ := sliceV o'.read
 obtain ⟨bq, hm⟩ := HM.out.got o' b'
 clear o' b'
 replace HM := Lib.hid hm
 clear hm
 cases hp : pastB (opsSinceT x base) o
 ·have HN := Lib.hid (reb_no (k := 5) (by decide) (show rebCode x base o = 5 by have e3 : ¬ headRevT x < base := (by omega); have e4 : ¬ base < x.from_ := (by omega); unfold rebCode; simp [hd, ho, e3, e4, h5, hp]))
  go_wp2
  go_ret2
  rw [HN.out.1, HN.out.2]
  exact (HM.out.nil 71 3).resN 5
 obtain ⟨kx0, kx1, kx2, kx3, kx4⟩ := HM.out.c5 3 rfl
 go_wp2_with fail
 clear kx0 kx1 kx2 kx3 kx4
 refine (specHeadText_d _ x _ (HM.out.arg HR.out) hs).mono ?_
 rintro e' W9 ⟨v', rfl, o', b'⟩
 obtain ⟨Ah, nh, ch, rfl⟩ := sliceV o'.read
 obtain ⟨bh, hm⟩ := HM.out.got o' b'
 clear o' b'
 replace HM := Lib.hid hm
 clear hm
 go_wp2_with fail
 refine (specApply_d _ _ (pastT (opsSinceT x base) o) (headTextT x) _ (HM.out.read (i := 1) rfl) (HM.out.read (i := 0) rfl) (pastT_sm _ _) (headText_small hs)).mono ?_
 rintro e' W10 ⟨v', rfl, o', b'⟩
 obtain ⟨Ay, ny, cy, rfl⟩ := sliceV o'.read
 clear o'
 replace HM := Lib.hid (HM.out.past b')
 clear b'
 cases hf : fitsB (pastT (opsSinceT x base) o) (headTextT x)
 ·have HN := Lib.hid (reb_no (k := 5) (by decide) (show rebCode x base o = 5 by have e3 : ¬ headRevT x < base := (by omega); have e4 : ¬ base < x.from_ := (by omega); unfold rebCode; simp [hd, ho, e3, e4, h5, hp, hf]))
  go_wp2
  go_ret2
  rw [HN.out.1, HN.out.2]
  exact (HM.out.nil 71 3).resN 5
 have HN := Lib.hid (reb_yes (show rebCode x base o = 0 by have e3 : ¬ headRevT x < base := (by omega); have e4 : ¬ base < x.from_ := (by omega); unfold rebCode; simp [hd, ho, e3, e4, h5, hp, hf]))
 go_wp2
 go_ret2
 have hm := HM.out.pk [1, 0, 2, 3, 4] (by decide) (by simp)
 simp only [low.pk, low.gz, low.gs] at hm
 replace HM := Lib.hid hm
 clear hm
 rw [HN.out.1, HN.out.2]
 exact HM.out.resN 0
theorem xform_len {a b : List Pt} (h : xformOk a b = true) : okOp (xformB a b) = true ∧ sumK (xformB a b) + sumD (xformB a b) = sumK a + sumP a := by
 have e : xformB a b = xfB a b := by unfold xformB; rw [if_pos h]
 have h2 := h
 unfold xformOk at h2
 simp only [Bool.and_eq_true, beq_iff_eq] at h2
 obtain ⟨⟨⟨⟨ha, hb⟩, hl⟩, hA⟩, hB⟩ := h2
 obtain ⟨u1, u2, u3, u4, u5⟩ := op_units ha
 obtain ⟨v1, v2, v3, v4, v5⟩ := op_units hb
 rw [e]
 refine ⟨hB, ?_⟩
 obtain ⟨q1, q2, _⟩ := op_units hB
 have hm : xfB a b = made (xf (units a) (units b)).2 := rfl
 have hs : src (units (xfB a b)) = tgt (units a) := by
  rw [hm, units_made, (nf_ends _).1]
  exact (xf_meet (units a) (units b) (List.replicate (src (units a)) 0) (by simp) (by simp; omega)).2.2.1
 rw [hs] at q1
 omega
theorem norm_len {b : List Pt} (h : okOp b = true) : okOp (normL b) = true ∧ sumK (normL b) + sumD (normL b) = sumK b + sumD b := by
 obtain ⟨v1, v2, v3, v4, v5⟩ := op_units h
 obtain ⟨p1, p2, p3, p4⟩ := made_ok v3 v4 v5
 have e : made (units b) = normL b := (norm_made h).symm
 rw [e] at p1 p3
 exact ⟨p1, by omega⟩
theorem past_go : ∀ {l : List En} {t : List Int} {xs xs' : List (List Pt)} {q q' : List Pt}, chainGo l t = true → okText t = true → okOp q = true → sumK q + sumD q = (t.length : Int) → (l.map En.o).foldl stepPast (some (xs, q)) = some (xs', q') →
  okOp q' = true ∧ sumK q' + sumD q' = ((endT l t).length : Int) ∧ okText (endT l t) = true
 | [], t, xs, xs', q, q', _, ht, hq, hl, hf => by
  simp at hf
  obtain ⟨_, rfl⟩ := hf
  exact ⟨hq, hl, ht⟩
 | e :: l, t, xs, xs', q, q', hc, ht, hq, hl, hf => by
  unfold chainGo at hc
  simp only [Bool.and_eq_true] at hc
  obtain ⟨⟨⟨h1, h2⟩, h3⟩, h4⟩ := hc
  obtain ⟨f1, f2, f3⟩ := fits_len h1
  rw [List.map_cons, List.foldl_cons] at hf
  by_cases hx : xformOk e.o q = true
  ·have e1 : stepPast (some (xs, q)) e.o = some (xs ++ [xformA e.o q], xformB e.o q) := by unfold stepPast; exact if_pos hx
   rw [e1] at hf
   obtain ⟨x1, x2⟩ := xform_len hx
   have a5 := (apply_ok f1 f2 f3).2.2.2.1
   have r := past_go h4 h3 x1 (by rw [x2, a5]) hf
   exact r
  ·have e1 : stepPast (some (xs, q)) e.o = none := by unfold stepPast; exact if_neg hx
   rw [e1, foldlPast_none] at hf
   cases hf
theorem chainGo_drop : ∀ {l : List En} {t : List Int} (m : Nat), chainGo l t = true → chainGo (l.drop m) (endT (l.take m) t) = true ∧ endT (l.drop m) (endT (l.take m) t) = endT l t
 | l, t, 0, h => ⟨h, rfl⟩
 | [], t, m + 1, h => ⟨by simpa [endT] using h, by simp [endT]⟩
 | e :: l, t, m + 1, h => by
  unfold chainGo at h
  simp only [Bool.and_eq_true] at h
  exact chainGo_drop (l := l) m h.2
theorem text_end {l : List En} {t : List Int} (m : Nat) (h : chainGo l t = true) (ht : okText t = true) : okText (endT (l.take m) t) = true := by
 induction l generalizing t m with
 | nil => simpa [endT] using ht
 | cons e l ih =>
  cases m with
  | zero => exact ht
  | succ m =>
   unfold chainGo at h
   simp only [Bool.and_eq_true] at h
   exact ih m h.2 h.1.2
theorem past_fits {x : Do} {base : Int} {o : List Pt} (hd : docB x = true) (hb : textAtB x base = true) (ho : okOp o = true) (hl : sumK o + sumD o = ((textAtT x base).length : Int)) (hp : pastB (opsSinceT x base) o = true) : fitsB (pastT (opsSinceT x base) o) (headTextT x) = true := by
 have hc := docB_chain hd
 obtain ⟨f0, f1, f2, f3⟩ := docB_of hd
 have hok : okText x.text = true := by
  have := hd
  unfold docB at this
  simp only [Bool.and_eq_true] at this
  exact this.1.1.1.2
 obtain ⟨m, hm⟩ : ∃ m : Nat, m = (base - x.from_).toNat := ⟨_, rfl⟩
 have e1 : textAtT x base = endT (x.list.take m) x.text := by unfold textAtT; rw [if_pos hb, hm]
 have e2 : opsSinceT x base = (x.list.drop m).map En.o := by unfold opsSinceT; rw [if_pos hb, hm]
 have e3 : headTextT x = endT x.list x.text := by
  have hh : textAtB x (headRevT x) = true := by
   unfold textAtB
   rw [hd, inB_t (by omega)]
   rfl
  unfold headTextT textAtT
  rw [if_pos hh, f3, show (x.from_ + (x.list.length : Int) - x.from_).toNat = x.list.length by omega, List.take_length]
 rw [e1] at hl
 rw [e2] at hp ⊢
 rw [e3]
 unfold pastB pastS at hp
 rw [if_pos ho] at hp
 obtain ⟨⟨xs', q'⟩, hq⟩ := Option.isSome_iff_exists.1 hp
 obtain ⟨n1, n2⟩ := norm_len ho
 obtain ⟨c1, c2⟩ := chainGo_drop m hc
 obtain ⟨g1, g2, g3⟩ := past_go c1 (text_end m hc hok) n1 (by rw [n2]; exact hl) hq
 have e4 : pastT ((x.list.drop m).map En.o) o = q' := by unfold pastT pastS; rw [if_pos ho, hq]; rfl
 rw [e4]
 rw [c2] at g2 g3
 unfold fitsB
 rw [g1, g3, decide_eq_true g2]
 rfl
theorem rebase_small {x : Do} {base : Int} {o : List Pt} (_ : SmDo x) (_ : SmP o) : SmP (rebOp x base o) := reb_small
theorem implKeepB (O : Nat → Prop) (lo g : Nat) (L : List Pt) (n : Int) (w : World) (hb : Bld O lo g 171 w L) (h0 : 0 ≤ n) (h1 : n ≤ 200) (hl : L.length < 100000) :
  Calls Tryz.prog 139 #[.pointer (some ⟨g, 0, none⟩), .int .i64 n] w (BldP O lo g 171 (L ++ [⟨1, n, []⟩]) w) := by
 have hz : szP_ ⟨1, n, []⟩ := ⟨.inl rfl, h0, h1, by simp⟩
 by_cases hn : n = 0
 ·subst hn
  refine (implKeep_zero g w).mono ?_
  rintro e w' ⟨rfl, rfl⟩
  exact ⟨rfl, hb.add hl hz (Below.refl _ _) (Fr.refl _ _) (hb.at_.mono (fun b h => .inl h))⟩
 ·have hf := hb.fit
  have hd := hf.done
  have hsg := signsIn_le hb.sz
  have f1 := hf.len
  have f2 := hf.signs
  have hlen := hb.len
  refine (implKeep_f (fun b => O b ∨ w.heap.size ≤ b) lo g _ _ _ n w (hb.at_.mono (fun b h => .inl h)) (fun b h => .inr h) (by omega) (by omega) hn h0 (by omega) (fun p hp => by have := hd.2.2 p hp; omega) (by have := hd.1; exact Nat.le_trans this (by omega))).mono ?_
  rintro e w' ⟨rfl, hn', b, fr⟩
  refine ⟨rfl, hb.add hl hz b fr ?_⟩
  simp only [stepN, if_neg hn]
  exact hn'.at_
theorem implPutB (O : Nat → Prop) (lo g : Nat) (L : List Pt) (A : Option Addr) (c m : Nat) (zs : List Int) (w : World) (hb : Bld O lo g 171 w L) (hr : Row (Value.int .i64) w w.heap.size A zs) (hm : zs.length = m) (h1 : zs.length ≤ 200) (hl : L.length < 100000) :
  Calls Tryz.prog 140 #[.pointer (some ⟨g, 0, none⟩), .slice A m c] w (BldP O lo g 171 (L ++ [⟨2, 0, zs⟩]) w) := by
 subst hm
 have hz : szP_ ⟨2, 0, zs⟩ := ⟨.inr (.inl rfl), by simp, by simp, h1⟩
 have hsg := signsIn_le hb.sz
 have f2 := hb.fit.signs
 have hlen := hb.len
 refine (implPut_f (fun b => O b ∨ w.heap.size ≤ b) lo g _ _ _ A c zs w (hb.at_.mono (fun b h => .inl h)) (fun b h => .inr h) hr (by omega) (by omega)).mono ?_
 rintro e w' ⟨rfl, ha, b, fr⟩
 exact ⟨rfl, hb.add hl hz b fr ha⟩
theorem implDropB (O : Nat → Prop) (lo g : Nat) (L : List Pt) (n : Int) (w : World) (hb : Bld O lo g 171 w L) (h0 : 0 ≤ n) (h1 : n ≤ 200) (hl : L.length < 100000) :
  Calls Tryz.prog 141 #[.pointer (some ⟨g, 0, none⟩), .int .i64 n] w (BldP O lo g 171 (L ++ [⟨3, n, []⟩]) w) := by
 have hz : szP_ ⟨3, n, []⟩ := ⟨.inr (.inr rfl), h0, h1, by simp⟩
 have f3 := hb.fit.d0
 have f4 := hb.fit.d1
 have hlen := hb.len
 refine (implDrop_f (fun b => O b ∨ w.heap.size ≤ b) lo g _ _ _ n w (hb.at_.mono (fun b h => .inl h)) (fun b h => .inr h) f3 (by omega) h0 (by omega)).mono ?_
 rintro e w' ⟨rfl, ha, b, fr⟩
 exact ⟨rfl, hb.add hl hz b fr ha⟩
theorem implDoneB (O : Nat → Prop) (lo g : Nat) (L : List Pt) (w : World) (hb : Bld O lo g 171 w L) :
  Calls Tryz.prog 132 #[.pointer (some ⟨g, 0, none⟩)] w (DoneP O lo L w) := by
 have f1 := hb.fit.len
 have hlen := hb.len
 have hsg := signsIn_le hb.sz
 have f2 := hb.fit.signs
 refine (implDone_f (fun b => O b ∨ w.heap.size ≤ b) lo g _ _ _ w (hb.at_.mono (fun b h => .inl h)) (fun b h => .inr h) (by omega) (by omega)).mono ?_
 intro e w' h
 exact GoneS.done h
end Go.Proofs.YtbpeeokgpkjnmaaGreatDoor.low
namespace Go.Proofs.YtbpeeokgpkjnmaaGreatDoor.low.xb
open Go.RowKit
set_option linter.unusedVariables false
def Blk (g : Nat) (T : TypeId) (w : World) (D : Nat → Option Value) : Prop := ∃ cs, w.heap[g]? = some (.cells cs T (0, 0)) ∧ ∀ i, cs[i]? = D i
def upd (D : Nat → Option Value) (i : Nat) (v : Value) : Nat → Option Value := fun j => if j = i then some v else D j
theorem upd_at (D : Nat → Option Value) (i : Nat) (v : Value) : upd D i v i = some v := by simp [upd]
theorem upd_ne {D : Nat → Option Value} {i j : Nat} (v : Value) (h : ¬ j = i) : upd D i v j = D j := by simp [upd, h]
section
variable {g i : Nat} {T : TypeId} {w w' : World} {D : Nat → Option Value} {u : Value}
theorem Blk.lt (h : Blk g T w D) : g < w.heap.size := by obtain ⟨cs, h1, _⟩ := h; exact lt_of_some h1
theorem Blk.cell (h : Blk g T w D) (i : Nat) : w.cell? ⟨g, i, none⟩ = D i := by
 obtain ⟨cs, h1, h2⟩ := h
 rw [cell_of_row _ _ i _ _ _ h1]
 exact h2 i
theorem Blk.free (h : Blk g T w D) (i : Nat) : w.frozen? ⟨g, i, none⟩ = false := by
 obtain ⟨cs, h1, h2⟩ := h
 simp [World.frozen?, h1]
theorem Blk.keep (h : Blk g T w D) (hk : w'.heap[g]? = w.heap[g]?) : Blk g T w' D := by
 obtain ⟨cs, h1, h2⟩ := h
 exact ⟨cs, hk.trans h1, h2⟩
theorem Blk.past (h : Blk g T w D) (hb : Below w.heap.size w w') : Blk g T w' D := h.keep (hb.block _ h.lt)
theorem Blk.set (h : Blk g T w D) (hi : D i = some u) (v : Value) : Blk g T (w.setCell ⟨g, i, none⟩ v) (upd D i v) := by
 obtain ⟨cs, h1, h2⟩ := h
 refine ⟨_, heap_setCell_same _ _ _ _ _ _ h1, fun j => ?_⟩
 rw [Array.getElem?_setIfInBounds]
 by_cases e : i = j
 ·subst e
  rw [upd_at]
  have := h2 i
  rw [hi] at this
  simp only [if_true]
  rw [if_pos (by rcases Nat.lt_or_ge i cs.size with hl | hg; exact hl; rw [Array.getElem?_eq_none hg] at this; cases this)]
 ·rw [if_neg e, upd_ne _ (fun k => e k.symm)]
  exact h2 j
theorem Blk.far {base n size : Nat} {x : Value} {e : TypeId} {xs : List Value} (h : Blk g T w D) (hr : w.ownsRow base e size x n xs) (hT : ¬ T = e) : ¬ x.ownBlock = some g := by
 obtain ⟨cs, h1, _⟩ := h
 exact own_far hr h1 hT
theorem Blk.grown {w0 w1 : World} {r : Option Nat} (h : Blk g T w D) (h0 : Below w.heap.size w w0) (hgrow : w0.grownBy w1 r) (hne : ¬ r = some g) : Blk g T w1 D := by
 refine h.keep ?_
 rw [hgrow.block g (Nat.lt_of_lt_of_le h.lt h0.size) (fun e => hne e.symm), h0.block g h.lt]
end
structure Box (lo g o : Nat) (C : Nat → Option Value) (T : TypeId) (w : World) (v u : Value) (d : Int) (ps : List Pt) (us : List Value) : Prop where
 box : ∃ D, Blk g T w D ∧ D o = some v ∧ D (o + 1) = some u ∧ D (o + 2) = some (.int .i64 d) ∧ ∀ i, i < o ∨ o + 3 ≤ i → D i = C i
 row : w.ownsRow lo 71 3 v ps.length (cellsOf ps us)
 len : us.length = ps.length
 low : lo ≤ g
section
variable {lo g o : Nat} {C : Nat → Option Value} {T : TypeId} {w w0 w1 : World} {v u : Value} {d : Int} {ps : List Pt} {us : List Value}
theorem Box.cell0 (h : Box lo g o C T w v u d ps us) : w.cell? ⟨g, o, none⟩ = some v := by obtain ⟨D, h1, h2, h3, h4, _⟩ := h.box; rw [h1.cell]; exact h2
theorem Box.cell1 (h : Box lo g o C T w v u d ps us) : w.cell? ⟨g, o + 1, none⟩ = some u := by obtain ⟨D, h1, h2, h3, h4, _⟩ := h.box; rw [h1.cell]; exact h3
theorem Box.cell2 (h : Box lo g o C T w v u d ps us) : w.cell? ⟨g, o + 2, none⟩ = some (.int .i64 d) := by obtain ⟨D, h1, h2, h3, h4, _⟩ := h.box; rw [h1.cell]; exact h4
theorem Box.free (h : Box lo g o C T w v u d ps us) (i : Nat) : w.frozen? ⟨g, i, none⟩ = false := by obtain ⟨D, h1, _⟩ := h.box; exact h1.free i
theorem Box.lt (h : Box lo g o C T w v u d ps us) : g < w.heap.size := by obtain ⟨D, h1, _⟩ := h.box; exact h1.lt
theorem Box.far {base n size : Nat} {x : Value} {e : TypeId} {xs : List Value} (h : Box lo g o C T w v u d ps us) (hr : w.ownsRow base e size x n xs) (hT : ¬ T = e) : ¬ x.ownBlock = some g := by
 obtain ⟨D, h1, _⟩ := h.box
 exact h1.far hr hT
theorem Box.freeG {r : Option Nat} (h : Box lo g o C T w v u d ps us) (i : Nat) (h0 : Below w.heap.size w w0) (hgrow : w0.grownBy w1 r) (hne : ¬ r = some g) : w1.frozen? ⟨g, i, none⟩ = false := by
 obtain ⟨D, h1, _⟩ := h.box
 exact (h1.grown h0 hgrow hne).free i
theorem Box.cellG0 {r : Option Nat} (h : Box lo g o C T w v u d ps us) (h0 : Below w.heap.size w w0) (hgrow : w0.grownBy w1 r) (hne : ¬ r = some g) : w1.cell? ⟨g, o, none⟩ = some v := by
 obtain ⟨D, h1, h2, h3, h4, _⟩ := h.box
 rw [(h1.grown h0 hgrow hne).cell]
 exact h2
theorem Box.cellG1 {r : Option Nat} (h : Box lo g o C T w v u d ps us) (h0 : Below w.heap.size w w0) (hgrow : w0.grownBy w1 r) (hne : ¬ r = some g) : w1.cell? ⟨g, o + 1, none⟩ = some u := by
 obtain ⟨D, h1, h2, h3, h4, _⟩ := h.box
 rw [(h1.grown h0 hgrow hne).cell]
 exact h3
theorem Box.cellG2 {r : Option Nat} (h : Box lo g o C T w v u d ps us) (h0 : Below w.heap.size w w0) (hgrow : w0.grownBy w1 r) (hne : ¬ r = some g) : w1.cell? ⟨g, o + 2, none⟩ = some (.int .i64 d) := by
 obtain ⟨D, h1, h2, h3, h4, _⟩ := h.box
 rw [(h1.grown h0 hgrow hne).cell]
 exact h4
end
theorem Box.push {lo g o gg cap : Nat} {C : Nat → Option Value} {T : TypeId} {w w0 w1 : World} {v u : Value} {d : Int} {ps : List Pt} {us : List Value} {p : Pt} {u' : Value} (h : Box lo g o C T w v u d ps us) (hT1 : ¬ T = 3) (hT2 : ¬ T = 71)
  (ha : Apart lo w.heap.size w (ps ++ [p]) (us ++ [u'])) (h0 : Below w.heap.size w w0) 
  (hown : w1.ownsRow lo 71 3 (.slice (some ⟨gg, 0, none⟩) (ps.length + 1) cap) (ps.length + 1) (cellsOf ps us ++ [.int .i64 p.kind, .int .i64 p.n, u']))
  (hgrow : w0.grownBy w1 v.ownBlock) :
  Box lo g o C T (w1.setCell ⟨g, o, none⟩ (.slice (some ⟨gg, 0, none⟩) (ps.length + 1) cap)) (.slice (some ⟨gg, 0, none⟩) (ps.length + 1) cap) u d (ps ++ [p]) (us ++ [u']) ∧
  Apart lo (w1.setCell ⟨g, o, none⟩ (.slice (some ⟨gg, 0, none⟩) (ps.length + 1) cap)).heap.size (w1.setCell ⟨g, o, none⟩ (.slice (some ⟨gg, 0, none⟩) (ps.length + 1) cap)) (ps ++ [p]) (us ++ [u']) ∧
  Below lo w (w1.setCell ⟨g, o, none⟩ (.slice (some ⟨gg, 0, none⟩) (ps.length + 1) cap)) := by
 have hlt := h.lt
 obtain ⟨D, hD, k1, k2, k3, k4⟩ := h.box
 have hsz : w.heap.size ≤ w1.heap.size := Nat.le_trans h0.size hgrow.size
 have hold : ∀ k, k < w.heap.size → ¬ v.ownBlock = some k → w1.heap[k]? = w.heap[k]? := fun k hk hne => by
  rw [hgrow.block k (Nat.lt_of_lt_of_le hk h0.size) (fun e => hne e.symm), h0.block k hk]
 have hg1 := hD.grown h0 hgrow (hD.far h.row hT2)
 have hgg : ¬ (Value.slice (some ⟨gg, 0, none⟩) (ps.length + 1) cap).ownBlock = some g := hg1.far hown hT2
 refine ⟨⟨⟨_, hg1.set k1 _, upd_at _ _ _, by rw [upd_ne _ (by omega)]; exact k2, by rw [upd_ne _ (by omega)]; exact k3, fun i hi => by rw [upd_ne _ (by omega)]; exact k4 i hi⟩, ?_, by simp [h.len], h.low⟩, ?_, ?_⟩
 ·rw [cellsOf_snoc _ _ _ _ h.len]
  have := ownsRow_setCell_other hown (a := ⟨g, o, none⟩) hgg (.slice (some ⟨gg, 0, none⟩) (ps.length + 1) cap)
  simpa using this
 ·refine ha.keep (by simp; exact hsz) (fun i x k hx hk1 hk2 => ?_)
  obtain ⟨q, hq⟩ := idx_some (l := ps ++ [p]) (i := i) (by rw [← ha.1]; exact idx_lt hx)
  have hox := (ha.2.1 i q x hq hx).1
  have hkg : ¬ k = g := fun e => hD.far hox hT1 (by rw [hk1, e])
  rw [Below.heap_setCell _ _ _ _ hkg, hold k hk2]
  intro hv
  obtain ⟨c1, e1⟩ := own_blk hox hk1
  obtain ⟨c2, e2⟩ := own_blk h.row hv
  rw [e1] at e2
  injection e2 with e2
  injection e2 with _ ht _
  exact absurd ht (by decide)
 ·refine Below.setCell ?_ h.low _
  have hb : Below lo w w0 := h0.mono (Nat.le_trans h.low (Nat.le_of_lt hlt))
  exact hb.grown hgrow (Nat.le_trans (Nat.le_trans h.low (Nat.le_of_lt hlt)) h0.size) (fun k hk => own_ge h.row k hk)
theorem push_fr {S : Nat → Prop} {g o : Nat} {v : Value} {us : List Value} {w w0 w1 : World} (h : OwnS S g v us) (h0 : Below w.heap.size w w0) (hg : w0.grownBy w1 v.ownBlock) (x : Value) : Fr S w (w1.setCell ⟨g, o, none⟩ x) :=
 ((Fr.below h0).grown hg (fun k hk => h.2.1 k hk)).setCell h.1 x
def BAtS (S : Nat → Prop) (lo g o : Nat) (C : Nat → Option Value) (T : TypeId) (w : World) (ps : List Pt) (put : List Int) (d : Int) : Prop :=
 ∃ v u us, Box lo g o C T w v u d ps us ∧ Apart lo w.heap.size w (ps ++ [⟨2, 0, put⟩]) (us ++ [u]) ∧ OwnS S g v (us ++ [u])
def BNilS (S : Nat → Prop) (lo g o : Nat) (C : Nat → Option Value) (T : TypeId) (w : World) (ps : List Pt) : Prop := ∃ v us, Box lo g o C T w v (.slice none 0 0) 0 ps us ∧ Apart lo w.heap.size w ps us ∧ OwnS S g v us
def FlushedS (S : Nat → Prop) (lo g o : Nat) (C : Nat → Option Value) (T : TypeId) (w : World) (ps : List Pt) (e : Ending) (w' : World) : Prop := e = .returned (.tuple #[]) ∧ BNilS S lo g o C T w' ps ∧ Below lo w w' ∧ Fr S w w'
def BuiltS (S : Nat → Prop) (lo g o : Nat) (C : Nat → Option Value) (T : TypeId) (w : World) (ps : List Pt) (put : List Int) (d : Int) (e : Ending) (w' : World) : Prop := e = .returned (.tuple #[]) ∧ BAtS S lo g o C T w' ps put d ∧ Below lo w w' ∧ Fr S w w'
theorem BNilS.at_ {S : Nat → Prop} {lo g o : Nat} {C : Nat → Option Value} {T : TypeId} {w : World} {ps : List Pt} (h : BNilS S lo g o C T w ps) : BAtS S lo g o C T w ps [] 0 := by
 obtain ⟨v, us, hx, ha, ho⟩ := h
 refine ⟨v, _, us, hx, Apart.bare 2 0 ha, ho.1, ho.2.1, fun i k x hxi hk => ?_⟩
 by_cases hi : i < us.length
 ·rw [List.getElem?_append_left hi] at hxi
  exact ho.2.2 i k x hxi hk
 ·rw [List.getElem?_append_right (by omega)] at hxi
  have hx' : i - us.length = 0 := by
   have := idx_lt hxi
   simp at this
   omega
  rw [hx'] at hxi
  simp at hxi
  subst hxi
  simp [Value.ownBlock] at hk
theorem Box.clearS {S : Nat → Prop} {lo g o : Nat} {C : Nat → Option Value} {T : TypeId} {w : World} {v u : Value} {d : Int} {ps : List Pt} {us : List Value} (h : Box lo g o C T w v u d ps us) (hT1 : ¬ T = 3) (hT2 : ¬ T = 71) (ha : Apart lo w.heap.size w ps us) (ho : OwnS S g v us) :
  BNilS S lo g o C T ((w.setCell ⟨g, o + 1, none⟩ (.slice none 0 0)).setCell ⟨g, o + 2, none⟩ (.int .i64 0)) ps ∧ Below lo w ((w.setCell ⟨g, o + 1, none⟩ (.slice none 0 0)).setCell ⟨g, o + 2, none⟩ (.int .i64 0)) ∧ Fr S w ((w.setCell ⟨g, o + 1, none⟩ (.slice none 0 0)).setCell ⟨g, o + 2, none⟩ (.int .i64 0)) := by
 obtain ⟨D, hD, k1, k2, k3, k4⟩ := h.box
 have k3' : upd D (o + 1) (.slice none 0 0) (o + 2) = some (.int .i64 d) := by rw [upd_ne _ (by omega)]; exact k3
 refine ⟨⟨v, us, ⟨⟨_, (hD.set k2 _).set k3' _, by rw [upd_ne _ (by omega), upd_ne _ (by omega)]; exact k1, by rw [upd_ne _ (by omega), upd_at], upd_at _ _ _, fun i hi => by rw [upd_ne _ (by omega), upd_ne _ (by omega)]; exact k4 i hi⟩, ?_, h.len, h.low⟩, ?_, ho⟩, ((Below.refl _ _).setCell h.low _).setCell h.low _, ((Fr.refl S w).setCell (p := ⟨g, o + 1, none⟩) ho.1 _).setCell (p := ⟨g, o + 2, none⟩) ho.1 _⟩
 ·exact ownsRow_setCell_other (ownsRow_setCell_other h.row (hD.far h.row hT2) _) (hD.far h.row hT2) _
 ·refine ha.keep (by simp) (fun i x k hx hk1 hk2 => ?_)
  obtain ⟨q, hq⟩ := idx_some (l := ps) (i := i) (by rw [← ha.1]; exact idx_lt hx)
  have hkg : ¬ k = g := fun e => hD.far (ha.2.1 i q x hq hx).1 hT1 (by rw [hk1, e])
  rw [Below.heap_setCell _ _ _ _ hkg, Below.heap_setCell _ _ _ _ hkg]
theorem Box.moreS {S : Nat → Prop} {lo g o : Nat} {C : Nat → Option Value} {T : TypeId} {w w1 : World} {v u v' : Value} {d : Int} {ps : List Pt} {us : List Value} {put put' : List Int} (h : Box lo g o C T w v u d ps us) (hT1 : ¬ T = 3) (hT2 : ¬ T = 71)
  (ha : Apart lo w.heap.size w (ps ++ [⟨2, 0, put⟩]) (us ++ [u])) (hown : w1.ownsRow lo 3 1 v' put'.length (put'.map (Value.int .i64))) (hgrow : w.grownBy w1 u.ownBlock) (hat : v'.ownBlock = u.ownBlock ∨ v'.ownBlock = some w.heap.size) (hos : OwnS S g v (us ++ [u])) (hS : S w.heap.size) :
  BAtS S lo g o C T (w1.setCell ⟨g, o + 1, none⟩ v') ps put' d ∧ Below lo w (w1.setCell ⟨g, o + 1, none⟩ v') ∧ Fr S w (w1.setCell ⟨g, o + 1, none⟩ v') := by
 have hlt := h.lt
 obtain ⟨D, hD, k1, k2, k3, k4⟩ := h.box
 have hu := ha.last h.len
 have ha0 := ha.init h.len
 have hold : ∀ k, k < w.heap.size → ¬ u.ownBlock = some k → w1.heap[k]? = w.heap[k]? := fun k hk hne => hgrow.block k hk (fun e => hne e.symm)
 have hg1 := hD.grown (Below.refl _ _) hgrow (hD.far hu hT1)
 have hvg := hg1.far hown hT1
 have hlow : lo ≤ w.heap.size := Nat.le_trans h.low (Nat.le_of_lt hlt)
 have hv' : ∀ k, v'.ownBlock = some k → S k := fun k hk => by
  rcases hat with e | e
  ·exact hos.last k (by rw [← e]; exact hk)
  ·rw [e] at hk
   injection hk with hk
   rw [← hk]; exact hS
 have hos' : OwnS S g v (us ++ [v']) := ⟨hos.1, hos.2.1, fun i k x hx hk => by
  by_cases hi : i < us.length
  ·rw [List.getElem?_append_left hi] at hx
   exact hos.init.2.2 i k x hx hk
  ·rw [List.getElem?_append_right (by omega)] at hx
   have hx' : i - us.length = 0 := by
    have := idx_lt hx
    simp at this
    omega
   rw [hx'] at hx
   simp at hx
   subst hx
   exact hv' k hk⟩
 have hfr : Fr S w (w1.setCell ⟨g, o + 1, none⟩ v') := ((Fr.refl S w).grown hgrow (fun k hk => hos.last k hk)).setCell (p := ⟨g, o + 1, none⟩) hos.1 _
 refine ⟨⟨v, v', us, ⟨⟨_, hg1.set k2 _, by rw [upd_ne _ (by omega)]; exact k1, upd_at _ _ _, by rw [upd_ne _ (by omega)]; exact k3, fun i hi => by rw [upd_ne _ (by omega)]; exact k4 i hi⟩, ?_, h.len, h.low⟩, ?_, hos'⟩, ?_, hfr⟩
 ·refine own_keep h.row (fun k hk1 hk2 => ?_)
  have hkg : ¬ k = g := fun e => hD.far h.row hT2 (by rw [hk1, e])
  rw [Below.heap_setCell _ _ _ _ hkg]
  refine hold k hk2 (fun hk3 => ?_)
  obtain ⟨c1, e1⟩ := own_blk h.row hk1
  exact own_far hu e1 (by decide) hk3
 ·have hkeep : Apart lo (w1.setCell ⟨g, o + 1, none⟩ v').heap.size (w1.setCell ⟨g, o + 1, none⟩ v') ps us := by
   refine ha0.keep (by simp; exact hgrow.size) (fun i x k hx hk1 hk2 => ?_)
   obtain ⟨q, hq⟩ := idx_some (l := ps) (i := i) (by rw [← h.len]; exact idx_lt hx)
   have hkg : ¬ k = g := fun e => hD.far (ha0.2.1 i q x hq hx).1 hT1 (by rw [hk1, e])
   rw [Below.heap_setCell _ _ _ _ hkg]
   exact hold k hk2 (ha.far h.len hx hk1)
  refine hkeep.snoc (ownsRow_setCell_other hown hvg _) (fun k hk => ?_) (fun i x k hx hk1 hk2 => ?_)
  ·obtain ⟨c1, e1⟩ := own_blk hown hk
   have := lt_of_some e1
   simpa using this
  ·obtain ⟨q, hq⟩ := idx_some (l := ps) (i := i) (by rw [← h.len]; exact idx_lt hx)
   rcases hat with e | e
   ·exact ha.far h.len hx hk1 (by rw [← e]; exact hk2)
   ·obtain ⟨c1, e1⟩ := own_blk (ha0.2.1 i q x hq hx).1 hk1
    have := lt_of_some e1
    rw [hk2] at e
    injection e with e
    omega
 ·refine Below.setCell ?_ h.low _
  exact (Below.refl _ _).grown hgrow hlow (fun k hk => own_ge hu k hk)
theorem Box.dropS {S : Nat → Prop} {lo g o : Nat} {C : Nat → Option Value} {T : TypeId} {w : World} {v u : Value} {d d' : Int} {ps : List Pt} {us : List Value} {put : List Int} (h : Box lo g o C T w v u d ps us) (hT1 : ¬ T = 3) (hT2 : ¬ T = 71)
  (ha : Apart lo w.heap.size w (ps ++ [⟨2, 0, put⟩]) (us ++ [u])) (hos : OwnS S g v (us ++ [u])) :
  BAtS S lo g o C T (w.setCell ⟨g, o + 2, none⟩ (.int .i64 d')) ps put d' ∧ Below lo w (w.setCell ⟨g, o + 2, none⟩ (.int .i64 d')) ∧ Fr S w (w.setCell ⟨g, o + 2, none⟩ (.int .i64 d')) := by
 obtain ⟨D, hD, k1, k2, k3, k4⟩ := h.box
 refine ⟨⟨v, u, us, ⟨⟨_, hD.set k3 _, by rw [upd_ne _ (by omega)]; exact k1, by rw [upd_ne _ (by omega)]; exact k2, upd_at _ _ _, fun i hi => by rw [upd_ne _ (by omega)]; exact k4 i hi⟩, ownsRow_setCell_other h.row (hD.far h.row hT2) _, h.len, h.low⟩, ha.keep (by simp) (fun i x k hx hk1 hk2 => ?_), hos⟩, (Below.refl _ _).setCell h.low _, (Fr.refl S w).setCell (p := ⟨g, o + 2, none⟩) hos.1 _⟩
 obtain ⟨q, hq⟩ := idx_some (l := ps ++ [⟨2, 0, put⟩]) (i := i) (by rw [← ha.1]; exact idx_lt hx)
 have hkg : ¬ k = g := fun e => hD.far (ha.2.1 i q x hq hx).1 hT1 (by rw [hk1, e])
 rw [Below.heap_setCell _ _ _ _ hkg]
theorem Box.setN {lo g o gv cap : Nat} {C : Nat → Option Value} {T : TypeId} {w : World} {u : Value} {d b : Int} {r : List Pt} {p : Pt} {us : List Value} (h : Box lo g o C T w (.slice (some ⟨gv, 0, none⟩) (r.length + 1) cap) u d (r ++ [p]) us) (hT1 : ¬ T = 3) (hT2 : ¬ T = 71)
  (ha : Apart lo w.heap.size w (r ++ [p]) us) :
  Box lo g o C T (w.setCell ⟨gv, r.length * 3 + 1, none⟩ (.int .i64 b)) (.slice (some ⟨gv, 0, none⟩) (r.length + 1) cap) u d (r ++ [⟨p.kind, b, p.signs⟩]) us ∧
  Apart lo (w.setCell ⟨gv, r.length * 3 + 1, none⟩ (.int .i64 b)).heap.size (w.setCell ⟨gv, r.length * 3 + 1, none⟩ (.int .i64 b)) (r ++ [⟨p.kind, b, p.signs⟩]) us ∧
  Below lo w (w.setCell ⟨gv, r.length * 3 + 1, none⟩ (.int .i64 b)) := by
 obtain ⟨D, hD, k1, k2, k3, k4⟩ := h.box
 have hgv := hD.far h.row hT2
 have hge := own_ge h.row gv rfl
 have hl : us.length = (r ++ [p]).length := h.len
 refine ⟨⟨⟨D, hD.keep (Below.heap_setCell _ _ _ _ (fun e => hgv (by simp [Value.ownBlock]; exact e.symm))), k1, k2, k3, k4⟩, ?_, by simpa using hl, h.low⟩, ?_, (Below.refl _ _).setCell hge _⟩
 ·have e1 := cellsOf_setN (r ++ [p]) us r.length p b hl (by simp)
  have e2 : (r ++ [p]).set r.length ⟨p.kind, b, p.signs⟩ = r ++ [⟨p.kind, b, p.signs⟩] := by simp
  rw [e2] at e1
  rw [← e1]
  have := (World.ownsRow.stored (n := r.length + 1) (by simpa using h.row) (r.length * 3 + 1) (.int .i64 b)).1
  simpa using this
 ·refine Apart.setN (p := p) (ha.keep (by simp) (fun i x k hx hk1 hk2 => ?_)) rfl
  obtain ⟨q, hq⟩ := idx_some (l := r ++ [p]) (i := i) (by rw [← hl]; exact idx_lt hx)
  obtain ⟨c1, e1⟩ := own_blk (ha.2.1 i q x hq hx).1 hk1
  have hne : ¬ k = gv := fun e => by
   subst e
   exact own_far h.row e1 (by decide) rfl
  rw [Below.heap_setCell _ _ _ _ hne]
theorem Box.parts {lo g o : Nat} {C : Nat → Option Value} {T : TypeId} {w : World} {v u : Value} {d : Int} {ps : List Pt} {us : List Value} (h : Box lo g o C T w v u d ps us) (ha : Apart lo w.heap.size w ps us) : PBuf lo w.heap.size w v ps :=
 ⟨us, h.row, ha, fun k hk => by obtain ⟨c1, e1⟩ := own_blk h.row hk; exact lt_of_some e1, Nat.le_refl _, Nat.le_trans h.low (Nat.le_of_lt h.lt)⟩
def GoneX (S : Nat → Prop) (lo g o : Nat) (C : Nat → Option Value) (ps : List Pt) (w : World) (e : Ending) (w' : World) : Prop := GoneS S lo ps w e w' ∧ ∃ v u us, Box lo g o C 185 w' v u 0 ps us
theorem implFlush_f (S : Nat → Prop) (lo g o : Nat) (C : Nat → Option Value) (ps : List Pt) (put : List Int) (d : Int) (w : World) (hb : BAtS S lo g o C 185 w ps put d) (hS : ∀ b, w.heap.size ≤ b → S b) (hl : ps.length ≤ 4294967296) (hp : put.length ≤ 4294967296) :
  Calls Tryz.prog 142 #[.pointer (some ⟨g, o, none⟩)] w (FlushedS S lo g o C 185 w (ps ++ putL put ++ dropL d)) := by
 obtain ⟨i0, hi0, hz0, hz1, hz2⟩ := info_parts part_info
 obtain ⟨v, u, us, hx, ha, hos⟩ := hb
 have HS := Lib.hid hS
 have HOS := Lib.hid hos
 clear hS hos
 have ha0 := ha.init hx.len
 obtain ⟨A, c, rfl⟩ := own_form (ha.last hx.len)
 have c0 := hx.cell0
 have c1 := hx.cell1
 have c2 := hx.cell2
 have f0 := hx.free o
 have f1 := hx.free (o + 1)
 have f2 := hx.free (o + 2)
 have HX := Lib.hid hx
 have HA := Lib.hid ha
 have HA0 := Lib.hid ha0
 clear hx ha ha0
 by_cases hput : put.length = 0
 ·have e1 : putL put = [] := by simp [putL, hput]
  rw [e1, List.append_nil]
  by_cases hd : 0 < d
  ·have e2 : dropL d = [⟨3, d, []⟩] := by simp [dropL, hd]
   rw [e2]
   go_enter Tryz.func142, Tryz.ntmps142
   go_wp2_with fail
   have lg := HX.out.lt
   have hlo : lo ≤ w.heap.size := Nat.le_trans HX.out.low (Nat.le_of_lt lg)
   have hne := HX.out.far HX.out.row (by decide)
   go_region_law ((refine step_append_lies _ (by rfl) (.tmp 31) (.tmp 37) 30 (by rfl) lo 71 i0 _ 3 40 Tryz.underlying30 hi0 hz0 hz1 hz2 rfl (by omega) v ps.length (cellsOf ps us) (by rfl) ((HX.out.row.alloc _).drew) ⟨w.heap.size, 0, none⟩ 1 1 [.int .i64 3, .int .i64 d, .slice none 0 0] (by rfl) (by rfl) (World.news_of_block (cs := #[.int .i64 3, .int .i64 d, .slice none 0 0]) (t := 71) (fr := (0, 0)) (heap_alloc_new w _)) (by simp [Value.oneCell']) (by omega) (by unfold maxLen; omega) (by omega) (by simp; omega) (w.heap.size + 1) (by simp) ?_; intro gg cap w1 hown1 hgrow hat hlt; have hf := HX.out.freeG o (below_made w _) hgrow hne; have hf1 := HX.out.freeG (o + 1) (below_made w _) hgrow hne; have hf2 := HX.out.freeG (o + 2) (below_made w _) hgrow hne; have hc : w1.cell? ⟨g, o, none⟩ = some v := HX.out.cellG0 (below_made w _) hgrow hne; have hc1 : w1.cell? ⟨g, o + 1, none⟩ = some (.slice A put.length c) := HX.out.cellG1 (below_made w _) hgrow hne; have hc2 : w1.cell? ⟨g, o + 2, none⟩ = some (.int .i64 d) := HX.out.cellG2 (below_made w _) hgrow hne))
   all_goals
    obtain ⟨hx2, ha2, b2⟩ := Box.push (p := ⟨3, d, []⟩) HX.out (by decide) (by decide) (Apart.bare 3 d HA0.out) (below_made w _) hown1 hgrow
    have HO2 := Lib.hid (HOS.out.init.push (n := ps.length + 1) (cap := cap) nil_own hat (HS.out _ (by omega)))
    have HR2 := Lib.hid (push_fr (o := o) HOS.out.init (below_made w _) hgrow (.slice (some ⟨gg, 0, none⟩) (ps.length + 1) cap))
    have HX2 := Lib.hid hx2
    have HA2 := Lib.hid ha2
    have HB2 := Lib.hid b2
    clear hx2 ha2 b2
    go_wp2
    go_end0
    obtain ⟨r1, r2, r3⟩ := HX2.out.clearS (by decide) (by decide) HA2.out HO2.out
    exact ⟨rfl, r1, HB2.out.trans r2, HR2.out.trans r3⟩
  ·have e2 : dropL d = [] := by simp [dropL]; omega
   rw [e2, List.append_nil]
   go_enter Tryz.func142, Tryz.ntmps142
   go_wp2_with fail
   go_end0
   obtain ⟨r1, r2, r3⟩ := HX.out.clearS (by decide) (by decide) HA0.out HOS.out.init
   exact ⟨rfl, r1, r2, r3⟩
 ·have hput' : (0 : Int) < (put.length : Int) := by omega
  have e1 : putL put = [⟨2, 0, put⟩] := by simp [putL, hput]
  rw [e1]
  by_cases hd : 0 < d
  ·have e2 : dropL d = [⟨3, d, []⟩] := by simp [dropL, hd]
   rw [e2]
   generalize hQ : ps ++ [⟨2, 0, put⟩] ++ [⟨3, d, []⟩] = Q
   have HQ := Lib.hid hQ
   clear hQ
   go_enter Tryz.func142, Tryz.ntmps142
   go_wp2_with fail
   have lg := HX.out.lt
   have hlo : lo ≤ w.heap.size := Nat.le_trans HX.out.low (Nat.le_of_lt lg)
   have hne := HX.out.far HX.out.row (by decide)
   go_region_law ((refine step_append_lies _ (by rfl) (.tmp 12) (.tmp 18) 30 (by rfl) lo 71 i0 _ 3 40 Tryz.underlying30 hi0 hz0 hz1 hz2 rfl (by omega) v ps.length (cellsOf ps us) (by rfl) ((HX.out.row.alloc _).drew) ⟨w.heap.size, 0, none⟩ 1 1 [.int .i64 2, .int .i64 0, .slice A put.length c] (by rfl) (by rfl) (World.news_of_block (cs := #[.int .i64 2, .int .i64 0, .slice A put.length c]) (t := 71) (fr := (0, 0)) (heap_alloc_new w _)) (by simp [Value.oneCell']) (by omega) (by unfold maxLen; omega) (by omega) (by simp; omega) (w.heap.size + 1) (by simp) ?_; intro gg cap w1 hown1 hgrow hat hlt; have hf := HX.out.freeG o (below_made w _) hgrow hne; have hf1 := HX.out.freeG (o + 1) (below_made w _) hgrow hne; have hf2 := HX.out.freeG (o + 2) (below_made w _) hgrow hne; have hc : w1.cell? ⟨g, o, none⟩ = some v := HX.out.cellG0 (below_made w _) hgrow hne; have hc1 : w1.cell? ⟨g, o + 1, none⟩ = some (.slice A put.length c) := HX.out.cellG1 (below_made w _) hgrow hne; have hc2 : w1.cell? ⟨g, o + 2, none⟩ = some (.int .i64 d) := HX.out.cellG2 (below_made w _) hgrow hne))
   all_goals
    obtain ⟨hx1, ha1, b1⟩ := Box.push (p := ⟨2, 0, put⟩) HX.out (by decide) (by decide) HA.out (below_made w _) hown1 hgrow
    have HO1 := Lib.hid (HOS.out.init.push (n := ps.length + 1) (cap := cap) HOS.out.last hat (HS.out _ (by omega)))
    have HR1 := Lib.hid (push_fr (o := o) HOS.out.init (below_made w _) hgrow (.slice (some ⟨gg, 0, none⟩) (ps.length + 1) cap))
    clear hown1 hgrow hat hlt hlo hne lg c0 c1 c2 f0 f1 f2
    have HX1 := Lib.hid hx1
    have HA1 := Lib.hid ha1
    have HB1 := Lib.hid b1
    clear hx1 ha1 b1
    go_wp2_with fail
    clear hf hf1 hf2 hc hc1 hc2
    generalize (Value.slice (some ⟨gg, 0, none⟩) (ps.length + 1) cap) = v1 at *
    generalize w1.setCell ⟨g, o, none⟩ v1 = W1 at *
    have c0 := HX1.out.cell0
    have c1 := HX1.out.cell1
    have c2 := HX1.out.cell2
    have f0 := HX1.out.free o
    have f1 := HX1.out.free (o + 1)
    have f2 := HX1.out.free (o + 2)
    generalize hps : ps ++ [⟨2, 0, put⟩] = ps1 at *
    have hl1 : ps1.length ≤ 4294967297 := by rw [← hps]; simp; omega
    clear hps
    generalize us ++ [Value.slice A put.length c] = us1 at *
    have lg := HX1.out.lt
    have hlo : lo ≤ W1.heap.size := Nat.le_trans HX1.out.low (Nat.le_of_lt lg)
    have hne := HX1.out.far HX1.out.row (by decide)
    go_region_law ((refine step_append_lies _ (by rfl) (.tmp 31) (.tmp 37) 30 (by rfl) lo 71 i0 _ 3 40 Tryz.underlying30 hi0 hz0 hz1 hz2 rfl (by omega) v1 ps1.length (cellsOf ps1 us1) (by rfl) ((HX1.out.row.alloc _).drew) ⟨W1.heap.size, 0, none⟩ 1 1 [.int .i64 3, .int .i64 d, .slice none 0 0] (by rfl) (by rfl) (World.news_of_block (cs := #[.int .i64 3, .int .i64 d, .slice none 0 0]) (t := 71) (fr := (0, 0)) (heap_alloc_new W1 _)) (by simp [Value.oneCell']) (by omega) (by unfold maxLen; omega) (by omega) (by simp; omega) (W1.heap.size + 1) (by simp) ?_; intro gg cap w1 hown1 hgrow hat hlt; have hf := HX1.out.freeG o (below_made W1 _) hgrow hne; have hf1 := HX1.out.freeG (o + 1) (below_made W1 _) hgrow hne; have hf2 := HX1.out.freeG (o + 2) (below_made W1 _) hgrow hne; have hc : w1.cell? ⟨g, o, none⟩ = some v1 := HX1.out.cellG0 (below_made W1 _) hgrow hne; have hc1 : w1.cell? ⟨g, o + 1, none⟩ = some (.slice A put.length c) := HX1.out.cellG1 (below_made W1 _) hgrow hne; have hc2 : w1.cell? ⟨g, o + 2, none⟩ = some (.int .i64 d) := HX1.out.cellG2 (below_made W1 _) hgrow hne))
    all_goals
     obtain ⟨hx2, ha2, b2⟩ := Box.push (p := ⟨3, d, []⟩) HX1.out (by decide) (by decide) (Apart.bare 3 d HA1.out) (below_made W1 _) hown1 hgrow
     have HO2 := Lib.hid (HO1.out.push (n := ps1.length + 1) (cap := cap) nil_own hat (HS.out _ (by have := HR1.out.size; omega)))
     have HR2 := Lib.hid (push_fr (o := o) HO1.out (below_made W1 _) hgrow (.slice (some ⟨gg, 0, none⟩) (ps1.length + 1) cap))
     have HX2 := Lib.hid hx2
     have HA2 := Lib.hid ha2
     have HB2 := Lib.hid b2
     clear hx2 ha2 b2
     go_wp2
     go_end0
     obtain ⟨r1, r2, r3⟩ := HX2.out.clearS (by decide) (by decide) HA2.out HO2.out
     exact ⟨rfl, by rw [← HQ.out]; exact r1, HB1.out.trans (HB2.out.trans r2), HR1.out.trans (HR2.out.trans r3)⟩
  ·have e2 : dropL d = [] := by simp [dropL]; omega
   rw [e2, List.append_nil]
   go_enter Tryz.func142, Tryz.ntmps142
   go_wp2_with fail
   have lg := HX.out.lt
   have hlo : lo ≤ w.heap.size := Nat.le_trans HX.out.low (Nat.le_of_lt lg)
   have hne := HX.out.far HX.out.row (by decide)
   go_region_law ((refine step_append_lies _ (by rfl) (.tmp 12) (.tmp 18) 30 (by rfl) lo 71 i0 _ 3 40 Tryz.underlying30 hi0 hz0 hz1 hz2 rfl (by omega) v ps.length (cellsOf ps us) (by rfl) ((HX.out.row.alloc _).drew) ⟨w.heap.size, 0, none⟩ 1 1 [.int .i64 2, .int .i64 0, .slice A put.length c] (by rfl) (by rfl) (World.news_of_block (cs := #[.int .i64 2, .int .i64 0, .slice A put.length c]) (t := 71) (fr := (0, 0)) (heap_alloc_new w _)) (by simp [Value.oneCell']) (by omega) (by unfold maxLen; omega) (by omega) (by simp; omega) (w.heap.size + 1) (by simp) ?_; intro gg cap w1 hown1 hgrow hat hlt; have hf := HX.out.freeG o (below_made w _) hgrow hne; have hf1 := HX.out.freeG (o + 1) (below_made w _) hgrow hne; have hf2 := HX.out.freeG (o + 2) (below_made w _) hgrow hne; have hc : w1.cell? ⟨g, o, none⟩ = some v := HX.out.cellG0 (below_made w _) hgrow hne; have hc1 : w1.cell? ⟨g, o + 1, none⟩ = some (.slice A put.length c) := HX.out.cellG1 (below_made w _) hgrow hne; have hc2 : w1.cell? ⟨g, o + 2, none⟩ = some (.int .i64 d) := HX.out.cellG2 (below_made w _) hgrow hne))
   all_goals
    obtain ⟨hx1, ha1, b1⟩ := Box.push (p := ⟨2, 0, put⟩) HX.out (by decide) (by decide) HA.out (below_made w _) hown1 hgrow
    have HO2 := Lib.hid (HOS.out.init.push (n := ps.length + 1) (cap := cap) HOS.out.last hat (HS.out _ (by omega)))
    have HR2 := Lib.hid (push_fr (o := o) HOS.out.init (below_made w _) hgrow (.slice (some ⟨gg, 0, none⟩) (ps.length + 1) cap))
    have HX2 := Lib.hid hx1
    have HA2 := Lib.hid ha1
    have HB2 := Lib.hid b1
    clear hx1 ha1 b1
    go_wp2
    go_end0
    obtain ⟨r1, r2, r3⟩ := HX2.out.clearS (by decide) (by decide) HA2.out HO2.out
    exact ⟨rfl, r1, HB2.out.trans r2, HR2.out.trans r3⟩
theorem implDrop_f (S : Nat → Prop) (lo g o : Nat) (C : Nat → Option Value) (ps : List Pt) (put : List Int) (d n : Int) (w : World) (hb : BAtS S lo g o C 185 w ps put d) (hS : ∀ b, w.heap.size ≤ b → S b) (h0 : 0 ≤ d) (h1 : d ≤ 4611686018427387904) (h2 : 0 ≤ n) (h3 : n ≤ 1048576) :
  Calls Tryz.prog 141 #[.pointer (some ⟨g, o, none⟩), .int .i64 n] w (BuiltS S lo g o C 185 w ps put (d + n)) := by
 obtain ⟨v, u, us, hx, ha, hos⟩ := hb
 have HS := Lib.hid hS
 have HOS := Lib.hid hos
 clear hS hos
 have c2 := hx.cell2
 have f2 := hx.free (o + 2)
 have HX := Lib.hid hx
 have HA := Lib.hid ha
 clear hx ha
 go_enter Tryz.func141, Tryz.ntmps141
 go_wp2
 go_end0
 obtain ⟨r1, r2, r3⟩ := HX.out.dropS (d' := d + n) (by decide) (by decide) HA.out HOS.out
 exact ⟨rfl, r1, r2, r3⟩
theorem implPut_f (S : Nat → Prop) (lo g o : Nat) (C : Nat → Option Value) (ps : List Pt) (put : List Int) (d : Int) (A : Option Addr) (c : Nat) (zs : List Int) (w : World) (hb : BAtS S lo g o C 185 w ps put d) (hS : ∀ b, w.heap.size ≤ b → S b) (hr : Row (Value.int .i64) w w.heap.size A zs) (hp : put.length ≤ 4294967296) (hz : zs.length ≤ 4294967296) :
  Calls Tryz.prog 140 #[.pointer (some ⟨g, o, none⟩), .slice A zs.length c] w (BuiltS S lo g o C 185 w ps (put ++ zs) d) := by
 obtain ⟨i0, hi0, hz0, hz1, hz2⟩ := info_parts ints_info
 obtain ⟨v, u, us, hx, ha, hos⟩ := hb
 have HS := Lib.hid hS
 have HOS := Lib.hid hos
 clear hS hos
 obtain ⟨Au, cu, rfl⟩ := own_form (ha.last hx.len)
 simp only at hx ha
 have c1 := hx.cell1
 have f1 := hx.free (o + 1)
 have ho := Lib.hid (ha.last hx.len)
 have hlo : lo ≤ w.heap.size := Nat.le_trans hx.low (Nat.le_of_lt hx.lt)
 have HX := Lib.hid hx
 have HA := Lib.hid ha
 clear hx ha
 by_cases hn : 0 < zs.length
 ·obtain ⟨ad, rfl, hbk, hcs⟩ := hr hn
  have hcs' : ∀ j x, (zs.map (Value.int .i64))[j]? = some x → w.cell? (ad.add j) = some x := fun j x hx => by
   rw [List.getElem?_map] at hx
   obtain ⟨z, hz, rfl⟩ := Option.map_eq_some_iff.1 hx
   exact hcs j z hz
  have HC := Lib.hid hcs'
  clear hcs hcs' hr
  have hug := HX.out.far ho.out (by decide)
  go_enter Tryz.func140, Tryz.ntmps140
  go_wp2_with (at_builtin; refine wpList_append_lies _ rfl (.tmp 8) (.tmp 9) 22 rfl lo 3 i0 (.int .i64 0) 1 8 Tryz.underlying22 hi0 hz0 hz1 hz2 rfl (by decide) (.slice Au put.length cu) put.length (put.map (Value.int .i64)) rfl ho.out ad zs.length c (zs.map (Value.int .i64)) rfl (by simp) HC.out (by simp [Value.oneCell']) (by omega) (by unfold maxLen; omega) (by omega) hlo w.heap.size rfl ?_; intro gg cap w1 hown1 hgrow hat hlt; have hf := HX.out.freeG (o + 1) (Below.refl _ _) hgrow hug; have hc : w1.cell? ⟨g, o + 1, none⟩ = some (.slice Au put.length cu) := HX.out.cellG1 (Below.refl _ _) hgrow hug)
  go_end0
  obtain ⟨r1, r2, r3⟩ := Box.moreS (put' := put ++ zs) HX.out (by decide) (by decide) HA.out (by simpa using hown1) hgrow (hat.elim (fun e => .inl (by rw [e]; rfl)) (fun e => .inr (by rw [← e]; rfl))) HOS.out (HS.out _ (Nat.le_refl _))
  exact ⟨rfl, r1, r2, r3⟩
 ·have e0 : zs = [] := List.eq_nil_of_length_eq_zero (by omega)
  subst e0
  rw [List.append_nil]
  go_enter Tryz.func140, Tryz.ntmps140
  go_wp2_with (at_builtin; refine wpList_append_zero rfl (.tmp 8) (.tmp 9) 22 rfl lo 3 i0 1 Tryz.underlying22 hi0 (.slice Au put.length cu) put.length (put.map (Value.int .i64)) rfl ho.out A c rfl ?_)
  go_end0
  obtain ⟨r1, r2, r3⟩ := Box.moreS (put' := put) HX.out (by decide) (by decide) HA.out ho.out ⟨rfl, rfl, rfl, Nat.le_refl _, fun _ _ _ => rfl⟩ (.inl rfl) HOS.out (HS.out _ (Nat.le_refl _))
  exact ⟨rfl, r1, r2, r3⟩
theorem implDone_f (S : Nat → Prop) (lo g o : Nat) (C : Nat → Option Value) (ps : List Pt) (put : List Int) (d : Int) (w : World) (hb : BAtS S lo g o C 185 w ps put d) (hS : ∀ b, w.heap.size ≤ b → S b) (hl : ps.length ≤ 4294967296) (hp : put.length ≤ 4294967296) :
  Calls Tryz.prog 132 #[.pointer (some ⟨g, o, none⟩)] w (GoneX S lo g o C (ps ++ putL put ++ dropL d) w) := by
 go_enter Tryz.func132, Tryz.ntmps132
 go_wp2_with fail
 refine (implFlush_f S lo g o C ps put d w hb hS hl hp).mono ?_
 rintro e w1 ⟨rfl, ⟨v, us, hx, ha, hos⟩, b1, fr1⟩
 have HS := Lib.hid hS
 have HOS := Lib.hid hos
 have HR := Lib.hid fr1
 clear hS hos fr1
 obtain ⟨Av, cv, rfl⟩ := own_form hx.row
 have c0 := hx.cell0
 have HX := Lib.hid hx
 have HA := Lib.hid ha
 clear hx ha
 generalize ps ++ putL put ++ dropL d = q at *
 go_wp2
 go_ret
 exact ⟨⟨_, us, rfl, HX.out.parts HA.out, b1, HR.out, HX.out.row, HX.out.len, HOS.out.2.1, HOS.out.2.2⟩, _, _, us, HX.out⟩
theorem implKeep_f (S : Nat → Prop) (lo g o : Nat) (C : Nat → Option Value) (ps : List Pt) (put : List Int) (d n : Int) (w : World) (hb : BAtS S lo g o C 185 w ps put d) (hS : ∀ b, w.heap.size ≤ b → S b) (hl : ps.length ≤ 4294967296) (hp : put.length ≤ 4294967296) (hn : ¬ n = 0) (hn0 : 0 ≤ n) (hn1 : n ≤ 1048576)
  (hq : ∀ p ∈ ps ++ putL put ++ dropL d, 0 ≤ p.n ∧ p.n ≤ 4611686018427387904) (hql : (ps ++ putL put ++ dropL d).length ≤ 4294967298) :
  Calls Tryz.prog 139 #[.pointer (some ⟨g, o, none⟩), .int .i64 n] w (FlushedS S lo g o C 185 w (keepTo (ps ++ putL put ++ dropL d) n)) := by
 obtain ⟨i0, hi0, hz0, hz1, hz2⟩ := info_parts part_info
 go_enter Tryz.func139, Tryz.ntmps139
 go_wp2_with fail
 refine (implFlush_f S lo g o C ps put d w hb hS hl hp).mono ?_
 rintro e w1 ⟨rfl, ⟨v, us, hx, ha, hos⟩, b1, fr1⟩
 have HS := Lib.hid hS
 have HOS := Lib.hid hos
 have HR := Lib.hid fr1
 clear hS hos fr1
 generalize ps ++ putL put ++ dropL d = q at *
 have c0 := hx.cell0
 have f0 := hx.free o
 have hne := hx.far hx.row (by decide)
 have hlo : lo ≤ w1.heap.size := Nat.le_trans hx.low (Nat.le_of_lt hx.lt)
 rcases q.eq_nil_or_concat with rfl | ⟨r, p, rfl⟩
 ·obtain ⟨Av, cv, rfl⟩ := own_form hx.row
  have HX := Lib.hid hx
  have HA := Lib.hid ha
  clear hx ha
  go_wp2_with (at_builtin; refine wpList_append_lies _ rfl (.tmp 44) (.tmp 47) 30 rfl lo 71 i0 _ 3 40 Tryz.underlying30 hi0 hz0 hz1 hz2 rfl (by omega) (.slice Av 0 cv) 0 (cellsOf [] us) rfl (HX.out.row.alloc _) ⟨w1.heap.size, 0, none⟩ 1 1 [.int .i64 1, .int .i64 n, .slice none 0 0] rfl rfl (World.news_of_block (cs := #[.int .i64 1, .int .i64 n, .slice none 0 0]) (t := 71) (fr := (0, 0)) (heap_alloc_new w1 _)) (by simp [Value.oneCell']) (by omega) (by unfold maxLen; omega) (by omega) (by simp; omega) (w1.heap.size + 1) (by simp) ?_; intro gg cap w2 hown1 hgrow hat hlt; have hf := HX.out.freeG o (below_new w1 _) hgrow hne; have hc : w2.cell? ⟨g, o, none⟩ = some (.slice Av 0 cv) := HX.out.cellG0 (below_new w1 _) hgrow hne)
  go_end0
  obtain ⟨hx2, ha2, b2⟩ := Box.push (p := ⟨1, n, []⟩) HX.out (by decide) (by decide) (Apart.bare 1 n HA.out) (below_new w1 _) hown1 hgrow
  refine ⟨rfl, ?_, b1.trans b2, HR.out.trans (push_fr (o := o) HOS.out (below_new w1 _) hgrow _)⟩
  rw [keepTo_nil]
  exact ⟨_, _, hx2, ha2, HOS.out.push nil_own hat (HS.out _ (by have := HR.out.size; omega))⟩
 ·rw [List.concat_eq_append] at *
  have hrl : (r ++ [p]).length = r.length + 1 := by simp
  rw [hrl] at hql
  have hp0 := hq p (by simp)
  clear hq
  rcases hx.row.2 with ⟨_, h0⟩ | ⟨gv, cap0, cur, rfl, hgv, hhv, hcap, hcap2, _, _⟩
  ·simp at h0
  rw [hrl] at c0 hne hcap hx
  have hrow : w1.ownsRow lo 71 3 (.slice (some ⟨gv, 0, none⟩) (r.length + 1) cap0) (r.length + 1) (cellsOf (r ++ [p]) us) := by have := hx.row; rwa [hrl] at this
  have k0 : w1.cell? ⟨gv, r.length * 3, none⟩ = some (.int .i64 p.kind) := by
   have := hrow.cellAt (r.length * 3) (by omega)
   obtain ⟨u, hu⟩ := idx_some (l := us) (i := r.length) (by rw [hx.len]; simp)
   rw [this, (cellsOf_at (r ++ [p]) us r.length p u (by simp) hu).1]
  have k1 : w1.cell? ⟨gv, r.length * 3 + 1, none⟩ = some (.int .i64 p.n) := by
   have := hrow.cellAt (r.length * 3 + 1) (by omega)
   obtain ⟨u, hu⟩ := idx_some (l := us) (i := r.length) (by rw [hx.len]; simp)
   rw [this, (cellsOf_at (r ++ [p]) us r.length p u (by simp) hu).2.1]
  have fv := hrow.frozenAt (r.length * 3 + 1)
  have HRW := Lib.hid hrow
  clear hrow
  have HX := Lib.hid hx
  have HA := Lib.hid ha
  clear hx ha hhv
  by_cases hk : p.kind = 1
  ·go_wp2
   go_end0
   obtain ⟨hx2, ha2, b2⟩ := Box.setN (b := p.n + n) HX.out (by decide) (by decide) HA.out
   refine ⟨rfl, ?_, b1.trans b2, HR.out.trans (setN_fr HOS.out _)⟩
   rw [keepTo_t n hk]
   exact ⟨_, _, hx2, ha2, HOS.out⟩
  ·go_wp2_with (at_builtin; refine wpList_append_lies _ rfl (.tmp 44) (.tmp 47) 30 rfl lo 71 i0 _ 3 40 Tryz.underlying30 hi0 hz0 hz1 hz2 rfl (by omega) (.slice (some ⟨gv, 0, none⟩) (r.length + 1) cap0) (r.length + 1) (cellsOf (r ++ [p]) us) rfl (HRW.out.alloc _) ⟨w1.heap.size, 0, none⟩ 1 1 [.int .i64 1, .int .i64 n, .slice none 0 0] rfl rfl (World.news_of_block (cs := #[.int .i64 1, .int .i64 n, .slice none 0 0]) (t := 71) (fr := (0, 0)) (heap_alloc_new w1 _)) (by simp [Value.oneCell']) (by omega) (by unfold maxLen; omega) (by omega) (by simp; omega) (w1.heap.size + 1) (by simp) ?_; intro gg cap w2 hown1 hgrow hat hlt; have hf := HX.out.freeG o (below_new w1 _) hgrow hne; have hc : w2.cell? ⟨g, o, none⟩ = some (.slice (some ⟨gv, 0, none⟩) (r.length + 1) cap0) := HX.out.cellG0 (below_new w1 _) hgrow hne)
   go_end0
   obtain ⟨hx2, ha2, b2⟩ := Box.push (p := ⟨1, n, []⟩) HX.out (by decide) (by decide) (Apart.bare 1 n HA.out) (below_new w1 _) (by rw [hrl]; exact hown1) hgrow
   rw [hrl] at hx2 ha2 b2
   refine ⟨rfl, ?_, b1.trans b2, HR.out.trans (push_fr (o := o) HOS.out (below_new w1 _) hgrow _)⟩
   rw [keepTo_f n hk]
   exact ⟨_, _, hx2, ha2, HOS.out.push nil_own hat (HS.out _ (by have := HR.out.size; omega))⟩
theorem implKeep_zero (g o : Nat) (w : World) : Calls Tryz.prog 139 #[.pointer (some ⟨g, o, none⟩), .int .i64 0] w fun e w' => e = .returned (.tuple #[]) ∧ w = w' := by
 go_enter Tryz.func139, Tryz.ntmps139
 go_wp2
 first | go_end0 | (refine bodyPost_ret (results_none rfl _ _ _) rfl ?_)
 exact ⟨rfl, rfl⟩
end Go.Proofs.YtbpeeokgpkjnmaaGreatDoor.low.xb
namespace Go.Proofs.YtbpeeokgpkjnmaaGreatDoor.low
open Go.RowKit
set_option linter.unusedVariables false
def Vp (p : Pt) : Prop := ((p.kind = 1 ∨ p.kind = 3) ∧ 0 ≤ p.n ∧ p.n ≤ 200 ∧ p.signs = []) ∨ (p.kind = 2 ∧ p.n = 0 ∧ p.signs.length ≤ 200) ∨ (p.kind = 0 ∧ p.n = 0 ∧ p.signs = [])
theorem Vp.of {p : Pt} (h : okPt p = true) : Vp p := by
 have := of_okPt h
 unfold Vp
 obtain ⟨k, n, zs⟩ := p
 simp only at this ⊢
 have e : zs.length = 0 → zs = [] := List.eq_nil_of_length_eq_zero
 rcases (show k = 1 ∨ k = 2 ∨ k = 3 by omega) with rfl | rfl | rfl
 ·exact .inl ⟨.inl rfl, by omega, by omega, e (by omega)⟩
 ·exact .inr (.inl ⟨rfl, by omega, by omega⟩)
 ·exact .inl ⟨.inr rfl, by omega, by omega, e (by omega)⟩
theorem Vp.size {p : Pt} (h : Vp p) : p.n + (p.signs.length : Int) = (sizeP p : Int) ∧ sizeP p ≤ 200 ∧ 0 ≤ p.n ∧ p.n ≤ 200 ∧ p.signs.length ≤ 200 := by
 obtain ⟨k, n, zs⟩ := p
 unfold sizeP
 rcases h with ⟨h1, h2, h3, h4⟩ | ⟨h1, h2, h3⟩ | ⟨h1, h2, h3⟩ <;> simp only at * <;> subst_vars <;> simp <;> (try omega)
 rcases h1 with rfl | rfl <;> simp <;> omega
theorem Vp.sz {p : Pt} (h : Vp p) (h0 : 0 < sizeP p) : szP_ p := by
 obtain ⟨k, n, zs⟩ := p
 have hs := h.size
 unfold szP_
 rcases h with ⟨h1, h2, h3, h4⟩ | ⟨h1, h2, h3⟩ | ⟨h1, h2, h3⟩ <;> simp only at * <;> subst_vars <;> simp [sizeP] at * <;> omega
structure Orr (lo g : Nat) (w : World) (p : Pt) (ps : List Pt) : Prop where
 box : ∃ B cb A c, w.heap[g]? = some (.cells #[.int .i64 p.kind, .int .i64 p.n, .slice B p.signs.length cb, .slice A ps.length c] 183 (0, 0)) ∧ RdC w lo (encInts p.signs) (.slice B p.signs.length cb) ∧ RdC w lo (encPs ps) (.slice A ps.length c)
 ge : lo ≤ g
 vp : Vp p
 vs : ∀ x ∈ ps, okPt x = true
 ln : ps.length ≤ 1048576
section
variable {lo g : Nat} {w w' : World} {p : Pt} {ps : List Pt}
theorem Orr.lt (h : Orr lo g w p ps) : g < w.heap.size := by obtain ⟨B, cb, A, c, h1, _⟩ := h.box; exact lt_of_some h1
theorem Orr.keep (h : Orr lo g w p ps) (hg : w'.heap[g]? = w.heap[g]?) (hb : Below lo w w') : Orr lo g w' p ps := by
 obtain ⟨B, cb, A, c, h1, h2, h3⟩ := h.box
 exact ⟨⟨B, cb, A, c, hg.trans h1, h2.below hb, h3.below hb⟩, h.ge, h.vp, h.vs, h.ln⟩
theorem Orr.past (h : Orr lo g w p ps) (hb : Below w.heap.size w w') : Orr lo g w' p ps :=
 h.keep (hb.block _ h.lt) (hb.mono (Nat.le_trans h.ge (Nat.le_of_lt h.lt)))
end
theorem parts_hd {w : World} {B : Nat} {A : Option Addr} {n c : Nat} {p : Pt} {ps : List Pt} (h : RdC w B (encPs (p :: ps)) (.slice A n c)) : ∃ b off A' c', A = some ⟨b, off, none⟩ ∧ b < B ∧ ps.length + 1 ≤ c ∧ w.cell? ⟨b, off, none⟩ = some (.int .i64 p.kind) ∧ w.cell? ⟨b, off + 1, none⟩ = some (.int .i64 p.n) ∧ w.cell? ⟨b, off + 2, none⟩ = some (.slice A' p.signs.length c') ∧ RdC w B (encInts p.signs) (.slice A' p.signs.length c') ∧
  (∀ d, ps.length ≤ d → RdC w B (encPs ps) (.slice (some ⟨b, off + 3, none⟩) ps.length d)) := by
 obtain ⟨A0, c0, hv, hc, h⟩ := h
 injection hv with e1 e2 e3
 subst e1 e3
 obtain ⟨ad, hA, hb, hs, hr⟩ := h (by simp)
 obtain ⟨b, off, spot⟩ := ad
 obtain rfl : spot = none := by
  rcases hs with hs | hs
  ·cases hs
  ·exact hs
 obtain ⟨⟨⟨v0, h0, rfl⟩, ⟨v1, h1, rfl⟩, ⟨v2, h2, r2⟩, _⟩, hr⟩ := hr
 obtain ⟨A', c', rfl, r3, _⟩ := ints_rd r2
 rw [add_at] at h0 h1 h2
 refine ⟨b, off, A', c', hA, hb, by simpa using hc, by simpa using h0, by simpa using h1, by simpa using h2, r2, fun d hd => ⟨some ⟨b, off + 3, none⟩, d, by simp, by simpa using hd, fun _ => ⟨⟨b, off + 3, none⟩, rfl, hb, .inr rfl, ?_⟩⟩⟩
 have key : ∀ (rs : List (List Dat)) (o : Nat), RdR w B 3 ⟨b, off, none⟩ (o + 3) rs → RdR w B 3 ⟨b, off + 3, none⟩ o rs := by
  have keyL : ∀ (ds : List Dat) (o : Nat), RdL w B ⟨b, off, none⟩ (o + 3) ds → RdL w B ⟨b, off + 3, none⟩ o ds := by
   intro ds
   induction ds with
   | nil => intro o _; trivial
   | cons d ds ih =>
    intro o ⟨⟨v, h1, h2⟩, h3⟩
    refine ⟨⟨v, ?_, h2⟩, ih (o + 1) (by rw [show o + 1 + 3 = o + 3 + 1 by omega]; exact h3)⟩
    rw [add_at] at h1 ⊢
    rw [show off + 3 + o = off + (o + 3) by omega]
    exact h1
  intro rs
  induction rs with
  | nil => intro o _; trivial
  | cons r rs ih =>
   intro o ⟨h1, h2⟩
   exact ⟨keyL r o h1, ih (o + 3) (by rw [show o + 3 + 3 = o + 3 + 3 by omega]; exact h2)⟩
 exact key _ 0 hr
theorem parts_none {w : World} {B : Nat} {A : Option Addr} {c : Nat} : RdC w B (encPs []) (.slice A 0 c) := ⟨A, c, by simp, by simp, fun h => by simp at h⟩
def restOf (g : Nat) (w : World) : Nat := match w.cell? ⟨g, 3, none⟩ with
 | some (.slice _ n _) => n
 | _ => 0
theorem orr_rest {lo g : Nat} {w : World} {p : Pt} {ps : List Pt} (h : Orr lo g w p ps) : restOf g w = ps.length := by
 obtain ⟨B, cb, A, c, h1, _⟩ := h.box
 have c3 : w.cell? ⟨g, 3, none⟩ = some (.slice A ps.length c) := cell_of_row _ _ 3 _ _ _ h1
 unfold restOf
 rw [c3]
def MoreP (lo g : Nat) (p : Pt) (ps : List Pt) (w : World) (e : Ending) (w' : World) : Prop := ∃ p' ps', e = .returned (.bool (decide (0 < sizeP p'))) ∧ Orr lo g w' p' ps' ∧ unitsP p' ++ units ps' = unitsP p ++ units ps ∧ (sizeP p' = 0 → ps' = []) ∧ Below lo w w' ∧ Fr (fun q => q = g) w w'
def nextW (g b off c k : Nat) (kind n : Int) (u : Value) (w : World) : World := ((((w.drew.setCell ⟨g, 0, none⟩ (.int .i64 kind)).setCell ⟨g, 1, none⟩ (.int .i64 n)).setCell ⟨g, 2, none⟩ u).setCell ⟨g, 3, none⟩ (.slice (if c = 1 then some ⟨b, off, none⟩ else some ⟨b, off + 3, none⟩) k (c - 1)))
theorem heap_drew (w : World) (g : Nat) : w.drew.heap[g]? = w.heap[g]? := rfl
theorem nextW_fr (g b off c k : Nat) (kind n : Int) (u : Value) (w : World) : Fr (fun q => q = g) w (nextW g b off c k kind n u w) :=
 (((((Fr.refl (fun q => q = g) w).drew).setCell (p := ⟨g, 0, none⟩) rfl _).setCell (p := ⟨g, 1, none⟩) rfl _).setCell (p := ⟨g, 2, none⟩) rfl _).setCell (p := ⟨g, 3, none⟩) rfl _
theorem nextW_below {lo g : Nat} (hg : lo ≤ g) (b off c k : Nat) (kind n : Int) (u : Value) (w : World) : Below lo w (nextW g b off c k kind n u w) :=
 (((((Below.refl lo w).drew).setCell (p := ⟨g, 0, none⟩) hg _).setCell (p := ⟨g, 1, none⟩) hg _).setCell (p := ⟨g, 2, none⟩) hg _).setCell (p := ⟨g, 3, none⟩) hg _
theorem orr_next {lo g b off c c' : Nat} {A' : Option Addr} {w : World} {q : Pt} {qs : List Pt} {v0 v1 v2 v3 : Value} (h1 : w.heap[g]? = some (.cells #[v0, v1, v2, v3] 183 (0, 0))) (hr : RdC w lo (encInts q.signs) (.slice A' q.signs.length c')) (ht : ∀ d, qs.length ≤ d → RdC w lo (encPs qs) (.slice (some ⟨b, off + 3, none⟩) qs.length d)) (hc : qs.length + 1 ≤ c) (hge : lo ≤ g)
  (hv : okPt q = true) (hvs : ∀ x ∈ qs, okPt x = true) (hln : qs.length ≤ 1048576) : Orr lo g (nextW g b off c qs.length q.kind q.n (.slice A' q.signs.length c') w) q qs := by
 have hb := nextW_below hge b off c qs.length q.kind q.n (.slice A' q.signs.length c') w
 refine ⟨⟨A', c', (if c = 1 then some ⟨b, off, none⟩ else some ⟨b, off + 3, none⟩), c - 1, ?_, hr.below hb, ?_⟩, hge, Vp.of hv, hvs, hln⟩
 ·unfold nextW
  rw [heap_setCell_same _ _ _ _ _ _ (heap_setCell_same _ _ _ _ _ _ (heap_setCell_same _ _ _ _ _ _ (heap_setCell_same _ _ _ _ _ _ ((heap_drew w g).trans h1))))]
  rfl
 ·by_cases e : c = 1
  ·rw [if_pos e]
   obtain rfl : qs = [] := List.eq_nil_of_length_eq_zero (by omega)
   exact parts_none
  ·rw [if_neg e]
   exact (ht _ (by omega)).below hb
theorem implMore (lo g : Nat) (p : Pt) (ps : List Pt) (w : World) (h : Orr lo g w p ps) : Calls Tryz.prog 155 #[.pointer (some ⟨g, 0, none⟩)] w (MoreP lo g p ps w) := by
 have hgw := h.lt
 go_enter Tryz.func155, Tryz.ntmps155
 go_wp2
 go_loopw [2] (fun t wr => t = .bool false ∧ ∃ p' ps', Orr lo g wr p' ps' ∧ unitsP p' ++ units ps' = unitsP p ++ units ps ∧ Below lo w wr ∧ Fr (fun q => q = g) w wr) (fun _ wr => restOf g wr)
 case atStart => exact ⟨rfl, p, ps, h, rfl, Below.refl _ _, Fr.refl _ _⟩
 case round =>
  obtain ⟨rfl, p', ps', ho, hu, hbel, hfr⟩ := hrel
  obtain ⟨B, cb, A, c, h1, h2, h3⟩ := ho.box
  have hz := ho.vp.size
  have c0 : wr.cell? ⟨g, 0, none⟩ = some (.int .i64 p'.kind) := cell_of_row _ _ 0 _ _ _ h1
  have c1 : wr.cell? ⟨g, 1, none⟩ = some (.int .i64 p'.n) := cell_of_row _ _ 1 _ _ _ h1
  have c2 : wr.cell? ⟨g, 2, none⟩ = some (.slice B p'.signs.length cb) := cell_of_row _ _ 2 _ _ _ h1
  have c3 : wr.cell? ⟨g, 3, none⟩ = some (.slice A ps'.length c) := cell_of_row _ _ 3 _ _ _ h1
  have hlt := ho.lt
  have HO := Lib.hid ho
  have HU := Lib.hid hu
  have HF := Lib.hid hfr
  have HZ := Lib.hid hz
  have H1 := Lib.hid h1
  have HM := Lib.hid (show restOf g wr = ps'.length by unfold restOf; rw [c3])
  clear ho hu hfr hz h1 h hgw
  go_wp2_with fail
  have hz := HZ.out
  refine (implSize_any p'.kind p'.n B p'.signs.length cb wr (by omega) (by omega) (by omega)).mono ?_
  clear hz c0 c1 c2
  rintro e w1 ⟨rfl, b1⟩
  have HB := Lib.hid b1
  have hlt1 : g < w1.heap.size := Nat.lt_of_lt_of_le hlt b1.size
  have h1' : w1.heap[g]? = some (.cells #[.int .i64 p'.kind, .int .i64 p'.n, .slice B p'.signs.length cb, .slice A ps'.length c] 183 (0, 0)) := (b1.block g hlt).trans H1.out
  have c3' : w1.cell? ⟨g, 3, none⟩ = some (.slice A ps'.length c) := cell_of_row _ _ 3 _ _ _ h1'
  have ho1 := HO.out.past b1
  have hb1 : Below lo w w1 := hbel.trans (b1.mono (Nat.le_trans ho1.ge (by have := HO.out.lt; omega)))
  have hf1 : Fr (fun q => q = g) w w1 := HF.out.trans (Fr.below b1)
  have H1' := Lib.hid h1'
  have HO1 := Lib.hid ho1
  have HF1 := Lib.hid hf1
  clear b1 c3 h1' ho1 hf1 HO HF HB H1 hbel
  rw [HZ.out.1]
  by_cases hs : sizeP p' = 0
  ·have g0 : (((sizeP p' : Nat) : Int) == 0) = true := by simp [hs]
   cases ps' with
   | nil =>
    have HS := Lib.hid hs
    clear hs
    go_wp2
    go_ret
    exact ⟨p', [], ret_b (by simp [HS.out]), HO1.out, HU.out, fun _ => rfl, hb1, HF1.out⟩
   | cons q qs =>
    have hql : ((qs.length : Int) + 1 == 0) = false := by simp; omega
    have hRd := HO1.out
    obtain ⟨B2, cb2, A2, c2, k1, k2, k3⟩ := hRd.box
    rw [H1'.out] at k1
    injection k1 with k1
    injection k1 with k1 _ _
    simp at k1
    obtain ⟨⟨rfl, rfl⟩, rfl, rfl⟩ := k1
    obtain ⟨b, off, A', c', rfl, hblt, hc, d0, d1, d2, r2, rt⟩ := parts_hd k3
    have f0 : ∀ o, w1.frozen? ⟨g, o, none⟩ = false := fun o => by simp [World.frozen?, H1'.out]
    have f1 := f0 0
    have f2 := f0 1
    have f3 := f0 2
    have f4 := f0 3
    have HK := Lib.hid (show RdC w1 lo (encInts q.signs) (.slice A' q.signs.length c') ∧ (∀ d, qs.length ≤ d → RdC w1 lo (encPs qs) (.slice (some ⟨b, off + 3, none⟩) qs.length d)) from ⟨r2, rt⟩)
    have c0 : w1.cell? ⟨g, 0, none⟩ = some (.int .i64 p'.kind) := cell_of_row _ _ 0 _ _ _ H1'.out
    have c1 : w1.cell? ⟨g, 1, none⟩ = some (.int .i64 p'.n) := cell_of_row _ _ 1 _ _ _ H1'.out
    have c2 : w1.cell? ⟨g, 2, none⟩ = some (.slice B p'.signs.length cb) := cell_of_row _ _ 2 _ _ _ H1'.out
    have hne : ¬ b = g := by have := HO1.out.ge; omega
    clear f0 r2 rt k2 k3 hRd hs
    have hq1 : (1 : Int) ≤ (qs.length : Int) + 1 := by omega
    go_wp2
    go_region
    all_goals
     go_roundw
     case rel =>
      have hv := HO1.out.vs
      have hln := HO1.out.ln
      have hx := orr_next H1'.out HK.out.1 HK.out.2 hc HO1.out.ge (hv q (by simp)) (fun x hx => hv x (by simp [hx])) (by simp at hln; omega)
      have hu : unitsP q ++ units qs = unitsP p ++ units ps := by
       rw [← HU.out, units_cons]
       have e : unitsP p' = [] := List.eq_nil_of_length_eq_zero (by rw [unitsP_len]; simpa using g0)
       rw [e]
       rfl
      repeat apply Exists.intro
      exact ⟨⟨rfl, q, qs, hx, hu, hb1.trans (nextW_below HO1.out.ge _ _ _ _ _ _ _ _), HF1.out.trans (nextW_fr _ _ _ _ _ _ _ _ _)⟩, rfl⟩
     case measure =>
      have hv := HO1.out.vs
      have hln := HO1.out.ln
      have hx := orr_next H1'.out HK.out.1 HK.out.2 hc HO1.out.ge (hv q (by simp)) (fun x hx => hv x (by simp [hx])) (by simp at hln; omega)
      rw [HM.out]
      refine Nat.lt_of_le_of_lt (Nat.le_of_eq (orr_rest hx)) ?_
      simp
  ·have g0 : (((sizeP p' : Nat) : Int) == 0) = false := by simp [hs]
   have HS := Lib.hid hs
   clear hs
   go_wp2
   go_ret
   exact ⟨p', ps', ret_b (by have := HS.out; simp; omega), HO1.out, HU.out, fun h => absurd h HS.out, hb1, HF1.out⟩
def cutL (p : Pt) (n : Nat) : Pt := if p.kind = 2 then ⟨2, 0, p.signs.take n⟩ else ⟨p.kind, (n : Int), []⟩
def cutR (p : Pt) (n : Nat) : Pt := if p.kind = 2 then ⟨2, 0, p.signs.drop n⟩ else ⟨p.kind, p.n - (n : Int), []⟩
def PtV (lo : Nat) (w : World) (p : Pt) (v : Value) : Prop := ∃ A c, v = .agg #[.int .i64 p.kind, .int .i64 p.n, .slice A p.signs.length c] ∧ RdC w lo (encInts p.signs) (.slice A p.signs.length c)
theorem PtV.below {lo : Nat} {w w' : World} {p : Pt} {v : Value} (h : PtV lo w p v) (hb : Below lo w w') : PtV lo w' p v := by
 obtain ⟨A, c, h1, h2⟩ := h
 exact ⟨A, c, h1, h2.below hb⟩
def CutP (lo : Nat) (p : Pt) (n : Nat) (w : World) (e : Ending) (w' : World) : Prop := ∃ v1 v2, e = .returned (.tuple #[v1, v2]) ∧ PtV lo w' (cutL p n) v1 ∧ PtV lo w' (cutR p n) v2 ∧ Below w.heap.size w w'
theorem ints_none {w : World} {B : Nat} {A : Option Addr} {c : Nat} : RdC w B (encInts []) (.slice A 0 c) := ⟨A, c, by simp, by simp, fun h => by simp at h⟩
theorem cut_below {lo : Nat} {w : World} (h : lo ≤ w.heap.size) (o1 o2 o3 : Obj) : Below lo w (((w.alloc o1).alloc o2).alloc o3).drew := (((((Below.refl lo w).alloc h _).alloc (by simp; omega) _).alloc (by simp; omega) _)).drew
theorem implCut (lo : Nat) (p : Pt) (n : Nat) (B : Option Addr) (cb : Nat) (w : World) (hv : Vp p) (hr : RdC w lo (encInts p.signs) (.slice B p.signs.length cb)) (hlo : lo ≤ w.heap.size) (h0 : 0 < n) (hn : n ≤ sizeP p) :
  Calls Tryz.prog 176 #[.agg #[.int .i64 p.kind, .int .i64 p.n, .slice B p.signs.length cb], .int .i64 (n : Int)] w (CutP lo p n w) := by
 have hz := hv.size
 by_cases hk : p.kind = 2
 ·have e1 : cutL p n = ⟨2, 0, p.signs.take n⟩ := by simp [cutL, hk]
  have e2 : cutR p n = ⟨2, 0, p.signs.drop n⟩ := by simp [cutR, hk]
  have hl : n ≤ p.signs.length := by simpa [sizeP, hk] using hn
  have g0 : (p.kind == 2) = true := by simp [hk]
  obtain ⟨A', c', hv', hrow, hcap⟩ := ints_rd hr
  injection hv' with x1 x2 x3
  subst x1 x3
  obtain ⟨ad, rfl, hb, hcell⟩ := hrow (by omega)
  have i1 : (0 : Int) ≤ (n : Int) := by omega
  have i2 : (n : Int) ≤ (p.signs.length : Int) := by omega
  have i3 : (n : Int) ≤ (cb : Int) := by omega
  have HR := Lib.hid hrow
  have H1 := Lib.hid e1
  have H2 := Lib.hid e2
  clear e1 e2 hrow hk hr hcell
  have hl1 : (p.signs.take n).length = n := by simp; omega
  have hl2 : (p.signs.drop n).length = p.signs.length - n := by simp
  have key : ∀ w', Below lo w w' → PtV lo w' ⟨2, 0, p.signs.take n⟩ (.agg #[.int .i64 2, .int .i64 0, .slice (some ad) n cb]) := fun w' hbw => by
   have := rd_ints (c := cb) (HR.out.init n) (by omega)
   rw [hl1] at this
   exact ⟨some ad, cb, by rw [hl1], by rw [hl1]; exact this.below hbw⟩
  have KEY := Lib.hid key
  clear key
  by_cases hcn : cb = n
  ·have e3 : p.signs.drop n = [] := List.drop_eq_nil_of_le (by omega)
   have e4 : p.signs.length = n := by omega
   have HL := Lib.hid e4
   have H3 := Lib.hid e3
   have HC := Lib.hid hcn
   clear e3 e4 hl1 hl2 hl i3 hcap
   subst hcn
   go_enter Tryz.func176, Tryz.ntmps176
   go_wp2
   go_region
   all_goals
    go_wp2
    refine bodyPost_ret (v := .tuple #[.agg #[.int .i64 2, .int .i64 0, .slice (some ad) cb cb], .agg #[.int .i64 2, .int .i64 0, .slice (some ad) (p.signs.length - cb) 0]]) (by simp [results, Tryz.results176, go_sem]) rfl ⟨_, _, rfl, ?_, ?_, ?_⟩
    ·rw [H1.out]
     exact KEY.out _ (cut_below hlo _ _ _)
    ·rw [H2.out, H3.out, HL.out, Nat.sub_self]
     exact ⟨some ad, 0, rfl, ints_none⟩
    ·exact cut_below (Nat.le_refl _) _ _ _
  ·have HL2 := Lib.hid hl2
   clear hl1 hl2
   go_enter Tryz.func176, Tryz.ntmps176
   go_wp2
   go_region
   all_goals
    go_wp2
    refine bodyPost_ret (v := .tuple #[.agg #[.int .i64 2, .int .i64 0, .slice (some ad) n cb], .agg #[.int .i64 2, .int .i64 0, .slice (some (ad.add n)) (p.signs.length - n) (cb - n)]]) (by simp [results, Tryz.results176, go_sem]) rfl ⟨_, _, rfl, ?_, ?_, ?_⟩
    ·rw [H1.out]
     exact KEY.out _ (cut_below hlo _ _ _)
    ·rw [H2.out]
     refine ⟨some (ad.add n), cb - n, by rw [HL2.out], ?_⟩
     rw [HL2.out]
     have := rd_ints (c := cb - n) (HR.out.tail n) (by rw [HL2.out]; omega)
     rw [HL2.out] at this
     exact this.below (cut_below hlo _ _ _)
    ·exact cut_below (Nat.le_refl _) _ _ _
 ·have e1 : cutL p n = ⟨p.kind, (n : Int), []⟩ := by simp [cutL, hk]
  have e2 : cutR p n = ⟨p.kind, p.n - (n : Int), []⟩ := by simp [cutR, hk]
  have g0 : (p.kind == 2) = false := by simp [hk]
  have hl : (n : Int) ≤ p.n := by have : sizeP p = p.n.toNat := by simp [sizeP, hk]
                                  omega
  have H1 := Lib.hid e1
  have H2 := Lib.hid e2
  clear e1 e2 hk hr
  go_enter Tryz.func176, Tryz.ntmps176
  go_wp2
  go_region
  all_goals
   go_wp2
   refine bodyPost_ret (v := .tuple #[.agg #[.int .i64 p.kind, .int .i64 (n : Int), .slice none 0 0], .agg #[.int .i64 p.kind, .int .i64 (p.n - (n : Int)), .slice none 0 0]]) (by simp [results, Tryz.results176, go_sem]) rfl ⟨_, _, rfl, ?_, ?_, ?_⟩
   ·rw [H1.out]
    exact ⟨none, 0, rfl, ints_none⟩
   ·rw [H2.out]
    exact ⟨none, 0, rfl, ints_none⟩
   ·exact cut_below (Nat.le_refl _) _ _ _
def TakeQ (lo g : Nat) (p : Pt) (ps : List Pt) (n : Nat) (w : World) (e : Ending) (w' : World) : Prop := ∃ v, e = .returned v ∧ PtV lo w' (cutL p n) v ∧ Orr lo g w' (cutR p n) ps ∧ Below lo w w' ∧ Fr (fun q => q = g) w w'
theorem cutR_vp {p : Pt} {n : Nat} (h : Vp p) (hn : n ≤ sizeP p) : Vp (cutR p n) := by
 obtain ⟨k, m, zs⟩ := p
 unfold cutR
 unfold sizeP at hn
 rcases h with ⟨h1, h2, h3, h4⟩ | ⟨h1, h2, h3⟩ | ⟨h1, h2, h3⟩ <;> simp only at * <;> subst_vars
 ·have hk : ¬ k = 2 := by omega
  rw [if_neg hk] at hn ⊢
  exact .inl ⟨h1, by simp; omega, by simp; omega, rfl⟩
 ·exact .inr (.inl ⟨rfl, rfl, by simp; omega⟩)
 ·simp at hn
  subst hn
  exact .inr (.inr ⟨rfl, rfl, rfl⟩)
theorem take_below {lo : Nat} (w : World) (g m : Nat) (x0 x1 x2 y0 y1 y2 : Value) (o1 o2 : Obj) (hg : lo ≤ g) (hm : lo ≤ m) (hs : g < w.heap.size) : Below lo w ((((((((w.setCell ⟨g, 0, none⟩ x0).setCell ⟨g, 1, none⟩ x1).setCell ⟨g, 2, none⟩ x2).setCell ⟨m, 0, none⟩ y0).setCell ⟨m, 1, none⟩ y1).setCell ⟨m, 2, none⟩ y2).alloc o1).alloc o2) :=
 ((((((((Below.refl lo w).setCell (p := ⟨g, 0, none⟩) hg _).setCell (p := ⟨g, 1, none⟩) hg _).setCell (p := ⟨g, 2, none⟩) hg _).setCell (p := ⟨m, 0, none⟩) hm _).setCell (p := ⟨m, 1, none⟩) hm _).setCell (p := ⟨m, 2, none⟩) hm _).alloc (by simp; omega) _).alloc (by simp; omega) _
theorem implTake (lo g : Nat) (p : Pt) (ps : List Pt) (n : Nat) (w : World) (h : Orr lo g w p ps) (h0 : 0 < n) (hn : n ≤ sizeP p) : Calls Tryz.prog 168 #[.pointer (some ⟨g, 0, none⟩), .int .i64 (n : Int)] w (TakeQ lo g p ps n w) := by
 obtain ⟨B, cb, A, c, h1, h2, h3⟩ := h.box
 have hlt := h.lt
 have c0 : w.cell? ⟨g, 0, none⟩ = some (.int .i64 p.kind) := cell_of_row _ _ 0 _ _ _ h1
 have c1 : w.cell? ⟨g, 1, none⟩ = some (.int .i64 p.n) := cell_of_row _ _ 1 _ _ _ h1
 have c2 : w.cell? ⟨g, 2, none⟩ = some (.slice B p.signs.length cb) := cell_of_row _ _ 2 _ _ _ h1
 have hge := h.ge
 have HV := Lib.hid h.vp
 have HO := Lib.hid h
 have H1 := Lib.hid h1
 clear h h1
 go_enter Tryz.func168, Tryz.ntmps168
 have b0 := alloc_below w (.cells #[.int .i64 0, .int .i64 0, .slice none 0 0] 71)
 go_wp2_with fail
 refine (implCut lo p n B cb _ HV.out (h2.below (b0.mono (by omega))) (by simp; omega) h0 hn).mono ?_
 rintro e w1 ⟨v1, v2, rfl, ⟨A1, c1'', rfl, r1⟩, ⟨A2, c2'', rfl, r2⟩, b1⟩
 have hb1 : Below w.heap.size w w1 := b0.trans (b1.mono b0.size)
 have hgl : g < w1.heap.size := Nat.lt_of_lt_of_le hlt hb1.size
 have h1' := (hb1.block g hlt).trans H1.out
 have f0 : ∀ o, w1.frozen? ⟨g, o, none⟩ = false := fun o => by simp [World.frozen?, h1']
 have f1 := f0 0
 have f2 := f0 1
 have f3 := f0 2
 have c0' : w1.cell? ⟨g, 0, none⟩ = some (.int .i64 p.kind) := cell_of_row _ _ 0 _ _ _ h1'
 have c1' : w1.cell? ⟨g, 1, none⟩ = some (.int .i64 p.n) := cell_of_row _ _ 1 _ _ _ h1'
 have c2' : w1.cell? ⟨g, 2, none⟩ = some (.slice B p.signs.length cb) := cell_of_row _ _ 2 _ _ _ h1'
 have hn4 : w1.heap[w.heap.size]? = some (.cells #[.int .i64 0, .int .i64 0, .slice none 0 0] 71 (0, 0)) := (b1.block _ (by simp)).trans (heap_alloc_new w _)
 have hnf : ∀ o, w1.frozen? ⟨w.heap.size, o, none⟩ = false := fun o => by simp [World.frozen?, hn4]
 have k0 : w1.cell? ⟨w.heap.size, 0, none⟩ = some (.int .i64 0) := cell_of_row _ _ 0 _ _ _ hn4
 have k1 : w1.cell? ⟨w.heap.size, 1, none⟩ = some (.int .i64 0) := cell_of_row _ _ 1 _ _ _ hn4
 have k2 : w1.cell? ⟨w.heap.size, 2, none⟩ = some (.slice none 0 0) := cell_of_row _ _ 2 _ _ _ hn4
 have n0 := hnf 0
 have n1 := hnf 1
 have n2 := hnf 2
 have hwl : w.heap.size < w1.heap.size := lt_of_some hn4
 have hgn : ¬ g = w.heap.size := by omega
 have hgn1 : ¬ g = w1.heap.size := by omega
 have hgn2 : ¬ g = w1.heap.size + 1 := by omega
 have hwn1 : ¬ w.heap.size = w1.heap.size := by omega
 have hwn2 : ¬ w.heap.size = w1.heap.size + 1 := by omega
 have HP := Lib.hid h1'
 have HN := Lib.hid hn4
 have HB := Lib.hid b1
 have HB1 := Lib.hid hb1
 clear h1' hn4 b1 hb1 f0 hnf c0 c1 c2
 go_wp2
 have hge2 : lo ≤ w.heap.size := Nat.le_trans hge (Nat.le_of_lt hlt)
 have bel : Below lo w1 _ := take_below w1 g w.heap.size (.int .i64 (cutR p n).kind) (.int .i64 (cutR p n).n) (.slice A2 (cutR p n).signs.length c2'') (.int .i64 (cutL p n).kind) (.int .i64 (cutL p n).n) (.slice A1 (cutL p n).signs.length c1'') (.cells #[.int .i64 (cutL p n).kind, .int .i64 (cutL p n).n, .slice A1 (cutL p n).signs.length c1''] 71) (.cells #[.int .i64 (cutR p n).kind, .int .i64 (cutR p n).n, .slice A2 (cutR p n).signs.length c2''] 71) hge hge2 hgl
 refine bodyPost_ret (v := .agg #[.int .i64 (cutL p n).kind, .int .i64 (cutL p n).n, .slice A1 (cutL p n).signs.length c1'']) (by simp [results, Tryz.results168, go_sem, *]) rfl ⟨_, rfl, ⟨A1, c1'', rfl, r1.below bel⟩, ⟨⟨A2, c2'', A, c, ?_, r2.below bel, (h3.below (HB1.out.mono hge2)).below bel⟩, hge, cutR_vp HV.out hn, HO.out.vs, HO.out.ln⟩, (HB1.out.mono hge2).trans bel, ?_⟩
 ·refine heap_old _ _ (heap_old _ _ ?_)
  rw [Below.heap_setCell _ _ _ _ hgn, Below.heap_setCell _ _ _ _ hgn, Below.heap_setCell _ _ _ _ hgn, heap_setCell_same _ _ _ _ _ _ (heap_setCell_same _ _ _ _ _ _ (heap_setCell_same _ _ _ _ _ _ HP.out))]
  rfl
 ·refine ⟨Nat.le_trans HB1.out.size bel.size, fun b hb hs => ?_⟩
  have hs' : ¬ b = g := hs
  have hbn : ¬ b = w.heap.size := by omega
  have hbl : b < w1.heap.size := by omega
  rw [Below.heap_alloc _ _ _ (by simp; omega), Below.heap_alloc _ _ _ (by simp; omega), Below.heap_setCell _ _ _ _ hbn, Below.heap_setCell _ _ _ _ hbn, Below.heap_setCell _ _ _ _ hbn, Below.heap_setCell _ _ _ _ hs', Below.heap_setCell _ _ _ _ hs', Below.heap_setCell _ _ _ _ hs']
  exact HB1.out.block b hb
theorem BldP.pre {O : Nat → Prop} {lo g : Nat} {T : TypeId} {L : List Pt} {w w1 w' : World} {e : Ending} (hlo : lo ≤ w.heap.size) (hb : Below w.heap.size w w1) (h : BldP O lo g T L w1 e w') : BldP O lo g T L w e w' := by
 obtain ⟨h1, O', h2, h3, h4⟩ := h
 exact ⟨h1, O', h2, (hb.mono hlo).trans h3, Nat.le_trans hb.size h4.size, fun b hlt hn => (h4.block b (Nat.lt_of_lt_of_le hlt hb.size) hn).trans (hb.block b hlt), fun b ho => (h4.more b ho).imp id (fun h => Nat.le_trans hb.size h)⟩
theorem rd_row {w : World} {lo : Nat} {A : Option Addr} {c : Nat} {zs : List Int} (h : RdC w lo (encInts zs) (.slice A zs.length c)) : Row (Value.int .i64) w lo A zs := by
 obtain ⟨A', c', e, h1, _⟩ := ints_rd h
 injection e with e1 e2 e3
 rw [e1]
 exact h1
theorem implAddB (O : Nat → Prop) (lo g : Nat) (L : List Pt) (p : Pt) (v : Value) (w : World) (hb : Bld O lo g 171 w L) (hv : PtV lo w p v) (hp : Vp p) (hk : ¬ p.kind = 0) (hl : L.length < 100000) :
  Calls Tryz.prog 131 #[.pointer (some ⟨g, 0, none⟩), v] w (BldP O lo g 171 (L ++ [p]) w) := by
 obtain ⟨A, c, rfl, hr⟩ := hv
 have hlo := hb.low
 have hrow := rd_row hr
 obtain ⟨pk, pn, pz⟩ := p
 have hsz := hp.size
 simp only at hk hr hrow hsz ⊢
 have hat := hb.past (alloc_below w (.cells #[.int .i64 pk, .int .i64 pn, .slice A pz.length c] 71))
 have bel := alloc_below w (.cells #[.int .i64 pk, .int .i64 pn, .slice A pz.length c] 71)
 have hrow1 : Row (Value.int .i64) (w.alloc (.cells #[.int .i64 pk, .int .i64 pn, .slice A pz.length c] 71)) (w.alloc (.cells #[.int .i64 pk, .int .i64 pn, .slice A pz.length c] 71)).heap.size A pz := (rd_row (hr.below (bel.mono hlo))).more (by simp; omega)
 have HAT := Lib.hid hat
 have HROW := Lib.hid hrow1
 clear hat hrow hrow1 hr hb
 rcases hp with ⟨h1, h2, h3, h4⟩ | ⟨h1, h2, h3⟩ | ⟨h1, h2, h3⟩
 ·simp only at h1 h2 h3 h4
  subst h4
  rcases h1 with rfl | rfl
  ·go_enter Tryz.func131, Tryz.ntmps131
   go_wp2_with fail
   refine (implKeepB O lo g L pn _ HAT.out h2 h3 hl).mono ?_
   intro e w3 hq
   have HQ := Lib.hid (BldP.pre hlo bel hq)
   have he := hq.1
   clear hq
   subst he
   go_wp2
   go_end0
   exact HQ.out
  ·go_enter Tryz.func131, Tryz.ntmps131
   go_wp2_with fail
   refine (implDropB O lo g L pn _ HAT.out h2 h3 hl).mono ?_
   intro e w3 hq
   have HQ := Lib.hid (BldP.pre hlo bel hq)
   have he := hq.1
   clear hq
   subst he
   go_wp2
   go_end0
   exact HQ.out
 ·simp only at h1 h2 h3
  subst h1 h2
  go_enter Tryz.func131, Tryz.ntmps131
  go_wp2_with fail
  refine (implPutB O lo g L A c pz.length pz _ HAT.out HROW.out rfl h3 hl).mono ?_
  intro e w3 hq
  have HQ := Lib.hid (BldP.pre hlo bel hq)
  have he := hq.1
  clear hq
  subst he
  go_wp2
  go_end0
  exact HQ.out
 ·exact absurd h1 hk
def bothL (L : List Pt) (p q : Pt) : List Pt := if q.kind = 1 then L ++ [p] else if p.kind = 1 then L ++ [q] else L
end Go.Proofs.YtbpeeokgpkjnmaaGreatDoor.low
namespace Go.Proofs.YtbpeeokgpkjnmaaGreatDoor.low.xb
open Go.RowKit
set_option linter.unusedVariables false
def RdV (lo : Nat) (w : World) (D : Nat → Option Value) (o : Nat) (p : Pt) (ps : List Pt) : Prop :=
 (∃ B cb A c, D o = some (.int .i64 p.kind) ∧ D (o + 1) = some (.int .i64 p.n) ∧ D (o + 2) = some (.slice B p.signs.length cb) ∧ D (o + 3) = some (.slice A ps.length c) ∧ RdC w lo (encInts p.signs) (.slice B p.signs.length cb) ∧ RdC w lo (encPs ps) (.slice A ps.length c)) ∧ Vp p ∧ (∀ x ∈ ps, okPt x = true) ∧ ps.length ≤ 1048576
theorem RdV.keep {lo o : Nat} {w w' : World} {D D' : Nat → Option Value} {p : Pt} {ps : List Pt} (h : RdV lo w D o p ps) (hb : Below lo w w') (hD : ∀ i, o ≤ i → i < o + 4 → D' i = D i) : RdV lo w' D' o p ps := by
 obtain ⟨⟨B, cb, A, c, h1, h2, h3, h4, h5, h6⟩, h7⟩ := h
 exact ⟨⟨B, cb, A, c, (hD o (by omega) (by omega)).trans h1, (hD _ (by omega) (by omega)).trans h2, (hD _ (by omega) (by omega)).trans h3, (hD _ (by omega) (by omega)).trans h4, h5.below hb, h6.below hb⟩, h7⟩
structure Orr (lo g o : Nat) (C : Nat → Option Value) (w : World) (p : Pt) (ps : List Pt) : Prop where
 box : ∃ D, Blk g 185 w D ∧ RdV lo w D o p ps ∧ ∀ i, i < o ∨ o + 4 ≤ i → D i = C i
 ge : lo ≤ g
section
variable {lo g o : Nat} {C : Nat → Option Value} {w w' : World} {p : Pt} {ps : List Pt}
theorem Orr.lt (h : Orr lo g o C w p ps) : g < w.heap.size := by obtain ⟨D, h1, _⟩ := h.box; exact h1.lt
theorem Orr.vp (h : Orr lo g o C w p ps) : Vp p := by obtain ⟨D, _, h1, _⟩ := h.box; exact h1.2.1
theorem Orr.vs (h : Orr lo g o C w p ps) : ∀ x ∈ ps, okPt x = true := by obtain ⟨D, _, h1, _⟩ := h.box; exact h1.2.2.1
theorem Orr.ln (h : Orr lo g o C w p ps) : ps.length ≤ 1048576 := by obtain ⟨D, _, h1, _⟩ := h.box; exact h1.2.2.2
theorem Orr.past (h : Orr lo g o C w p ps) (hb : Below w.heap.size w w') : Orr lo g o C w' p ps := by
 have hl := h.lt
 have hg := h.ge
 obtain ⟨D, h1, h2, h3⟩ := h.box
 exact ⟨⟨D, h1.past hb, h2.keep (hb.mono (by omega)) (fun _ _ _ => rfl), h3⟩, hg⟩
end
def restOf (g o : Nat) (w : World) : Nat := match w.cell? ⟨g, o + 3, none⟩ with
 | some (.slice _ n _) => n
 | _ => 0
theorem orr_rest {lo g o : Nat} {C : Nat → Option Value} {w : World} {p : Pt} {ps : List Pt} (h : Orr lo g o C w p ps) : restOf g o w = ps.length := by
 obtain ⟨D, h1, ⟨⟨B, cb, A, c, _, _, _, h4, _⟩, _⟩, _⟩ := h.box
 unfold restOf
 rw [h1.cell, h4]
def MoreP (lo g o : Nat) (C : Nat → Option Value) (p : Pt) (ps : List Pt) (w : World) (e : Ending) (w' : World) : Prop := ∃ p' ps', e = .returned (.bool (decide (0 < sizeP p'))) ∧ Orr lo g o C w' p' ps' ∧ unitsP p' ++ units ps' = unitsP p ++ units ps ∧ (sizeP p' = 0 → ps' = []) ∧ Below lo w w' ∧ Fr (fun q => q = g) w w'
def nextW (g o b off c k : Nat) (kind n : Int) (u : Value) (w : World) : World := ((((w.drew.setCell ⟨g, o, none⟩ (.int .i64 kind)).setCell ⟨g, o + 1, none⟩ (.int .i64 n)).setCell ⟨g, o + 2, none⟩ u).setCell ⟨g, o + 3, none⟩ (.slice (if c = 1 then some ⟨b, off, none⟩ else some ⟨b, off + 3, none⟩) k (c - 1)))
theorem nextW_fr (g o b off c k : Nat) (kind n : Int) (u : Value) (w : World) : Fr (fun q => q = g) w (nextW g o b off c k kind n u w) :=
 (((((Fr.refl (fun q => q = g) w).drew).setCell (p := ⟨g, o, none⟩) rfl _).setCell (p := ⟨g, o + 1, none⟩) rfl _).setCell (p := ⟨g, o + 2, none⟩) rfl _).setCell (p := ⟨g, o + 3, none⟩) rfl _
theorem nextW_below {lo g : Nat} (hg : lo ≤ g) (o b off c k : Nat) (kind n : Int) (u : Value) (w : World) : Below lo w (nextW g o b off c k kind n u w) :=
 (((((Below.refl lo w).drew).setCell (p := ⟨g, o, none⟩) hg _).setCell (p := ⟨g, o + 1, none⟩) hg _).setCell (p := ⟨g, o + 2, none⟩) hg _).setCell (p := ⟨g, o + 3, none⟩) hg _
theorem blk4 {g o : Nat} {T : TypeId} {w : World} {D : Nat → Option Value} {v0 v1 v2 v3 : Value} (hD : Blk g T w D) (h0 : D o = some v0) (h1 : D (o + 1) = some v1) (h2 : D (o + 2) = some v2) (h3 : D (o + 3) = some v3) (x0 x1 x2 x3 : Value) : ∃ D', Blk g T ((((w.setCell ⟨g, o, none⟩ x0).setCell ⟨g, o + 1, none⟩ x1).setCell ⟨g, o + 2, none⟩ x2).setCell ⟨g, o + 3, none⟩ x3) D' ∧ D' o = some x0 ∧ D' (o + 1) = some x1 ∧ D' (o + 2) = some x2 ∧ D' (o + 3) = some x3 ∧ ∀ i, i < o ∨ o + 4 ≤ i → D' i = D i := by
 have k1 := hD.set h0 x0
 have k2 := k1.set (i := o + 1) (u := v1) (by rw [upd_ne _ (by omega)]; exact h1) x1
 have k3 := k2.set (i := o + 2) (u := v2) (by rw [upd_ne _ (by omega), upd_ne _ (by omega)]; exact h2) x2
 have k4 := k3.set (i := o + 3) (u := v3) (by rw [upd_ne _ (by omega), upd_ne _ (by omega), upd_ne _ (by omega)]; exact h3) x3
 refine ⟨_, k4, ?_, ?_, ?_, upd_at _ _ _, fun i hi => ?_⟩
 ·rw [upd_ne _ (by omega), upd_ne _ (by omega), upd_ne _ (by omega), upd_at]
 ·rw [upd_ne _ (by omega), upd_ne _ (by omega), upd_at]
 ·rw [upd_ne _ (by omega), upd_at]
 ·rw [upd_ne _ (by omega), upd_ne _ (by omega), upd_ne _ (by omega), upd_ne _ (by omega)]
theorem blk3 {g o : Nat} {T : TypeId} {w : World} {D : Nat → Option Value} {v0 v1 v2 : Value} (hD : Blk g T w D) (h0 : D o = some v0) (h1 : D (o + 1) = some v1) (h2 : D (o + 2) = some v2) (x0 x1 x2 : Value) : ∃ D', Blk g T (((w.setCell ⟨g, o, none⟩ x0).setCell ⟨g, o + 1, none⟩ x1).setCell ⟨g, o + 2, none⟩ x2) D' ∧ D' o = some x0 ∧ D' (o + 1) = some x1 ∧ D' (o + 2) = some x2 ∧ ∀ i, i < o ∨ o + 3 ≤ i → D' i = D i := by
 have k1 := hD.set h0 x0
 have k2 := k1.set (i := o + 1) (u := v1) (by rw [upd_ne _ (by omega)]; exact h1) x1
 have k3 := k2.set (i := o + 2) (u := v2) (by rw [upd_ne _ (by omega), upd_ne _ (by omega)]; exact h2) x2
 refine ⟨_, k3, ?_, ?_, upd_at _ _ _, fun i hi => ?_⟩
 ·rw [upd_ne _ (by omega), upd_ne _ (by omega), upd_at]
 ·rw [upd_ne _ (by omega), upd_at]
 ·rw [upd_ne _ (by omega), upd_ne _ (by omega), upd_ne _ (by omega)]
theorem orr_next {lo g o b off c c' : Nat} {C D : Nat → Option Value} {A' : Option Addr} {w : World} {q : Pt} {qs : List Pt} {v0 v1 v2 v3 : Value} (hD : Blk g 185 w D) (h0 : D o = some v0) (h1 : D (o + 1) = some v1) (h2 : D (o + 2) = some v2) (h3 : D (o + 3) = some v3) (hC : ∀ i, i < o ∨ o + 4 ≤ i → D i = C i)
  (hr : RdC w lo (encInts q.signs) (.slice A' q.signs.length c')) (ht : ∀ d, qs.length ≤ d → RdC w lo (encPs qs) (.slice (some ⟨b, off + 3, none⟩) qs.length d)) (hc : qs.length + 1 ≤ c) (hge : lo ≤ g)
  (hv : okPt q = true) (hvs : ∀ x ∈ qs, okPt x = true) (hln : qs.length ≤ 1048576) : Orr lo g o C (nextW g o b off c qs.length q.kind q.n (.slice A' q.signs.length c') w) q qs := by
 have hb := nextW_below hge o b off c qs.length q.kind q.n (.slice A' q.signs.length c') w
 obtain ⟨D', k, k0, k1, k2, k3, k4⟩ := blk4 (w := w.drew) (hD.keep (heap_drew w g)) h0 h1 h2 h3 (.int .i64 q.kind) (.int .i64 q.n) (.slice A' q.signs.length c') (.slice (if c = 1 then some ⟨b, off, none⟩ else some ⟨b, off + 3, none⟩) qs.length (c - 1))
 refine ⟨⟨D', k, ⟨⟨A', c', (if c = 1 then some ⟨b, off, none⟩ else some ⟨b, off + 3, none⟩), c - 1, k0, k1, k2, k3, hr.below hb, ?_⟩, Vp.of hv, hvs, hln⟩, fun i hi => (k4 i hi).trans (hC i hi)⟩, hge⟩
 by_cases e : c = 1
 ·rw [if_pos e]
  obtain rfl : qs = [] := List.eq_nil_of_length_eq_zero (by omega)
  exact parts_none
 ·rw [if_neg e]
  exact (ht _ (by omega)).below hb
theorem implMore (lo g o : Nat) (C : Nat → Option Value) (p : Pt) (ps : List Pt) (w : World) (h : Orr lo g o C w p ps) : Calls Tryz.prog 155 #[.pointer (some ⟨g, o, none⟩)] w (MoreP lo g o C p ps w) := by
 have hgw := h.lt
 go_enter Tryz.func155, Tryz.ntmps155
 go_wp2
 go_loopw [2] (fun t wr => t = .bool false ∧ ∃ p' ps', Orr lo g o C wr p' ps' ∧ unitsP p' ++ units ps' = unitsP p ++ units ps ∧ Below lo w wr ∧ Fr (fun q => q = g) w wr) (fun _ wr => restOf g o wr)
 case atStart => exact ⟨rfl, p, ps, h, rfl, Below.refl _ _, Fr.refl _ _⟩
 case round =>
  obtain ⟨rfl, p', ps', ho, hu, hbel, hfr⟩ := hrel
  obtain ⟨D, hD, ⟨⟨B, cb, A, c, d0, d1, d2, d3, h2, h3⟩, _⟩, hC⟩ := ho.box
  have hz := ho.vp.size
  have c0 : wr.cell? ⟨g, o, none⟩ = some (.int .i64 p'.kind) := (hD.cell _).trans d0
  have c1 : wr.cell? ⟨g, o + 1, none⟩ = some (.int .i64 p'.n) := (hD.cell _).trans d1
  have c2 : wr.cell? ⟨g, o + 2, none⟩ = some (.slice B p'.signs.length cb) := (hD.cell _).trans d2
  have c3 : wr.cell? ⟨g, o + 3, none⟩ = some (.slice A ps'.length c) := (hD.cell _).trans d3
  have hlt := ho.lt
  have HO := Lib.hid ho
  have HU := Lib.hid hu
  have HF := Lib.hid hfr
  have HZ := Lib.hid hz
  have H1 := Lib.hid hD
  have HD := Lib.hid (And.intro d0 (And.intro d1 (And.intro d2 (And.intro d3 (And.intro hC h3)))))
  have HM := Lib.hid (show restOf g o wr = ps'.length by unfold restOf; rw [c3])
  clear ho hu hfr hz hD h hgw d0 d1 d2 d3 hC h3
  go_wp2_with fail
  have hz := HZ.out
  refine (implSize_any p'.kind p'.n B p'.signs.length cb wr (by omega) (by omega) (by omega)).mono ?_
  clear hz c0 c1 c2
  rintro e w1 ⟨rfl, b1⟩
  have HB := Lib.hid b1
  have hlt1 : g < w1.heap.size := Nat.lt_of_lt_of_le hlt b1.size
  have h1' := H1.out.past b1
  have c3' : w1.cell? ⟨g, o + 3, none⟩ = some (.slice A ps'.length c) := (h1'.cell _).trans HD.out.2.2.2.1
  have ho1 := HO.out.past b1
  have hb1 : Below lo w w1 := hbel.trans (b1.mono (Nat.le_trans ho1.ge (by have := HO.out.lt; omega)))
  have hf1 : Fr (fun q => q = g) w w1 := HF.out.trans (Fr.below b1)
  have H3 := Lib.hid (HD.out.2.2.2.2.2.below (b1.mono (Nat.le_trans ho1.ge (by have := HO.out.lt; omega))))
  have H1' := Lib.hid h1'
  have HO1 := Lib.hid ho1
  have HF1 := Lib.hid hf1
  clear b1 c3 h1' ho1 hf1 HO HF HB H1 hbel
  rw [HZ.out.1]
  by_cases hs : sizeP p' = 0
  ·have g0 : (((sizeP p' : Nat) : Int) == 0) = true := by simp [hs]
   cases ps' with
   | nil =>
    have HS := Lib.hid hs
    clear hs
    go_wp2
    go_ret
    exact ⟨p', [], ret_b (by simp [HS.out]), HO1.out, HU.out, fun _ => rfl, hb1, HF1.out⟩
   | cons q qs =>
    have hql : ((qs.length : Int) + 1 == 0) = false := by simp; omega
    have k3 := H3.out
    obtain ⟨b, off, A', c', rfl, hblt, hc, d0, d1, d2, r2, rt⟩ := parts_hd k3
    have f1 := H1'.out.free o
    have f2 := H1'.out.free (o + 1)
    have f3 := H1'.out.free (o + 2)
    have f4 := H1'.out.free (o + 3)
    have HK := Lib.hid (show RdC w1 lo (encInts q.signs) (.slice A' q.signs.length c') ∧ (∀ d, qs.length ≤ d → RdC w1 lo (encPs qs) (.slice (some ⟨b, off + 3, none⟩) qs.length d)) from ⟨r2, rt⟩)
    have c0 : w1.cell? ⟨g, o, none⟩ = some (.int .i64 p'.kind) := (H1'.out.cell _).trans HD.out.1
    have c1 : w1.cell? ⟨g, o + 1, none⟩ = some (.int .i64 p'.n) := (H1'.out.cell _).trans HD.out.2.1
    have c2 : w1.cell? ⟨g, o + 2, none⟩ = some (.slice B p'.signs.length cb) := (H1'.out.cell _).trans HD.out.2.2.1
    have hne : ¬ b = g := by have := HO1.out.ge; omega
    clear r2 rt k3 hs h2 H3
    have hq1 : (1 : Int) ≤ (qs.length : Int) + 1 := by omega
    go_wp2
    go_region
    all_goals
     go_roundw
     case rel =>
      have hv := HO1.out.vs
      have hln := HO1.out.ln
      have hx := orr_next H1'.out HD.out.1 HD.out.2.1 HD.out.2.2.1 HD.out.2.2.2.1 HD.out.2.2.2.2.1 HK.out.1 HK.out.2 hc HO1.out.ge (hv q (by simp)) (fun x hx => hv x (by simp [hx])) (by simp at hln; omega)
      have hu : unitsP q ++ units qs = unitsP p ++ units ps := by
       rw [← HU.out, units_cons]
       have e : unitsP p' = [] := List.eq_nil_of_length_eq_zero (by rw [unitsP_len]; simpa using g0)
       rw [e]
       rfl
      repeat apply Exists.intro
      exact ⟨⟨rfl, q, qs, hx, hu, hb1.trans (nextW_below HO1.out.ge _ _ _ _ _ _ _ _ _), HF1.out.trans (nextW_fr _ _ _ _ _ _ _ _ _ _)⟩, rfl⟩
     case measure =>
      have hv := HO1.out.vs
      have hln := HO1.out.ln
      have hx := orr_next H1'.out HD.out.1 HD.out.2.1 HD.out.2.2.1 HD.out.2.2.2.1 HD.out.2.2.2.2.1 HK.out.1 HK.out.2 hc HO1.out.ge (hv q (by simp)) (fun x hx => hv x (by simp [hx])) (by simp at hln; omega)
      rw [HM.out]
      refine Nat.lt_of_le_of_lt (Nat.le_of_eq (orr_rest hx)) ?_
      simp
  ·have g0 : (((sizeP p' : Nat) : Int) == 0) = false := by simp [hs]
   have HS := Lib.hid hs
   clear hs
   go_wp2
   go_ret
   exact ⟨p', ps', ret_b (by have := HS.out; simp; omega), HO1.out, HU.out, fun h => absurd h HS.out, hb1, HF1.out⟩
def kindP (p : Pt) : Int := if 0 < sizeP p then p.kind else 0
def KindP (lo g o : Nat) (C : Nat → Option Value) (p : Pt) (ps : List Pt) (w : World) (e : Ending) (w' : World) : Prop := ∃ p' ps', e = .returned (.int .i64 (kindP p')) ∧ Orr lo g o C w' p' ps' ∧ unitsP p' ++ units ps' = unitsP p ++ units ps ∧ (sizeP p' = 0 → ps' = []) ∧ Below lo w w' ∧ Fr (fun q => q = g) w w'
theorem ret_i {a b : Int} (h : a = b) : Ending.returned (.int .i64 a) = .returned (.int .i64 b) := by rw [h]
theorem implKind (lo g o : Nat) (C : Nat → Option Value) (p : Pt) (ps : List Pt) (w : World) (h : Orr lo g o C w p ps) : Calls Tryz.prog 144 #[.pointer (some ⟨g, o, none⟩)] w (KindP lo g o C p ps w) := by
 go_enter Tryz.func144, Tryz.ntmps144
 go_wp2_with fail
 refine (implMore lo g o C p ps w h).mono ?_
 rintro e w1 ⟨p', ps', rfl, ho, hu, hs, hb, hf⟩
 have HU := Lib.hid hu
 have HS := Lib.hid hs
 have HF := Lib.hid hf
 have HO := Lib.hid ho
 obtain ⟨D, hD, ⟨⟨B, cb, A, c, d0, d1, d2, d3, h2, h3⟩, _⟩, hC⟩ := ho.box
 have c0 : w1.cell? ⟨g, o, none⟩ = some (.int .i64 p'.kind) := (hD.cell _).trans d0
 clear hu hs hf ho h hD d0 d1 d2 d3 h2 h3 hC
 by_cases h0 : 0 < sizeP p'
 ·have g0 : decide (0 < sizeP p') = true := by simp [h0]
  have HK := Lib.hid (show kindP p' = p'.kind by simp [kindP, h0])
  rw [g0]
  clear h0 g0
  go_wp2
  go_ret
  exact ⟨p', ps', ret_i HK.out.symm, HO.out, HU.out, HS.out, hb, HF.out⟩
 ·have g0 : decide (0 < sizeP p') = false := by simp [h0]
  have HK := Lib.hid (show kindP p' = 0 by simp [kindP, h0])
  rw [g0]
  clear h0 g0
  go_wp2
  go_ret
  exact ⟨p', ps', ret_i HK.out.symm, HO.out, HU.out, HS.out, hb, HF.out⟩
def TakeQ (lo g o : Nat) (C : Nat → Option Value) (p : Pt) (ps : List Pt) (n : Nat) (w : World) (e : Ending) (w' : World) : Prop := ∃ v, e = .returned v ∧ PtV lo w' (cutL p n) v ∧ Orr lo g o C w' (cutR p n) ps ∧ Below lo w w' ∧ Fr (fun q => q = g) w w'
theorem take_below {lo : Nat} (w : World) (g o m : Nat) (x0 x1 x2 y0 y1 y2 : Value) (o1 o2 : Obj) (hg : lo ≤ g) (hm : lo ≤ m) (hs : g < w.heap.size) : Below lo w ((((((((w.setCell ⟨g, o, none⟩ x0).setCell ⟨g, o + 1, none⟩ x1).setCell ⟨g, o + 2, none⟩ x2).setCell ⟨m, 0, none⟩ y0).setCell ⟨m, 1, none⟩ y1).setCell ⟨m, 2, none⟩ y2).alloc o1).alloc o2) :=
 ((((((((Below.refl lo w).setCell (p := ⟨g, o, none⟩) hg _).setCell (p := ⟨g, o + 1, none⟩) hg _).setCell (p := ⟨g, o + 2, none⟩) hg _).setCell (p := ⟨m, 0, none⟩) hm _).setCell (p := ⟨m, 1, none⟩) hm _).setCell (p := ⟨m, 2, none⟩) hm _).alloc (by simp; omega) _).alloc (by simp; omega) _
theorem implTake (lo g o : Nat) (C : Nat → Option Value) (p : Pt) (ps : List Pt) (n : Nat) (w : World) (h : Orr lo g o C w p ps) (h0 : 0 < n) (hn : n ≤ sizeP p) : Calls Tryz.prog 168 #[.pointer (some ⟨g, o, none⟩), .int .i64 (n : Int)] w (TakeQ lo g o C p ps n w) := by
 obtain ⟨D, hD, ⟨⟨B, cb, A, c, d0, d1, d2, d3, h2, h3⟩, _⟩, hC⟩ := h.box
 have hlt := h.lt
 have c0 : w.cell? ⟨g, o, none⟩ = some (.int .i64 p.kind) := (hD.cell _).trans d0
 have c1 : w.cell? ⟨g, o + 1, none⟩ = some (.int .i64 p.n) := (hD.cell _).trans d1
 have c2 : w.cell? ⟨g, o + 2, none⟩ = some (.slice B p.signs.length cb) := (hD.cell _).trans d2
 have hge := h.ge
 have HV := Lib.hid h.vp
 have HO := Lib.hid h
 have H1 := Lib.hid hD
 have HD := Lib.hid (And.intro d0 (And.intro d1 (And.intro d2 (And.intro d3 hC))))
 clear h hD d0 d1 d2 d3 hC
 go_enter Tryz.func168, Tryz.ntmps168
 have b0 := alloc_below w (.cells #[.int .i64 0, .int .i64 0, .slice none 0 0] 71)
 go_wp2_with fail
 refine (implCut lo p n B cb _ HV.out (h2.below (b0.mono (by omega))) (by simp; omega) h0 hn).mono ?_
 rintro e w1 ⟨v1, v2, rfl, ⟨A1, c1'', rfl, r1⟩, ⟨A2, c2'', rfl, r2⟩, b1⟩
 have hb1 : Below w.heap.size w w1 := b0.trans (b1.mono b0.size)
 have hgl : g < w1.heap.size := Nat.lt_of_lt_of_le hlt hb1.size
 have h1' := H1.out.past hb1
 have f1 := h1'.free o
 have f2 := h1'.free (o + 1)
 have f3 := h1'.free (o + 2)
 have c0' : w1.cell? ⟨g, o, none⟩ = some (.int .i64 p.kind) := (h1'.cell _).trans HD.out.1
 have c1' : w1.cell? ⟨g, o + 1, none⟩ = some (.int .i64 p.n) := (h1'.cell _).trans HD.out.2.1
 have c2' : w1.cell? ⟨g, o + 2, none⟩ = some (.slice B p.signs.length cb) := (h1'.cell _).trans HD.out.2.2.1
 have hn4 : w1.heap[w.heap.size]? = some (.cells #[.int .i64 0, .int .i64 0, .slice none 0 0] 71 (0, 0)) := (b1.block _ (by simp)).trans (heap_alloc_new w _)
 have hnf : ∀ o, w1.frozen? ⟨w.heap.size, o, none⟩ = false := fun o => by simp [World.frozen?, hn4]
 have k0 : w1.cell? ⟨w.heap.size, 0, none⟩ = some (.int .i64 0) := cell_of_row _ _ 0 _ _ _ hn4
 have k1 : w1.cell? ⟨w.heap.size, 1, none⟩ = some (.int .i64 0) := cell_of_row _ _ 1 _ _ _ hn4
 have k2 : w1.cell? ⟨w.heap.size, 2, none⟩ = some (.slice none 0 0) := cell_of_row _ _ 2 _ _ _ hn4
 have n0 := hnf 0
 have n1 := hnf 1
 have n2 := hnf 2
 have hwl : w.heap.size < w1.heap.size := lt_of_some hn4
 have hgn : ¬ g = w.heap.size := by omega
 have hgn1 : ¬ g = w1.heap.size := by omega
 have hgn2 : ¬ g = w1.heap.size + 1 := by omega
 have hwn1 : ¬ w.heap.size = w1.heap.size := by omega
 have hwn2 : ¬ w.heap.size = w1.heap.size + 1 := by omega
 have HP := Lib.hid h1'
 have HN := Lib.hid hn4
 have HB := Lib.hid b1
 have HB1 := Lib.hid hb1
 clear h1' hn4 b1 hb1 hnf c0 c1 c2
 go_wp2
 have hge2 : lo ≤ w.heap.size := Nat.le_trans hge (Nat.le_of_lt hlt)
 have bel : Below lo w1 _ := take_below w1 g o w.heap.size (.int .i64 (cutR p n).kind) (.int .i64 (cutR p n).n) (.slice A2 (cutR p n).signs.length c2'') (.int .i64 (cutL p n).kind) (.int .i64 (cutL p n).n) (.slice A1 (cutL p n).signs.length c1'') (.cells #[.int .i64 (cutL p n).kind, .int .i64 (cutL p n).n, .slice A1 (cutL p n).signs.length c1''] 71) (.cells #[.int .i64 (cutR p n).kind, .int .i64 (cutR p n).n, .slice A2 (cutR p n).signs.length c2''] 71) hge hge2 hgl
 obtain ⟨D', kD, e0, e1, e2, e4⟩ := blk3 HP.out HD.out.1 HD.out.2.1 HD.out.2.2.1 (.int .i64 (cutR p n).kind) (.int .i64 (cutR p n).n) (.slice A2 (cutR p n).signs.length c2'')
 refine bodyPost_ret (v := .agg #[.int .i64 (cutL p n).kind, .int .i64 (cutL p n).n, .slice A1 (cutL p n).signs.length c1'']) (by simp [results, Tryz.results168, go_sem, *]) rfl ⟨_, rfl, ⟨A1, c1'', rfl, r1.below bel⟩, ⟨⟨D', kD.keep ?_, ⟨⟨A2, c2'', A, c, e0, e1, e2, (e4 _ (by omega)).trans HD.out.2.2.2.1, r2.below bel, (h3.below (HB1.out.mono hge2)).below bel⟩, cutR_vp HV.out hn, HO.out.vs, HO.out.ln⟩, fun i hi => (e4 i (by omega)).trans (HD.out.2.2.2.2 i hi)⟩, hge⟩, (HB1.out.mono hge2).trans bel, ?_⟩
 ·rw [Below.heap_alloc _ _ _ (by simp; omega), Below.heap_alloc _ _ _ (by simp; omega), Below.heap_setCell _ _ _ _ hgn, Below.heap_setCell _ _ _ _ hgn, Below.heap_setCell _ _ _ _ hgn]
 ·refine ⟨Nat.le_trans HB1.out.size bel.size, fun b hb hs => ?_⟩
  have hs' : ¬ b = g := hs
  have hbn : ¬ b = w.heap.size := by omega
  have hbl : b < w1.heap.size := by omega
  rw [Below.heap_alloc _ _ _ (by simp; omega), Below.heap_alloc _ _ _ (by simp; omega), Below.heap_setCell _ _ _ _ hbn, Below.heap_setCell _ _ _ _ hbn, Below.heap_setCell _ _ _ _ hbn, Below.heap_setCell _ _ _ _ hs', Below.heap_setCell _ _ _ _ hs', Below.heap_setCell _ _ _ _ hs']
  exact HB1.out.block b hb
structure BdV (O : Nat → Prop) (lo g : Nat) (w : World) (D : Nat → Option Value) (o : Nat) (L : List Pt) : Prop where
 at_ : ∃ v u us, D o = some v ∧ D (o + 1) = some u ∧ D (o + 2) = some (.int .i64 (foldN L).2.2) ∧ w.ownsRow lo 71 3 v (foldN L).1.length (cellsOf (foldN L).1 us) ∧ us.length = (foldN L).1.length ∧ Apart lo w.heap.size w ((foldN L).1 ++ [⟨2, 0, (foldN L).2.1⟩]) (us ++ [u]) ∧ (∀ k, v.ownBlock = some k → O k) ∧ ∀ (i k : Nat) (x : Value), (us ++ [u])[i]? = some x → x.ownBlock = some k → O k
 sz : ∀ p ∈ L, szP_ p
 len : L.length ≤ 100000
 old : ∀ b, O b → b < w.heap.size
 ng : ¬ O g
structure Bld (O : Nat → Prop) (lo g o : Nat) (C : Nat → Option Value) (w : World) (L : List Pt) : Prop where
 box : ∃ D, Blk g 185 w D ∧ BdV O lo g w D o L ∧ ∀ i, i < o ∨ o + 3 ≤ i → D i = C i
 ge : lo ≤ g
structure GrewX (O O' : Nat → Prop) (g : Nat) (w w' : World) : Prop where
 size : w.heap.size ≤ w'.heap.size
 block : ∀ b, b < w.heap.size → ¬ O b → ¬ b = g → w'.heap[b]? = w.heap[b]?
 more : ∀ b, O' b → O b ∨ w.heap.size ≤ b
def BldP (O : Nat → Prop) (lo g o : Nat) (C : Nat → Option Value) (L : List Pt) (w : World) (e : Ending) (w' : World) : Prop := e = .returned (.tuple #[]) ∧ ∃ O', Bld O' lo g o C w' L ∧ Below lo w w' ∧ GrewX O O' g w w'
theorem BdV.keep {O : Nat → Prop} {lo g o : Nat} {w w' : World} {D D' : Nat → Option Value} {L : List Pt} (h : BdV O lo g w D o L) (hsz : w.heap.size ≤ w'.heap.size) (hk : ∀ b, b < w.heap.size → O b → w'.heap[b]? = w.heap[b]?) (hD : ∀ i, o ≤ i → i < o + 3 → D' i = D i) : BdV O lo g w' D' o L := by
 obtain ⟨v, u, us, h1, h2, h3, h4, h5, h6, h7, h8⟩ := h.at_
 exact ⟨⟨v, u, us, (hD _ (by omega) (by omega)).trans h1, (hD _ (by omega) (by omega)).trans h2, (hD _ (by omega) (by omega)).trans h3, own_keep h4 (fun k k1 k2 => hk k k2 (h7 k k1)), h5, h6.keep hsz (fun i x k hxi k1 k2 => hk k k2 (h8 i k x hxi k1)), h7, h8⟩, h.sz, h.len, fun b hb => Nat.lt_of_lt_of_le (h.old b hb) hsz, h.ng⟩
section
variable {O : Nat → Prop} {lo g o : Nat} {C : Nat → Option Value} {w w' : World} {L : List Pt} {p : Pt}
theorem Bld.lt (h : Bld O lo g o C w L) : g < w.heap.size := by obtain ⟨D, h1, _⟩ := h.box; exact h1.lt
theorem Bld.low (h : Bld O lo g o C w L) : lo ≤ w.heap.size := Nat.le_trans h.ge (Nat.le_of_lt h.lt)
theorem Bld.sz (h : Bld O lo g o C w L) : ∀ p ∈ L, szP_ p := by obtain ⟨D, _, h1, _⟩ := h.box; exact h1.sz
theorem Bld.len (h : Bld O lo g o C w L) : L.length ≤ 100000 := by obtain ⟨D, _, h1, _⟩ := h.box; exact h1.len
theorem Bld.fit (h : Bld O lo g o C w L) : Fit L.length (signsIn L) (foldN L) := foldN_fitZ h.sz
theorem Bld.past (h : Bld O lo g o C w L) (hb : Below w.heap.size w w') : Bld O lo g o C w' L := by
 obtain ⟨D, h1, h2, h3⟩ := h.box
 exact ⟨⟨D, h1.past hb, h2.keep hb.size (fun b hlt _ => hb.block b hlt) (fun _ _ _ => rfl), h3⟩, h.ge⟩
theorem Bld.at_ (h : Bld O lo g o C w L) : BAtS (fun b => (O b ∨ b = g) ∨ w.heap.size ≤ b) lo g o C 185 w (foldN L).1 (foldN L).2.1 (foldN L).2.2 := by
 obtain ⟨D, hD, h2, hC⟩ := h.box
 obtain ⟨v, u, us, h1, h2, h3, h4, h5, h6, h7, h8⟩ := h2.at_
 exact ⟨v, u, us, ⟨⟨D, hD, h1, h2, h3, hC⟩, h4, h5, h.ge⟩, h6, .inl (.inr rfl), fun k hk => .inl (.inl (h7 k hk)), fun i k x hx hk => .inl (.inl (h8 i k x hx hk))⟩
theorem Bld.add (h : Bld O lo g o C w L) (hl : L.length < 100000) (hp : szP_ p) (hb : Below lo w w') (hf : Fr (fun b => (O b ∨ b = g) ∨ w.heap.size ≤ b) w w') (ha : BAtS (fun b => (O b ∨ b = g) ∨ w.heap.size ≤ b) lo g o C 185 w' (stepN (foldN L) p).1 (stepN (foldN L) p).2.1 (stepN (foldN L) p).2.2) : ∃ O', Bld O' lo g o C w' (L ++ [p]) ∧ Below lo w w' ∧ GrewX O O' g w w' := by
 obtain ⟨v, u, us, hx, ap, ho⟩ := ha
 obtain ⟨D, hD, k1, k2, k3, hC⟩ := hx.box
 refine ⟨fun b => (O b ∨ w.heap.size ≤ b) ∧ b < w'.heap.size ∧ ¬ b = g, ⟨⟨D, hD, ⟨?_, fun q hq => ?_, by simp; omega, fun b hb => hb.2.1, fun hg => hg.2.2 rfl⟩, hC⟩, h.ge⟩, hb, hf.size, fun b hlt hn hg => hf.block b hlt (fun hs => ?_), fun b hb => hb.1⟩
 ·rw [foldN_app]
  have str : ∀ k, k < w'.heap.size → ¬ k = g → ((O k ∨ k = g) ∨ w.heap.size ≤ k) → (O k ∨ w.heap.size ≤ k) ∧ k < w'.heap.size ∧ ¬ k = g := fun k h1 h2 h3 => ⟨by rcases h3 with (h3 | h3) | h3; exact .inl h3; exact absurd h3 h2; exact .inr h3, h1, h2⟩
  refine ⟨v, u, us, k1, k2, k3, hx.row, hx.len, ap, fun k hk => str k (own_in hx.row hk) (fun e => hD.far hx.row (by decide) (by rw [hk, e])) (ho.2.1 k hk), fun i k x hxi hk => ?_⟩
  obtain ⟨q, hq⟩ := idx_some (l := (stepN (foldN L) p).1 ++ [⟨2, 0, (stepN (foldN L) p).2.1⟩]) (i := i) (by rw [← ap.1]; exact idx_lt hxi)
  have hox := (ap.2.1 i q x hq hxi).1
  exact str k (own_in hox hk) (fun e => hD.far hox (by decide) (by rw [hk, e])) (ho.2.2 i k x hxi hk)
 ·rcases List.mem_append.1 hq with hq | hq
  ·exact h.sz q hq
  ·simp at hq
   subst hq
   exact hp
 ·rcases hs with (hs | hs) | hs
  ·exact hn hs
  ·exact hg hs
  ·omega
theorem BldP.pre {w1 : World} {e : Ending} (hlo : lo ≤ w.heap.size) (hb : Below w.heap.size w w1) (h : BldP O lo g o C L w1 e w') : BldP O lo g o C L w e w' := by
 obtain ⟨h1, O', h2, h3, h4⟩ := h
 exact ⟨h1, O', h2, (hb.mono hlo).trans h3, Nat.le_trans hb.size h4.size, fun b hlt hn hg => (h4.block b (Nat.lt_of_lt_of_le hlt hb.size) hn hg).trans (hb.block b hlt), fun b ho => (h4.more b ho).imp id (fun h => Nat.le_trans hb.size h)⟩
end
theorem implKeepB (O : Nat → Prop) (lo g o : Nat) (C : Nat → Option Value) (L : List Pt) (n : Int) (w : World) (hb : Bld O lo g o C w L) (h0 : 0 ≤ n) (h1 : n ≤ 200) (hl : L.length < 100000) :
  Calls Tryz.prog 139 #[.pointer (some ⟨g, o, none⟩), .int .i64 n] w (BldP O lo g o C (L ++ [⟨1, n, []⟩]) w) := by
 have hz : szP_ ⟨1, n, []⟩ := ⟨.inl rfl, h0, h1, by simp⟩
 by_cases hn : n = 0
 ·subst hn
  refine (implKeep_zero g o w).mono ?_
  rintro e w' ⟨rfl, rfl⟩
  exact ⟨rfl, hb.add hl hz (Below.refl _ _) (Fr.refl _ _) hb.at_⟩
 ·have hf := hb.fit
  have hd := hf.done
  have hsg := signsIn_le hb.sz
  have f1 := hf.len
  have f2 := hf.signs
  have hlen := hb.len
  refine (implKeep_f (fun b => (O b ∨ b = g) ∨ w.heap.size ≤ b) lo g o C _ _ _ n w hb.at_ (fun b h => .inr h) (by omega) (by omega) hn h0 (by omega) (fun p hp => by have := hd.2.2 p hp; omega) (by have := hd.1; exact Nat.le_trans this (by omega))).mono ?_
  rintro e w' ⟨rfl, hn', b, fr⟩
  refine ⟨rfl, hb.add hl hz b fr ?_⟩
  simp only [stepN, if_neg hn]
  exact hn'.at_
theorem implPutB (O : Nat → Prop) (lo g o : Nat) (C : Nat → Option Value) (L : List Pt) (A : Option Addr) (c m : Nat) (zs : List Int) (w : World) (hb : Bld O lo g o C w L) (hr : Row (Value.int .i64) w w.heap.size A zs) (hm : zs.length = m) (h1 : zs.length ≤ 200) (hl : L.length < 100000) :
  Calls Tryz.prog 140 #[.pointer (some ⟨g, o, none⟩), .slice A m c] w (BldP O lo g o C (L ++ [⟨2, 0, zs⟩]) w) := by
 subst hm
 have hz : szP_ ⟨2, 0, zs⟩ := ⟨.inr (.inl rfl), by simp, by simp, h1⟩
 have hsg := signsIn_le hb.sz
 have f2 := hb.fit.signs
 have hlen := hb.len
 refine (implPut_f (fun b => (O b ∨ b = g) ∨ w.heap.size ≤ b) lo g o C _ _ _ A c zs w hb.at_ (fun b h => .inr h) hr (by omega) (by omega)).mono ?_
 rintro e w' ⟨rfl, ha, b, fr⟩
 exact ⟨rfl, hb.add hl hz b fr ha⟩
theorem implDropB (O : Nat → Prop) (lo g o : Nat) (C : Nat → Option Value) (L : List Pt) (n : Int) (w : World) (hb : Bld O lo g o C w L) (h0 : 0 ≤ n) (h1 : n ≤ 200) (hl : L.length < 100000) :
  Calls Tryz.prog 141 #[.pointer (some ⟨g, o, none⟩), .int .i64 n] w (BldP O lo g o C (L ++ [⟨3, n, []⟩]) w) := by
 have hz : szP_ ⟨3, n, []⟩ := ⟨.inr (.inr rfl), h0, h1, by simp⟩
 have f3 := hb.fit.d0
 have f4 := hb.fit.d1
 have hlen := hb.len
 refine (implDrop_f (fun b => (O b ∨ b = g) ∨ w.heap.size ≤ b) lo g o C _ _ _ n w hb.at_ (fun b h => .inr h) f3 (by omega) h0 (by omega)).mono ?_
 rintro e w' ⟨rfl, ha, b, fr⟩
 exact ⟨rfl, hb.add hl hz b fr ha⟩
theorem parts_far {g : Nat} {T : TypeId} {w : World} {D : Nat → Option Value} {ps : List Pt} {v : Value} {b : List Nat} (hD : Blk g T w D) (h1 : ¬ T = 3) (h2 : ¬ T = 71) (h : OwC w (encPs ps) v b) : ∀ x ∈ b, ¬ x = g := fun x hx e => by
 subst e
 obtain ⟨xs, cs, hox, hor, hb⟩ := h
 rw [hb] at hx
 rcases List.mem_append.1 hx with hx | hx
 ·exact hD.far hox h2 (by simpa using hx)
 ·obtain ⟨us2, k1, k2, k3, k4⟩ := owR_parts hor
  rw [k3] at hx
  obtain ⟨i, u, hui, hk⟩ := mem_blks.1 hx
  obtain ⟨q, hq⟩ := idx_some (l := ps) (i := i) (by rw [← k1]; exact idx_lt hui)
  exact hD.far (ints_ow (k4 i q u hq hui)).1 h1 hk
def DoneX (O : Nat → Prop) (lo g o : Nat) (C : Nat → Option Value) (L : List Pt) (w : World) (e : Ending) (w' : World) : Prop := ∃ v b, e = .returned v ∧ OwB lo w'.heap.size w' (encPs (doneN (foldN L))) v b ∧ (∀ x ∈ b, (O x ∨ w.heap.size ≤ x) ∧ ¬ x = g) ∧ Below lo w w' ∧ GrewX O (fun x => x ∈ b) g w w' ∧ ∃ D, Blk g 185 w' D ∧ ∀ i, i < o ∨ o + 3 ≤ i → D i = C i
theorem implDoneB (O : Nat → Prop) (lo g o : Nat) (C : Nat → Option Value) (L : List Pt) (w : World) (hb : Bld O lo g o C w L) :
  Calls Tryz.prog 132 #[.pointer (some ⟨g, o, none⟩)] w (DoneX O lo g o C L w) := by
 have f1 := hb.fit.len
 have hlen := hb.len
 have hsg := signsIn_le hb.sz
 have f2 := hb.fit.signs
 refine (implDone_f (fun b => (O b ∨ b = g) ∨ w.heap.size ≤ b) lo g o C _ _ _ w hb.at_ (fun b h => .inr h) (by omega) (by omega)).mono ?_
 rintro e w' ⟨h, v1, u1, us1, hx⟩
 obtain ⟨v, b, h1, h2, h3, h4, h5⟩ := GoneS.done (O := fun b => O b ∨ b = g) h
 obtain ⟨D, hD, _, _, _, hC⟩ := hx.box
 have far := parts_far hD (by decide) (by decide) h2.ow
 have str : ∀ x ∈ b, (O x ∨ w.heap.size ≤ x) ∧ ¬ x = g := fun x hxb => ⟨by rcases h3 x hxb with (k | k) | k; exact .inl k; exact absurd k (far x hxb); exact .inr k, far x hxb⟩
 exact ⟨v, b, h1, h2, str, h4, ⟨h5.size, fun x hlt hn hg => h5.block x hlt (fun k => by rcases k with k | k; exact hn k; exact hg k), fun x hxb => (str x hxb).1⟩, D, hD, hC⟩
theorem implAddB (O : Nat → Prop) (lo g o : Nat) (C : Nat → Option Value) (L : List Pt) (p : Pt) (v : Value) (w : World) (hb : Bld O lo g o C w L) (hv : PtV lo w p v) (hp : Vp p) (hk : ¬ p.kind = 0) (hl : L.length < 100000) :
  Calls Tryz.prog 131 #[.pointer (some ⟨g, o, none⟩), v] w (BldP O lo g o C (L ++ [p]) w) := by
 obtain ⟨A, c, rfl, hr⟩ := hv
 have hlo := hb.low
 have hrow := rd_row hr
 obtain ⟨pk, pn, pz⟩ := p
 have hsz := hp.size
 simp only at hk hr hrow hsz ⊢
 have hat := hb.past (alloc_below w (.cells #[.int .i64 pk, .int .i64 pn, .slice A pz.length c] 71))
 have bel := alloc_below w (.cells #[.int .i64 pk, .int .i64 pn, .slice A pz.length c] 71)
 have hrow1 : Row (Value.int .i64) (w.alloc (.cells #[.int .i64 pk, .int .i64 pn, .slice A pz.length c] 71)) (w.alloc (.cells #[.int .i64 pk, .int .i64 pn, .slice A pz.length c] 71)).heap.size A pz := (rd_row (hr.below (bel.mono hlo))).more (by simp; omega)
 have HAT := Lib.hid hat
 have HROW := Lib.hid hrow1
 clear hat hrow hrow1 hr hb
 rcases hp with ⟨h1, h2, h3, h4⟩ | ⟨h1, h2, h3⟩ | ⟨h1, h2, h3⟩
 ·simp only at h1 h2 h3 h4
  subst h4
  rcases h1 with rfl | rfl
  ·go_enter Tryz.func131, Tryz.ntmps131
   go_wp2_with fail
   refine (implKeepB O lo g o C L pn _ HAT.out h2 h3 hl).mono ?_
   intro e w3 hq
   have HQ := Lib.hid (BldP.pre hlo bel hq)
   have he := hq.1
   clear hq
   subst he
   go_wp2
   go_end0
   exact HQ.out
  ·go_enter Tryz.func131, Tryz.ntmps131
   go_wp2_with fail
   refine (implDropB O lo g o C L pn _ HAT.out h2 h3 hl).mono ?_
   intro e w3 hq
   have HQ := Lib.hid (BldP.pre hlo bel hq)
   have he := hq.1
   clear hq
   subst he
   go_wp2
   go_end0
   exact HQ.out
 ·simp only at h1 h2 h3
  subst h1 h2
  go_enter Tryz.func131, Tryz.ntmps131
  go_wp2_with fail
  refine (implPutB O lo g o C L A c pz.length pz _ HAT.out HROW.out rfl h3 hl).mono ?_
  intro e w3 hq
  have HQ := Lib.hid (BldP.pre hlo bel hq)
  have he := hq.1
  clear hq
  subst he
  go_wp2
  go_end0
  exact HQ.out
 ·exact absurd h1 hk
end Go.Proofs.YtbpeeokgpkjnmaaGreatDoor.low.xb
