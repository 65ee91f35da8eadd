/-
  Texts that the proofs over this seat rest on, one behind the other (3 of 6).
-/
import Derived.Test.YtbpeeokgpkjnmaaGreatDoorM2
import Derived.Test.YtbpeeokgpkjnmaaGreatDoorM1
import Derived.Deep.AppendLies
import Derived.Deep.RegionHeld
set_option maxHeartbeats 12800000
set_option maxRecDepth 1000000
namespace Go.Proofs.YtbpeeokgpkjnmaaGreatDoor.low
open Go.RowKit
set_option linter.unusedVariables false
structure XInv (a b : List Pt) (RX RY : List U) (L M : List Pt) : Prop where
 eq1 : units L ++ (xf RX RY).1 = (xf (units a) (units b)).1
 eq2 : units M ++ (xf RX RY).2 = (xf (units a) (units b)).2
 bal : src RX = src RY
 len : L.length + M.length + 2 * RX.length + 2 * RY.length ≤ 4000
section
variable {a b : List Pt} {RX RY : List U} {L M : List Pt}
theorem XInv.px {zs : List Int} (h : XInv a b (zs.map .p ++ RX) RY L M) (hn : 0 < zs.length) : XInv a b RX RY (L ++ [⟨2, 0, zs⟩]) (M ++ [⟨1, (zs.length : Int), []⟩]) := by
 refine ⟨?_, ?_, ?_, ?_⟩
 ·rw [← h.eq1, xf_puts, units_app]; simp [units, unitsP]
 ·rw [← h.eq2, xf_puts, units_app]; simp [units, unitsP]
 ·have := h.bal; rw [src_app, (src_mp zs).1] at this; omega
 ·have := h.len; simp at this ⊢; omega
theorem XInv.py {zs : List Int} (h : XInv a b RX (zs.map .p ++ RY) L M) (hp : noP RX) (hn : 0 < zs.length) : XInv a b RX RY (L ++ [⟨1, (zs.length : Int), []⟩]) (M ++ [⟨2, 0, zs⟩]) := by
 refine ⟨?_, ?_, ?_, ?_⟩
 ·rw [← h.eq1, xf_putsB _ _ _ hp, units_app]; simp [units, unitsP]
 ·rw [← h.eq2, xf_putsB _ _ _ hp, units_app]; simp [units, unitsP]
 ·have := h.bal; rw [src_app, (src_mp zs).1] at this; omega
 ·have := h.len; simp at this ⊢; omega
theorem XInv.kk {n : Nat} (h : XInv a b (List.replicate n .k ++ RX) (List.replicate n .k ++ RY) L M) (hn : 0 < n) : XInv a b RX RY (L ++ [⟨1, (n : Int), []⟩]) (M ++ [⟨1, (n : Int), []⟩]) := by
 refine ⟨?_, ?_, ?_, ?_⟩
 ·rw [← h.eq1, xf_kk, units_app]; simp [units, unitsP]
 ·rw [← h.eq2, xf_kk, units_app]; simp [units, unitsP]
 ·have := h.bal; rw [src_app, src_app, (src_rk n).1] at this; omega
 ·have := h.len; simp at this ⊢; omega
theorem XInv.dk {n : Nat} (h : XInv a b (List.replicate n .d ++ RX) (List.replicate n .k ++ RY) L M) (hn : 0 < n) : XInv a b RX RY (L ++ [⟨3, (n : Int), []⟩]) M := by
 refine ⟨?_, ?_, ?_, ?_⟩
 ·rw [← h.eq1, xf_dk, units_app]; simp [units, unitsP]
 ·rw [← h.eq2, xf_dk]
 ·have := h.bal; rw [src_app, src_app, (src_rk n).1, (src_rd n).1] at this; omega
 ·have := h.len; simp at this ⊢; omega
theorem XInv.kd {n : Nat} (h : XInv a b (List.replicate n .k ++ RX) (List.replicate n .d ++ RY) L M) (hn : 0 < n) : XInv a b RX RY L (M ++ [⟨3, (n : Int), []⟩]) := by
 refine ⟨?_, ?_, ?_, ?_⟩
 ·rw [← h.eq1, xf_kd]
 ·rw [← h.eq2, xf_kd, units_app]; simp [units, unitsP]
 ·have := h.bal; rw [src_app, src_app, (src_rk n).1, (src_rd n).1] at this; omega
 ·have := h.len; simp at this ⊢; omega
theorem XInv.dd {n : Nat} (h : XInv a b (List.replicate n .d ++ RX) (List.replicate n .d ++ RY) L M) : XInv a b RX RY L M := by
 refine ⟨?_, ?_, ?_, ?_⟩
 ·rw [← h.eq1, xf_dd]
 ·rw [← h.eq2, xf_dd]
 ·have := h.bal; rw [src_app, src_app, (src_rd n).1] at this; omega
 ·have := h.len; simp at this ⊢; omega
end
theorem xf_cases {RX RY : List U} (h : src RX = src RY) : (RX = [] ∧ RY = []) ∨ kindOf RX = 2 ∨ (noP RX ∧ (kindOf RX = 0 ∨ kindOf RX = 1 ∨ kindOf RX = 3) ∧ kindOf RY = 2) ∨ ((kindOf RX = 1 ∨ kindOf RX = 3) ∧ (kindOf RY = 1 ∨ kindOf RY = 3)) := by
 rcases RX with _ | ⟨ux, RX⟩
 ·rcases RY with _ | ⟨uy, RY⟩
  ·exact .inl ⟨rfl, rfl⟩
  ·cases uy with
   | k => simp [src] at h
   | p z => exact .inr (.inr (.inl ⟨trivial, .inl rfl, rfl⟩))
   | d => simp [src] at h
 ·cases ux with
  | p z => exact .inr (.inl rfl)
  | k =>
   rcases RY with _ | ⟨uy, RY⟩
   ·simp [src] at h
   ·cases uy with
    | k => exact .inr (.inr (.inr ⟨.inl rfl, .inl rfl⟩))
    | p z => exact .inr (.inr (.inl ⟨trivial, .inr (.inl rfl), rfl⟩))
    | d => exact .inr (.inr (.inr ⟨.inl rfl, .inr rfl⟩))
  | d =>
   rcases RY with _ | ⟨uy, RY⟩
   ·simp [src] at h
   ·cases uy with
    | k => exact .inr (.inr (.inr ⟨.inr rfl, .inl rfl⟩))
    | p z => exact .inr (.inr (.inl ⟨trivial, .inr (.inr rfl), rfl⟩))
    | d => exact .inr (.inr (.inr ⟨.inr rfl, .inr rfl⟩))
def xfA (a b : List Pt) : List Pt := doneN (foldU (xf (units a) (units b)).1)
def xfB (a b : List Pt) : List Pt := doneN (foldU (xf (units a) (units b)).2)
def xformOk (a b : List Pt) : Bool := okOp a && okOp b && (sumK a + sumD a == sumK b + sumD b) && okOp (xfA a b) && okOp (xfB a b)
def xformA (a b : List Pt) : List Pt := if xformOk a b = true then xfA a b else []
def xformB (a b : List Pt) : List Pt := if xformOk a b = true then xfB a b else []
theorem xinv0 {a b : List Pt} (hoa : okOp a = true) (hob : okOp b = true) (hbal : sumK a + sumD a = sumK b + sumD b) : XInv a b (units a) (units b) [] [] := by
 obtain ⟨ua, hsa, _⟩ := okOp_units hoa
 obtain ⟨ub, hsb, _⟩ := okOp_units hob
 refine ⟨by simp [units_nil], by simp [units_nil], ?_, by simp; omega⟩
 have s1 := (src_units hsa).1
 have s2 := (src_units hsb).1
 obtain ⟨t1, t2, t3⟩ := sum_t (okOp_partsB hoa)
 obtain ⟨u1, u2, u3⟩ := sum_t (okOp_partsB hob)
 rw [t1, t3, u1, u3] at hbal
 omega
structure TT (K : Fx) (g1 g2 : Nat) (TB : TypeId) (O P : Nat → Prop) (L M : List Pt) (w : World) (sx sy : Option Nat) (RX RY : List U) : Prop where
 cs : Cs K w sx sy RX RY
 b1 : Bld O K.lo g1 TB w L
 b2 : Bld P K.lo g2 TB w M
 ox : ¬ O K.gx
 oy : ¬ O K.gy
 px : ¬ P K.gx
 py : ¬ P K.gy
 dis : ∀ q, O q → ¬ P q
section
variable {K : Fx} {g1 g2 : Nat} {TB : TypeId} {O O' P P' : Nat → Prop} {L L' M M' : List Pt} {w w' : World} {sx sy sx' sy' : Option Nat} {RX RY RX' RY' : List U}
theorem TT.one (h : TT K g1 g2 TB O P L M w sx sy RX RY) : CB K g1 TB O L w sx sy RX RY := ⟨h.cs, h.b1, h.ox, h.oy⟩
theorem TT.two (h : TT K g1 g2 TB O P L M w sx sy RX RY) : CB K g2 TB P M w sx sy RX RY := ⟨h.cs, h.b2, h.px, h.py⟩
theorem TT.mov (h : TT K g1 g2 TB O P L M w sx sy RX RY) (hc : Cs K w' sx' sy' RX' RY') (hf : Fr (fun q => q = K.gx) w w') : TT K g1 g2 TB O P L M w' sx' sy' RX' RY' :=
 ⟨hc, (h.one.mov hc hf).bd, (h.two.mov hc hf).bd, h.ox, h.oy, h.px, h.py, h.dis⟩
theorem TT.movy (h : TT K g1 g2 TB O P L M w sx sy RX RY) (hc : Cs K w' sx' sy' RX' RY') (hf : Fr (fun q => q = K.gy) w w') : TT K g1 g2 TB O P L M w' sx' sy' RX' RY' :=
 ⟨hc, (h.one.movy hc hf).bd, (h.two.movy hc hf).bd, h.ox, h.oy, h.px, h.py, h.dis⟩
theorem TT.past (h : TT K g1 g2 TB O P L M w sx sy RX RY) (hb : Below w.heap.size w w') : TT K g1 g2 TB O P L M w' sx sy RX RY := ⟨h.cs.past hb, h.b1.past hb, h.b2.past hb, h.ox, h.oy, h.px, h.py, h.dis⟩
theorem TT.bldr (h : TT K g1 g2 TB O P L M w sx sy RX RY) (hd : Bld O' K.lo g1 TB w' L') (hb : Below K.lo w w') (hg : Grew O O' w w') : TT K g1 g2 TB O' P L' M w' sx sy RX RY := by
 have h1 := h.one.bldr hd hb hg
 obtain ⟨h2, h3⟩ := h.b2.apart hg (fun q hq ho => h.dis q ho hq)
 exact ⟨h1.cs, hd, h2, h1.ox, h1.oy, h.px, h.py, fun q ho hp => h3 q hp ho⟩
theorem TT.bldr2 (h : TT K g1 g2 TB O P L M w sx sy RX RY) (hd : Bld P' K.lo g2 TB w' M') (hb : Below K.lo w w') (hg : Grew P P' w w') : TT K g1 g2 TB O P' L M' w' sx sy RX RY := by
 have h1 := h.two.bldr hd hb hg
 obtain ⟨h2, h3⟩ := h.b1.apart hg h.dis
 exact ⟨h1.cs, h2, hd, h.ox, h.oy, h1.ox, h1.oy, h3⟩
theorem TT.weak (h : TT K g1 g2 TB O P L M w sx sy RX RY) : TT K g1 g2 TB O P L M w none none RX RY := ⟨h.cs.weak, h.b1, h.b2, h.ox, h.oy, h.px, h.py, h.dis⟩
theorem TT.lo_le (h : TT K g1 g2 TB O P L M w sx sy RX RY) : K.lo ≤ w.heap.size := h.b1.low
theorem TT.adv2 {mx my : Nat} (h : TT K g1 g2 TB O P L M w (some mx) (some my) RX RY) (hkx : ¬ kindOf RX = 0) (hky : ¬ kindOf RY = 0) : ∃ d1 d2 : Nat, d1 ≤ 200 ∧ d2 ≤ 200 ∧ w.cell? ⟨K.gx, 2, none⟩ = some (.int .i64 (d1 : Int)) ∧ w.cell? ⟨K.gy, 2, none⟩ = some (.int .i64 (d2 : Int)) ∧ w.frozen? ⟨K.gx, 2, none⟩ = false ∧ w.frozen? ⟨K.gy, 2, none⟩ = false ∧
  ∀ n, n ≤ mx → n ≤ my → TT K g1 g2 TB O P L M ((w.setCell ⟨K.gx, 2, none⟩ (.int .i64 ((d1 : Int) + (n : Int)))).setCell ⟨K.gy, 2, none⟩ (.int .i64 ((d2 : Int) + (n : Int)))) none none (RX.drop n) (RY.drop n) := by
 obtain ⟨d1, d2, h1, h2, h3, h4, h5, h6, h7⟩ := h.one.adv2 hkx hky
 obtain ⟨e1, e2, k1, k2, k3, k4, k5, k6, k7⟩ := h.two.adv2 hkx hky
 refine ⟨d1, d2, h1, h2, h3, h4, h5, h6, fun n hx hy => ?_⟩
 have r1 := h7 n hx hy
 have r2 := k7 n hx hy
 rw [k3] at h3
 rw [k4] at h4
 injection h3 with h3
 injection h3 with _ h3
 injection h4 with h4
 injection h4 with _ h4
 rw [h3, h4] at r2
 exact ⟨r1.cs, r1.bd, r2.bd, h.ox, h.oy, h.px, h.py, h.dis⟩
end
def KindT (K : Fx) (g1 g2 : Nat) (TB : TypeId) (O P : Nat → Prop) (L M : List Pt) (v : Int) (sx sy : Option Nat) (f : Nat → Option Nat × Option Nat) (s0 : Option Nat) (RX RY : List U) (w : World) (e : Ending) (w' : World) : Prop :=
 e = .returned (.int .i64 v) ∧ ∃ m, (∀ q, s0 = some q → m = q) ∧ TT K g1 g2 TB O P L M w' (f m).1 (f m).2 RX RY ∧ Below K.lo w w'
def LeftT (K : Fx) (g1 g2 : Nat) (TB : TypeId) (O P : Nat → Prop) (L M : List Pt) (m : Nat) (sx sy : Option Nat) (RX RY : List U) (w : World) (e : Ending) (w' : World) : Prop := e = .returned (.int .i64 (m : Int)) ∧ TT K g1 g2 TB O P L M w' sx sy RX RY ∧ Below K.lo w w'
def TakeT (K : Fx) (g1 g2 : Nat) (TB : TypeId) (O P : Nat → Prop) (L M : List Pt) (n : Nat) (sy : Option Nat) (RX RY : List U) (w : World) (e : Ending) (w' : World) : Prop :=
 ∃ A' c' zs, e = .returned (.slice A' n c') ∧ zs.length = n ∧ RX = zs.map .p ++ RX.drop n ∧ Row (Value.int .i64) w' w'.heap.size A' zs ∧ TT K g1 g2 TB O P L M w' none sy (RX.drop n) RY ∧ Below K.lo w w'
def TakeTy (K : Fx) (g1 g2 : Nat) (TB : TypeId) (O P : Nat → Prop) (L M : List Pt) (n : Nat) (sx : Option Nat) (RX RY : List U) (w : World) (e : Ending) (w' : World) : Prop :=
 ∃ A' c' zs, e = .returned (.slice A' n c') ∧ zs.length = n ∧ RY = zs.map .p ++ RY.drop n ∧ Row (Value.int .i64) w' w'.heap.size A' zs ∧ TT K g1 g2 TB O P L M w' sx none RX (RY.drop n) ∧ Below K.lo w w'
def BldT1 (K : Fx) (g1 g2 : Nat) (TB : TypeId) (P : Nat → Prop) (L M : List Pt) (sx sy : Option Nat) (RX RY : List U) (w : World) (e : Ending) (w' : World) : Prop := e = .returned (.tuple #[]) ∧ ∃ O', TT K g1 g2 TB O' P L M w' sx sy RX RY ∧ Below K.lo w w'
def BldT2 (K : Fx) (g1 g2 : Nat) (TB : TypeId) (O : Nat → Prop) (L M : List Pt) (sx sy : Option Nat) (RX RY : List U) (w : World) (e : Ending) (w' : World) : Prop := e = .returned (.tuple #[]) ∧ ∃ P', TT K g1 g2 TB O P' L M w' sx sy RX RY ∧ Below K.lo w w'
section
variable {K : Fx} {g1 g2 : Nat} {TB : TypeId} {O P : Nat → Prop} {L M : List Pt} {w : World} {sx sy : Option Nat} {RX RY : List U}
theorem TT.kindx (h : TT K g1 g2 TB O P L M w sx sy RX RY) (hT : K.TC = 140) : Calls Tryz.prog 104 #[.pointer (some ⟨K.gx, 0, none⟩)] w (KindT K g1 g2 TB O P L M (kindOf RX) sx sy (fun m => (some m, sy)) sx RX RY w) := by
 refine (specKindX K hT w sx sy RX RY h.cs).mono ?_
 rintro e w' ⟨rfl, m, h1, h2, h3, h4⟩
 exact ⟨rfl, m, h1, h.mov h2 h4, h3⟩
theorem TT.kindy (h : TT K g1 g2 TB O P L M w sx sy RX RY) (hT : K.TC = 140) : Calls Tryz.prog 104 #[.pointer (some ⟨K.gy, 0, none⟩)] w (KindT K g1 g2 TB O P L M (kindOf RY) sx sy (fun m => (sx, some m)) sy RX RY w) := by
 refine (specKindX K.swap hT w sy sx RY RX h.cs.swap).mono ?_
 rintro e w' ⟨rfl, m, h1, h2, h3, h4⟩
 exact ⟨rfl, m, h1, h.movy h2.back h4, h3⟩
theorem TT.leftx {m : Nat} (h : TT K g1 g2 TB O P L M w (some m) sy RX RY) (hT : K.TC = 140) (hk : ¬ kindOf RX = 0) : Calls Tryz.prog 105 #[.pointer (some ⟨K.gx, 0, none⟩)] w (LeftT K g1 g2 TB O P L M m (some m) sy RX RY w) := by
 refine (specLeftX K hT w m sy RX RY h.cs hk).mono ?_
 rintro e w' ⟨rfl, h2, h3⟩
 exact ⟨rfl, h.past h3, h3.mono h.lo_le⟩
theorem TT.lefty {m : Nat} (h : TT K g1 g2 TB O P L M w sx (some m) RX RY) (hT : K.TC = 140) (hk : ¬ kindOf RY = 0) : Calls Tryz.prog 105 #[.pointer (some ⟨K.gy, 0, none⟩)] w (LeftT K g1 g2 TB O P L M m sx (some m) RX RY w) := by
 refine (specLeftX K.swap hT w m sx RY RX h.cs.swap hk).mono ?_
 rintro e w' ⟨rfl, h2, h3⟩
 exact ⟨rfl, h.past h3, h3.mono h.lo_le⟩
theorem TT.takex {m n : Nat} (h : TT K g1 g2 TB O P L M w (some m) sy RX RY) (hT : K.TC = 140) (hk : kindOf RX = 2) (hn : n ≤ m) (h0 : 0 < n) : Calls Tryz.prog 106 #[.pointer (some ⟨K.gx, 0, none⟩), .int .i64 (n : Int)] w (TakeT K g1 g2 TB O P L M n sy RX RY w) := by
 refine (specTakeX K hT w m n sy RX RY h.cs hk hn h0).mono ?_
 rintro e w' ⟨A', c', zs, rfl, h1, h2, h3, h4, h5, h6⟩
 exact ⟨A', c', zs, rfl, h1, h2, h3, h.mov h4 h6, h5⟩
theorem TT.takey {m n : Nat} (h : TT K g1 g2 TB O P L M w sx (some m) RX RY) (hT : K.TC = 140) (hk : kindOf RY = 2) (hn : n ≤ m) (h0 : 0 < n) : Calls Tryz.prog 106 #[.pointer (some ⟨K.gy, 0, none⟩), .int .i64 (n : Int)] w (TakeTy K g1 g2 TB O P L M n sx RX RY w) := by
 refine (specTakeX K.swap hT w m n sx RY RX h.cs.swap hk hn h0).mono ?_
 rintro e w' ⟨A', c', zs, rfl, h1, h2, h3, h4, h5, h6⟩
 exact ⟨A', c', zs, rfl, h1, h2, h3, h.movy h4.back h6, h5⟩
theorem TT.keep1 {n : Int} (h : TT K g1 g2 134 O P L M w sx sy RX RY) (h0 : 0 ≤ n) (h1 : n ≤ 200) (hl : L.length < 100000) : Calls Tryz.prog 100 #[.pointer (some ⟨g1, 0, none⟩), .int .i64 n] w (BldT1 K g1 g2 134 P (L ++ [⟨1, n, []⟩]) M sx sy RX RY w) := by
 refine (specKeepB O K.lo g1 L n w h.b1 h0 h1 hl).mono ?_
 rintro e w' ⟨rfl, O', h1, h2, h3⟩
 exact ⟨rfl, O', h.bldr h1 h2 h3, h2⟩
theorem TT.drop1 {n : Int} (h : TT K g1 g2 134 O P L M w sx sy RX RY) (h0 : 0 ≤ n) (h1 : n ≤ 200) (hl : L.length < 100000) : Calls Tryz.prog 102 #[.pointer (some ⟨g1, 0, none⟩), .int .i64 n] w (BldT1 K g1 g2 134 P (L ++ [⟨3, n, []⟩]) M sx sy RX RY w) := by
 refine (specDropB O K.lo g1 L n w h.b1 h0 h1 hl).mono ?_
 rintro e w' ⟨rfl, O', h1, h2, h3⟩
 exact ⟨rfl, O', h.bldr h1 h2 h3, h2⟩
theorem TT.put1 {A : Option Addr} {c m : Nat} {zs : List Int} (h : TT K g1 g2 134 O P L M w sx sy RX RY) (hr : Row (Value.int .i64) w w.heap.size A zs) (hm : zs.length = m) (h1 : m ≤ 200) (hl : L.length < 100000) : Calls Tryz.prog 101 #[.pointer (some ⟨g1, 0, none⟩), .slice A m c] w (BldT1 K g1 g2 134 P (L ++ [⟨2, 0, zs⟩]) M sx sy RX RY w) := by
 refine (specPutB O K.lo g1 L A c m zs w h.b1 hr hm (by omega) hl).mono ?_
 rintro e w' ⟨rfl, O', h1, h2, h3⟩
 exact ⟨rfl, O', h.bldr h1 h2 h3, h2⟩
theorem TT.keep2 {n : Int} (h : TT K g1 g2 134 O P L M w sx sy RX RY) (h0 : 0 ≤ n) (h1 : n ≤ 200) (hl : M.length < 100000) : Calls Tryz.prog 100 #[.pointer (some ⟨g2, 0, none⟩), .int .i64 n] w (BldT2 K g1 g2 134 O L (M ++ [⟨1, n, []⟩]) sx sy RX RY w) := by
 refine (specKeepB P K.lo g2 M n w h.b2 h0 h1 hl).mono ?_
 rintro e w' ⟨rfl, O', h1, h2, h3⟩
 exact ⟨rfl, O', h.bldr2 h1 h2 h3, h2⟩
theorem TT.drop2 {n : Int} (h : TT K g1 g2 134 O P L M w sx sy RX RY) (h0 : 0 ≤ n) (h1 : n ≤ 200) (hl : M.length < 100000) : Calls Tryz.prog 102 #[.pointer (some ⟨g2, 0, none⟩), .int .i64 n] w (BldT2 K g1 g2 134 O L (M ++ [⟨3, n, []⟩]) sx sy RX RY w) := by
 refine (specDropB P K.lo g2 M n w h.b2 h0 h1 hl).mono ?_
 rintro e w' ⟨rfl, O', h1, h2, h3⟩
 exact ⟨rfl, O', h.bldr2 h1 h2 h3, h2⟩
theorem TT.put2 {A : Option Addr} {c m : Nat} {zs : List Int} (h : TT K g1 g2 134 O P L M w sx sy RX RY) (hr : Row (Value.int .i64) w w.heap.size A zs) (hm : zs.length = m) (h1 : m ≤ 200) (hl : M.length < 100000) : Calls Tryz.prog 101 #[.pointer (some ⟨g2, 0, none⟩), .slice A m c] w (BldT2 K g1 g2 134 O L (M ++ [⟨2, 0, zs⟩]) sx sy RX RY w) := by
 refine (specPutB P K.lo g2 M A c m zs w h.b2 hr hm (by omega) hl).mono ?_
 rintro e w' ⟨rfl, O', h1, h2, h3⟩
 exact ⟨rfl, O', h.bldr2 h1 h2 h3, h2⟩
end
theorem OwB.grew2 {O O' : Nat → Prop} {lo hi : Nat} {w w' : World} {d : Dat} {v : Value} {b : List Nat} (h : OwB lo hi w d v b) (hg : Grew O O' w w') (hO : ∀ x ∈ b, ¬ O x) : OwB lo hi w' d v b :=
 ⟨OwC.keep d v b h.ow (fun x hx => hg.block x (OwC.lt d v b h.ow x hx) (hO x hx)), h.nd, h.rng, Nat.le_trans h.top hg.size, h.le⟩
theorem OwB.upto {lo hi hi' : Nat} {w : World} {d : Dat} {v : Value} {b : List Nat} (h : OwB lo hi w d v b) (h1 : hi ≤ hi') (h2 : hi' ≤ w.heap.size) : OwB lo hi' w d v b := ⟨h.ow, h.nd, fun x hx => ⟨(h.rng x hx).1, Nat.lt_of_lt_of_le (h.rng x hx).2 h1⟩, h2, Nat.le_trans h.le h1⟩
theorem xf_small {a b : List Pt} (h : xformOk a b = true) : SmP (xfA a b) ∧ SmP (xfB a b) := by
 unfold xformOk at h
 rw [Bool.and_eq_true, Bool.and_eq_true] at h
 obtain ⟨_, h1, h2⟩ := okOp_units h.1.2
 obtain ⟨_, h3, h4⟩ := okOp_units h.2
 have := signsIn_le h1
 have := signsIn_le h3
 exact ⟨⟨by omega, by omega⟩, ⟨by omega, by omega⟩⟩
theorem smP_nil : SmP [] := ⟨by simp, by simp [signsIn]⟩
theorem xformB_sm (a b : List Pt) : SmP (xformB a b) := by
 unfold xformB
 split
 ·rename_i h; exact (xf_small h).2
 ·exact smP_nil
theorem wpList_append_row {w : World} {ops : Array Oper} {rest : List Oper} {o : Oper} {a : Act} {Q : Exit → Act → World → Prop} (hgd : o.guard = none) (s x : Operand) (t : TypeId)
  (ho : o.op = .call { callee := .builtin .append, args := #[s, x], argTypes := #[t, t] }) (e : TypeId) (i : TypeInfo) (z : Value) (sz bytes : Nat) (ht : Tryz.prog.underlying t = some (.slice e)) (hi : Tryz.prog.info? e = some i) (hz : i.zero = some z) (hsize : i.size = sz) (hby : i.bytes = bytes) (hzs : z.cells.size = sz) (hsz : 0 < sz) (hbm : bytes ≤ 100000)
  (lo hi' : Nat) (v : Value) (ds : List (List Dat)) (b : List Nat) (h : OwB lo hi' w (.rows e sz ds) v b) (hs : a.eval s = v) (hlen : ds.length ≤ 2000000)
  (ad : Addr) (c0 : Nat) (ys : List Value) (hx : a.eval x = .slice (some ad) 1 c0) (hl : ys.length = sz) (hnews : ∀ j u, ys[j]? = some u → w.cell? (ad.add j) = some u) (h1 : ∀ u ∈ ys, u.oneCell' = true)
  (r : List Dat) (c : List Nat) (hr : OwL w r ys c) (hcn : c.Nodup) (hbc : ∀ q ∈ b, q ∉ c) (hcr : ∀ q ∈ c, lo ≤ q)
  (K : ∀ A' c' w' b', OwB lo w'.heap.size w' (.rows e sz (ds ++ [r])) (.slice A' (ds.length + 1) c') b' → (∀ q ∈ b', q ∈ b ∨ q ∈ c ∨ w.heap.size ≤ q) → Grew (fun q => q ∈ b) (fun q => q ∈ b ∨ w.heap.size ≤ q) w w' → Below lo w w' → wpList Tryz.prog ops Q rest (a.put o.dst (.slice A' (ds.length + 1) c')) w') : wpList Tryz.prog ops Q (o :: rest) a w := by
 have hnd := h.nd
 have hrg := h.rng
 obtain ⟨xs, cs, ho', hor, hb⟩ := h.ow
 refine wpList_append_lies _ hgd s x t ho 0 e i z sz bytes ht hi hz hsize hby hzs hsz v ds.length xs hs ho' ad 1 c0 ys hx (by simp [hl]) hnews h1 (by omega) (by unfold maxLen; omega) ?_ (Nat.zero_le _) _ rfl ?_
 ·have : (ds.length + 1) * bytes ≤ 2000001 * 100000 := Nat.mul_le_mul (by omega) hbm
  omega
 intro g cap w' hown hg hat hlt
 rw [hb] at hnd
 obtain ⟨n1, n2, n3⟩ := List.nodup_append.1 hnd
 have own_mem : ∀ q, v.ownBlock = some q → q ∈ b := fun q hq => by rw [hb, hq]; simp
 have hcs : ∀ q ∈ cs, w'.heap[q]? = w.heap[q]? := fun q hq => hg.block q (OwR.lt sz _ _ _ hor q hq) (fun e => n3 q (by rw [← e]; simp) q hq rfl)
 have hcc : ∀ q ∈ c, w'.heap[q]? = w.heap[q]? := fun q hq => hg.block q (OwL.lt _ _ _ hr q hq) (fun e => hbc q (own_mem q e.symm) hq)
 have hor' := (OwR.keep sz _ _ _ hor hcs).append (OwR.one (OwL.keep _ _ _ hr hcc) hl)
 have g1 : g ∉ cs := fun hq => by
  rcases hat with e | e
  ·exact n3 g (by rw [e]; simp) g hq rfl
  ·have := OwR.lt sz _ _ _ hor g hq; omega
 have g2 : g ∉ c := fun hq => by
  rcases hat with e | e
  ·exact hbc g (own_mem g e) hq
  ·have := OwL.lt _ _ _ hr g hq; omega
 have g3 : lo ≤ g ∧ (g ∈ b ∨ w.heap.size ≤ g) := by
  rcases hat with e | e
  ·exact ⟨(hrg g (own_mem g e)).1, .inl (own_mem g e)⟩
  ·have := h.top; have := h.le; exact ⟨by omega, .inr (by omega)⟩
 have hsz' := hg.size
 have ht' := h.top
 refine K _ cap w' (g :: (cs ++ c)) ⟨⟨xs ++ ys, cs ++ c, by rw [List.length_append]; exact hown, hor', rfl⟩, ?_, ?_, Nat.le_refl _, by have := h.le; omega⟩ ?_ ⟨hg.size, fun q hq hn => hg.block q hq (fun e => hn (own_mem q e.symm)), fun q hq => hq⟩ ?_
 ·refine List.nodup_cons.2 ⟨fun hq => ?_, List.nodup_append.2 ⟨n2, hcn, fun q hq q' hq' e => ?_⟩⟩
  ·rcases List.mem_append.1 hq with hq | hq
   ·exact g1 hq
   ·exact g2 hq
  ·subst e
   exact hbc q (by rw [hb]; simp [hq]) hq'
 ·intro q hq
  rcases List.mem_cons.1 hq with rfl | hq
  ·exact ⟨g3.1, hlt⟩
  ·rcases List.mem_append.1 hq with hq | hq
   ·have := hrg q (by rw [hb]; simp [hq]); exact ⟨this.1, by omega⟩
   ·have := OwL.lt _ _ _ hr q hq; exact ⟨hcr q hq, by omega⟩
 ·intro q hq
  rcases List.mem_cons.1 hq with rfl | hq
  ·rcases g3.2 with h | h
   ·exact .inl h
   ·exact .inr (.inr h)
  ·rcases List.mem_append.1 hq with hq | hq
   ·exact .inl (by rw [hb]; simp [hq])
   ·exact .inr (.inl hq)
 ·exact (Below.refl lo w).grown hg (by have := h.le; omega) (fun k hk => (hrg k (own_mem k hk)).1)
theorem OwC.row1 {w : World} {d : Dat} {v : Value} {b : List Nat} (h : OwC w d v b) : OwL w [d] [v] b := ⟨v, [], b, [], rfl, by simp, h, rfl, rfl⟩
inductive It where
 | bx (g : Nat) (o : Obj)
 | dt (d : Dat) (v : Value) (b : List Nat)
 | rd (d : Dat) (v : Value) (b : List Nat)
def It.bs : It → List Nat
 | .bx g _ => [g]
 | .dt _ _ b => b
 | .rd _ _ b => b
def It.ok (W : World) : It → Prop
 | .bx g o => W.heap[g]? = some o
 | .dt d v b => OwC W d v b
 | .rd d v b => (∀ q ∈ b, q < W.heap.size) ∧ ∀ W' : World, (∀ q ∈ b, W'.heap[q]? = W.heap[q]?) → ∀ B, (∀ q ∈ b, q < B) → RdC W' B d v
theorem It.keep {W W' : World} {x : It} (h : x.ok W) (hk : ∀ q ∈ x.bs, W'.heap[q]? = W.heap[q]?) : x.ok W' := by
 cases x with
 | bx g o => exact (hk g (by simp [It.bs])).trans h
 | dt d v b => exact OwC.keep d v b h hk
 | rd d v b =>
  refine ⟨fun q hq => ?_, fun W2 h2 => h.2 W2 (fun q hq => (h2 q hq).trans (hk q hq))⟩
  have h1 := h.1 q hq
  rcases Nat.lt_or_ge q W'.heap.size with h3 | h3
  ·exact h3
  ·have h4 := hk q hq
   rw [Array.getElem?_eq_none h3, Array.getElem?_eq_getElem h1] at h4
   cases h4
theorem It.lt {W : World} {x : It} (h : x.ok W) {q : Nat} (hq : q ∈ x.bs) : q < W.heap.size := by
 cases x with
 | bx g o => obtain rfl : q = g := by simpa [It.bs] using hq
             exact lt_of_some h
 | dt d v b => exact OwC.lt d v b h q hq
 | rd d v b => exact h.1 q hq
structure Ms (w0 : World) (L : List It) (W : World) : Prop where
 ok : ∀ x ∈ L, x.ok W
 nd : (L.flatMap It.bs).Nodup
 rg : ∀ q ∈ L.flatMap It.bs, w0.heap.size ≤ q
 bl : Below w0.heap.size w0 W
section
variable {w0 W W' : World} {L L' : List It} {x y : It}
theorem Ms.start (w : World) : Ms w [] w := ⟨fun x hx => (by simp at hx), by simp, fun q hq => (by simp at hq), Below.refl _ _⟩
theorem Ms.size (h : Ms w0 L W) : w0.heap.size ≤ W.heap.size := h.bl.size
theorem Ms.blt (h : Ms w0 L W) : ∀ q ∈ L.flatMap It.bs, q < W.heap.size := fun q hq => by
 obtain ⟨x, hx, hq⟩ := List.mem_flatMap.1 hq
 exact It.lt (h.ok x hx) hq
theorem Ms.keep (h : Ms w0 L W) (hk : ∀ q ∈ L.flatMap It.bs, W'.heap[q]? = W.heap[q]?) (hb : Below w0.heap.size w0 W') : Ms w0 L W' :=
 ⟨fun x hx => It.keep (h.ok x hx) (fun q hq => hk q (List.mem_flatMap.2 ⟨x, hx, hq⟩)), h.nd, h.rg, hb⟩
theorem Ms.past (h : Ms w0 L W) (hb : Below W.heap.size W W') : Ms w0 L W' := h.keep (fun q hq => hb.block q (h.blt q hq)) (h.bl.trans (hb.mono h.size))
theorem Ms.drew (h : Ms w0 L W) : Ms w0 L W.drew := h.past (Below.refl _ _).drew
theorem Ms.drewN (h : Ms w0 L W) (n : Nat) : Ms w0 L (W.drewN n) := h.past ⟨rfl, rfl, rfl, Nat.le_refl _, fun _ _ => rfl⟩
theorem Ms.arg (h : Ms w0 L W) {d : Dat} {v : Value} (hr : RdC w0 w0.heap.size d v) : RdC W W.heap.size d v := hr.past h.bl
theorem Ms.perm (h : Ms w0 L W) (hp : L.Perm L') : Ms w0 L' W :=
 ⟨fun x hx => h.ok x (hp.mem_iff.2 hx), (hp.flatMap_right It.bs).nodup_iff.1 h.nd, fun q hq => h.rg q ((hp.flatMap_right It.bs).mem_iff.2 hq), h.bl⟩
theorem Ms.tail (h : Ms w0 (x :: L) W) : Ms w0 L W :=
 ⟨fun y hy => h.ok y (by simp [hy]), by have := h.nd; rw [List.flatMap_cons, List.nodup_append] at this; exact this.2.1, fun q hq => h.rg q (by rw [List.flatMap_cons]; exact List.mem_append_right _ hq), h.bl⟩
theorem erase_perm : ∀ {L : List It} {i : Nat} {x : It}, L[i]? = some x → L.Perm (x :: L.eraseIdx i)
 | [], i, x, h => by simp at h
 | y :: L, 0, x, h => by
  simp at h
  subst h
  exact List.Perm.refl _
 | y :: L, i + 1, x, h => by
  have ih := erase_perm (L := L) (i := i) (x := x) (by simpa using h)
  exact (ih.cons y).trans (List.Perm.swap x y _)
theorem Ms.pull (h : Ms w0 L W) {i : Nat} (hi : L[i]? = some x) (hL : x :: L.eraseIdx i = L') : Ms w0 L' W := by
 subst hL
 exact h.perm (erase_perm hi)
theorem Ms.drop (h : Ms w0 L W) (n : Nat) : Ms w0 (L.drop n) W := by
 induction n generalizing L with
 | zero => exact h
 | succ n ih =>
  cases L with
  | nil => exact h
  | cons x L => exact ih h.tail
theorem Ms.at_ (h : Ms w0 L W) {i : Nat} (hi : L[i]? = some x) : x.ok W := h.ok x (List.mem_of_getElem? hi)
theorem Ms.bsAt (h : Ms w0 L W) {i : Nat} (hi : L[i]? = some x) : ∀ q ∈ x.bs, w0.heap.size ≤ q ∧ q < W.heap.size := fun q hq =>
 ⟨h.rg q (List.mem_flatMap.2 ⟨x, List.mem_of_getElem? hi, hq⟩), It.lt (h.at_ hi) hq⟩
theorem Ms.ndAt (h : Ms w0 L W) {i : Nat} (hi : L[i]? = some x) : x.bs.Nodup := by
 have h2 := h.pull hi rfl
 have := h2.nd
 rw [List.flatMap_cons, List.nodup_append] at this
 exact this.1
theorem Ms.cell (h : Ms w0 L W) {i g j : Nat} {cs : Array Value} {T : TypeId} {u : Value} (hi : L[i]? = some (.bx g (.cells cs T (0, 0)))) (hu : cs[j]? = some u) : W.cell? ⟨g, j, none⟩ = some u := bxcell (h.at_ hi) hu
theorem Ms.free (h : Ms w0 L W) {i g j : Nat} {cs : Array Value} {T : TypeId} (hi : L[i]? = some (.bx g (.cells cs T (0, 0)))) : W.frozen? ⟨g, j, none⟩ = false := bxfree (h.at_ hi)
theorem Ms.glt (h : Ms w0 L W) {i g : Nat} {o : Obj} (hi : L[i]? = some (.bx g o)) : w0.heap.size ≤ g ∧ g < W.heap.size := h.bsAt hi g (by simp [It.bs])
theorem Ms.read (h : Ms w0 L W) {i : Nat} {d : Dat} {v : Value} {b : List Nat} (hi : L[i]? = some (.dt d v b)) : RdC W W.heap.size d v := OwC.read d v b (h.at_ hi) (fun q hq => (h.bsAt hi q hq).2)
theorem Ms.own (h : Ms w0 L W) {i : Nat} {d : Dat} {v : Value} {b : List Nat} (hi : L[i]? = some (.dt d v b)) : Own w0.heap.size W.heap.size W d v := ⟨b, h.at_ hi, h.ndAt hi, h.bsAt hi, Nat.le_refl _, h.size⟩
theorem Ms.cons (h : Ms w0 L W) (hb : Below W.heap.size W W') (hx : x.ok W') (hn : x.bs.Nodup) (hq : ∀ q ∈ x.bs, W.heap.size ≤ q) : Ms w0 (x :: L) W' := by
 have h' := h.past hb
 refine ⟨fun y hy => ?_, ?_, fun q hq' => ?_, h'.bl⟩
 ·rcases List.mem_cons.1 hy with rfl | hy
  ·exact hx
  ·exact h'.ok y hy
 ·rw [List.flatMap_cons, List.nodup_append]
  exact ⟨hn, h.nd, fun a ha b hb e => by subst e; have := hq a ha; have := h.blt a hb; omega⟩
 ·rw [List.flatMap_cons] at hq'
  rcases List.mem_append.1 hq' with hq' | hq'
  ·exact Nat.le_trans h.size (hq q hq')
  ·exact h.rg q hq'
theorem Ms.new (h : Ms w0 L W) (cs : Array Value) (T : TypeId) : Ms w0 (.bx W.heap.size (.cells cs T (0, 0)) :: L) (W.alloc (.cells cs T)) :=
 h.cons (alloc_below W _) (heap_alloc_new W _) (by simp [It.bs]) (fun q hq => by simp [It.bs] at hq; omega)
theorem Ms.got (h : Ms w0 L W) {d : Dat} {v : Value} (ho : Own W.heap.size W'.heap.size W' d v) (hb : Below W.heap.size W W') : ∃ b, Ms w0 (.dt d v b :: L) W' := by
 obtain ⟨b, h1, h2, h3, _, _⟩ := ho
 exact ⟨b, h.cons hb h1 h2 (fun q hq => (h3 q hq).1)⟩
theorem Ms.nil (h : Ms w0 L W) (e : TypeId) (sz : Nat) : Ms w0 (.dt (.rows e sz []) (.slice none 0 0) [] :: L) W :=
 h.cons (Below.refl _ _) ⟨[], [], World.ownsRow_nil _ _ _ _, ⟨rfl, rfl⟩, rfl⟩ (by simp [It.bs]) (fun q hq => by simp [It.bs] at hq)
theorem Ms.empty (h : Ms w0 L W) (e : TypeId) (sz : Nat) : Ms w0 (.dt (.rows e sz []) (.slice (some ⟨W.heap.size, 0, none⟩) 0 0) [W.heap.size] :: L) (W.alloc (.cells #[] e)) :=
 h.cons (alloc_below W _) ⟨[], [], ⟨by simp, .inr ⟨W.heap.size, 0, #[], rfl, Nat.zero_le _, heap_alloc_new W _, Nat.le_refl _, by unfold maxLen; omega, by simp, by simp⟩⟩, ⟨rfl, rfl⟩, rfl⟩ (by simp [It.bs]) (fun q hq => by simp [It.bs] at hq; omega)
theorem Ms.turn (h : Ms w0 (x :: L) W) (hs : W.heap.size ≤ W'.heap.size) (hk : ∀ q, q < W.heap.size → q ∉ x.bs → W'.heap[q]? = W.heap[q]?) (hb : Below w0.heap.size w0 W') (hy : y.ok W') (hn : y.bs.Nodup) (hq : ∀ q ∈ y.bs, q ∈ x.bs ∨ W.heap.size ≤ q) : Ms w0 (y :: L) W' := by
 have hnd := h.nd
 rw [List.flatMap_cons, List.nodup_append] at hnd
 have hlt := h.tail.blt
 refine ⟨fun z hz => ?_, ?_, fun q hq' => ?_, hb⟩
 ·rcases List.mem_cons.1 hz with rfl | hz
  ·exact hy
  ·exact It.keep (h.ok z (by simp [hz])) (fun q hq' => by
    have hm : q ∈ L.flatMap It.bs := List.mem_flatMap.2 ⟨z, hz, hq'⟩
    exact hk q (hlt q hm) (fun e => hnd.2.2 q e q hm rfl))
 ·rw [List.flatMap_cons, List.nodup_append]
  refine ⟨hn, hnd.2.1, fun a ha b hb e => ?_⟩
  subst e
  rcases hq a ha with h1 | h1
  ·exact hnd.2.2 a h1 a hb rfl
  ·have := hlt a hb; omega
 ·rw [List.flatMap_cons] at hq'
  rcases List.mem_append.1 hq' with hq' | hq'
  ·rcases hq q hq' with h1 | h1
   ·exact h.rg q (by rw [List.flatMap_cons]; exact List.mem_append_left _ h1)
   ·exact Nat.le_trans h.size h1
  ·exact h.tail.rg q hq'
theorem Ms.set {g j : Nat} {cs : Array Value} {T : TypeId} (h : Ms w0 (.bx g (.cells cs T (0, 0)) :: L) W) (u : Value) : Ms w0 (.bx g (.cells (cs.setIfInBounds j u) T (0, 0)) :: L) (W.setCell ⟨g, j, none⟩ u) := by
 have hg := h.glt (i := 0) rfl
 refine h.turn (by simp [World.setCell]) (fun q hq hn => Below.heap_setCell _ _ _ _ (fun e => hn (by simp [It.bs]; exact e))) (h.bl.setCell (p := ⟨g, j, none⟩) hg.1 u) (bxset (h.at_ (i := 0) rfl) u) (by simp [It.bs]) (fun q hq => .inl hq)
theorem Ms.pk0 (h : Ms w0 L W) : Ms w0 (.dt (.agg []) (.agg #[]) [] :: L) W := h.cons (Below.refl _ _) ⟨[], rfl, rfl, rfl⟩ (by simp [It.bs]) (fun q hq => by simp [It.bs] at hq)
theorem Ms.pkF {ds : List Dat} {vs : List Value} {b : List Nat} {d : Dat} {u : Value} (h : Ms w0 (.dt (.agg ds) (.agg vs.toArray) b :: L) W) (hf : d.flat = some u) : Ms w0 (.dt (.agg (d :: ds)) (.agg (u :: vs).toArray) b :: L) W := by
 refine h.turn (Nat.le_refl _) (fun _ _ _ => rfl) h.bl ?_ (show b.Nodup from h.ndAt (i := 0) (x := .dt (.agg ds) (.agg vs.toArray) b) rfl) (fun q hq => .inl hq)
 obtain ⟨xs, hx, ho⟩ : OwC W (.agg ds) (.agg vs.toArray) b := h.at_ (i := 0) rfl
 have e : vs = xs := by injection hx with hx; simpa using congrArg Array.toList hx
 subst e
 exact ⟨u :: vs, rfl, u, vs, [], b, rfl, rfl, OwC.of_flat hf, ho⟩
theorem Ms.pkO {ds : List Dat} {vs : List Value} {b c : List Nat} {d : Dat} {v : Value} (h : Ms w0 (.dt (.agg ds) (.agg vs.toArray) b :: .dt d v c :: L) W) : Ms w0 (.dt (.agg (d :: ds)) (.agg (v :: vs).toArray) (c ++ b) :: L) W := by
 have hnd := h.nd
 rw [List.flatMap_cons, List.flatMap_cons, List.nodup_append, List.nodup_append] at hnd
 obtain ⟨xs, hx, ho⟩ : OwC W (.agg ds) (.agg vs.toArray) b := h.at_ (i := 0) rfl
 have e : vs = xs := by injection hx with hx; simpa using congrArg Array.toList hx
 subst e
 have hc : OwC W d v c := h.at_ (i := 1) rfl
 have hrg := h.rg
 rw [List.flatMap_cons, List.flatMap_cons] at hrg
 refine ⟨fun z hz => ?_, ?_, fun q hq => ?_, h.bl⟩
 ·rcases List.mem_cons.1 hz with rfl | hz
  ·exact ⟨v :: vs, rfl, v, vs, c, b, rfl, rfl, hc, ho⟩
  ·exact h.ok z (by simp [hz])
 ·rw [List.flatMap_cons, List.nodup_append]
  refine ⟨?_, hnd.2.1.2.1, fun a ha a' ha' e => ?_⟩
  ·show (c ++ b).Nodup
   rw [List.nodup_append]
   exact ⟨hnd.2.1.1, hnd.1, fun a ha a' ha' e => hnd.2.2 a' ha' a (List.mem_append_left _ ha) e.symm⟩
  ·have ha : a ∈ c ++ b := ha
   rcases List.mem_append.1 ha with ha | ha
   ·exact hnd.2.1.2.2 a ha a' ha' e
   ·exact hnd.2.2 a ha a' (List.mem_append_right _ ha') e
 ·rw [List.flatMap_cons] at hq
  rcases List.mem_append.1 hq with hq | hq
  ·have hq : q ∈ c ++ b := hq
   rcases List.mem_append.1 hq with hq | hq
   ·exact hrg q (List.mem_append_right _ (List.mem_append_left _ hq))
   ·exact hrg q (List.mem_append_left _ hq)
  ·exact hrg q (List.mem_append_right _ (List.mem_append_right _ hq))
theorem Ms.un {ds : List Dat} {v : Value} {vs : List Value} {b : List Nat} {d : Dat} (h : Ms w0 (.dt (.agg (d :: ds)) (.agg (v :: vs).toArray) b :: L) W) : ∃ c c', Ms w0 (.dt d v c :: .dt (.agg ds) (.agg vs.toArray) c' :: L) W := by
 have hnd := h.nd
 have hrg := h.rg
 obtain ⟨xs, hx, x, xs', c, c', e1, e2, h1, h2⟩ : OwC W (.agg (d :: ds)) (.agg (v :: vs).toArray) b := h.at_ (i := 0) rfl
 have e : v :: vs = xs := by injection hx with hx; simpa using congrArg Array.toList hx
 subst e
 injection e1 with e3 e4
 subst e3 e4 e2
 refine ⟨c, c', fun z hz => ?_, ?_, fun q hq => ?_, h.bl⟩
 ·rcases List.mem_cons.1 hz with rfl | hz
  ·exact h1
  ·rcases List.mem_cons.1 hz with rfl | hz
   ·exact ⟨vs, rfl, h2⟩
   ·exact h.ok z (by simp [hz])
 ·rw [List.flatMap_cons, List.flatMap_cons, ← List.append_assoc]
  rw [List.flatMap_cons] at hnd
  exact hnd
 ·refine hrg q ?_
  rw [List.flatMap_cons]
  rw [List.flatMap_cons, List.flatMap_cons, ← List.append_assoc] at hq
  exact hq
end
section
variable {w0 W W' : World} {L Y : List It}
theorem Ms.grow {e : TypeId} {sz : Nat} {ds rs : List (List Dat)} {v : Value} {b c : List Nat} {news : List Value} (h : Ms w0 (.dt (.rows e sz ds) v b :: (Y ++ L)) W) (hr : OwR W sz rs news c) (hcn : c.Nodup) (hc : ∀ q ∈ c, q ∈ Y.flatMap It.bs) :
  ∃ xs, W.ownsRow 0 e sz v ds.length xs ∧ ∀ g n cap W', W'.ownsRow 0 e sz (.slice (some ⟨g, 0, none⟩) n cap) (ds ++ rs).length (xs ++ news) → W.grownBy W' v.ownBlock → (v.ownBlock = some g ∨ g = W.heap.size) → g < W'.heap.size → ∃ b', Ms w0 (.dt (.rows e sz (ds ++ rs)) (.slice (some ⟨g, 0, none⟩) n cap) b' :: L) W' := by
 have hnd := h.nd
 have hrg := h.rg
 have hlt' := h.blt
 rw [List.flatMap_cons, List.flatMap_append] at hnd hrg hlt'
 obtain ⟨xs, cs, ho, hor, hb⟩ : OwC W (.rows e sz ds) v b := h.at_ (i := 0) rfl
 refine ⟨xs, ho, fun g n cap W' hown hg hat hlt => ?_⟩
 have hbs : (It.dt (.rows e sz ds) v b).bs = v.ownBlock.toList ++ cs := hb
 rw [hbs] at hnd hrg hlt'
 obtain ⟨n1, n2, n3⟩ := List.nodup_append.1 hnd
 obtain ⟨m1, m2, m3⟩ := List.nodup_append.1 n1
 obtain ⟨k1, k2, k3⟩ := List.nodup_append.1 n2
 have inL : ∀ q ∈ L.flatMap It.bs, q < W.heap.size ∧ ¬ v.ownBlock = some q ∧ q ∉ cs ∧ q ∉ c := fun q hq => by
  have hm : q ∈ Y.flatMap It.bs ++ L.flatMap It.bs := List.mem_append_right _ hq
  refine ⟨hlt' q (List.mem_append_right _ hm), fun e => n3 q (List.mem_append_left _ (by rw [e]; simp)) q hm rfl, fun e => n3 q (List.mem_append_right _ e) q hm rfl, fun e => k3 q (hc q e) q hq rfl⟩
 have inc : ∀ q ∈ c, q < W.heap.size ∧ ¬ v.ownBlock = some q ∧ q ∉ cs := fun q hq => by
  have hm : q ∈ Y.flatMap It.bs ++ L.flatMap It.bs := List.mem_append_left _ (hc q hq)
  exact ⟨hlt' q (List.mem_append_right _ hm), fun e => n3 q (List.mem_append_left _ (by rw [e]; simp)) q hm rfl, fun e => n3 q (List.mem_append_right _ e) q hm rfl⟩
 have incs : ∀ q ∈ cs, q < W.heap.size ∧ ¬ v.ownBlock = some q := fun q hq => ⟨hlt' q (List.mem_append_left _ (List.mem_append_right _ hq)), fun e => m3 q (by rw [e]; simp) q hq rfl⟩
 have hkeep : ∀ q, q < W.heap.size → ¬ v.ownBlock = some q → W'.heap[q]? = W.heap[q]? := fun q h1 h2 => hg.block q h1 (fun e => h2 e.symm)
 have hor' := (OwR.keep sz _ _ _ hor (fun q hq => hkeep q (incs q hq).1 (incs q hq).2)).append (OwR.keep sz _ _ _ hr (fun q hq => hkeep q (inc q hq).1 (inc q hq).2.1))
 have gnew : ∀ q, q < W.heap.size → ¬ v.ownBlock = some q → ¬ g = q := fun q h1 h2 e => by
  subst e
  rcases hat with e | e
  ·exact h2 e
  ·omega
 have glo : w0.heap.size ≤ g := by
  rcases hat with e | e
  ·exact hrg g (List.mem_append_left _ (List.mem_append_left _ (by rw [e]; simp)))
  ·have := h.size; omega
 refine ⟨g :: (cs ++ c), fun z hz => ?_, ?_, fun q hq => ?_, h.bl.grown hg h.size (fun k hk => hrg k (List.mem_append_left _ (List.mem_append_left _ (by rw [hk]; simp))))⟩
 ·rcases List.mem_cons.1 hz with rfl | hz
  ·exact ⟨xs ++ news, cs ++ c, hown, hor', rfl⟩
  ·refine It.keep (h.ok z (by simp [hz])) (fun q hq => ?_)
   have hm : q ∈ L.flatMap It.bs := List.mem_flatMap.2 ⟨z, hz, hq⟩
   exact hkeep q (inL q hm).1 (inL q hm).2.1
 ·rw [List.flatMap_cons, List.nodup_append]
  refine ⟨?_, k2, fun a ha a' ha' e => ?_⟩
  ·show (g :: (cs ++ c)).Nodup
   refine List.nodup_cons.2 ⟨fun hq => ?_, List.nodup_append.2 ⟨m2, hcn, fun a ha a' ha' e => ?_⟩⟩
   ·rcases List.mem_append.1 hq with hq | hq
    ·exact gnew g (incs g hq).1 (incs g hq).2 rfl
    ·exact gnew g (inc g hq).1 (inc g hq).2.1 rfl
   ·subst e
    exact (inc a ha').2.2 ha
  ·subst e
   have ha : a ∈ g :: (cs ++ c) := ha
   rcases List.mem_cons.1 ha with rfl | ha
   ·exact gnew a (inL a ha').1 (inL a ha').2.1 rfl
   ·rcases List.mem_append.1 ha with ha | ha
    ·exact (inL a ha').2.2.1 ha
    ·exact (inL a ha').2.2.2 ha
 ·rw [List.flatMap_cons] at hq
  rcases List.mem_append.1 hq with hq | hq
  ·have hq : q ∈ g :: (cs ++ c) := hq
   rcases List.mem_cons.1 hq with rfl | hq
   ·exact glo
   ·rcases List.mem_append.1 hq with hq | hq
    ·exact hrg q (List.mem_append_left _ (List.mem_append_right _ hq))
    ·exact hrg q (List.mem_append_right _ (List.mem_append_left _ (hc q hq)))
  ·exact hrg q (List.mem_append_right _ (List.mem_append_right _ hq))
end
section
variable {w0 W W' : World} {L Y : List It}
theorem agg_inj {xs ys : List Value} (h : Value.agg xs.toArray = Value.agg ys.toArray) : xs = ys := by
 have h2 := congrArg (fun v => match v with | Value.agg a => a.toList | _ => []) h
 simpa using h2
theorem bytes_fit {n b : Nat} (h : n ≤ 2000001) (hb : b ≤ 100000) : n * b ≤ 140737488355328 := by
 have h1 : n * b ≤ n * 100000 := Nat.mul_le_mul_left n hb
 omega
def Elt (t e : TypeId) (z : Value) (sz bytes : Nat) : Prop := ∃ i, Tryz.prog.underlying t = some (.slice e) ∧ Tryz.prog.info? e = some i ∧ i.zero = some z ∧ i.size = sz ∧ i.bytes = bytes ∧ z.cells.size = sz ∧ 0 < sz ∧ bytes ≤ 100000
theorem wpList_ms1 {ops : Array Oper} {rest : List Oper} {o : Oper} {a : Act} {Q : Exit → Act → World → Prop} (hgd : o.guard = none) (s x : Operand) (t : TypeId)
  (ho : o.op = .call { callee := .builtin .append, args := #[s, x], argTypes := #[t, t] }) {e : TypeId} {z : Value} {sz bytes : Nat} (he : Elt t e z sz bytes) {ds : List (List Dat)} {r : List Dat} {v : Value} {ys : List Value} {b c : List Nat}
  (h : Ms w0 (.dt (.rows e sz ds) v b :: .dt (.agg r) (.agg ys.toArray) c :: L) W) (hs : a.eval s = v) (hlen : ds.length ≤ 2000000) (g0 c0 : Nat) (hx : a.eval x = .slice (some ⟨g0, 0, none⟩) 1 c0) (hcell : W.heap[g0]? = some (.cells ys.toArray e (0, 0))) (hl : ys.length = sz) (h1 : ∀ u ∈ ys, u.oneCell' = true)
  (K : ∀ A' c' W' b', Ms w0 (.dt (.rows e sz (ds ++ [r])) (.slice A' (ds.length + 1) c') b' :: L) W' → wpList Tryz.prog ops Q rest (a.put o.dst (.slice A' (ds.length + 1) c')) W') : wpList Tryz.prog ops Q (o :: rest) a W := by
 obtain ⟨i, ht, hi, hz, hsize, hby, hzs, hsz, hbm⟩ := he
 obtain ⟨ys', hy', hor⟩ : OwC W (.agg r) (.agg ys.toArray) c := h.at_ (i := 1) rfl
 obtain rfl : ys = ys' := agg_inj hy'
 obtain ⟨xs, hown, grow⟩ := Ms.grow (Y := [.dt (.agg r) (.agg ys.toArray) c]) h (OwR.one hor hl) (h.ndAt (i := 1) (x := .dt (.agg r) (.agg ys.toArray) c) rfl) (fun q hq => by simpa [It.bs] using hq)
 refine wpList_append_lies _ hgd s x t ho 0 e i z sz bytes ht hi hz hsize hby hzs hsz v ds.length xs hs hown ⟨g0, 0, none⟩ 1 c0 ys hx (by simp [hl]) (fun j u hu => ?_) h1 (by omega) (by unfold maxLen; omega) ?_ (Nat.zero_le _) _ rfl ?_
 ·rw [add_at, Nat.zero_add]
  exact bxcell hcell (by simpa using hu)
 ·exact bytes_fit (by omega) hbm
 ·intro g cap W' hown' hg hat hlt
  obtain ⟨b', hm⟩ := grow g (ds.length + 1) cap W' (by rw [List.length_append]; exact hown') hg hat hlt
  exact K _ cap W' b' hm
def FlatR (rs : List (List Dat)) (sz : Nat) : Prop := ∀ r ∈ rs, r.length = sz ∧ ∀ d ∈ r, ∃ u : Value, d.flat = some u ∧ u.oneCell' = true
theorem RdC.flatV {w : World} {B : Nat} {d : Dat} {u v : Value} (hf : d.flat = some u) (h : RdC w B d v) : v = u := by
 cases d with
 | int n => injection hf with hf; rw [← hf]; exact h
 | bool n => injection hf with hf; rw [← hf]; exact h
 | str n => injection hf with hf; rw [← hf]; exact h
 | rows e sz ds => cases hf
 | agg ds => cases hf
theorem RdL.flat {w : World} {B : Nat} {ad : Addr} : ∀ {r : List Dat} {o : Nat}, (∀ d ∈ r, ∃ u : Value, d.flat = some u ∧ u.oneCell' = true) → RdL w B ad o r → ∃ ys : List Value, ys.length = r.length ∧ OwL w r ys [] ∧ (∀ u ∈ ys, u.oneCell' = true) ∧ ∀ j u, ys[j]? = some u → w.cell? (ad.add (o + j)) = some u
 | [], o, _, _ => ⟨[], rfl, ⟨rfl, rfl⟩, by simp, fun j u h => by simp at h⟩
 | d :: r, o, hf, h => by
  obtain ⟨⟨v, hv, hd⟩, h2⟩ := h
  obtain ⟨u, hu, h1⟩ := hf d (by simp)
  obtain rfl := RdC.flatV hu hd
  obtain ⟨ys, k1, k2, k3, k4⟩ := RdL.flat (r := r) (o := o + 1) (fun d hd => hf d (by simp [hd])) h2
  refine ⟨v :: ys, by simp [k1], ⟨v, ys, [], [], rfl, rfl, OwC.of_flat hu, k2⟩, fun u hu => ?_, fun j u hj => ?_⟩
  ·rcases List.mem_cons.1 hu with rfl | hu
   ·exact h1
   ·exact k3 u hu
  ·cases j with
   | zero => simp at hj; subst hj; exact hv
   | succ j => have := k4 j u (by simpa using hj); rw [show o + (j + 1) = o + 1 + j by omega]; exact this
theorem RdR.flat {w : World} {B sz : Nat} {ad : Addr} : ∀ {rs : List (List Dat)} {o : Nat}, FlatR rs sz → RdR w B sz ad o rs → ∃ ys : List Value, ys.length = rs.length * sz ∧ OwR w sz rs ys [] ∧ (∀ u ∈ ys, u.oneCell' = true) ∧ ∀ j u, ys[j]? = some u → w.cell? (ad.add (o + j)) = some u
 | [], o, _, _ => ⟨[], by simp, ⟨rfl, rfl⟩, by simp, fun j u h => by simp at h⟩
 | r :: rs, o, hf, h => by
  obtain ⟨h1, h2⟩ := h
  have hl := (hf r (by simp)).1
  obtain ⟨y, k1, k2, k3, k4⟩ := RdL.flat (hf r (by simp)).2 h1
  obtain ⟨ys, l1, l2, l3, l4⟩ := RdR.flat (rs := rs) (o := o + sz) (fun q hq => hf q (by simp [hq])) h2
  refine ⟨y ++ ys, by rw [List.length_append, k1, l1, hl, List.length_cons, Nat.add_mul]; omega, ⟨y, ys, [], [], rfl, by rw [k1, hl], rfl, k2, l2⟩, fun u hu => ?_, fun j u hj => ?_⟩
  ·rcases List.mem_append.1 hu with hu | hu
   ·exact k3 u hu
   ·exact l3 u hu
  ·by_cases hlt : j < y.length
   ·rw [List.getElem?_append_left hlt] at hj
    exact k4 j u hj
   ·rw [List.getElem?_append_right (by omega)] at hj
    have := l4 _ u hj
    rw [show o + j = o + sz + (j - y.length) by omega]
    exact this
theorem wpList_msAll {ops : Array Oper} {rest : List Oper} {o : Oper} {a : Act} {Q : Exit → Act → World → Prop} (hgd : o.guard = none) (s x : Operand) (t : TypeId)
  (ho : o.op = .call { callee := .builtin .append, args := #[s, x], argTypes := #[t, t] }) {e : TypeId} {z : Value} {sz bytes : Nat} (he : Elt t e z sz bytes) {ds rs : List (List Dat)} {v : Value} {b : List Nat}
  (h : Ms w0 (.dt (.rows e sz ds) v b :: L) W) (hs : a.eval s = v) (A : Option Addr) (m c0 : Nat) (hx : a.eval x = .slice A m c0) (hrd : RdC W W.heap.size (.rows e sz rs) (.slice A m c0)) (hfl : FlatR rs sz) (hlen : ds.length + rs.length ≤ 2000000)
  (K : ∀ A' c' W' b', Ms w0 (.dt (.rows e sz (ds ++ rs)) (.slice A' (ds.length + m) c') b' :: L) W' → wpList Tryz.prog ops Q rest (a.put o.dst (.slice A' (ds.length + m) c')) W') : wpList Tryz.prog ops Q (o :: rest) a W := by
 obtain ⟨i, ht, hi, hz, hsize, hby, hzs, hsz, hbm⟩ := he
 obtain ⟨A', c', hv, hc, hrd⟩ := hrd
 injection hv with e1 e2 e3
 subst e1 e2 e3
 by_cases h0 : 0 < rs.length
 ·obtain ⟨ad, rfl, hbk, hsp, hrr⟩ := hrd h0
  obtain ⟨ys, k1, k2, k3, k4⟩ := RdR.flat hfl hrr
  obtain ⟨xs, hown, grow⟩ := Ms.grow (Y := []) h k2 (by simp) (by simp)
  refine wpList_append_lies _ hgd s x t ho 0 e i z sz bytes ht hi hz hsize hby hzs hsz v ds.length xs hs hown ad rs.length c0 ys hx k1 (fun j u hu => by have := k4 j u hu; simpa using this) k3 h0 (by unfold maxLen; omega) ?_ (Nat.zero_le _) _ rfl ?_
  ·exact bytes_fit (by omega) hbm
  ·intro g cap W' hown' hg hat hlt
   obtain ⟨b', hm⟩ := grow g (ds.length + rs.length) cap W' (by rw [List.length_append]; exact hown') hg hat hlt
   exact K _ cap W' b' hm
 ·obtain rfl : rs = [] := List.eq_nil_of_length_eq_zero (by omega)
  obtain ⟨xs, cs, hown, _⟩ : OwC W (.rows e sz ds) v b := h.at_ (i := 0) rfl
  refine wpList_append_zero hgd s x t ho 0 e i sz ht hi v ds.length xs hs hown A c0 hx ?_
  obtain ⟨Av, cv, rfl⟩ := own_form hown
  exact K Av cv W b (by simpa using h)
end
section
variable {w0 W W' : World} {L L' : List It} {x y : It}
theorem putRow_cells {g : Nat} {T : TypeId} : ∀ {ys : List Value} {cs : Array Value} {o : Nat} {W : World}, o + ys.length = cs.size → W.heap[g]? = some (.cells cs T (0, 0)) → (putRow W g o ys).heap[g]? = some (.cells (cs.toList.take o ++ ys).toArray T (0, 0))
 | [], cs, o, W, hl, h => by
  rw [putRow, h]
  have e : cs.toList.take o = cs.toList := List.take_of_length_le (by simp at hl; simp; omega)
  simp [e]
 | y :: ys, cs, o, W, hl, h => by
  rw [putRow]
  simp only [List.length_cons] at hl
  have h1 := putRow_cells (ys := ys) (cs := cs.setIfInBounds o y) (o := o + 1) (by rw [Array.size_setIfInBounds]; omega) (bxset h y)
  rw [h1]
  have e : (cs.setIfInBounds o y).toList.take (o + 1) = cs.toList.take o ++ [y] := by
   rw [Array.toList_setIfInBounds, List.take_add_one, List.take_set_of_le (Nat.le_refl o)]
   congr 1
   rw [List.getElem?_set_self (by simp; omega)]
   rfl
  rw [e, List.append_assoc]
  rfl
theorem Ms.putRow {g : Nat} {cs : Array Value} {T : TypeId} {ys : List Value} (h : Ms w0 (.bx g (.cells cs T (0, 0)) :: L) W) (hl : ys.length = cs.size) : Ms w0 (.bx g (.cells ys.toArray T (0, 0)) :: L) (low.putRow W g 0 ys) := by
 have hg := h.glt (i := 0) rfl
 have hk := putRow_cells (ys := ys) (o := 0) (by omega) (h.at_ (i := 0) (x := .bx g (.cells cs T (0, 0))) rfl)
 refine h.turn (Nat.le_of_eq (putRow_size g ys W 0).symm) (fun q hq hn => putRow_block g ys W 0 q (fun e => hn (by simp [It.bs]; exact e))) (putRow_below hg.1 ys W 0 h.bl) ?_ (by simp [It.bs]) (fun q hq => .inl hq)
 show (low.putRow W g 0 ys).heap[g]? = _
 simpa using hk
theorem Ms.ne (h : Ms w0 L W) {i j g g' : Nat} {o o' : Obj} (hi : L[i]? = some (.bx g o)) (hj : L[j]? = some (.bx g' o')) (hij : i < j) : ¬ g = g' ∧ ¬ g' = g := by
 have key : ∀ (L : List It) (i j : Nat), i < j → (L.flatMap It.bs).Nodup → L[i]? = some (.bx g o) → L[j]? = some (.bx g' o') → ¬ g = g' := by
  intro L
  induction L with
  | nil => intro i j _ _ hi; simp at hi
  | cons x L ih =>
   intro i j hij hnd hi hj
   rw [List.flatMap_cons, List.nodup_append] at hnd
   cases j with
   | zero => omega
   | succ j =>
    simp only [List.getElem?_cons_succ] at hj
    cases i with
    | zero =>
     simp only [List.getElem?_cons_zero, Option.some.injEq] at hi
     subst hi
     intro e
     subst e
     exact hnd.2.2 g (by simp [It.bs]) g (List.mem_flatMap.2 ⟨_, List.mem_of_getElem? hj, by simp [It.bs]⟩) rfl
    | succ i =>
     simp only [List.getElem?_cons_succ] at hi
     exact ih i j (by omega) hnd.2.1 hi hj
 have := key L i j hij h.nd hi hj
 exact ⟨this, fun e => this e.symm⟩
theorem Ms.pick (h : Ms w0 L W) : ∀ {ks : List Nat} {L' : List It}, ks.Nodup → ks.map (fun k => L[k]?) = L'.map some → Ms w0 L' W := fun {ks L'} hn hm => by
 have hmem : ∀ x ∈ L', x ∈ L := fun x hx => by
  have : some x ∈ ks.map (fun k => L[k]?) := by rw [hm]; exact List.mem_map_of_mem hx
  obtain ⟨k, _, hk⟩ := List.mem_map.1 this
  exact List.mem_of_getElem? hk
 refine ⟨fun x hx => h.ok x (hmem x hx), ?_, fun q hq => ?_, h.bl⟩
 ·have key : ∀ (L : List It) (ks : List Nat) (L' : List It), (L.flatMap It.bs).Nodup → ks.Nodup → ks.map (fun k => L[k]?) = L'.map some → (L'.flatMap It.bs).Nodup := by
   intro L ks
   induction ks with
   | nil => intro L' _ _ hm; cases L' with | nil => simp | cons _ _ => simp at hm
   | cons k ks ih =>
    intro L' hnd hn hm
    cases L' with
    | nil => simp at hm
    | cons x L' =>
     simp only [List.map_cons, List.cons.injEq] at hm
     obtain ⟨hk, hm⟩ := hm
     have hn' := List.nodup_cons.1 hn
     have ih' := ih L' hnd hn'.2 hm
     rw [List.flatMap_cons, List.nodup_append]
     have hp := erase_perm hk
     have hnd2 := (hp.flatMap_right It.bs).nodup_iff.1 hnd
     rw [List.flatMap_cons, List.nodup_append] at hnd2
     refine ⟨hnd2.1, ih', fun a ha b hb e => ?_⟩
     subst e
     obtain ⟨y, hy, hay⟩ := List.mem_flatMap.1 hb
     have : some y ∈ ks.map (fun k => L[k]?) := by rw [hm]; exact List.mem_map_of_mem hy
     obtain ⟨k2, hk2, hky⟩ := List.mem_map.1 this
     have hne : k2 ≠ k := fun e => hn'.1 (e ▸ hk2)
     have hmem2 : y ∈ L.eraseIdx k := by
      rw [List.mem_eraseIdx_iff_getElem?]
      exact ⟨k2, hne, hky⟩
     exact hnd2.2.2 a ha a (List.mem_flatMap.2 ⟨y, hmem2, hay⟩) rfl
  exact key L ks L' h.nd hn hm
 ·obtain ⟨x, hx, hq⟩ := List.mem_flatMap.1 hq
  exact h.rg q (List.mem_flatMap.2 ⟨x, hmem x hx, hq⟩)
theorem Ms.post {d : Dat} {v : Value} {b : List Nat} (h : Ms w0 (.dt d v b :: L) W) : OwnPost d w0 (.returned v) W := ⟨v, rfl, h.own (i := 0) rfl, h.bl⟩
theorem Ms.resB {d : Dat} {v : Value} {b : List Nat} (ok : Bool) (h : Ms w0 (.dt d v b :: L) W) : ResB d ok w0 (.returned (.tuple #[v, .bool ok])) W := ⟨v, rfl, h.own (i := 0) rfl, h.bl⟩
theorem RdL.shift {w : World} {B b off k : Nat} : ∀ {ds : List Dat} {o : Nat}, RdL w B ⟨b, off, none⟩ (k + o) ds → RdL w B ⟨b, off + k, none⟩ o ds
 | [], _, _ => trivial
 | d :: ds, o, h => by
  obtain ⟨⟨v, hv, hd⟩, h2⟩ := h
  refine ⟨⟨v, ?_, hd⟩, RdL.shift (o := o + 1) (by rw [← Nat.add_assoc]; exact h2)⟩
  rw [add_at] at hv ⊢
  rw [Nat.add_assoc]
  exact hv
theorem RdR.shift {w : World} {B b off k sz : Nat} : ∀ {rs : List (List Dat)} {o : Nat}, RdR w B sz ⟨b, off, none⟩ (k + o) rs → RdR w B sz ⟨b, off + k, none⟩ o rs
 | [], _, _ => trivial
 | r :: rs, o, h => ⟨RdL.shift h.1, RdR.shift (o := o + sz) (by rw [← Nat.add_assoc]; exact h.2)⟩
theorem RdR.drop_ {w : World} {B sz : Nat} {ad : Addr} : ∀ {m : Nat} {rs : List (List Dat)} {o : Nat}, RdR w B sz ad o rs → RdR w B sz ad (o + m * sz) (rs.drop m)
 | 0, rs, o, h => by simpa using h
 | m + 1, [], o, h => by simp [RdR]
 | m + 1, r :: rs, o, h => by
  have := RdR.drop_ (m := m) h.2
  rw [List.drop_succ_cons, show o + (m + 1) * sz = o + sz + m * sz by rw [Nat.succ_mul]; omega]
  exact this
theorem RdR.take_ {w : World} {B sz : Nat} {ad : Addr} : ∀ {m : Nat} {rs : List (List Dat)} {o : Nat}, RdR w B sz ad o rs → RdR w B sz ad o (rs.take m)
 | 0, rs, o, h => trivial
 | m + 1, [], o, h => h
 | m + 1, r :: rs, o, h => ⟨h.1, RdR.take_ h.2⟩
theorem RdC.drop_ {w : World} {B b off n c sz : Nat} {e : TypeId} {ds : List (List Dat)} (m : Nat) (h : RdC w B (.rows e sz ds) (.slice (some ⟨b, off, none⟩) n c)) : RdC w B (.rows e sz (ds.drop m)) (.slice (some ⟨b, off + m * sz, none⟩) (n - m) (c - m)) := by
 obtain ⟨A, c', hv, hc, hr⟩ := h
 injection hv with e1 e2 e3
 subst e2 e3
 refine ⟨_, _, by rw [List.length_drop], by rw [List.length_drop]; omega, fun h0 => ?_⟩
 rw [List.length_drop] at h0
 obtain ⟨ad, hA, hb, hs, hr⟩ := hr (by omega)
 rw [← e1] at hA
 injection hA with hA
 subst hA
 refine ⟨_, rfl, hb, .inr rfl, RdR.shift ?_⟩
 have := RdR.drop_ (m := m) hr
 rw [Nat.zero_add] at this
 exact this
theorem sliceV {w : World} {B sz : Nat} {e : TypeId} {ds : List (List Dat)} {v : Value} (h : RdC w B (.rows e sz ds) v) : ∃ A n c, v = .slice A n c := by
 obtain ⟨A, c, hv, _⟩ := h
 exact ⟨A, _, c, hv⟩
theorem RdC.cap_le {w : World} {B n c sz : Nat} {A : Option Addr} {e : TypeId} {ds : List (List Dat)} (h : RdC w B (.rows e sz ds) (.slice A n c)) : n ≤ c := by
 obtain ⟨A', c', hv, hc, hr⟩ := h
 injection hv with e1 e2 e3
 omega
theorem RdC.take_ {w : World} {B n c sz : Nat} {A : Option Addr} {e : TypeId} {ds : List (List Dat)} {m : Nat} (h : RdC w B (.rows e sz ds) (.slice A n c)) (hm : m ≤ ds.length) : RdC w B (.rows e sz (ds.take m)) (.slice A m c) := by
 obtain ⟨A', c', hv, hc, hr⟩ := h
 injection hv with e1 e2 e3
 subst e1 e2 e3
 have hl : (ds.take m).length = m := by rw [List.length_take]; omega
 refine ⟨_, _, by rw [hl], by rw [hl]; omega, fun h0 => ?_⟩
 obtain ⟨ad, hA, hb, hs, hr⟩ := hr (by omega)
 exact ⟨ad, hA, hb, hs, RdR.take_ hr⟩
end
section
variable {P : Program} {ops : Array Oper} {Q : Exit → Act → World → Prop} {md : Region.Mode} {S : World → Prop} {fuel : Nat} {listed : Array Bool} {a : Act} {w : World}
theorem tk {v : Value} (i s : Nat) {o : Op} {t : TypeId} {p : String} {af : Array Edge} {gd : Option (Nat × Bool)} (hi : ops[i]? = some ⟨some s, o, t, p, af, gd⟩) (hy : ∀ w, S w → (execOp a.eval ⟨some s, o, t, p, af, gd⟩).run P w = .ok (.value v) w) (hS : S w)
  (h : wpAnyH P md ops Q S fuel (listed.setIfInBounds i true) (a.put (some s) v) w) (hs : Region.noSelect ops = true := by kernel_rfl) (hf : Region.free md ops listed i = true := by kernel_rfl) (hr : (Region.ready md ops listed).contains i = true := by kernel_rfl)
  (hq : ∀ c a w, Q (.panic c) (a.put (some s) v) w → Q (.panic c) a w := by exact fun _ _ _ h => h) (hw : Region.wanted ⟨some s, o, t, p, af, gd⟩ (yielded ops a.tmps) = true := by rfl) : wpAnyH P md ops Q S (fuel + 1) listed a w :=
 wpAnyH_take hi hs hf hr hq (.inl ⟨hw, hy⟩) hS h
theorem tu (i s : Nat) {o : Op} {t : TypeId} {p : String} {af : Array Edge} {gd : Option (Nat × Bool)} (hi : ops[i]? = some ⟨some s, o, t, p, af, gd⟩) (hS : S w)
  (h : wpAnyH P md ops Q S fuel (listed.setIfInBounds i true) (a.put (some s) undef) w) (hs : Region.noSelect ops = true := by kernel_rfl) (hf : Region.free md ops listed i = true := by kernel_rfl) (hr : (Region.ready md ops listed).contains i = true := by kernel_rfl)
  (hq : ∀ c a w, Q (.panic c) (a.put (some s) undef) w → Q (.panic c) a w := by exact fun _ _ _ h => h) (hw : Region.wanted ⟨some s, o, t, p, af, gd⟩ (yielded ops a.tmps) = false := by rfl) : wpAnyH P md ops Q S (fuel + 1) listed a w :=
 wpAnyH_take hi hs hf hr hq (.inr ⟨hw, rfl⟩) hS h
theorem r1 (i : Nat) (d : Option Nat) {o : Op} {t : TypeId} {p : String} {af : Array Edge} {gd : Option (Nat × Bool)} (hi : ops[i]? = some ⟨d, o, t, p, af, gd⟩)
  (h : ∀ K' : Act → World → Prop, Shut (∀ a w, S w → (S w → wpAnyH P md ops Q S fuel (listed.setIfInBounds i true) a w) → K' a w) → if Region.wanted ⟨d, o, t, p, af, gd⟩ (yielded ops a.tmps) = true then Oper.wp P ⟨d, o, t, p, af, gd⟩ a w K' Q else K' (a.put d undef) w)
  (hr : Region.ready md ops listed = [i] := by kernel_rfl) : wpAnyH P md ops Q S (fuel + 1) listed a w := wpAnyH_ready hr (by simp) (AllReadyH.cons hi h AllReadyH.nil)
theorem pa {α : Type} {l : List α} {i : Nat} {x : α} : l.toArray.setIfInBounds i x = (l.set i x).toArray := List.setIfInBounds_toArray ..
theorem pb {α : Type} {l : List α} {x y : α} : (y :: l).set 0 x = x :: l := rfl
theorem gz {α : Type} {l : List α} {x : α} : (x :: l)[0]? = some x := rfl
theorem gs {α : Type} {l : List α} {x : α} {i : Nat} : (x :: l)[i + 1]? = l[i]? := rfl
theorem pc {α : Type} {l : List α} {x y : α} {i : Nat} : (y :: l).set (i + 1) x = y :: l.set i x := rfl
end
section
variable {w0 W : World} {L : List It}
def pk (L : List It) : List Nat → List It
 | [] => []
 | k :: ks => match L[k]? with | some x => x :: pk L ks | none => pk L ks
theorem pk_ok {L : List It} : ∀ {ks : List Nat}, (∀ k ∈ ks, k < L.length) → ks.map (fun k => L[k]?) = (pk L ks).map some
 | [], _ => rfl
 | k :: ks, h => by
  have hk := h k (by simp)
  rw [pk, List.getElem?_eq_getElem hk]
  simp only [List.map_cons, List.getElem?_eq_getElem hk]
  rw [pk_ok (fun q hq => h q (by simp [hq]))]
theorem Ms.pk (h : Ms w0 L W) (ks : List Nat) (hn : ks.Nodup) (hl : ∀ k ∈ ks, k < L.length) : Ms w0 (low.pk L ks) W := h.pick hn (pk_ok hl)
theorem Ms.c1 {g : Nat} {T : TypeId} {a : Value} (h : Ms w0 L W) (i : Nat) (hi : L[i]? = some (.bx g (.cells #[a] T (0, 0)))) : W.cell? ⟨g, 0, none⟩ = some a := h.cell (j := 0) hi rfl
theorem Ms.f1 {g : Nat} {T : TypeId} {a : Value} (h : Ms w0 L W) (i : Nat) (hi : L[i]? = some (.bx g (.cells #[a] T (0, 0)))) : W.frozen? ⟨g, 0, none⟩ = false := h.free (j := 0) hi
theorem Ms.c2 {g : Nat} {T : TypeId} {a b : Value} (h : Ms w0 L W) (i : Nat) (hi : L[i]? = some (.bx g (.cells #[a, b] T (0, 0)))) : W.cell? ⟨g, 0, none⟩ = some a ∧ W.cell? ⟨g, 1, none⟩ = some b := ⟨h.cell (j := 0) hi rfl, h.cell (j := 1) hi rfl⟩
theorem Ms.f2 {g : Nat} {T : TypeId} {a b : Value} (h : Ms w0 L W) (i : Nat) (hi : L[i]? = some (.bx g (.cells #[a, b] T (0, 0)))) : W.frozen? ⟨g, 0, none⟩ = false ∧ W.frozen? ⟨g, 1, none⟩ = false := ⟨h.free (j := 0) hi, h.free (j := 1) hi⟩
theorem Ms.c3 {g : Nat} {T : TypeId} {a b c : Value} (h : Ms w0 L W) (i : Nat) (hi : L[i]? = some (.bx g (.cells #[a, b, c] T (0, 0)))) : W.cell? ⟨g, 0, none⟩ = some a ∧ W.cell? ⟨g, 1, none⟩ = some b ∧ W.cell? ⟨g, 2, none⟩ = some c := ⟨h.cell (j := 0) hi rfl, h.cell (j := 1) hi rfl, h.cell (j := 2) hi rfl⟩
theorem Ms.f3 {g : Nat} {T : TypeId} {a b c : Value} (h : Ms w0 L W) (i : Nat) (hi : L[i]? = some (.bx g (.cells #[a, b, c] T (0, 0)))) : W.frozen? ⟨g, 0, none⟩ = false ∧ W.frozen? ⟨g, 1, none⟩ = false ∧ W.frozen? ⟨g, 2, none⟩ = false := ⟨h.free (j := 0) hi, h.free (j := 1) hi, h.free (j := 2) hi⟩
theorem Ms.c4 {g : Nat} {T : TypeId} {a b c d : Value} (h : Ms w0 L W) (i : Nat) (hi : L[i]? = some (.bx g (.cells #[a, b, c, d] T (0, 0)))) : W.cell? ⟨g, 0, none⟩ = some a ∧ W.cell? ⟨g, 1, none⟩ = some b ∧ W.cell? ⟨g, 2, none⟩ = some c ∧ W.cell? ⟨g, 3, none⟩ = some d := ⟨h.cell (j := 0) hi rfl, h.cell (j := 1) hi rfl, h.cell (j := 2) hi rfl, h.cell (j := 3) hi rfl⟩
theorem Ms.f4 {g : Nat} {T : TypeId} {a b c d : Value} (h : Ms w0 L W) (i : Nat) (hi : L[i]? = some (.bx g (.cells #[a, b, c, d] T (0, 0)))) : W.frozen? ⟨g, 0, none⟩ = false ∧ W.frozen? ⟨g, 1, none⟩ = false ∧ W.frozen? ⟨g, 2, none⟩ = false ∧ W.frozen? ⟨g, 3, none⟩ = false := ⟨h.free (j := 0) hi, h.free (j := 1) hi, h.free (j := 2) hi, h.free (j := 3) hi⟩
theorem Ms.c5 {g : Nat} {T : TypeId} {a b c d e : Value} (h : Ms w0 L W) (i : Nat) (hi : L[i]? = some (.bx g (.cells #[a, b, c, d, e] T (0, 0)))) : W.cell? ⟨g, 0, none⟩ = some a ∧ W.cell? ⟨g, 1, none⟩ = some b ∧ W.cell? ⟨g, 2, none⟩ = some c ∧ W.cell? ⟨g, 3, none⟩ = some d ∧ W.cell? ⟨g, 4, none⟩ = some e := ⟨h.cell (j := 0) hi rfl, h.cell (j := 1) hi rfl, h.cell (j := 2) hi rfl, h.cell (j := 3) hi rfl, h.cell (j := 4) hi rfl⟩
theorem Ms.f5 {g : Nat} {T : TypeId} {a b c d e : Value} (h : Ms w0 L W) (i : Nat) (hi : L[i]? = some (.bx g (.cells #[a, b, c, d, e] T (0, 0)))) : W.frozen? ⟨g, 0, none⟩ = false ∧ W.frozen? ⟨g, 1, none⟩ = false ∧ W.frozen? ⟨g, 2, none⟩ = false ∧ W.frozen? ⟨g, 3, none⟩ = false ∧ W.frozen? ⟨g, 4, none⟩ = false := ⟨h.free (j := 0) hi, h.free (j := 1) hi, h.free (j := 2) hi, h.free (j := 3) hi, h.free (j := 4) hi⟩
theorem Ms.c6 {g : Nat} {T : TypeId} {a b c d e f : Value} (h : Ms w0 L W) (i : Nat) (hi : L[i]? = some (.bx g (.cells #[a, b, c, d, e, f] T (0, 0)))) : W.cell? ⟨g, 0, none⟩ = some a ∧ W.cell? ⟨g, 1, none⟩ = some b ∧ W.cell? ⟨g, 2, none⟩ = some c ∧ W.cell? ⟨g, 3, none⟩ = some d ∧ W.cell? ⟨g, 4, none⟩ = some e ∧ W.cell? ⟨g, 5, none⟩ = some f := ⟨h.cell (j := 0) hi rfl, h.cell (j := 1) hi rfl, h.cell (j := 2) hi rfl, h.cell (j := 3) hi rfl, h.cell (j := 4) hi rfl, h.cell (j := 5) hi rfl⟩
theorem Ms.f6 {g : Nat} {T : TypeId} {a b c d e f : Value} (h : Ms w0 L W) (i : Nat) (hi : L[i]? = some (.bx g (.cells #[a, b, c, d, e, f] T (0, 0)))) : W.frozen? ⟨g, 0, none⟩ = false ∧ W.frozen? ⟨g, 1, none⟩ = false ∧ W.frozen? ⟨g, 2, none⟩ = false ∧ W.frozen? ⟨g, 3, none⟩ = false ∧ W.frozen? ⟨g, 4, none⟩ = false ∧ W.frozen? ⟨g, 5, none⟩ = false := ⟨h.free (j := 0) hi, h.free (j := 1) hi, h.free (j := 2) hi, h.free (j := 3) hi, h.free (j := 4) hi, h.free (j := 5) hi⟩
theorem Ms.apart (h : Ms w0 L W) {i j : Nat} {x y : It} (hi : L[i]? = some x) (hj : L[j]? = some y) (hij : ¬ i = j) {q : Nat} (hq : q ∈ x.bs) (hq' : q ∈ y.bs) : False := by
 have key : ∀ (L : List It) (i j : Nat) (x y : It), i < j → (L.flatMap It.bs).Nodup → L[i]? = some x → L[j]? = some y → q ∈ x.bs → q ∈ y.bs → False := by
  intro L
  induction L with
  | nil => intro i j x y _ _ hi; simp at hi
  | cons z L ih =>
   intro i j x y hij hnd hi hj hq hq'
   rw [List.flatMap_cons, List.nodup_append] at hnd
   cases j with
   | zero => omega
   | succ j =>
    simp only [List.getElem?_cons_succ] at hj
    cases i with
    | zero =>
     simp only [List.getElem?_cons_zero, Option.some.injEq] at hi
     subst hi
     exact hnd.2.2 q hq q (List.mem_flatMap.2 ⟨_, List.mem_of_getElem? hj, hq'⟩) rfl
    | succ i =>
     simp only [List.getElem?_cons_succ] at hi
     exact ih i j x y (by omega) hnd.2.1 hi hj hq hq'
 rcases Nat.lt_or_gt_of_ne hij with hlt | hlt
 ·exact key L i j x y hlt h.nd hi hj hq hq'
 ·exact key L j i y x hlt h.nd hj hi hq' hq
theorem Ms.name (h : Ms w0 L W) : ∃ W', W' = W ∧ Ms w0 L W' := ⟨W, rfl, h⟩
end
def chainGo : List En → List Int → Bool
 | [], _ => true
 | e :: l, t => fitsB e.o t && entryB e && okText (applyT e.o t) && chainGo l (applyT e.o t)
theorem chainGo_step {l : List En} {j : Nat} {e : En} (h : l[j]? = some e) (t : List Int) : chainGo (l.drop j) t = (fitsB e.o t && entryB e && okText (applyT e.o t) && chainGo (l.drop (j + 1)) (applyT e.o t)) := by
 obtain ⟨hlt, e'⟩ := List.getElem?_eq_some_iff.1 h
 rw [List.drop_eq_getElem_cons hlt, e']
 rfl
def seenOneB (h : Int) (prev : Option Int) (s : Se) : Bool := inB s.client 1 8 && inB s.seq 1 1000000000 && inB s.rev 1 h && (match prev with | none => true | some p => decide (p < s.client))
def seenAllB (h : Int) : Option Int → List Se → Bool
 | _, [] => true
 | prev, s :: l => seenOneB h prev s && seenAllB h (some s.client) l
def prevOf (l : List Se) : Nat → Option Int
 | 0 => none
 | k + 1 => (l[k]?).map Se.client
theorem seenAllB_step {h : Int} {l : List Se} {j : Nat} {s : Se} (hs : l[j]? = some s) : seenAllB h (prevOf l j) (l.drop j) = (seenOneB h (prevOf l j) s && seenAllB h (prevOf l (j + 1)) (l.drop (j + 1))) := by
 obtain ⟨hlt, e'⟩ := List.getElem?_eq_some_iff.1 hs
 rw [List.drop_eq_getElem_cons hlt, e']
 have : prevOf l (j + 1) = some s.client := by rw [prevOf, hs]; rfl
 rw [this]
 rfl
def docB (x : Do) : Bool := nameB x.name && inB x.from_ 0 999999000 && okText x.text && decide (x.list.length ≤ 8) && chainGo x.list x.text && seenAllB (headRevT x) none x.seen
theorem okText_small {t : List Int} (h : okText t = true) : SmI t := by
 unfold okText at h
 rw [Bool.and_eq_true] at h
 have := of_decide_eq_true h.2
 unfold SmI
 omega
theorem SmDo.nameL {x : Do} (h : SmDo x) : x.name.size ≤ 1048576 := by unfold SmDo totDo at h; omega
structure SmD4 (x : Do) : Prop where
 nameL : x.name.size ≤ 1048576
 text : SmI x.text
 list : SmEns x.list
 seen : SmSes x.seen
theorem SmDo.four {x : Do} (h : SmDo x) : SmD4 x := ⟨h.nameL, h.text, h.list, h.seen⟩
theorem specDocOk_w (v : Value) (x : Do) (w : World) (h : RdC w w.heap.size (datDo x) v) (hs : SmD4 x) : Calls Tryz.prog 28 #[v] w (Tells (docB x) w) := by
 have HR := Lib.hid h
 obtain ⟨A2, c2, A3, c3, A4, c4, rfl, r2, r3, r4⟩ := aggDo h
 have hl3 := hs.list.len
 have hl4 := hs.seen.len
 have HD := Lib.hid (show docB x = (nameB x.name && inB x.from_ 0 999999000 && okText x.text && decide (x.list.length ≤ 8) && chainGo x.list x.text && seenAllB (headRevT x) none x.seen) from rfl)
 have b0 := alloc_below w (.cells #[.string x.name, .int .i64 x.from_, .slice A2 x.text.length c2, .slice A3 x.list.length c3, .slice A4 x.seen.length c4] 36)
 have bx := Bx.new w #[.string x.name, .int .i64 x.from_, .slice A2 x.text.length c2, .slice A3 x.list.length c3, .slice A4 x.seen.length c4] 36
 go_enter Tryz.func28, Tryz.ntmps28
 go_wp2_with fail
 generalize w.alloc (.cells #[.string x.name, .int .i64 x.from_, .slice A2 x.text.length c2, .slice A3 x.list.length c3, .slice A4 x.seen.length c4] 36) = W0 at b0 bx ⊢
 refine (specNameOk_d x.name _ hs.nameL).mono ?_
 rintro e w1 ⟨rfl, k1⟩
 have bx := bx.past k1
 have d1 := b0.trans (k1.mono b0.size)
 clear k1
 cases hn : nameB x.name
 ·go_wp2
  go_ret
  exact ⟨ret_b (by rw [HD.out, hn]; rfl), d1⟩
 have y1 : w1.cell? ⟨w.heap.size, 1, none⟩ = some (.int .i64 x.from_) := bx.cell rfl
 go_wp2_with fail
 refine (in_any _ _ _ _).mono ?_
 rintro e w' ⟨rfl, rfl⟩
 cases hf : inB x.from_ 0 999999000
 ·go_wp2
  go_ret
  exact ⟨ret_b (by rw [HD.out, hn, hf]; rfl), d1⟩
 have y2 : w1.cell? ⟨w.heap.size, 2, none⟩ = some (.slice A2 x.text.length c2) := bx.cell rfl
 go_wp2_with fail
 refine (specTextOk_d _ x.text _ (r2.past d1) hs.text).mono ?_
 rintro e w2 ⟨rfl, k2⟩
 have bx := bx.past k2
 have d2 := d1.trans (k2.mono d1.size)
 clear k2 y1 y2
 cases ht : okText x.text
 ·go_wp2
  go_ret
  exact ⟨ret_b (by rw [HD.out, hn, hf, ht]; rfl), d2⟩
 have y3 : w2.cell? ⟨w.heap.size, 3, none⟩ = some (.slice A3 x.list.length c3) := bx.cell rfl
 by_cases hw : 8 < x.list.length
 ·go_wp2
  go_ret
  exact ⟨ret_b (by rw [HD.out, hn, hf, ht, decide_eq_false (by omega)]; rfl), d2⟩
 have HD2 := Lib.hid (show docB x = (chainGo x.list x.text && seenAllB (headRevT x) none x.seen) by rw [HD.out, hn, hf, ht, decide_eq_true (by omega)]; rfl)
 have hst := okText_small ht
 have y2 : w2.cell? ⟨w.heap.size, 2, none⟩ = some (.slice A2 x.text.length c2) := bx.cell rfl
 have BX := Lib.hid bx
 have R2 := Lib.hid (r2.past d2)
 clear bx hn hf ht HD r2
 go_wp2
 go_loopw [3, 37] (fun tv i wr => ∃ (j : Nat) (t : List Int) (A : Option Addr) (c : Nat), j ≤ x.list.length ∧ i = .int .i64 (j : Int) ∧ tv = .slice A t.length c ∧ RdC wr wr.heap.size (encInts t) tv ∧ SmI t ∧ chainGo x.list x.text = chainGo (x.list.drop j) t ∧ Bx wr w.heap.size #[.string x.name, .int .i64 x.from_, .slice A2 x.text.length c2, .slice A3 x.list.length c3, .slice A4 x.seen.length c4] 36 ∧ Below w.heap.size w wr) (fun _ i _ => x.list.length - (intOf i).toNat)
 case atStart => exact ⟨0, x.text, A2, c2, Nat.zero_le _, rfl, rfl, R2.out, hst, by simp, BX.out, d2⟩
 case round =>
  obtain ⟨j, t, A, c, hj, rfl, rfl, hrt, hst, hch, hbx, hbel⟩ := hrel
  clear BX R2 y2 y3 d2
  have HCH := Lib.hid hch
  have HBX := Lib.hid hbx
  have HRT := Lib.hid hrt
  clear hch hbx hrt
  by_cases hlt : j < x.list.length
  ·obtain ⟨b, off, e, A5, c5, rfl, hbb, hp, z0, z1, z2, q2⟩ := atEns (r3.below hbel) hlt
   have HS := Lib.hid (chainGo_step hp t)
   have hse := hs.list.at_ (List.mem_of_getElem? hp)
   clear hp
   have bA := alloc_below wr (.cells #[.int .i64 e.client, .int .i64 e.seq, .slice A5 e.o.length c5] 86)
   have bxE := Bx.new wr #[.int .i64 e.client, .int .i64 e.seq, .slice A5 e.o.length c5] 86
   have q2 := RdC.more hbel.size _ _ q2
   go_wp2_with fail
   generalize wr.alloc (.cells #[.int .i64 e.client, .int .i64 e.seq, .slice A5 e.o.length c5] 86) = W1 at bA bxE ⊢
   refine (specApply_d _ _ e.o t _ (q2.past bA) (HRT.out.past bA) hse.o hst).mono ?_
   rintro e' w3 ⟨v3, rfl, o3, b3⟩
   obtain ⟨A6, c6, rfl⟩ := sliceI o3.read
   have bxE := bxE.past b3
   have d3 := bA.trans (b3.mono bA.size)
   have R3 := Lib.hid o3.read
   clear o3 b3 bA
   cases hfit : fitsB e.o t
   ·go_wp2
    go_ret
    exact ⟨ret_b (by rw [HD2.out, HCH.out, HS.out, hfit]; rfl), hbel.trans (d3.mono hbel.size)⟩
   have x0 : w3.cell? ⟨wr.heap.size, 0, none⟩ = some (.int .i64 e.client) := bxE.cell rfl
   have x1 : w3.cell? ⟨wr.heap.size, 1, none⟩ = some (.int .i64 e.seq) := bxE.cell rfl
   have x2 : w3.cell? ⟨wr.heap.size, 2, none⟩ = some (.slice A5 e.o.length c5) := bxE.cell rfl
   go_wp2_with fail
   refine (specEntryOk_d _ e _ (rdEn e (q2.past d3)) hse).mono ?_
   rintro e' w4 ⟨rfl, b4⟩
   have d4 := d3.trans (b4.mono d3.size)
   cases hent : entryB e
   ·go_wp2
    go_ret
    exact ⟨ret_b (by rw [HD2.out, HCH.out, HS.out, hfit, hent]; rfl), hbel.trans (d4.mono hbel.size)⟩
   have hs6 : SmI (applyT e.o t) := apply_small hse.o hst
   go_wp2_with fail
   refine (specTextOk_d _ (applyT e.o t) _ (R3.out.past b4) hs6).mono ?_
   rintro e' w5 ⟨rfl, b5⟩
   have d5 := d4.trans (b5.mono d4.size)
   cases hok : okText (applyT e.o t)
   ·go_wp2
    go_ret
    exact ⟨ret_b (by rw [HD2.out, HCH.out, HS.out, hfit, hent, hok]; rfl), hbel.trans (d5.mono hbel.size)⟩
   ·have HN := Lib.hid (show chainGo x.list x.text = chainGo (x.list.drop (j + 1)) (applyT e.o t) by rw [HCH.out, HS.out, hfit, hent, hok]; rfl)
    go_wp2
    go_roundw
    case rel => exact ⟨j + 1, applyT e.o t, A6, c6, by omega, by go_num, rfl, (R3.out.past b4).past b5, okText_small hok, HN.out, HBX.out.past d5, hbel.trans (d5.mono hbel.size)⟩
    case measure => simp [intOf]; omega
  ·have HD3 := Lib.hid (show docB x = seenAllB (headRevT x) none x.seen by rw [HD2.out, HCH.out, List.drop_eq_nil_of_le (by omega)]; rfl)
   have y4 : wr.cell? ⟨w.heap.size, 4, none⟩ = some (.slice A4 x.seen.length c4) := HBX.out.cell rfl
   have HBE := Lib.hid hbel
   clear HRT
   go_wp2
   go_loopw [65] (fun i wq => ∃ j : Nat, j ≤ x.seen.length ∧ i = .int .i64 (j : Int) ∧ docB x = seenAllB (headRevT x) (prevOf x.seen j) (x.seen.drop j) ∧ Bx wq w.heap.size #[.string x.name, .int .i64 x.from_, .slice A2 x.text.length c2, .slice A3 x.list.length c3, .slice A4 x.seen.length c4] 36 ∧ Below w.heap.size w wq) (fun i _ => x.seen.length - (intOf i).toNat)
   case atStart => exact ⟨0, Nat.zero_le _, rfl, by simpa [prevOf] using HD3.out, HBX.out, HBE.out⟩
   case round =>
    obtain ⟨j, hj, rfl, hdc, hbx, hbel⟩ := hrel
    clear HBX HBE HD3 y4
    have HDC := Lib.hid hdc
    have HBX := Lib.hid hbx
    clear hdc hbx
    by_cases hlt : j < x.seen.length
    ·obtain ⟨b, off, s, rfl, hbb, hp, z0, z1, z2⟩ := atSes (r4.below hbel) hlt
     have HS := Lib.hid (seenAllB_step (h := headRevT x) hp)
     have HP := Lib.hid hp
     clear hp
     -- round2
     have bA := alloc_below wr (.cells #[.int .i64 s.client, .int .i64 s.seq, .int .i64 s.rev] 95)
     have bxS := Bx.new wr #[.int .i64 s.client, .int .i64 s.seq, .int .i64 s.rev] 95
     have bxD := HBX.out.past bA
     have hbq : b < wr.heap.size := Nat.lt_of_lt_of_le hbb hbel.size
     cases h1 : inB s.client 1 8
     ·go_wp2
      generalize wr.alloc (.cells #[.int .i64 s.client, .int .i64 s.seq, .int .i64 s.rev] 95) = W1 at bA bxS bxD ⊢
      have y0 : W1.cell? ⟨wr.heap.size, 0, none⟩ = some (.int .i64 s.client) := bxS.cell rfl
      have y1 : W1.cell? ⟨wr.heap.size, 1, none⟩ = some (.int .i64 s.seq) := bxS.cell rfl
      have y2 : W1.cell? ⟨wr.heap.size, 2, none⟩ = some (.int .i64 s.rev) := bxS.cell rfl
      have y3 : W1.cell? ⟨w.heap.size, 0, none⟩ = some (.string x.name) := bxD.cell rfl
      have y4 : W1.cell? ⟨w.heap.size, 1, none⟩ = some (.int .i64 x.from_) := bxD.cell rfl
      have y5 : W1.cell? ⟨w.heap.size, 2, none⟩ = some (.slice A2 x.text.length c2) := bxD.cell rfl
      have y6 : W1.cell? ⟨w.heap.size, 3, none⟩ = some (.slice A3 x.list.length c3) := bxD.cell rfl
      have y7 : W1.cell? ⟨w.heap.size, 4, none⟩ = some (.slice (some ⟨b, off, none⟩) x.seen.length c4) := bxD.cell rfl
      have lS := bxS.lt
      have lD := bxD.lt
      have SX := Lib.hid (show ∀ (W W' : World), (W.cell? ⟨wr.heap.size, 0, none⟩ = some (.int .i64 s.client) ∧ W.cell? ⟨wr.heap.size, 1, none⟩ = some (.int .i64 s.seq) ∧ W.cell? ⟨wr.heap.size, 2, none⟩ = some (.int .i64 s.rev) ∧ W.cell? ⟨w.heap.size, 0, none⟩ = some (.string x.name) ∧ W.cell? ⟨w.heap.size, 1, none⟩ = some (.int .i64 x.from_) ∧ W.cell? ⟨w.heap.size, 2, none⟩ = some (.slice A2 x.text.length c2) ∧ W.cell? ⟨w.heap.size, 3, none⟩ = some (.slice A3 x.list.length c3) ∧ W.cell? ⟨w.heap.size, 4, none⟩ = some (.slice (some ⟨b, off, none⟩) x.seen.length c4) ∧ KS W1 W) → Below W.heap.size W W' → (W'.cell? ⟨wr.heap.size, 0, none⟩ = some (.int .i64 s.client) ∧ W'.cell? ⟨wr.heap.size, 1, none⟩ = some (.int .i64 s.seq) ∧ W'.cell? ⟨wr.heap.size, 2, none⟩ = some (.int .i64 s.rev) ∧ W'.cell? ⟨w.heap.size, 0, none⟩ = some (.string x.name) ∧ W'.cell? ⟨w.heap.size, 1, none⟩ = some (.int .i64 x.from_) ∧ W'.cell? ⟨w.heap.size, 2, none⟩ = some (.slice A2 x.text.length c2) ∧ W'.cell? ⟨w.heap.size, 3, none⟩ = some (.slice A3 x.list.length c3) ∧ W'.cell? ⟨w.heap.size, 4, none⟩ = some (.slice (some ⟨b, off, none⟩) x.seen.length c4) ∧ KS W1 W') from fun W W' h hb => by have hk := h.2.2.2.2.2.2.2.2; have hkk : KS W1 W' := hk.trans (hb.mono hk.size); exact ⟨(hkk.cell (p := ⟨wr.heap.size, 0, none⟩) lS).trans y0, (hkk.cell (p := ⟨wr.heap.size, 1, none⟩) lS).trans y1, (hkk.cell (p := ⟨wr.heap.size, 2, none⟩) lS).trans y2, (hkk.cell (p := ⟨w.heap.size, 0, none⟩) lD).trans y3, (hkk.cell (p := ⟨w.heap.size, 1, none⟩) lD).trans y4, (hkk.cell (p := ⟨w.heap.size, 2, none⟩) lD).trans y5, (hkk.cell (p := ⟨w.heap.size, 3, none⟩) lD).trans y6, (hkk.cell (p := ⟨w.heap.size, 4, none⟩) lD).trans y7, hkk⟩)
      have RD := Lib.hid (show ∀ W : World, (W.cell? ⟨wr.heap.size, 0, none⟩ = some (.int .i64 s.client) ∧ W.cell? ⟨wr.heap.size, 1, none⟩ = some (.int .i64 s.seq) ∧ W.cell? ⟨wr.heap.size, 2, none⟩ = some (.int .i64 s.rev) ∧ W.cell? ⟨w.heap.size, 0, none⟩ = some (.string x.name) ∧ W.cell? ⟨w.heap.size, 1, none⟩ = some (.int .i64 x.from_) ∧ W.cell? ⟨w.heap.size, 2, none⟩ = some (.slice A2 x.text.length c2) ∧ W.cell? ⟨w.heap.size, 3, none⟩ = some (.slice A3 x.list.length c3) ∧ W.cell? ⟨w.heap.size, 4, none⟩ = some (.slice (some ⟨b, off, none⟩) x.seen.length c4) ∧ KS W1 W) → RdC W W.heap.size (datDo x) (.agg #[.string x.name, .int .i64 x.from_, .slice A2 x.text.length c2, .slice A3 x.list.length c3, .slice (some ⟨b, off, none⟩) x.seen.length c4]) from fun W h => by have hk : Below W1.heap.size W1 W := h.2.2.2.2.2.2.2.2; exact (HR.out.past (hbel.trans (bA.mono hbel.size))).past hk)
      have hS0 : W1.drew.cell? ⟨wr.heap.size, 0, none⟩ = some (.int .i64 s.client) ∧ W1.drew.cell? ⟨wr.heap.size, 1, none⟩ = some (.int .i64 s.seq) ∧ W1.drew.cell? ⟨wr.heap.size, 2, none⟩ = some (.int .i64 s.rev) ∧ W1.drew.cell? ⟨w.heap.size, 0, none⟩ = some (.string x.name) ∧ W1.drew.cell? ⟨w.heap.size, 1, none⟩ = some (.int .i64 x.from_) ∧ W1.drew.cell? ⟨w.heap.size, 2, none⟩ = some (.slice A2 x.text.length c2) ∧ W1.drew.cell? ⟨w.heap.size, 3, none⟩ = some (.slice A3 x.list.length c3) ∧ W1.drew.cell? ⟨w.heap.size, 4, none⟩ = some (.slice (some ⟨b, off, none⟩) x.seen.length c4) ∧ KS W1 W1.drew := ⟨y0, y1, y2, y3, y4, y5, y6, y7, KS.start _⟩
      clear y0 y1 y2 y3 y4 y5 y6 y7
      refine wp_region_held_drew (S := fun W => W.cell? ⟨wr.heap.size, 0, none⟩ = some (.int .i64 s.client) ∧ W.cell? ⟨wr.heap.size, 1, none⟩ = some (.int .i64 s.seq) ∧ W.cell? ⟨wr.heap.size, 2, none⟩ = some (.int .i64 s.rev) ∧ W.cell? ⟨w.heap.size, 0, none⟩ = some (.string x.name) ∧ W.cell? ⟨w.heap.size, 1, none⟩ = some (.int .i64 x.from_) ∧ W.cell? ⟨w.heap.size, 2, none⟩ = some (.slice A2 x.text.length c2) ∧ W.cell? ⟨w.heap.size, 3, none⟩ = some (.slice A3 x.list.length c3) ∧ W.cell? ⟨w.heap.size, 4, none⟩ = some (.slice (some ⟨b, off, none⟩) x.seen.length c4) ∧ KS W1 W) (by kernel_rfl) hS0 (fun hS => ?_)
      clear hS0
      refine tk (v := .pointer (some ⟨wr.heap.size, 0, none⟩)) 0 70 rfl (fun w' hS' => ?_) hS ?_
      ·(try dsimp only at hS'); go_simp
      try simp only [Act.put, pa, pb, pc]
      refine tk (v := .int .i64 s.client) 1 71 rfl (fun w' hS' => ?_) hS ?_
      ·(try dsimp only at hS'); go_simp
      try simp only [Act.put, pa, pb, pc]
      refine r1 2 (some 72) rfl (fun K hK => ?_)
      go_simp
      refine (in_any _ _ _ _).mono ?_
      rw [h1]
      rintro e w2 ⟨rfl, rfl⟩
      refine hK.out _ _ hS (fun hS => ?_)
      clear hK K
      try simp only [Act.put, pa, pb, pc]
      refine tk (v := .bool true) 3 73 rfl (fun w' hS' => ?_) hS ?_
      ·(try dsimp only at hS'); go_simp
      try simp only [Act.put, pa, pb, pc]
      refine tk (v := .bool true) 4 74 rfl (fun w' hS' => ?_) hS ?_
      ·(try dsimp only at hS'); go_simp
      try simp only [Act.put, pa, pb, pc]
      refine tu 5 75 rfl hS ?_
      try simp only [Act.put, pa, pb, pc]
      refine tu 6 76 rfl hS ?_
      try simp only [Act.put, pa, pb, pc]
      refine tu 7 77 rfl hS ?_
      try simp only [Act.put, pa, pb, pc]
      refine tu 8 78 rfl hS ?_
      try simp only [Act.put, pa, pb, pc]
      refine tk (v := .bool true) 9 79 rfl (fun w' hS' => ?_) hS ?_
      ·(try dsimp only at hS'); go_simp
      try simp only [Act.put, pa, pb, pc]
      refine tk (v := .bool true) 10 80 rfl (fun w' hS' => ?_) hS ?_
      ·(try dsimp only at hS'); go_simp
      try simp only [Act.put, pa, pb, pc]
      refine tu 11 81 rfl hS ?_
      try simp only [Act.put, pa, pb, pc]
      refine tu 12 82 rfl hS ?_
      try simp only [Act.put, pa, pb, pc]
      refine tu 13 83 rfl hS ?_
      try simp only [Act.put, pa, pb, pc]
      refine tu 14 84 rfl hS ?_
      try simp only [Act.put, pa, pb, pc]
      refine tu 15 85 rfl hS ?_
      try simp only [Act.put, pa, pb, pc]
      refine tu 16 86 rfl hS ?_
      try simp only [Act.put, pa, pb, pc]
      refine tk (v := .bool true) 17 87 rfl (fun w' hS' => ?_) hS ?_
      ·(try dsimp only at hS'); go_simp
      try simp only [Act.put, pa, pb, pc]
      refine tk (v := .bool true) 18 88 rfl (fun w' hS' => ?_) hS ?_
      ·(try dsimp only at hS'); go_simp
      try simp only [Act.put, pa, pb, pc]
      refine tu 19 89 rfl hS ?_
      try simp only [Act.put, pa, pb, pc]
      refine tu 20 90 rfl hS ?_
      try simp only [Act.put, pa, pb, pc]
      refine tu 21 91 rfl hS ?_
      try simp only [Act.put, pa, pb, pc]
      refine tu 22 92 rfl hS ?_
      try simp only [Act.put, pa, pb, pc]
      refine tu 23 93 rfl hS ?_
      try simp only [Act.put, pa, pb, pc]
      refine tu 24 94 rfl hS ?_
      try simp only [Act.put, pa, pb, pc]
      refine tu 25 95 rfl hS ?_
      try simp only [Act.put, pa, pb, pc]
      refine tu 26 96 rfl hS ?_
      try simp only [Act.put, pa, pb, pc]
      refine tu 27 97 rfl hS ?_
      try simp only [Act.put, pa, pb, pc]
      refine tu 28 98 rfl hS ?_
      try simp only [Act.put, pa, pb, pc]
      refine tu 29 99 rfl hS ?_
      try simp only [Act.put, pa, pb, pc]
      refine tu 30 100 rfl hS ?_
      try simp only [Act.put, pa, pb, pc]
      refine tu 31 101 rfl hS ?_
      try simp only [Act.put, pa, pb, pc]
      refine tu 32 102 rfl hS ?_
      try simp only [Act.put, pa, pb, pc]
      refine tk (v := .bool true) 33 103 rfl (fun w' hS' => ?_) hS ?_
      ·(try dsimp only at hS'); go_simp
      try simp only [Act.put, pa, pb, pc]
      refine wpAnyH_done (by kernel_rfl) ?_ _
      have HK : Below w.heap.size w _ := hbel.trans ((bA.trans (hS.2.2.2.2.2.2.2.2.mono bA.size)).mono hbel.size)
      have HBX2 := Lib.hid (bxD.past hS.2.2.2.2.2.2.2.2)
      have HKH := Lib.hid HK
      clear hS SX RD HK
      go_wp2
      go_ret
      exact ⟨ret_b (by rw [HDC.out, HS.out]; rw [show seenOneB (headRevT x) (prevOf x.seen j) s = false by unfold seenOneB; rw [h1]; simp]; rfl), HKH.out⟩
     cases h2 : inB s.seq 1 1000000000
     ·go_wp2
      generalize wr.alloc (.cells #[.int .i64 s.client, .int .i64 s.seq, .int .i64 s.rev] 95) = W1 at bA bxS bxD ⊢
      have y0 : W1.cell? ⟨wr.heap.size, 0, none⟩ = some (.int .i64 s.client) := bxS.cell rfl
      have y1 : W1.cell? ⟨wr.heap.size, 1, none⟩ = some (.int .i64 s.seq) := bxS.cell rfl
      have y2 : W1.cell? ⟨wr.heap.size, 2, none⟩ = some (.int .i64 s.rev) := bxS.cell rfl
      have y3 : W1.cell? ⟨w.heap.size, 0, none⟩ = some (.string x.name) := bxD.cell rfl
      have y4 : W1.cell? ⟨w.heap.size, 1, none⟩ = some (.int .i64 x.from_) := bxD.cell rfl
      have y5 : W1.cell? ⟨w.heap.size, 2, none⟩ = some (.slice A2 x.text.length c2) := bxD.cell rfl
      have y6 : W1.cell? ⟨w.heap.size, 3, none⟩ = some (.slice A3 x.list.length c3) := bxD.cell rfl
      have y7 : W1.cell? ⟨w.heap.size, 4, none⟩ = some (.slice (some ⟨b, off, none⟩) x.seen.length c4) := bxD.cell rfl
      have lS := bxS.lt
      have lD := bxD.lt
      have SX := Lib.hid (show ∀ (W W' : World), (W.cell? ⟨wr.heap.size, 0, none⟩ = some (.int .i64 s.client) ∧ W.cell? ⟨wr.heap.size, 1, none⟩ = some (.int .i64 s.seq) ∧ W.cell? ⟨wr.heap.size, 2, none⟩ = some (.int .i64 s.rev) ∧ W.cell? ⟨w.heap.size, 0, none⟩ = some (.string x.name) ∧ W.cell? ⟨w.heap.size, 1, none⟩ = some (.int .i64 x.from_) ∧ W.cell? ⟨w.heap.size, 2, none⟩ = some (.slice A2 x.text.length c2) ∧ W.cell? ⟨w.heap.size, 3, none⟩ = some (.slice A3 x.list.length c3) ∧ W.cell? ⟨w.heap.size, 4, none⟩ = some (.slice (some ⟨b, off, none⟩) x.seen.length c4) ∧ KS W1 W) → Below W.heap.size W W' → (W'.cell? ⟨wr.heap.size, 0, none⟩ = some (.int .i64 s.client) ∧ W'.cell? ⟨wr.heap.size, 1, none⟩ = some (.int .i64 s.seq) ∧ W'.cell? ⟨wr.heap.size, 2, none⟩ = some (.int .i64 s.rev) ∧ W'.cell? ⟨w.heap.size, 0, none⟩ = some (.string x.name) ∧ W'.cell? ⟨w.heap.size, 1, none⟩ = some (.int .i64 x.from_) ∧ W'.cell? ⟨w.heap.size, 2, none⟩ = some (.slice A2 x.text.length c2) ∧ W'.cell? ⟨w.heap.size, 3, none⟩ = some (.slice A3 x.list.length c3) ∧ W'.cell? ⟨w.heap.size, 4, none⟩ = some (.slice (some ⟨b, off, none⟩) x.seen.length c4) ∧ KS W1 W') from fun W W' h hb => by have hk := h.2.2.2.2.2.2.2.2; have hkk : KS W1 W' := hk.trans (hb.mono hk.size); exact ⟨(hkk.cell (p := ⟨wr.heap.size, 0, none⟩) lS).trans y0, (hkk.cell (p := ⟨wr.heap.size, 1, none⟩) lS).trans y1, (hkk.cell (p := ⟨wr.heap.size, 2, none⟩) lS).trans y2, (hkk.cell (p := ⟨w.heap.size, 0, none⟩) lD).trans y3, (hkk.cell (p := ⟨w.heap.size, 1, none⟩) lD).trans y4, (hkk.cell (p := ⟨w.heap.size, 2, none⟩) lD).trans y5, (hkk.cell (p := ⟨w.heap.size, 3, none⟩) lD).trans y6, (hkk.cell (p := ⟨w.heap.size, 4, none⟩) lD).trans y7, hkk⟩)
      have RD := Lib.hid (show ∀ W : World, (W.cell? ⟨wr.heap.size, 0, none⟩ = some (.int .i64 s.client) ∧ W.cell? ⟨wr.heap.size, 1, none⟩ = some (.int .i64 s.seq) ∧ W.cell? ⟨wr.heap.size, 2, none⟩ = some (.int .i64 s.rev) ∧ W.cell? ⟨w.heap.size, 0, none⟩ = some (.string x.name) ∧ W.cell? ⟨w.heap.size, 1, none⟩ = some (.int .i64 x.from_) ∧ W.cell? ⟨w.heap.size, 2, none⟩ = some (.slice A2 x.text.length c2) ∧ W.cell? ⟨w.heap.size, 3, none⟩ = some (.slice A3 x.list.length c3) ∧ W.cell? ⟨w.heap.size, 4, none⟩ = some (.slice (some ⟨b, off, none⟩) x.seen.length c4) ∧ KS W1 W) → RdC W W.heap.size (datDo x) (.agg #[.string x.name, .int .i64 x.from_, .slice A2 x.text.length c2, .slice A3 x.list.length c3, .slice (some ⟨b, off, none⟩) x.seen.length c4]) from fun W h => by have hk : Below W1.heap.size W1 W := h.2.2.2.2.2.2.2.2; exact (HR.out.past (hbel.trans (bA.mono hbel.size))).past hk)
      have hS0 : W1.drew.cell? ⟨wr.heap.size, 0, none⟩ = some (.int .i64 s.client) ∧ W1.drew.cell? ⟨wr.heap.size, 1, none⟩ = some (.int .i64 s.seq) ∧ W1.drew.cell? ⟨wr.heap.size, 2, none⟩ = some (.int .i64 s.rev) ∧ W1.drew.cell? ⟨w.heap.size, 0, none⟩ = some (.string x.name) ∧ W1.drew.cell? ⟨w.heap.size, 1, none⟩ = some (.int .i64 x.from_) ∧ W1.drew.cell? ⟨w.heap.size, 2, none⟩ = some (.slice A2 x.text.length c2) ∧ W1.drew.cell? ⟨w.heap.size, 3, none⟩ = some (.slice A3 x.list.length c3) ∧ W1.drew.cell? ⟨w.heap.size, 4, none⟩ = some (.slice (some ⟨b, off, none⟩) x.seen.length c4) ∧ KS W1 W1.drew := ⟨y0, y1, y2, y3, y4, y5, y6, y7, KS.start _⟩
      clear y0 y1 y2 y3 y4 y5 y6 y7
      refine wp_region_held_drew (S := fun W => W.cell? ⟨wr.heap.size, 0, none⟩ = some (.int .i64 s.client) ∧ W.cell? ⟨wr.heap.size, 1, none⟩ = some (.int .i64 s.seq) ∧ W.cell? ⟨wr.heap.size, 2, none⟩ = some (.int .i64 s.rev) ∧ W.cell? ⟨w.heap.size, 0, none⟩ = some (.string x.name) ∧ W.cell? ⟨w.heap.size, 1, none⟩ = some (.int .i64 x.from_) ∧ W.cell? ⟨w.heap.size, 2, none⟩ = some (.slice A2 x.text.length c2) ∧ W.cell? ⟨w.heap.size, 3, none⟩ = some (.slice A3 x.list.length c3) ∧ W.cell? ⟨w.heap.size, 4, none⟩ = some (.slice (some ⟨b, off, none⟩) x.seen.length c4) ∧ KS W1 W) (by kernel_rfl) hS0 (fun hS => ?_)
      clear hS0
      refine tk (v := .pointer (some ⟨wr.heap.size, 0, none⟩)) 0 70 rfl (fun w' hS' => ?_) hS ?_
      ·(try dsimp only at hS'); go_simp
      try simp only [Act.put, pa, pb, pc]
      refine tk (v := .int .i64 s.client) 1 71 rfl (fun w' hS' => ?_) hS ?_
      ·(try dsimp only at hS'); go_simp
      try simp only [Act.put, pa, pb, pc]
      refine r1 2 (some 72) rfl (fun K hK => ?_)
      go_simp
      refine (in_any _ _ _ _).mono ?_
      rw [h1]
      rintro e w2 ⟨rfl, rfl⟩
      refine hK.out _ _ hS (fun hS => ?_)
      clear hK K
      try simp only [Act.put, pa, pb, pc]
      refine tk (v := .bool false) 3 73 rfl (fun w' hS' => ?_) hS ?_
      ·(try dsimp only at hS'); go_simp
      try simp only [Act.put, pa, pb, pc]
      refine tk (v := .bool false) 4 74 rfl (fun w' hS' => ?_) hS ?_
      ·(try dsimp only at hS'); go_simp
      try simp only [Act.put, pa, pb, pc]
      refine tk (v := .pointer (some ⟨wr.heap.size, 1, none⟩)) 5 75 rfl (fun w' hS' => ?_) hS ?_
      ·(try dsimp only at hS'); go_simp
      try simp only [Act.put, pa, pb, pc]
      refine tk (v := .int .i64 s.seq) 6 76 rfl (fun w' hS' => ?_) hS ?_
      ·(try dsimp only at hS'); go_simp
      try simp only [Act.put, pa, pb, pc]
      refine r1 7 (some 77) rfl (fun K hK => ?_)
      go_simp
      refine (in_any _ _ _ _).mono ?_
      rw [h2]
      rintro e w2 ⟨rfl, rfl⟩
      refine hK.out _ _ hS (fun hS => ?_)
      clear hK K
      try simp only [Act.put, pa, pb, pc]
      refine tk (v := .bool true) 8 78 rfl (fun w' hS' => ?_) hS ?_
      ·(try dsimp only at hS'); go_simp
      try simp only [Act.put, pa, pb, pc]
      refine tk (v := .bool true) 9 79 rfl (fun w' hS' => ?_) hS ?_
      ·(try dsimp only at hS'); go_simp
      try simp only [Act.put, pa, pb, pc]
      refine tk (v := .bool true) 10 80 rfl (fun w' hS' => ?_) hS ?_
      ·(try dsimp only at hS'); go_simp
      try simp only [Act.put, pa, pb, pc]
      refine tu 11 81 rfl hS ?_
      try simp only [Act.put, pa, pb, pc]
      refine tu 12 82 rfl hS ?_
      try simp only [Act.put, pa, pb, pc]
      refine tu 13 83 rfl hS ?_
      try simp only [Act.put, pa, pb, pc]
      refine tu 14 84 rfl hS ?_
      try simp only [Act.put, pa, pb, pc]
      refine tu 15 85 rfl hS ?_
      try simp only [Act.put, pa, pb, pc]
      refine tu 16 86 rfl hS ?_
      try simp only [Act.put, pa, pb, pc]
      refine tk (v := .bool true) 17 87 rfl (fun w' hS' => ?_) hS ?_
      ·(try dsimp only at hS'); go_simp
      try simp only [Act.put, pa, pb, pc]
      refine tk (v := .bool true) 18 88 rfl (fun w' hS' => ?_) hS ?_
      ·(try dsimp only at hS'); go_simp
      try simp only [Act.put, pa, pb, pc]
      refine tu 19 89 rfl hS ?_
      try simp only [Act.put, pa, pb, pc]
      refine tu 20 90 rfl hS ?_
      try simp only [Act.put, pa, pb, pc]
      refine tu 21 91 rfl hS ?_
      try simp only [Act.put, pa, pb, pc]
      refine tu 22 92 rfl hS ?_
      try simp only [Act.put, pa, pb, pc]
      refine tu 23 93 rfl hS ?_
      try simp only [Act.put, pa, pb, pc]
      refine tu 24 94 rfl hS ?_
      try simp only [Act.put, pa, pb, pc]
      refine tu 25 95 rfl hS ?_
      try simp only [Act.put, pa, pb, pc]
      refine tu 26 96 rfl hS ?_
      try simp only [Act.put, pa, pb, pc]
      refine tu 27 97 rfl hS ?_
      try simp only [Act.put, pa, pb, pc]
      refine tu 28 98 rfl hS ?_
      try simp only [Act.put, pa, pb, pc]
      refine tu 29 99 rfl hS ?_
      try simp only [Act.put, pa, pb, pc]
      refine tu 30 100 rfl hS ?_
      try simp only [Act.put, pa, pb, pc]
      refine tu 31 101 rfl hS ?_
      try simp only [Act.put, pa, pb, pc]
      refine tu 32 102 rfl hS ?_
      try simp only [Act.put, pa, pb, pc]
      refine tk (v := .bool true) 33 103 rfl (fun w' hS' => ?_) hS ?_
      ·(try dsimp only at hS'); go_simp
      try simp only [Act.put, pa, pb, pc]
      refine wpAnyH_done (by kernel_rfl) ?_ _
      have HK : Below w.heap.size w _ := hbel.trans ((bA.trans (hS.2.2.2.2.2.2.2.2.mono bA.size)).mono hbel.size)
      have HBX2 := Lib.hid (bxD.past hS.2.2.2.2.2.2.2.2)
      have HKH := Lib.hid HK
      clear hS SX RD HK
      go_wp2
      go_ret
      exact ⟨ret_b (by rw [HDC.out, HS.out]; rw [show seenOneB (headRevT x) (prevOf x.seen j) s = false by unfold seenOneB; rw [h1, h2]; simp]; rfl), HKH.out⟩
     cases h3 : inB s.rev 1 (headRevT x)
     ·go_wp2
      generalize wr.alloc (.cells #[.int .i64 s.client, .int .i64 s.seq, .int .i64 s.rev] 95) = W1 at bA bxS bxD ⊢
      have y0 : W1.cell? ⟨wr.heap.size, 0, none⟩ = some (.int .i64 s.client) := bxS.cell rfl
      have y1 : W1.cell? ⟨wr.heap.size, 1, none⟩ = some (.int .i64 s.seq) := bxS.cell rfl
      have y2 : W1.cell? ⟨wr.heap.size, 2, none⟩ = some (.int .i64 s.rev) := bxS.cell rfl
      have y3 : W1.cell? ⟨w.heap.size, 0, none⟩ = some (.string x.name) := bxD.cell rfl
      have y4 : W1.cell? ⟨w.heap.size, 1, none⟩ = some (.int .i64 x.from_) := bxD.cell rfl
      have y5 : W1.cell? ⟨w.heap.size, 2, none⟩ = some (.slice A2 x.text.length c2) := bxD.cell rfl
      have y6 : W1.cell? ⟨w.heap.size, 3, none⟩ = some (.slice A3 x.list.length c3) := bxD.cell rfl
      have y7 : W1.cell? ⟨w.heap.size, 4, none⟩ = some (.slice (some ⟨b, off, none⟩) x.seen.length c4) := bxD.cell rfl
      have lS := bxS.lt
      have lD := bxD.lt
      have SX := Lib.hid (show ∀ (W W' : World), (W.cell? ⟨wr.heap.size, 0, none⟩ = some (.int .i64 s.client) ∧ W.cell? ⟨wr.heap.size, 1, none⟩ = some (.int .i64 s.seq) ∧ W.cell? ⟨wr.heap.size, 2, none⟩ = some (.int .i64 s.rev) ∧ W.cell? ⟨w.heap.size, 0, none⟩ = some (.string x.name) ∧ W.cell? ⟨w.heap.size, 1, none⟩ = some (.int .i64 x.from_) ∧ W.cell? ⟨w.heap.size, 2, none⟩ = some (.slice A2 x.text.length c2) ∧ W.cell? ⟨w.heap.size, 3, none⟩ = some (.slice A3 x.list.length c3) ∧ W.cell? ⟨w.heap.size, 4, none⟩ = some (.slice (some ⟨b, off, none⟩) x.seen.length c4) ∧ KS W1 W) → Below W.heap.size W W' → (W'.cell? ⟨wr.heap.size, 0, none⟩ = some (.int .i64 s.client) ∧ W'.cell? ⟨wr.heap.size, 1, none⟩ = some (.int .i64 s.seq) ∧ W'.cell? ⟨wr.heap.size, 2, none⟩ = some (.int .i64 s.rev) ∧ W'.cell? ⟨w.heap.size, 0, none⟩ = some (.string x.name) ∧ W'.cell? ⟨w.heap.size, 1, none⟩ = some (.int .i64 x.from_) ∧ W'.cell? ⟨w.heap.size, 2, none⟩ = some (.slice A2 x.text.length c2) ∧ W'.cell? ⟨w.heap.size, 3, none⟩ = some (.slice A3 x.list.length c3) ∧ W'.cell? ⟨w.heap.size, 4, none⟩ = some (.slice (some ⟨b, off, none⟩) x.seen.length c4) ∧ KS W1 W') from fun W W' h hb => by have hk := h.2.2.2.2.2.2.2.2; have hkk : KS W1 W' := hk.trans (hb.mono hk.size); exact ⟨(hkk.cell (p := ⟨wr.heap.size, 0, none⟩) lS).trans y0, (hkk.cell (p := ⟨wr.heap.size, 1, none⟩) lS).trans y1, (hkk.cell (p := ⟨wr.heap.size, 2, none⟩) lS).trans y2, (hkk.cell (p := ⟨w.heap.size, 0, none⟩) lD).trans y3, (hkk.cell (p := ⟨w.heap.size, 1, none⟩) lD).trans y4, (hkk.cell (p := ⟨w.heap.size, 2, none⟩) lD).trans y5, (hkk.cell (p := ⟨w.heap.size, 3, none⟩) lD).trans y6, (hkk.cell (p := ⟨w.heap.size, 4, none⟩) lD).trans y7, hkk⟩)
      have RD := Lib.hid (show ∀ W : World, (W.cell? ⟨wr.heap.size, 0, none⟩ = some (.int .i64 s.client) ∧ W.cell? ⟨wr.heap.size, 1, none⟩ = some (.int .i64 s.seq) ∧ W.cell? ⟨wr.heap.size, 2, none⟩ = some (.int .i64 s.rev) ∧ W.cell? ⟨w.heap.size, 0, none⟩ = some (.string x.name) ∧ W.cell? ⟨w.heap.size, 1, none⟩ = some (.int .i64 x.from_) ∧ W.cell? ⟨w.heap.size, 2, none⟩ = some (.slice A2 x.text.length c2) ∧ W.cell? ⟨w.heap.size, 3, none⟩ = some (.slice A3 x.list.length c3) ∧ W.cell? ⟨w.heap.size, 4, none⟩ = some (.slice (some ⟨b, off, none⟩) x.seen.length c4) ∧ KS W1 W) → RdC W W.heap.size (datDo x) (.agg #[.string x.name, .int .i64 x.from_, .slice A2 x.text.length c2, .slice A3 x.list.length c3, .slice (some ⟨b, off, none⟩) x.seen.length c4]) from fun W h => by have hk : Below W1.heap.size W1 W := h.2.2.2.2.2.2.2.2; exact (HR.out.past (hbel.trans (bA.mono hbel.size))).past hk)
      have hS0 : W1.drew.cell? ⟨wr.heap.size, 0, none⟩ = some (.int .i64 s.client) ∧ W1.drew.cell? ⟨wr.heap.size, 1, none⟩ = some (.int .i64 s.seq) ∧ W1.drew.cell? ⟨wr.heap.size, 2, none⟩ = some (.int .i64 s.rev) ∧ W1.drew.cell? ⟨w.heap.size, 0, none⟩ = some (.string x.name) ∧ W1.drew.cell? ⟨w.heap.size, 1, none⟩ = some (.int .i64 x.from_) ∧ W1.drew.cell? ⟨w.heap.size, 2, none⟩ = some (.slice A2 x.text.length c2) ∧ W1.drew.cell? ⟨w.heap.size, 3, none⟩ = some (.slice A3 x.list.length c3) ∧ W1.drew.cell? ⟨w.heap.size, 4, none⟩ = some (.slice (some ⟨b, off, none⟩) x.seen.length c4) ∧ KS W1 W1.drew := ⟨y0, y1, y2, y3, y4, y5, y6, y7, KS.start _⟩
      clear y0 y1 y2 y3 y4 y5 y6 y7
      refine wp_region_held_drew (S := fun W => W.cell? ⟨wr.heap.size, 0, none⟩ = some (.int .i64 s.client) ∧ W.cell? ⟨wr.heap.size, 1, none⟩ = some (.int .i64 s.seq) ∧ W.cell? ⟨wr.heap.size, 2, none⟩ = some (.int .i64 s.rev) ∧ W.cell? ⟨w.heap.size, 0, none⟩ = some (.string x.name) ∧ W.cell? ⟨w.heap.size, 1, none⟩ = some (.int .i64 x.from_) ∧ W.cell? ⟨w.heap.size, 2, none⟩ = some (.slice A2 x.text.length c2) ∧ W.cell? ⟨w.heap.size, 3, none⟩ = some (.slice A3 x.list.length c3) ∧ W.cell? ⟨w.heap.size, 4, none⟩ = some (.slice (some ⟨b, off, none⟩) x.seen.length c4) ∧ KS W1 W) (by kernel_rfl) hS0 (fun hS => ?_)
      clear hS0
      refine tk (v := .pointer (some ⟨wr.heap.size, 0, none⟩)) 0 70 rfl (fun w' hS' => ?_) hS ?_
      ·(try dsimp only at hS'); go_simp
      try simp only [Act.put, pa, pb, pc]
      refine tk (v := .int .i64 s.client) 1 71 rfl (fun w' hS' => ?_) hS ?_
      ·(try dsimp only at hS'); go_simp
      try simp only [Act.put, pa, pb, pc]
      refine r1 2 (some 72) rfl (fun K hK => ?_)
      go_simp
      refine (in_any _ _ _ _).mono ?_
      rw [h1]
      rintro e w2 ⟨rfl, rfl⟩
      refine hK.out _ _ hS (fun hS => ?_)
      clear hK K
      try simp only [Act.put, pa, pb, pc]
      refine tk (v := .bool false) 3 73 rfl (fun w' hS' => ?_) hS ?_
      ·(try dsimp only at hS'); go_simp
      try simp only [Act.put, pa, pb, pc]
      refine tk (v := .bool false) 4 74 rfl (fun w' hS' => ?_) hS ?_
      ·(try dsimp only at hS'); go_simp
      try simp only [Act.put, pa, pb, pc]
      refine tk (v := .pointer (some ⟨wr.heap.size, 1, none⟩)) 5 75 rfl (fun w' hS' => ?_) hS ?_
      ·(try dsimp only at hS'); go_simp
      try simp only [Act.put, pa, pb, pc]
      refine tk (v := .int .i64 s.seq) 6 76 rfl (fun w' hS' => ?_) hS ?_
      ·(try dsimp only at hS'); go_simp
      try simp only [Act.put, pa, pb, pc]
      refine r1 7 (some 77) rfl (fun K hK => ?_)
      go_simp
      refine (in_any _ _ _ _).mono ?_
      rw [h2]
      rintro e w2 ⟨rfl, rfl⟩
      refine hK.out _ _ hS (fun hS => ?_)
      clear hK K
      try simp only [Act.put, pa, pb, pc]
      refine tk (v := .bool false) 8 78 rfl (fun w' hS' => ?_) hS ?_
      ·(try dsimp only at hS'); go_simp
      try simp only [Act.put, pa, pb, pc]
      refine tk (v := .bool false) 9 79 rfl (fun w' hS' => ?_) hS ?_
      ·(try dsimp only at hS'); go_simp
      try simp only [Act.put, pa, pb, pc]
      refine tk (v := .bool false) 10 80 rfl (fun w' hS' => ?_) hS ?_
      ·(try dsimp only at hS'); go_simp
      try simp only [Act.put, pa, pb, pc]
      refine tk (v := .pointer (some ⟨wr.heap.size, 2, none⟩)) 11 81 rfl (fun w' hS' => ?_) hS ?_
      ·(try dsimp only at hS'); go_simp
      try simp only [Act.put, pa, pb, pc]
      refine tk (v := .int .i64 s.rev) 12 82 rfl (fun w' hS' => ?_) hS ?_
      ·(try dsimp only at hS'); go_simp
      try simp only [Act.put, pa, pb, pc]
      refine tk (v := .agg #[.string x.name, .int .i64 x.from_, .slice A2 x.text.length c2, .slice A3 x.list.length c3, .slice (some ⟨b, off, none⟩) x.seen.length c4]) 13 83 rfl (fun w' hS' => ?_) hS ?_
      ·(try dsimp only at hS'); go_simp
      try simp only [Act.put, pa, pb, pc]
      refine r1 14 (some 84) rfl (fun K hK => ?_)
      go_simp
      refine (specHeadRev_w _ x _ (RD.out _ hS)).mono ?_
      rintro e w2 ⟨rfl, b2⟩
      refine hK.out _ _ (SX.out _ _ hS b2) (fun hS => ?_)
      clear hK K
      try simp only [Act.put, pa, pb, pc]
      refine r1 15 (some 85) rfl (fun K hK => ?_)
      go_simp
      refine (in_any _ _ _ _).mono ?_
      rw [h3]
      rintro e w2 ⟨rfl, rfl⟩
      refine hK.out _ _ hS (fun hS => ?_)
      clear hK K
      try simp only [Act.put, pa, pb, pc]
      refine tk (v := .bool true) 16 86 rfl (fun w' hS' => ?_) hS ?_
      ·(try dsimp only at hS'); go_simp
      try simp only [Act.put, pa, pb, pc]
      refine tk (v := .bool true) 17 87 rfl (fun w' hS' => ?_) hS ?_
      ·(try dsimp only at hS'); go_simp
      try simp only [Act.put, pa, pb, pc]
      refine tk (v := .bool true) 18 88 rfl (fun w' hS' => ?_) hS ?_
      ·(try dsimp only at hS'); go_simp
      try simp only [Act.put, pa, pb, pc]
      refine tu 19 89 rfl hS ?_
      try simp only [Act.put, pa, pb, pc]
      refine tu 20 90 rfl hS ?_
      try simp only [Act.put, pa, pb, pc]
      refine tu 21 91 rfl hS ?_
      try simp only [Act.put, pa, pb, pc]
      refine tu 22 92 rfl hS ?_
      try simp only [Act.put, pa, pb, pc]
      refine tu 23 93 rfl hS ?_
      try simp only [Act.put, pa, pb, pc]
      refine tu 24 94 rfl hS ?_
      try simp only [Act.put, pa, pb, pc]
      refine tu 25 95 rfl hS ?_
      try simp only [Act.put, pa, pb, pc]
      refine tu 26 96 rfl hS ?_
      try simp only [Act.put, pa, pb, pc]
      refine tu 27 97 rfl hS ?_
      try simp only [Act.put, pa, pb, pc]
      refine tu 28 98 rfl hS ?_
      try simp only [Act.put, pa, pb, pc]
      refine tu 29 99 rfl hS ?_
      try simp only [Act.put, pa, pb, pc]
      refine tu 30 100 rfl hS ?_
      try simp only [Act.put, pa, pb, pc]
      refine tu 31 101 rfl hS ?_
      try simp only [Act.put, pa, pb, pc]
      refine tu 32 102 rfl hS ?_
      try simp only [Act.put, pa, pb, pc]
      refine tk (v := .bool true) 33 103 rfl (fun w' hS' => ?_) hS ?_
      ·(try dsimp only at hS'); go_simp
      try simp only [Act.put, pa, pb, pc]
      refine wpAnyH_done (by kernel_rfl) ?_ _
      have HK : Below w.heap.size w _ := hbel.trans ((bA.trans (hS.2.2.2.2.2.2.2.2.mono bA.size)).mono hbel.size)
      have HBX2 := Lib.hid (bxD.past hS.2.2.2.2.2.2.2.2)
      have HKH := Lib.hid HK
      clear hS SX RD HK
      go_wp2
      go_ret
      exact ⟨ret_b (by rw [HDC.out, HS.out]; rw [show seenOneB (headRevT x) (prevOf x.seen j) s = false by unfold seenOneB; rw [h1, h2, h3]; simp]; rfl), HKH.out⟩
     cases j with
     | zero =>
      have HN := Lib.hid (show docB x = seenAllB (headRevT x) (prevOf x.seen (0 + 1)) (x.seen.drop (0 + 1)) by rw [HDC.out, HS.out, show seenOneB (headRevT x) (prevOf x.seen 0) s = true by unfold seenOneB prevOf; rw [h1, h2, h3]; rfl]; rfl)
      rw [Nat.zero_mul, Nat.add_zero] at z0
      rw [Nat.zero_mul, Nat.add_zero] at z1
      rw [Nat.zero_mul, Nat.add_zero] at z2
      go_wp2
      generalize wr.alloc (.cells #[.int .i64 s.client, .int .i64 s.seq, .int .i64 s.rev] 95) = W1 at bA bxS bxD ⊢
      have y0 : W1.cell? ⟨wr.heap.size, 0, none⟩ = some (.int .i64 s.client) := bxS.cell rfl
      have y1 : W1.cell? ⟨wr.heap.size, 1, none⟩ = some (.int .i64 s.seq) := bxS.cell rfl
      have y2 : W1.cell? ⟨wr.heap.size, 2, none⟩ = some (.int .i64 s.rev) := bxS.cell rfl
      have y3 : W1.cell? ⟨w.heap.size, 0, none⟩ = some (.string x.name) := bxD.cell rfl
      have y4 : W1.cell? ⟨w.heap.size, 1, none⟩ = some (.int .i64 x.from_) := bxD.cell rfl
      have y5 : W1.cell? ⟨w.heap.size, 2, none⟩ = some (.slice A2 x.text.length c2) := bxD.cell rfl
      have y6 : W1.cell? ⟨w.heap.size, 3, none⟩ = some (.slice A3 x.list.length c3) := bxD.cell rfl
      have y7 : W1.cell? ⟨w.heap.size, 4, none⟩ = some (.slice (some ⟨b, off, none⟩) x.seen.length c4) := bxD.cell rfl
      have lS := bxS.lt
      have lD := bxD.lt
      have SX := Lib.hid (show ∀ (W W' : World), (W.cell? ⟨wr.heap.size, 0, none⟩ = some (.int .i64 s.client) ∧ W.cell? ⟨wr.heap.size, 1, none⟩ = some (.int .i64 s.seq) ∧ W.cell? ⟨wr.heap.size, 2, none⟩ = some (.int .i64 s.rev) ∧ W.cell? ⟨w.heap.size, 0, none⟩ = some (.string x.name) ∧ W.cell? ⟨w.heap.size, 1, none⟩ = some (.int .i64 x.from_) ∧ W.cell? ⟨w.heap.size, 2, none⟩ = some (.slice A2 x.text.length c2) ∧ W.cell? ⟨w.heap.size, 3, none⟩ = some (.slice A3 x.list.length c3) ∧ W.cell? ⟨w.heap.size, 4, none⟩ = some (.slice (some ⟨b, off, none⟩) x.seen.length c4) ∧ KS W1 W) → Below W.heap.size W W' → (W'.cell? ⟨wr.heap.size, 0, none⟩ = some (.int .i64 s.client) ∧ W'.cell? ⟨wr.heap.size, 1, none⟩ = some (.int .i64 s.seq) ∧ W'.cell? ⟨wr.heap.size, 2, none⟩ = some (.int .i64 s.rev) ∧ W'.cell? ⟨w.heap.size, 0, none⟩ = some (.string x.name) ∧ W'.cell? ⟨w.heap.size, 1, none⟩ = some (.int .i64 x.from_) ∧ W'.cell? ⟨w.heap.size, 2, none⟩ = some (.slice A2 x.text.length c2) ∧ W'.cell? ⟨w.heap.size, 3, none⟩ = some (.slice A3 x.list.length c3) ∧ W'.cell? ⟨w.heap.size, 4, none⟩ = some (.slice (some ⟨b, off, none⟩) x.seen.length c4) ∧ KS W1 W') from fun W W' h hb => by have hk := h.2.2.2.2.2.2.2.2; have hkk : KS W1 W' := hk.trans (hb.mono hk.size); exact ⟨(hkk.cell (p := ⟨wr.heap.size, 0, none⟩) lS).trans y0, (hkk.cell (p := ⟨wr.heap.size, 1, none⟩) lS).trans y1, (hkk.cell (p := ⟨wr.heap.size, 2, none⟩) lS).trans y2, (hkk.cell (p := ⟨w.heap.size, 0, none⟩) lD).trans y3, (hkk.cell (p := ⟨w.heap.size, 1, none⟩) lD).trans y4, (hkk.cell (p := ⟨w.heap.size, 2, none⟩) lD).trans y5, (hkk.cell (p := ⟨w.heap.size, 3, none⟩) lD).trans y6, (hkk.cell (p := ⟨w.heap.size, 4, none⟩) lD).trans y7, hkk⟩)
      have RD := Lib.hid (show ∀ W : World, (W.cell? ⟨wr.heap.size, 0, none⟩ = some (.int .i64 s.client) ∧ W.cell? ⟨wr.heap.size, 1, none⟩ = some (.int .i64 s.seq) ∧ W.cell? ⟨wr.heap.size, 2, none⟩ = some (.int .i64 s.rev) ∧ W.cell? ⟨w.heap.size, 0, none⟩ = some (.string x.name) ∧ W.cell? ⟨w.heap.size, 1, none⟩ = some (.int .i64 x.from_) ∧ W.cell? ⟨w.heap.size, 2, none⟩ = some (.slice A2 x.text.length c2) ∧ W.cell? ⟨w.heap.size, 3, none⟩ = some (.slice A3 x.list.length c3) ∧ W.cell? ⟨w.heap.size, 4, none⟩ = some (.slice (some ⟨b, off, none⟩) x.seen.length c4) ∧ KS W1 W) → RdC W W.heap.size (datDo x) (.agg #[.string x.name, .int .i64 x.from_, .slice A2 x.text.length c2, .slice A3 x.list.length c3, .slice (some ⟨b, off, none⟩) x.seen.length c4]) from fun W h => by have hk : Below W1.heap.size W1 W := h.2.2.2.2.2.2.2.2; exact (HR.out.past (hbel.trans (bA.mono hbel.size))).past hk)
      have hS0 : W1.drew.cell? ⟨wr.heap.size, 0, none⟩ = some (.int .i64 s.client) ∧ W1.drew.cell? ⟨wr.heap.size, 1, none⟩ = some (.int .i64 s.seq) ∧ W1.drew.cell? ⟨wr.heap.size, 2, none⟩ = some (.int .i64 s.rev) ∧ W1.drew.cell? ⟨w.heap.size, 0, none⟩ = some (.string x.name) ∧ W1.drew.cell? ⟨w.heap.size, 1, none⟩ = some (.int .i64 x.from_) ∧ W1.drew.cell? ⟨w.heap.size, 2, none⟩ = some (.slice A2 x.text.length c2) ∧ W1.drew.cell? ⟨w.heap.size, 3, none⟩ = some (.slice A3 x.list.length c3) ∧ W1.drew.cell? ⟨w.heap.size, 4, none⟩ = some (.slice (some ⟨b, off, none⟩) x.seen.length c4) ∧ KS W1 W1.drew := ⟨y0, y1, y2, y3, y4, y5, y6, y7, KS.start _⟩
      clear y0 y1 y2 y3 y4 y5 y6 y7
      refine wp_region_held_drew (S := fun W => W.cell? ⟨wr.heap.size, 0, none⟩ = some (.int .i64 s.client) ∧ W.cell? ⟨wr.heap.size, 1, none⟩ = some (.int .i64 s.seq) ∧ W.cell? ⟨wr.heap.size, 2, none⟩ = some (.int .i64 s.rev) ∧ W.cell? ⟨w.heap.size, 0, none⟩ = some (.string x.name) ∧ W.cell? ⟨w.heap.size, 1, none⟩ = some (.int .i64 x.from_) ∧ W.cell? ⟨w.heap.size, 2, none⟩ = some (.slice A2 x.text.length c2) ∧ W.cell? ⟨w.heap.size, 3, none⟩ = some (.slice A3 x.list.length c3) ∧ W.cell? ⟨w.heap.size, 4, none⟩ = some (.slice (some ⟨b, off, none⟩) x.seen.length c4) ∧ KS W1 W) (by kernel_rfl) hS0 (fun hS => ?_)
      clear hS0
      refine tk (v := .pointer (some ⟨wr.heap.size, 0, none⟩)) 0 70 rfl (fun w' hS' => ?_) hS ?_
      ·(try dsimp only at hS'); go_simp
      try simp only [Act.put, pa, pb, pc]
      refine tk (v := .int .i64 s.client) 1 71 rfl (fun w' hS' => ?_) hS ?_
      ·(try dsimp only at hS'); go_simp
      try simp only [Act.put, pa, pb, pc]
      refine r1 2 (some 72) rfl (fun K hK => ?_)
      go_simp
      refine (in_any _ _ _ _).mono ?_
      rw [h1]
      rintro e w2 ⟨rfl, rfl⟩
      refine hK.out _ _ hS (fun hS => ?_)
      clear hK K
      try simp only [Act.put, pa, pb, pc]
      refine tk (v := .bool false) 3 73 rfl (fun w' hS' => ?_) hS ?_
      ·(try dsimp only at hS'); go_simp
      try simp only [Act.put, pa, pb, pc]
      refine tk (v := .bool false) 4 74 rfl (fun w' hS' => ?_) hS ?_
      ·(try dsimp only at hS'); go_simp
      try simp only [Act.put, pa, pb, pc]
      refine tk (v := .pointer (some ⟨wr.heap.size, 1, none⟩)) 5 75 rfl (fun w' hS' => ?_) hS ?_
      ·(try dsimp only at hS'); go_simp
      try simp only [Act.put, pa, pb, pc]
      refine tk (v := .int .i64 s.seq) 6 76 rfl (fun w' hS' => ?_) hS ?_
      ·(try dsimp only at hS'); go_simp
      try simp only [Act.put, pa, pb, pc]
      refine r1 7 (some 77) rfl (fun K hK => ?_)
      go_simp
      refine (in_any _ _ _ _).mono ?_
      rw [h2]
      rintro e w2 ⟨rfl, rfl⟩
      refine hK.out _ _ hS (fun hS => ?_)
      clear hK K
      try simp only [Act.put, pa, pb, pc]
      refine tk (v := .bool false) 8 78 rfl (fun w' hS' => ?_) hS ?_
      ·(try dsimp only at hS'); go_simp
      try simp only [Act.put, pa, pb, pc]
      refine tk (v := .bool false) 9 79 rfl (fun w' hS' => ?_) hS ?_
      ·(try dsimp only at hS'); go_simp
      try simp only [Act.put, pa, pb, pc]
      refine tk (v := .bool false) 10 80 rfl (fun w' hS' => ?_) hS ?_
      ·(try dsimp only at hS'); go_simp
      try simp only [Act.put, pa, pb, pc]
      refine tk (v := .pointer (some ⟨wr.heap.size, 2, none⟩)) 11 81 rfl (fun w' hS' => ?_) hS ?_
      ·(try dsimp only at hS'); go_simp
      try simp only [Act.put, pa, pb, pc]
      refine tk (v := .int .i64 s.rev) 12 82 rfl (fun w' hS' => ?_) hS ?_
      ·(try dsimp only at hS'); go_simp
      try simp only [Act.put, pa, pb, pc]
      refine tk (v := .agg #[.string x.name, .int .i64 x.from_, .slice A2 x.text.length c2, .slice A3 x.list.length c3, .slice (some ⟨b, off, none⟩) x.seen.length c4]) 13 83 rfl (fun w' hS' => ?_) hS ?_
      ·(try dsimp only at hS'); go_simp
      try simp only [Act.put, pa, pb, pc]
      refine r1 14 (some 84) rfl (fun K hK => ?_)
      go_simp
      refine (specHeadRev_w _ x _ (RD.out _ hS)).mono ?_
      rintro e w2 ⟨rfl, b2⟩
      refine hK.out _ _ (SX.out _ _ hS b2) (fun hS => ?_)
      clear hK K
      try simp only [Act.put, pa, pb, pc]
      refine r1 15 (some 85) rfl (fun K hK => ?_)
      go_simp
      refine (in_any _ _ _ _).mono ?_
      rw [h3]
      rintro e w2 ⟨rfl, rfl⟩
      refine hK.out _ _ hS (fun hS => ?_)
      clear hK K
      try simp only [Act.put, pa, pb, pc]
      refine tk (v := .bool false) 16 86 rfl (fun w' hS' => ?_) hS ?_
      ·(try dsimp only at hS'); go_simp
      try simp only [Act.put, pa, pb, pc]
      refine tk (v := .bool false) 17 87 rfl (fun w' hS' => ?_) hS ?_
      ·(try dsimp only at hS'); go_simp
      try simp only [Act.put, pa, pb, pc]
      refine tk (v := .bool false) 18 88 rfl (fun w' hS' => ?_) hS ?_
      ·(try dsimp only at hS'); go_simp
      try simp only [Act.put, pa, pb, pc]
      refine tk (v := .int .i64 (0 : Int)) 19 89 rfl (fun w' hS' => ?_) hS ?_
      ·(try dsimp only at hS'); go_simp
      try simp only [Act.put, pa, pb, pc]
      refine tk (v := .bool false) 20 90 rfl (fun w' hS' => ?_) hS ?_
      ·(try dsimp only at hS'); go_simp
      try simp only [Act.put, pa, pb, pc]
      refine tk (v := .bool false) 21 91 rfl (fun w' hS' => ?_) hS ?_
      ·(try dsimp only at hS'); go_simp
      try simp only [Act.put, pa, pb, pc]
      refine tu 22 92 rfl hS ?_
      try simp only [Act.put, pa, pb, pc]
      refine tu 23 93 rfl hS ?_
      try simp only [Act.put, pa, pb, pc]
      refine tu 24 94 rfl hS ?_
      try simp only [Act.put, pa, pb, pc]
      refine tu 25 95 rfl hS ?_
      try simp only [Act.put, pa, pb, pc]
      refine tu 26 96 rfl hS ?_
      try simp only [Act.put, pa, pb, pc]
      refine tu 27 97 rfl hS ?_
      try simp only [Act.put, pa, pb, pc]
      refine tu 28 98 rfl hS ?_
      try simp only [Act.put, pa, pb, pc]
      refine tu 29 99 rfl hS ?_
      try simp only [Act.put, pa, pb, pc]
      refine tu 30 100 rfl hS ?_
      try simp only [Act.put, pa, pb, pc]
      refine tu 31 101 rfl hS ?_
      try simp only [Act.put, pa, pb, pc]
      refine tk (v := .bool false) 32 102 rfl (fun w' hS' => ?_) hS ?_
      ·(try dsimp only at hS'); go_simp
      try simp only [Act.put, pa, pb, pc]
      refine tk (v := .bool false) 33 103 rfl (fun w' hS' => ?_) hS ?_
      ·(try dsimp only at hS'); go_simp
      try simp only [Act.put, pa, pb, pc]
      refine wpAnyH_done (by kernel_rfl) ?_ _
      have HK : Below w.heap.size w _ := hbel.trans ((bA.trans (hS.2.2.2.2.2.2.2.2.mono bA.size)).mono hbel.size)
      have HBX2 := Lib.hid (bxD.past hS.2.2.2.2.2.2.2.2)
      have HKH := Lib.hid HK
      clear hS SX RD HK
      go_wp2
      go_roundw
      case rel => exact ⟨0 + 1, by omega, by go_num, HN.out, HBX2.out, HKH.out⟩
      case measure => simp [intOf]; omega
     | succ k =>
      obtain ⟨p, hpk⟩ : ∃ p, x.seen[k]? = some p := ⟨_, List.getElem?_eq_getElem (by omega)⟩
      obtain ⟨b', off', p', e1, _, hp', zp, _, _⟩ := atSes (r4.below hbel) (i := k) (by omega)
      obtain ⟨rfl, rfl⟩ : b = b' ∧ off = off' := by injection e1 with e1; injection e1 with e1 e2; exact ⟨e1, e2⟩
      obtain rfl : p = p' := by rw [hpk] at hp'; injection hp'
      have HPV := Lib.hid (show prevOf x.seen (k + 1) = some p.client by rw [prevOf, hpk]; rfl)
      clear e1 hp' hpk
      have gw2 : IntKind.i64.wrap (k : Int) = (k : Int) := IntWalk.i64_in _ (by omega)
      have gw3 : (0 : Int) ≤ (k : Int) := by omega
      have gw4 : (k : Int) < (x.seen.length : Int) := by omega
      have gj2 : decide ((0 : Int) < (k : Int) + 1) = true := decide_eq_true (by omega)
      by_cases hpc : s.client ≤ p.client
      ·have gp : decide (s.client ≤ p.client) = true := decide_eq_true hpc
       go_wp2
       generalize wr.alloc (.cells #[.int .i64 s.client, .int .i64 s.seq, .int .i64 s.rev] 95) = W1 at bA bxS bxD ⊢
       have y0 : W1.cell? ⟨wr.heap.size, 0, none⟩ = some (.int .i64 s.client) := bxS.cell rfl
       have y1 : W1.cell? ⟨wr.heap.size, 1, none⟩ = some (.int .i64 s.seq) := bxS.cell rfl
       have y2 : W1.cell? ⟨wr.heap.size, 2, none⟩ = some (.int .i64 s.rev) := bxS.cell rfl
       have y3 : W1.cell? ⟨w.heap.size, 0, none⟩ = some (.string x.name) := bxD.cell rfl
       have y4 : W1.cell? ⟨w.heap.size, 1, none⟩ = some (.int .i64 x.from_) := bxD.cell rfl
       have y5 : W1.cell? ⟨w.heap.size, 2, none⟩ = some (.slice A2 x.text.length c2) := bxD.cell rfl
       have y6 : W1.cell? ⟨w.heap.size, 3, none⟩ = some (.slice A3 x.list.length c3) := bxD.cell rfl
       have y7 : W1.cell? ⟨w.heap.size, 4, none⟩ = some (.slice (some ⟨b, off, none⟩) x.seen.length c4) := bxD.cell rfl
       have y8 : W1.cell? ⟨b, off + k * 3, none⟩ = some (.int .i64 p.client) := (bA.cell (p := ⟨b, off + k * 3, none⟩) hbq).trans zp
       have lS := bxS.lt
       have lD := bxD.lt
       have lP : b < W1.heap.size := Nat.lt_of_lt_of_le hbq bA.size
       have SX := Lib.hid (show ∀ (W W' : World), (W.cell? ⟨wr.heap.size, 0, none⟩ = some (.int .i64 s.client) ∧ W.cell? ⟨wr.heap.size, 1, none⟩ = some (.int .i64 s.seq) ∧ W.cell? ⟨wr.heap.size, 2, none⟩ = some (.int .i64 s.rev) ∧ W.cell? ⟨w.heap.size, 0, none⟩ = some (.string x.name) ∧ W.cell? ⟨w.heap.size, 1, none⟩ = some (.int .i64 x.from_) ∧ W.cell? ⟨w.heap.size, 2, none⟩ = some (.slice A2 x.text.length c2) ∧ W.cell? ⟨w.heap.size, 3, none⟩ = some (.slice A3 x.list.length c3) ∧ W.cell? ⟨w.heap.size, 4, none⟩ = some (.slice (some ⟨b, off, none⟩) x.seen.length c4) ∧ W.cell? ⟨b, off + k * 3, none⟩ = some (.int .i64 p.client) ∧ KS W1 W) → Below W.heap.size W W' → (W'.cell? ⟨wr.heap.size, 0, none⟩ = some (.int .i64 s.client) ∧ W'.cell? ⟨wr.heap.size, 1, none⟩ = some (.int .i64 s.seq) ∧ W'.cell? ⟨wr.heap.size, 2, none⟩ = some (.int .i64 s.rev) ∧ W'.cell? ⟨w.heap.size, 0, none⟩ = some (.string x.name) ∧ W'.cell? ⟨w.heap.size, 1, none⟩ = some (.int .i64 x.from_) ∧ W'.cell? ⟨w.heap.size, 2, none⟩ = some (.slice A2 x.text.length c2) ∧ W'.cell? ⟨w.heap.size, 3, none⟩ = some (.slice A3 x.list.length c3) ∧ W'.cell? ⟨w.heap.size, 4, none⟩ = some (.slice (some ⟨b, off, none⟩) x.seen.length c4) ∧ W'.cell? ⟨b, off + k * 3, none⟩ = some (.int .i64 p.client) ∧ KS W1 W') from fun W W' h hb => by have hk := h.2.2.2.2.2.2.2.2.2; have hkk : KS W1 W' := hk.trans (hb.mono hk.size); exact ⟨(hkk.cell (p := ⟨wr.heap.size, 0, none⟩) lS).trans y0, (hkk.cell (p := ⟨wr.heap.size, 1, none⟩) lS).trans y1, (hkk.cell (p := ⟨wr.heap.size, 2, none⟩) lS).trans y2, (hkk.cell (p := ⟨w.heap.size, 0, none⟩) lD).trans y3, (hkk.cell (p := ⟨w.heap.size, 1, none⟩) lD).trans y4, (hkk.cell (p := ⟨w.heap.size, 2, none⟩) lD).trans y5, (hkk.cell (p := ⟨w.heap.size, 3, none⟩) lD).trans y6, (hkk.cell (p := ⟨w.heap.size, 4, none⟩) lD).trans y7, (hkk.cell (p := ⟨b, off + k * 3, none⟩) lP).trans y8, hkk⟩)
       have RD := Lib.hid (show ∀ W : World, (W.cell? ⟨wr.heap.size, 0, none⟩ = some (.int .i64 s.client) ∧ W.cell? ⟨wr.heap.size, 1, none⟩ = some (.int .i64 s.seq) ∧ W.cell? ⟨wr.heap.size, 2, none⟩ = some (.int .i64 s.rev) ∧ W.cell? ⟨w.heap.size, 0, none⟩ = some (.string x.name) ∧ W.cell? ⟨w.heap.size, 1, none⟩ = some (.int .i64 x.from_) ∧ W.cell? ⟨w.heap.size, 2, none⟩ = some (.slice A2 x.text.length c2) ∧ W.cell? ⟨w.heap.size, 3, none⟩ = some (.slice A3 x.list.length c3) ∧ W.cell? ⟨w.heap.size, 4, none⟩ = some (.slice (some ⟨b, off, none⟩) x.seen.length c4) ∧ W.cell? ⟨b, off + k * 3, none⟩ = some (.int .i64 p.client) ∧ KS W1 W) → RdC W W.heap.size (datDo x) (.agg #[.string x.name, .int .i64 x.from_, .slice A2 x.text.length c2, .slice A3 x.list.length c3, .slice (some ⟨b, off, none⟩) x.seen.length c4]) from fun W h => by have hk : Below W1.heap.size W1 W := h.2.2.2.2.2.2.2.2.2; exact (HR.out.past (hbel.trans (bA.mono hbel.size))).past hk)
       have hS0 : W1.drew.cell? ⟨wr.heap.size, 0, none⟩ = some (.int .i64 s.client) ∧ W1.drew.cell? ⟨wr.heap.size, 1, none⟩ = some (.int .i64 s.seq) ∧ W1.drew.cell? ⟨wr.heap.size, 2, none⟩ = some (.int .i64 s.rev) ∧ W1.drew.cell? ⟨w.heap.size, 0, none⟩ = some (.string x.name) ∧ W1.drew.cell? ⟨w.heap.size, 1, none⟩ = some (.int .i64 x.from_) ∧ W1.drew.cell? ⟨w.heap.size, 2, none⟩ = some (.slice A2 x.text.length c2) ∧ W1.drew.cell? ⟨w.heap.size, 3, none⟩ = some (.slice A3 x.list.length c3) ∧ W1.drew.cell? ⟨w.heap.size, 4, none⟩ = some (.slice (some ⟨b, off, none⟩) x.seen.length c4) ∧ W1.drew.cell? ⟨b, off + k * 3, none⟩ = some (.int .i64 p.client) ∧ KS W1 W1.drew := ⟨y0, y1, y2, y3, y4, y5, y6, y7, y8, KS.start _⟩
       clear y0 y1 y2 y3 y4 y5 y6 y7 y8
       refine wp_region_held_drew (S := fun W => W.cell? ⟨wr.heap.size, 0, none⟩ = some (.int .i64 s.client) ∧ W.cell? ⟨wr.heap.size, 1, none⟩ = some (.int .i64 s.seq) ∧ W.cell? ⟨wr.heap.size, 2, none⟩ = some (.int .i64 s.rev) ∧ W.cell? ⟨w.heap.size, 0, none⟩ = some (.string x.name) ∧ W.cell? ⟨w.heap.size, 1, none⟩ = some (.int .i64 x.from_) ∧ W.cell? ⟨w.heap.size, 2, none⟩ = some (.slice A2 x.text.length c2) ∧ W.cell? ⟨w.heap.size, 3, none⟩ = some (.slice A3 x.list.length c3) ∧ W.cell? ⟨w.heap.size, 4, none⟩ = some (.slice (some ⟨b, off, none⟩) x.seen.length c4) ∧ W.cell? ⟨b, off + k * 3, none⟩ = some (.int .i64 p.client) ∧ KS W1 W) (by kernel_rfl) hS0 (fun hS => ?_)
       clear hS0
       refine tk (v := .pointer (some ⟨wr.heap.size, 0, none⟩)) 0 70 rfl (fun w' hS' => ?_) hS ?_
       ·(try dsimp only at hS'); go_simp
       try simp only [Act.put, pa, pb, pc]
       refine tk (v := .int .i64 s.client) 1 71 rfl (fun w' hS' => ?_) hS ?_
       ·(try dsimp only at hS'); go_simp
       try simp only [Act.put, pa, pb, pc]
       refine r1 2 (some 72) rfl (fun K hK => ?_)
       go_simp
       refine (in_any _ _ _ _).mono ?_
       rw [h1]
       rintro e w2 ⟨rfl, rfl⟩
       refine hK.out _ _ hS (fun hS => ?_)
       clear hK K
       try simp only [Act.put, pa, pb, pc]
       refine tk (v := .bool false) 3 73 rfl (fun w' hS' => ?_) hS ?_
       ·(try dsimp only at hS'); go_simp
       try simp only [Act.put, pa, pb, pc]
       refine tk (v := .bool false) 4 74 rfl (fun w' hS' => ?_) hS ?_
       ·(try dsimp only at hS'); go_simp
       try simp only [Act.put, pa, pb, pc]
       refine tk (v := .pointer (some ⟨wr.heap.size, 1, none⟩)) 5 75 rfl (fun w' hS' => ?_) hS ?_
       ·(try dsimp only at hS'); go_simp
       try simp only [Act.put, pa, pb, pc]
       refine tk (v := .int .i64 s.seq) 6 76 rfl (fun w' hS' => ?_) hS ?_
       ·(try dsimp only at hS'); go_simp
       try simp only [Act.put, pa, pb, pc]
       refine r1 7 (some 77) rfl (fun K hK => ?_)
       go_simp
       refine (in_any _ _ _ _).mono ?_
       rw [h2]
       rintro e w2 ⟨rfl, rfl⟩
       refine hK.out _ _ hS (fun hS => ?_)
       clear hK K
       try simp only [Act.put, pa, pb, pc]
       refine tk (v := .bool false) 8 78 rfl (fun w' hS' => ?_) hS ?_
       ·(try dsimp only at hS'); go_simp
       try simp only [Act.put, pa, pb, pc]
       refine tk (v := .bool false) 9 79 rfl (fun w' hS' => ?_) hS ?_
       ·(try dsimp only at hS'); go_simp
       try simp only [Act.put, pa, pb, pc]
       refine tk (v := .bool false) 10 80 rfl (fun w' hS' => ?_) hS ?_
       ·(try dsimp only at hS'); go_simp
       try simp only [Act.put, pa, pb, pc]
       refine tk (v := .pointer (some ⟨wr.heap.size, 2, none⟩)) 11 81 rfl (fun w' hS' => ?_) hS ?_
       ·(try dsimp only at hS'); go_simp
       try simp only [Act.put, pa, pb, pc]
       refine tk (v := .int .i64 s.rev) 12 82 rfl (fun w' hS' => ?_) hS ?_
       ·(try dsimp only at hS'); go_simp
       try simp only [Act.put, pa, pb, pc]
       refine tk (v := .agg #[.string x.name, .int .i64 x.from_, .slice A2 x.text.length c2, .slice A3 x.list.length c3, .slice (some ⟨b, off, none⟩) x.seen.length c4]) 13 83 rfl (fun w' hS' => ?_) hS ?_
       ·(try dsimp only at hS'); go_simp
       try simp only [Act.put, pa, pb, pc]
       refine r1 14 (some 84) rfl (fun K hK => ?_)
       go_simp
       refine (specHeadRev_w _ x _ (RD.out _ hS)).mono ?_
       rintro e w2 ⟨rfl, b2⟩
       refine hK.out _ _ (SX.out _ _ hS b2) (fun hS => ?_)
       clear hK K
       try simp only [Act.put, pa, pb, pc]
       refine r1 15 (some 85) rfl (fun K hK => ?_)
       go_simp
       refine (in_any _ _ _ _).mono ?_
       rw [h3]
       rintro e w2 ⟨rfl, rfl⟩
       refine hK.out _ _ hS (fun hS => ?_)
       clear hK K
       try simp only [Act.put, pa, pb, pc]
       refine tk (v := .bool false) 16 86 rfl (fun w' hS' => ?_) hS ?_
       ·(try dsimp only at hS'); go_simp
       try simp only [Act.put, pa, pb, pc]
       refine tk (v := .bool false) 17 87 rfl (fun w' hS' => ?_) hS ?_
       ·(try dsimp only at hS'); go_simp
       try simp only [Act.put, pa, pb, pc]
       refine tk (v := .bool false) 18 88 rfl (fun w' hS' => ?_) hS ?_
       ·(try dsimp only at hS'); go_simp
       try simp only [Act.put, pa, pb, pc]
       refine tk (v := .int .i64 ((k : Int) + 1)) 19 89 rfl (fun w' hS' => ?_) hS ?_
       ·(try dsimp only at hS'); go_simp
       try simp only [Act.put, pa, pb, pc]
       refine tk (v := .bool true) 20 90 rfl (fun w' hS' => ?_) hS ?_
       ·(try dsimp only at hS'); go_simp
       try simp only [Act.put, pa, pb, pc]
       refine tk (v := .bool true) 21 91 rfl (fun w' hS' => ?_) hS ?_
       ·(try dsimp only at hS'); go_simp
       try simp only [Act.put, pa, pb, pc]
       refine tk (v := .pointer (some ⟨w.heap.size, 4, none⟩)) 22 92 rfl (fun w' hS' => ?_) hS ?_
       ·(try dsimp only at hS'); go_simp
       try simp only [Act.put, pa, pb, pc]
       refine tk (v := .slice (some ⟨b, off, none⟩) x.seen.length c4) 23 93 rfl (fun w' hS' => ?_) hS ?_
       ·(try dsimp only at hS'); go_simp
       try simp only [Act.put, pa, pb, pc]
       refine tk (v := .int .i64 ((k : Int) + 1)) 24 94 rfl (fun w' hS' => ?_) hS ?_
       ·(try dsimp only at hS'); go_simp
       try simp only [Act.put, pa, pb, pc]
       refine tk (v := .int .i64 (k : Int)) 25 95 rfl (fun w' hS' => ?_) hS ?_
       ·(try dsimp only at hS'); go_simp
       try simp only [Act.put, pa, pb, pc]
       refine tk (v := .pointer (some ⟨b, off + k * 3, none⟩)) 26 96 rfl (fun w' hS' => ?_) hS ?_
       ·(try dsimp only at hS'); go_simp
       try simp only [Act.put, pa, pb, pc]
       refine tk (v := .pointer (some ⟨b, off + k * 3, none⟩)) 27 97 rfl (fun w' hS' => ?_) hS ?_
       ·(try dsimp only at hS'); go_simp
       try simp only [Act.put, pa, pb, pc]
       refine tk (v := .int .i64 p.client) 28 98 rfl (fun w' hS' => ?_) hS ?_
       ·(try dsimp only at hS'); go_simp
       try simp only [Act.put, pa, pb, pc]
       refine tk (v := .pointer (some ⟨wr.heap.size, 0, none⟩)) 29 99 rfl (fun w' hS' => ?_) hS ?_
       ·(try dsimp only at hS'); go_simp
       try simp only [Act.put, pa, pb, pc]
       refine tk (v := .int .i64 s.client) 30 100 rfl (fun w' hS' => ?_) hS ?_
       ·(try dsimp only at hS'); go_simp
       try simp only [Act.put, pa, pb, pc]
       refine tk (v := .bool true) 31 101 rfl (fun w' hS' => ?_) hS ?_
       ·(try dsimp only at hS'); go_simp
       try simp only [Act.put, pa, pb, pc]
       refine tk (v := .bool true) 32 102 rfl (fun w' hS' => ?_) hS ?_
       ·(try dsimp only at hS'); go_simp
       try simp only [Act.put, pa, pb, pc]
       refine tk (v := .bool true) 33 103 rfl (fun w' hS' => ?_) hS ?_
       ·(try dsimp only at hS'); go_simp
       try simp only [Act.put, pa, pb, pc]
       refine wpAnyH_done (by kernel_rfl) ?_ _
       have HK : Below w.heap.size w _ := hbel.trans ((bA.trans (hS.2.2.2.2.2.2.2.2.2.mono bA.size)).mono hbel.size)
       have HBX2 := Lib.hid (bxD.past hS.2.2.2.2.2.2.2.2.2)
       have HKH := Lib.hid HK
       clear hS SX RD HK
       go_wp2
       go_ret
       exact ⟨ret_b (by rw [HDC.out, HS.out]; rw [show seenOneB (headRevT x) (prevOf x.seen (k + 1)) s = false by unfold seenOneB; rw [h1, h2, h3, HPV.out]; simp; omega]; rfl), HKH.out⟩
      ·have gp : decide (s.client ≤ p.client) = false := decide_eq_false hpc
       have HN := Lib.hid (show docB x = seenAllB (headRevT x) (prevOf x.seen (k + 1 + 1)) (x.seen.drop (k + 1 + 1)) by rw [HDC.out, HS.out, show seenOneB (headRevT x) (prevOf x.seen (k + 1)) s = true by unfold seenOneB; rw [h1, h2, h3, HPV.out]; simp; omega]; rfl)
       go_wp2
       generalize wr.alloc (.cells #[.int .i64 s.client, .int .i64 s.seq, .int .i64 s.rev] 95) = W1 at bA bxS bxD ⊢
       have y0 : W1.cell? ⟨wr.heap.size, 0, none⟩ = some (.int .i64 s.client) := bxS.cell rfl
       have y1 : W1.cell? ⟨wr.heap.size, 1, none⟩ = some (.int .i64 s.seq) := bxS.cell rfl
       have y2 : W1.cell? ⟨wr.heap.size, 2, none⟩ = some (.int .i64 s.rev) := bxS.cell rfl
       have y3 : W1.cell? ⟨w.heap.size, 0, none⟩ = some (.string x.name) := bxD.cell rfl
       have y4 : W1.cell? ⟨w.heap.size, 1, none⟩ = some (.int .i64 x.from_) := bxD.cell rfl
       have y5 : W1.cell? ⟨w.heap.size, 2, none⟩ = some (.slice A2 x.text.length c2) := bxD.cell rfl
       have y6 : W1.cell? ⟨w.heap.size, 3, none⟩ = some (.slice A3 x.list.length c3) := bxD.cell rfl
       have y7 : W1.cell? ⟨w.heap.size, 4, none⟩ = some (.slice (some ⟨b, off, none⟩) x.seen.length c4) := bxD.cell rfl
       have y8 : W1.cell? ⟨b, off + k * 3, none⟩ = some (.int .i64 p.client) := (bA.cell (p := ⟨b, off + k * 3, none⟩) hbq).trans zp
       have lS := bxS.lt
       have lD := bxD.lt
       have lP : b < W1.heap.size := Nat.lt_of_lt_of_le hbq bA.size
       have SX := Lib.hid (show ∀ (W W' : World), (W.cell? ⟨wr.heap.size, 0, none⟩ = some (.int .i64 s.client) ∧ W.cell? ⟨wr.heap.size, 1, none⟩ = some (.int .i64 s.seq) ∧ W.cell? ⟨wr.heap.size, 2, none⟩ = some (.int .i64 s.rev) ∧ W.cell? ⟨w.heap.size, 0, none⟩ = some (.string x.name) ∧ W.cell? ⟨w.heap.size, 1, none⟩ = some (.int .i64 x.from_) ∧ W.cell? ⟨w.heap.size, 2, none⟩ = some (.slice A2 x.text.length c2) ∧ W.cell? ⟨w.heap.size, 3, none⟩ = some (.slice A3 x.list.length c3) ∧ W.cell? ⟨w.heap.size, 4, none⟩ = some (.slice (some ⟨b, off, none⟩) x.seen.length c4) ∧ W.cell? ⟨b, off + k * 3, none⟩ = some (.int .i64 p.client) ∧ KS W1 W) → Below W.heap.size W W' → (W'.cell? ⟨wr.heap.size, 0, none⟩ = some (.int .i64 s.client) ∧ W'.cell? ⟨wr.heap.size, 1, none⟩ = some (.int .i64 s.seq) ∧ W'.cell? ⟨wr.heap.size, 2, none⟩ = some (.int .i64 s.rev) ∧ W'.cell? ⟨w.heap.size, 0, none⟩ = some (.string x.name) ∧ W'.cell? ⟨w.heap.size, 1, none⟩ = some (.int .i64 x.from_) ∧ W'.cell? ⟨w.heap.size, 2, none⟩ = some (.slice A2 x.text.length c2) ∧ W'.cell? ⟨w.heap.size, 3, none⟩ = some (.slice A3 x.list.length c3) ∧ W'.cell? ⟨w.heap.size, 4, none⟩ = some (.slice (some ⟨b, off, none⟩) x.seen.length c4) ∧ W'.cell? ⟨b, off + k * 3, none⟩ = some (.int .i64 p.client) ∧ KS W1 W') from fun W W' h hb => by have hk := h.2.2.2.2.2.2.2.2.2; have hkk : KS W1 W' := hk.trans (hb.mono hk.size); exact ⟨(hkk.cell (p := ⟨wr.heap.size, 0, none⟩) lS).trans y0, (hkk.cell (p := ⟨wr.heap.size, 1, none⟩) lS).trans y1, (hkk.cell (p := ⟨wr.heap.size, 2, none⟩) lS).trans y2, (hkk.cell (p := ⟨w.heap.size, 0, none⟩) lD).trans y3, (hkk.cell (p := ⟨w.heap.size, 1, none⟩) lD).trans y4, (hkk.cell (p := ⟨w.heap.size, 2, none⟩) lD).trans y5, (hkk.cell (p := ⟨w.heap.size, 3, none⟩) lD).trans y6, (hkk.cell (p := ⟨w.heap.size, 4, none⟩) lD).trans y7, (hkk.cell (p := ⟨b, off + k * 3, none⟩) lP).trans y8, hkk⟩)
       have RD := Lib.hid (show ∀ W : World, (W.cell? ⟨wr.heap.size, 0, none⟩ = some (.int .i64 s.client) ∧ W.cell? ⟨wr.heap.size, 1, none⟩ = some (.int .i64 s.seq) ∧ W.cell? ⟨wr.heap.size, 2, none⟩ = some (.int .i64 s.rev) ∧ W.cell? ⟨w.heap.size, 0, none⟩ = some (.string x.name) ∧ W.cell? ⟨w.heap.size, 1, none⟩ = some (.int .i64 x.from_) ∧ W.cell? ⟨w.heap.size, 2, none⟩ = some (.slice A2 x.text.length c2) ∧ W.cell? ⟨w.heap.size, 3, none⟩ = some (.slice A3 x.list.length c3) ∧ W.cell? ⟨w.heap.size, 4, none⟩ = some (.slice (some ⟨b, off, none⟩) x.seen.length c4) ∧ W.cell? ⟨b, off + k * 3, none⟩ = some (.int .i64 p.client) ∧ KS W1 W) → RdC W W.heap.size (datDo x) (.agg #[.string x.name, .int .i64 x.from_, .slice A2 x.text.length c2, .slice A3 x.list.length c3, .slice (some ⟨b, off, none⟩) x.seen.length c4]) from fun W h => by have hk : Below W1.heap.size W1 W := h.2.2.2.2.2.2.2.2.2; exact (HR.out.past (hbel.trans (bA.mono hbel.size))).past hk)
       have hS0 : W1.drew.cell? ⟨wr.heap.size, 0, none⟩ = some (.int .i64 s.client) ∧ W1.drew.cell? ⟨wr.heap.size, 1, none⟩ = some (.int .i64 s.seq) ∧ W1.drew.cell? ⟨wr.heap.size, 2, none⟩ = some (.int .i64 s.rev) ∧ W1.drew.cell? ⟨w.heap.size, 0, none⟩ = some (.string x.name) ∧ W1.drew.cell? ⟨w.heap.size, 1, none⟩ = some (.int .i64 x.from_) ∧ W1.drew.cell? ⟨w.heap.size, 2, none⟩ = some (.slice A2 x.text.length c2) ∧ W1.drew.cell? ⟨w.heap.size, 3, none⟩ = some (.slice A3 x.list.length c3) ∧ W1.drew.cell? ⟨w.heap.size, 4, none⟩ = some (.slice (some ⟨b, off, none⟩) x.seen.length c4) ∧ W1.drew.cell? ⟨b, off + k * 3, none⟩ = some (.int .i64 p.client) ∧ KS W1 W1.drew := ⟨y0, y1, y2, y3, y4, y5, y6, y7, y8, KS.start _⟩
       clear y0 y1 y2 y3 y4 y5 y6 y7 y8
       refine wp_region_held_drew (S := fun W => W.cell? ⟨wr.heap.size, 0, none⟩ = some (.int .i64 s.client) ∧ W.cell? ⟨wr.heap.size, 1, none⟩ = some (.int .i64 s.seq) ∧ W.cell? ⟨wr.heap.size, 2, none⟩ = some (.int .i64 s.rev) ∧ W.cell? ⟨w.heap.size, 0, none⟩ = some (.string x.name) ∧ W.cell? ⟨w.heap.size, 1, none⟩ = some (.int .i64 x.from_) ∧ W.cell? ⟨w.heap.size, 2, none⟩ = some (.slice A2 x.text.length c2) ∧ W.cell? ⟨w.heap.size, 3, none⟩ = some (.slice A3 x.list.length c3) ∧ W.cell? ⟨w.heap.size, 4, none⟩ = some (.slice (some ⟨b, off, none⟩) x.seen.length c4) ∧ W.cell? ⟨b, off + k * 3, none⟩ = some (.int .i64 p.client) ∧ KS W1 W) (by kernel_rfl) hS0 (fun hS => ?_)
       clear hS0
       refine tk (v := .pointer (some ⟨wr.heap.size, 0, none⟩)) 0 70 rfl (fun w' hS' => ?_) hS ?_
       ·(try dsimp only at hS'); go_simp
       try simp only [Act.put, pa, pb, pc]
       refine tk (v := .int .i64 s.client) 1 71 rfl (fun w' hS' => ?_) hS ?_
       ·(try dsimp only at hS'); go_simp
       try simp only [Act.put, pa, pb, pc]
       refine r1 2 (some 72) rfl (fun K hK => ?_)
       go_simp
       refine (in_any _ _ _ _).mono ?_
       rw [h1]
       rintro e w2 ⟨rfl, rfl⟩
       refine hK.out _ _ hS (fun hS => ?_)
       clear hK K
       try simp only [Act.put, pa, pb, pc]
       refine tk (v := .bool false) 3 73 rfl (fun w' hS' => ?_) hS ?_
       ·(try dsimp only at hS'); go_simp
       try simp only [Act.put, pa, pb, pc]
       refine tk (v := .bool false) 4 74 rfl (fun w' hS' => ?_) hS ?_
       ·(try dsimp only at hS'); go_simp
       try simp only [Act.put, pa, pb, pc]
       refine tk (v := .pointer (some ⟨wr.heap.size, 1, none⟩)) 5 75 rfl (fun w' hS' => ?_) hS ?_
       ·(try dsimp only at hS'); go_simp
       try simp only [Act.put, pa, pb, pc]
       refine tk (v := .int .i64 s.seq) 6 76 rfl (fun w' hS' => ?_) hS ?_
       ·(try dsimp only at hS'); go_simp
       try simp only [Act.put, pa, pb, pc]
       refine r1 7 (some 77) rfl (fun K hK => ?_)
       go_simp
       refine (in_any _ _ _ _).mono ?_
       rw [h2]
       rintro e w2 ⟨rfl, rfl⟩
       refine hK.out _ _ hS (fun hS => ?_)
       clear hK K
       try simp only [Act.put, pa, pb, pc]
       refine tk (v := .bool false) 8 78 rfl (fun w' hS' => ?_) hS ?_
       ·(try dsimp only at hS'); go_simp
       try simp only [Act.put, pa, pb, pc]
       refine tk (v := .bool false) 9 79 rfl (fun w' hS' => ?_) hS ?_
       ·(try dsimp only at hS'); go_simp
       try simp only [Act.put, pa, pb, pc]
       refine tk (v := .bool false) 10 80 rfl (fun w' hS' => ?_) hS ?_
       ·(try dsimp only at hS'); go_simp
       try simp only [Act.put, pa, pb, pc]
       refine tk (v := .pointer (some ⟨wr.heap.size, 2, none⟩)) 11 81 rfl (fun w' hS' => ?_) hS ?_
       ·(try dsimp only at hS'); go_simp
       try simp only [Act.put, pa, pb, pc]
       refine tk (v := .int .i64 s.rev) 12 82 rfl (fun w' hS' => ?_) hS ?_
       ·(try dsimp only at hS'); go_simp
       try simp only [Act.put, pa, pb, pc]
       refine tk (v := .agg #[.string x.name, .int .i64 x.from_, .slice A2 x.text.length c2, .slice A3 x.list.length c3, .slice (some ⟨b, off, none⟩) x.seen.length c4]) 13 83 rfl (fun w' hS' => ?_) hS ?_
       ·(try dsimp only at hS'); go_simp
       try simp only [Act.put, pa, pb, pc]
       refine r1 14 (some 84) rfl (fun K hK => ?_)
       go_simp
       refine (specHeadRev_w _ x _ (RD.out _ hS)).mono ?_
       rintro e w2 ⟨rfl, b2⟩
       refine hK.out _ _ (SX.out _ _ hS b2) (fun hS => ?_)
       clear hK K
       try simp only [Act.put, pa, pb, pc]
       refine r1 15 (some 85) rfl (fun K hK => ?_)
       go_simp
       refine (in_any _ _ _ _).mono ?_
       rw [h3]
       rintro e w2 ⟨rfl, rfl⟩
       refine hK.out _ _ hS (fun hS => ?_)
       clear hK K
       try simp only [Act.put, pa, pb, pc]
       refine tk (v := .bool false) 16 86 rfl (fun w' hS' => ?_) hS ?_
       ·(try dsimp only at hS'); go_simp
       try simp only [Act.put, pa, pb, pc]
       refine tk (v := .bool false) 17 87 rfl (fun w' hS' => ?_) hS ?_
       ·(try dsimp only at hS'); go_simp
       try simp only [Act.put, pa, pb, pc]
       refine tk (v := .bool false) 18 88 rfl (fun w' hS' => ?_) hS ?_
       ·(try dsimp only at hS'); go_simp
       try simp only [Act.put, pa, pb, pc]
       refine tk (v := .int .i64 ((k : Int) + 1)) 19 89 rfl (fun w' hS' => ?_) hS ?_
       ·(try dsimp only at hS'); go_simp
       try simp only [Act.put, pa, pb, pc]
       refine tk (v := .bool true) 20 90 rfl (fun w' hS' => ?_) hS ?_
       ·(try dsimp only at hS'); go_simp
       try simp only [Act.put, pa, pb, pc]
       refine tk (v := .bool true) 21 91 rfl (fun w' hS' => ?_) hS ?_
       ·(try dsimp only at hS'); go_simp
       try simp only [Act.put, pa, pb, pc]
       refine tk (v := .pointer (some ⟨w.heap.size, 4, none⟩)) 22 92 rfl (fun w' hS' => ?_) hS ?_
       ·(try dsimp only at hS'); go_simp
       try simp only [Act.put, pa, pb, pc]
       refine tk (v := .slice (some ⟨b, off, none⟩) x.seen.length c4) 23 93 rfl (fun w' hS' => ?_) hS ?_
       ·(try dsimp only at hS'); go_simp
       try simp only [Act.put, pa, pb, pc]
       refine tk (v := .int .i64 ((k : Int) + 1)) 24 94 rfl (fun w' hS' => ?_) hS ?_
       ·(try dsimp only at hS'); go_simp
       try simp only [Act.put, pa, pb, pc]
       refine tk (v := .int .i64 (k : Int)) 25 95 rfl (fun w' hS' => ?_) hS ?_
       ·(try dsimp only at hS'); go_simp
       try simp only [Act.put, pa, pb, pc]
       refine tk (v := .pointer (some ⟨b, off + k * 3, none⟩)) 26 96 rfl (fun w' hS' => ?_) hS ?_
       ·(try dsimp only at hS'); go_simp
       try simp only [Act.put, pa, pb, pc]
       refine tk (v := .pointer (some ⟨b, off + k * 3, none⟩)) 27 97 rfl (fun w' hS' => ?_) hS ?_
       ·(try dsimp only at hS'); go_simp
       try simp only [Act.put, pa, pb, pc]
       refine tk (v := .int .i64 p.client) 28 98 rfl (fun w' hS' => ?_) hS ?_
       ·(try dsimp only at hS'); go_simp
       try simp only [Act.put, pa, pb, pc]
       refine tk (v := .pointer (some ⟨wr.heap.size, 0, none⟩)) 29 99 rfl (fun w' hS' => ?_) hS ?_
       ·(try dsimp only at hS'); go_simp
       try simp only [Act.put, pa, pb, pc]
       refine tk (v := .int .i64 s.client) 30 100 rfl (fun w' hS' => ?_) hS ?_
       ·(try dsimp only at hS'); go_simp
       try simp only [Act.put, pa, pb, pc]
       refine tk (v := .bool false) 31 101 rfl (fun w' hS' => ?_) hS ?_
       ·(try dsimp only at hS'); go_simp
       try simp only [Act.put, pa, pb, pc]
       refine tk (v := .bool false) 32 102 rfl (fun w' hS' => ?_) hS ?_
       ·(try dsimp only at hS'); go_simp
       try simp only [Act.put, pa, pb, pc]
       refine tk (v := .bool false) 33 103 rfl (fun w' hS' => ?_) hS ?_
       ·(try dsimp only at hS'); go_simp
       try simp only [Act.put, pa, pb, pc]
       refine wpAnyH_done (by kernel_rfl) ?_ _
       have HK : Below w.heap.size w _ := hbel.trans ((bA.trans (hS.2.2.2.2.2.2.2.2.2.mono bA.size)).mono hbel.size)
       have HBX2 := Lib.hid (bxD.past hS.2.2.2.2.2.2.2.2.2)
       have HKH := Lib.hid HK
       clear hS SX RD HK
       go_wp2
       go_roundw
       case rel => exact ⟨k + 1 + 1, by omega, by go_num, HN.out, HBX2.out, HKH.out⟩
       case measure => simp [intOf]; omega
     -- end2
    ·have HE := Lib.hid (show docB x = true by rw [HDC.out, List.drop_eq_nil_of_le (by omega)]; rfl)
     go_wp2
     go_ret
     exact ⟨ret_b HE.out.symm, hbel⟩
theorem specDocOk_d (v : Value) (x : Do) (w : World) (h : RdC w w.heap.size (datDo x) v) (hs : SmDo x) : Calls Tryz.prog 28 #[v] w (Tells (docB x) w) := specDocOk_w v x w h hs.four
def endT (l : List En) (t : List Int) : List Int := l.foldl (fun t e => applyT e.o t) t
theorem endT_snoc {l : List En} {j : Nat} {e : En} (h : l[j]? = some e) (t : List Int) : endT (l.take (j + 1)) t = applyT e.o (endT (l.take j) t) := by
 unfold endT
 rw [List.take_add_one, h]
 simp
def textAtB (x : Do) (r : Int) : Bool := docB x && inB r x.from_ (headRevT x)
def textAtT (x : Do) (r : Int) : List Int := if textAtB x r = true then endT (x.list.take (r - x.from_).toNat) x.text else []
theorem textAt_f {x : Do} {r : Int} (h : textAtB x r = false) : textAtB x r = false ∧ textAtT x r = [] := ⟨h, by unfold textAtT; rw [h]; rfl⟩
theorem docB_of {x : Do} (h : docB x = true) : 0 ≤ x.from_ ∧ x.from_ ≤ 999999000 ∧ x.list.length ≤ 8 ∧ headRevT x = x.from_ + (x.list.length : Int) := by
 unfold docB at h
 simp only [Bool.and_eq_true] at h
 have h1 := of_decide_eq_true h.1.1.1.1.2
 have h2 := of_decide_eq_true h.1.1.2
 refine ⟨h1.1, h1.2, h2, ?_⟩
 unfold headRevT
 exact IntWalk.wrap64_in _ (by omega)
theorem endT_small {l : List En} {t : List Int} (hl : ∀ e ∈ l, SmP e.o) (ht : SmI t) : SmI (endT l t) := by
 induction l generalizing t with
 | nil => exact ht
 | cons e l ih => exact ih (fun q hq => hl q (by simp [hq])) (apply_small (hl e (by simp)) ht)
theorem textAt_small {x : Do} {r : Int} (hs : SmDo x) : SmI (textAtT x r) := by
 unfold textAtT
 split
 ·exact endT_small (fun e he => (hs.list.at_ (List.mem_of_mem_take he)).o) hs.text
 ·unfold SmI; simp
theorem specTextAt_d (v : Value) (x : Do) (r : Int) (w : World) (h : RdC w w.heap.size (datDo x) v) (hs : SmDo x) : Calls Tryz.prog 31 #[v, .int .i64 r] w (ResB (encInts (textAtT x r)) (textAtB x r) w) := by
 have HR := Lib.hid h
 obtain ⟨A2, c2, A3, c3, A4, c4, rfl, r2, r3, r4⟩ := aggDo h
 have hl3 := hs.list.len
 have b0 := alloc_below w (.cells #[.string x.name, .int .i64 x.from_, .slice A2 x.text.length c2, .slice A3 x.list.length c3, .slice A4 x.seen.length c4] 36)
 have bx := Bx.new w #[.string x.name, .int .i64 x.from_, .slice A2 x.text.length c2, .slice A3 x.list.length c3, .slice A4 x.seen.length c4] 36
 cases hd : docB x
 ·have HN := Lib.hid (show textAtB x r = false ∧ textAtT x r = [] from textAt_f (by unfold textAtB; rw [hd]; rfl))
  go_enter Tryz.func31, Tryz.ntmps31
  go_wp2
  generalize w.alloc (.cells #[.string x.name, .int .i64 x.from_, .slice A2 x.text.length c2, .slice A3 x.list.length c3, .slice A4 x.seen.length c4] 36) = W1 at b0 bx ⊢
  have y0 : W1.cell? ⟨w.heap.size, 0, none⟩ = some (.string x.name) := bx.cell rfl
  have y1 : W1.cell? ⟨w.heap.size, 1, none⟩ = some (.int .i64 x.from_) := bx.cell rfl
  have y2 : W1.cell? ⟨w.heap.size, 2, none⟩ = some (.slice A2 x.text.length c2) := bx.cell rfl
  have y3 : W1.cell? ⟨w.heap.size, 3, none⟩ = some (.slice A3 x.list.length c3) := bx.cell rfl
  have y4 : W1.cell? ⟨w.heap.size, 4, none⟩ = some (.slice A4 x.seen.length c4) := bx.cell rfl
  have lD := bx.lt
  have SX := Lib.hid (show ∀ (W W' : World), (W.cell? ⟨w.heap.size, 0, none⟩ = some (.string x.name) ∧ W.cell? ⟨w.heap.size, 1, none⟩ = some (.int .i64 x.from_) ∧ W.cell? ⟨w.heap.size, 2, none⟩ = some (.slice A2 x.text.length c2) ∧ W.cell? ⟨w.heap.size, 3, none⟩ = some (.slice A3 x.list.length c3) ∧ W.cell? ⟨w.heap.size, 4, none⟩ = some (.slice A4 x.seen.length c4) ∧ KS W1 W) → Below W.heap.size W W' → (W'.cell? ⟨w.heap.size, 0, none⟩ = some (.string x.name) ∧ W'.cell? ⟨w.heap.size, 1, none⟩ = some (.int .i64 x.from_) ∧ W'.cell? ⟨w.heap.size, 2, none⟩ = some (.slice A2 x.text.length c2) ∧ W'.cell? ⟨w.heap.size, 3, none⟩ = some (.slice A3 x.list.length c3) ∧ W'.cell? ⟨w.heap.size, 4, none⟩ = some (.slice A4 x.seen.length c4) ∧ KS W1 W') from fun W W' h hb => by have hk := h.2.2.2.2.2; have hkk : KS W1 W' := hk.trans (hb.mono hk.size); exact ⟨(hkk.cell (p := ⟨w.heap.size, 0, none⟩) lD).trans y0, (hkk.cell (p := ⟨w.heap.size, 1, none⟩) lD).trans y1, (hkk.cell (p := ⟨w.heap.size, 2, none⟩) lD).trans y2, (hkk.cell (p := ⟨w.heap.size, 3, none⟩) lD).trans y3, (hkk.cell (p := ⟨w.heap.size, 4, none⟩) lD).trans y4, hkk⟩)
  have RD := Lib.hid (show ∀ W : World, (W.cell? ⟨w.heap.size, 0, none⟩ = some (.string x.name) ∧ W.cell? ⟨w.heap.size, 1, none⟩ = some (.int .i64 x.from_) ∧ W.cell? ⟨w.heap.size, 2, none⟩ = some (.slice A2 x.text.length c2) ∧ W.cell? ⟨w.heap.size, 3, none⟩ = some (.slice A3 x.list.length c3) ∧ W.cell? ⟨w.heap.size, 4, none⟩ = some (.slice A4 x.seen.length c4) ∧ KS W1 W) → RdC W W.heap.size (datDo x) (.agg #[.string x.name, .int .i64 x.from_, .slice A2 x.text.length c2, .slice A3 x.list.length c3, .slice A4 x.seen.length c4]) from fun W h => by have hk : Below W1.heap.size W1 W := h.2.2.2.2.2; exact (HR.out.past b0).past hk)
  have hS0 : W1.drew.cell? ⟨w.heap.size, 0, none⟩ = some (.string x.name) ∧ W1.drew.cell? ⟨w.heap.size, 1, none⟩ = some (.int .i64 x.from_) ∧ W1.drew.cell? ⟨w.heap.size, 2, none⟩ = some (.slice A2 x.text.length c2) ∧ W1.drew.cell? ⟨w.heap.size, 3, none⟩ = some (.slice A3 x.list.length c3) ∧ W1.drew.cell? ⟨w.heap.size, 4, none⟩ = some (.slice A4 x.seen.length c4) ∧ KS W1 W1.drew := ⟨y0, y1, y2, y3, y4, KS.start _⟩
  clear y0 y1 y2 y3 y4
  refine wp_region_held_drew (S := fun W => W.cell? ⟨w.heap.size, 0, none⟩ = some (.string x.name) ∧ W.cell? ⟨w.heap.size, 1, none⟩ = some (.int .i64 x.from_) ∧ W.cell? ⟨w.heap.size, 2, none⟩ = some (.slice A2 x.text.length c2) ∧ W.cell? ⟨w.heap.size, 3, none⟩ = some (.slice A3 x.list.length c3) ∧ W.cell? ⟨w.heap.size, 4, none⟩ = some (.slice A4 x.seen.length c4) ∧ KS W1 W) (by kernel_rfl) hS0 (fun hS => ?_)
  refine tk (v := .agg #[.string x.name, .int .i64 x.from_, .slice A2 x.text.length c2, .slice A3 x.list.length c3, .slice A4 x.seen.length c4]) 0 9 rfl (fun w' hS' => ?_) (by assumption) ?_
  ·(try dsimp only at hS'); go_simp
  try simp only [Act.put, pa, pb, pc]
  refine r1 1 (some 10) rfl (fun K hK => ?_)
  go_simp
  refine (specDocOk_d _ x _ (RD.out _ (by assumption)) hs).mono ?_
  rw [hd]
  rintro e w2 ⟨rfl, b2⟩
  refine hK.out _ _ (SX.out _ _ (by assumption) b2) (fun hS => ?_)
  clear hK K
  try simp only [Act.put, pa, pb, pc]
  refine tk (v := .bool true) 2 11 rfl (fun w' hS' => ?_) (by assumption) ?_
  ·(try dsimp only at hS'); go_simp
  try simp only [Act.put, pa, pb, pc]
  refine tk (v := .bool true) 3 12 rfl (fun w' hS' => ?_) (by assumption) ?_
  ·(try dsimp only at hS'); go_simp
  try simp only [Act.put, pa, pb, pc]
  refine tu 4 13 rfl (by assumption) ?_
  try simp only [Act.put, pa, pb, pc]
  refine tu 5 14 rfl (by assumption) ?_
  try simp only [Act.put, pa, pb, pc]
  refine tu 6 15 rfl (by assumption) ?_
  try simp only [Act.put, pa, pb, pc]
  refine tu 7 16 rfl (by assumption) ?_
  try simp only [Act.put, pa, pb, pc]
  refine tu 8 17 rfl (by assumption) ?_
  try simp only [Act.put, pa, pb, pc]
  refine tu 9 18 rfl (by assumption) ?_
  try simp only [Act.put, pa, pb, pc]
  refine tu 10 19 rfl (by assumption) ?_
  try simp only [Act.put, pa, pb, pc]
  refine tk (v := .bool true) 11 20 rfl (fun w' hS' => ?_) (by assumption) ?_
  ·(try dsimp only at hS'); go_simp
  try simp only [Act.put, pa, pb, pc]
  refine wpAnyH_done (by kernel_rfl) ?_ _
  have HK : Below w.heap.size w _ := b0.trans (hS.2.2.2.2.2.mono b0.size)
  have HKH := Lib.hid HK
  clear hS SX RD HK
  go_wp2
  go_ret2
  rw [HN.out.1, HN.out.2]
  exact ⟨_, rfl, nilOwn _ _ rfl HKH.out.size, HKH.out⟩
 cases hi : inB r x.from_ (headRevT x)
 ·have HN := Lib.hid (show textAtB x r = false ∧ textAtT x r = [] from textAt_f (by unfold textAtB; rw [hd, hi]; rfl))
  go_enter Tryz.func31, Tryz.ntmps31
  go_wp2
  generalize w.alloc (.cells #[.string x.name, .int .i64 x.from_, .slice A2 x.text.length c2, .slice A3 x.list.length c3, .slice A4 x.seen.length c4] 36) = W1 at b0 bx ⊢
  have y0 : W1.cell? ⟨w.heap.size, 0, none⟩ = some (.string x.name) := bx.cell rfl
  have y1 : W1.cell? ⟨w.heap.size, 1, none⟩ = some (.int .i64 x.from_) := bx.cell rfl
  have y2 : W1.cell? ⟨w.heap.size, 2, none⟩ = some (.slice A2 x.text.length c2) := bx.cell rfl
  have y3 : W1.cell? ⟨w.heap.size, 3, none⟩ = some (.slice A3 x.list.length c3) := bx.cell rfl
  have y4 : W1.cell? ⟨w.heap.size, 4, none⟩ = some (.slice A4 x.seen.length c4) := bx.cell rfl
  have lD := bx.lt
  have SX := Lib.hid (show ∀ (W W' : World), (W.cell? ⟨w.heap.size, 0, none⟩ = some (.string x.name) ∧ W.cell? ⟨w.heap.size, 1, none⟩ = some (.int .i64 x.from_) ∧ W.cell? ⟨w.heap.size, 2, none⟩ = some (.slice A2 x.text.length c2) ∧ W.cell? ⟨w.heap.size, 3, none⟩ = some (.slice A3 x.list.length c3) ∧ W.cell? ⟨w.heap.size, 4, none⟩ = some (.slice A4 x.seen.length c4) ∧ KS W1 W) → Below W.heap.size W W' → (W'.cell? ⟨w.heap.size, 0, none⟩ = some (.string x.name) ∧ W'.cell? ⟨w.heap.size, 1, none⟩ = some (.int .i64 x.from_) ∧ W'.cell? ⟨w.heap.size, 2, none⟩ = some (.slice A2 x.text.length c2) ∧ W'.cell? ⟨w.heap.size, 3, none⟩ = some (.slice A3 x.list.length c3) ∧ W'.cell? ⟨w.heap.size, 4, none⟩ = some (.slice A4 x.seen.length c4) ∧ KS W1 W') from fun W W' h hb => by have hk := h.2.2.2.2.2; have hkk : KS W1 W' := hk.trans (hb.mono hk.size); exact ⟨(hkk.cell (p := ⟨w.heap.size, 0, none⟩) lD).trans y0, (hkk.cell (p := ⟨w.heap.size, 1, none⟩) lD).trans y1, (hkk.cell (p := ⟨w.heap.size, 2, none⟩) lD).trans y2, (hkk.cell (p := ⟨w.heap.size, 3, none⟩) lD).trans y3, (hkk.cell (p := ⟨w.heap.size, 4, none⟩) lD).trans y4, hkk⟩)
  have RD := Lib.hid (show ∀ W : World, (W.cell? ⟨w.heap.size, 0, none⟩ = some (.string x.name) ∧ W.cell? ⟨w.heap.size, 1, none⟩ = some (.int .i64 x.from_) ∧ W.cell? ⟨w.heap.size, 2, none⟩ = some (.slice A2 x.text.length c2) ∧ W.cell? ⟨w.heap.size, 3, none⟩ = some (.slice A3 x.list.length c3) ∧ W.cell? ⟨w.heap.size, 4, none⟩ = some (.slice A4 x.seen.length c4) ∧ KS W1 W) → RdC W W.heap.size (datDo x) (.agg #[.string x.name, .int .i64 x.from_, .slice A2 x.text.length c2, .slice A3 x.list.length c3, .slice A4 x.seen.length c4]) from fun W h => by have hk : Below W1.heap.size W1 W := h.2.2.2.2.2; exact (HR.out.past b0).past hk)
  have hS0 : W1.drew.cell? ⟨w.heap.size, 0, none⟩ = some (.string x.name) ∧ W1.drew.cell? ⟨w.heap.size, 1, none⟩ = some (.int .i64 x.from_) ∧ W1.drew.cell? ⟨w.heap.size, 2, none⟩ = some (.slice A2 x.text.length c2) ∧ W1.drew.cell? ⟨w.heap.size, 3, none⟩ = some (.slice A3 x.list.length c3) ∧ W1.drew.cell? ⟨w.heap.size, 4, none⟩ = some (.slice A4 x.seen.length c4) ∧ KS W1 W1.drew := ⟨y0, y1, y2, y3, y4, KS.start _⟩
  clear y0 y1 y2 y3 y4
  refine wp_region_held_drew (S := fun W => W.cell? ⟨w.heap.size, 0, none⟩ = some (.string x.name) ∧ W.cell? ⟨w.heap.size, 1, none⟩ = some (.int .i64 x.from_) ∧ W.cell? ⟨w.heap.size, 2, none⟩ = some (.slice A2 x.text.length c2) ∧ W.cell? ⟨w.heap.size, 3, none⟩ = some (.slice A3 x.list.length c3) ∧ W.cell? ⟨w.heap.size, 4, none⟩ = some (.slice A4 x.seen.length c4) ∧ KS W1 W) (by kernel_rfl) hS0 (fun hS => ?_)
  refine tk (v := .agg #[.string x.name, .int .i64 x.from_, .slice A2 x.text.length c2, .slice A3 x.list.length c3, .slice A4 x.seen.length c4]) 0 9 rfl (fun w' hS' => ?_) (by assumption) ?_
  ·(try dsimp only at hS'); go_simp
  try simp only [Act.put, pa, pb, pc]
  refine r1 1 (some 10) rfl (fun K hK => ?_)
  go_simp
  refine (specDocOk_d _ x _ (RD.out _ (by assumption)) hs).mono ?_
  rw [hd]
  rintro e w2 ⟨rfl, b2⟩
  refine hK.out _ _ (SX.out _ _ (by assumption) b2) (fun hS => ?_)
  clear hK K
  try simp only [Act.put, pa, pb, pc]
  refine tk (v := .bool false) 2 11 rfl (fun w' hS' => ?_) (by assumption) ?_
  ·(try dsimp only at hS'); go_simp
  try simp only [Act.put, pa, pb, pc]
  refine tk (v := .bool false) 3 12 rfl (fun w' hS' => ?_) (by assumption) ?_
  ·(try dsimp only at hS'); go_simp
  try simp only [Act.put, pa, pb, pc]
  refine tk (v := .int .i64 r) 4 13 rfl (fun w' hS' => ?_) (by assumption) ?_
  ·(try dsimp only at hS'); go_simp
  try simp only [Act.put, pa, pb, pc]
  refine tk (v := .pointer (some ⟨w.heap.size, 1, none⟩)) 5 14 rfl (fun w' hS' => ?_) (by assumption) ?_
  ·(try dsimp only at hS'); go_simp
  try simp only [Act.put, pa, pb, pc]
  refine tk (v := .int .i64 x.from_) 6 15 rfl (fun w' hS' => ?_) (by assumption) ?_
  ·(try dsimp only at hS'); go_simp
  try simp only [Act.put, pa, pb, pc]
  refine tk (v := .agg #[.string x.name, .int .i64 x.from_, .slice A2 x.text.length c2, .slice A3 x.list.length c3, .slice A4 x.seen.length c4]) 7 16 rfl (fun w' hS' => ?_) (by assumption) ?_
  ·(try dsimp only at hS'); go_simp
  try simp only [Act.put, pa, pb, pc]
  refine r1 8 (some 17) rfl (fun K hK => ?_)
  go_simp
  refine (specHeadRev_d _ x _ (RD.out _ (by assumption)) hs).mono ?_
  rintro e w3 ⟨rfl, b3⟩
  refine hK.out _ _ (SX.out _ _ (by assumption) b3) (fun hS => ?_)
  clear hK K
  try simp only [Act.put, pa, pb, pc]
  refine r1 9 (some 18) rfl (fun K hK => ?_)
  go_simp
  refine (in_any _ _ _ _).mono ?_
  rw [hi]
  rintro e w4 ⟨rfl, rfl⟩
  refine hK.out _ _ (by assumption) (fun hS => ?_)
  clear hK K
  try simp only [Act.put, pa, pb, pc]
  refine tk (v := .bool true) 10 19 rfl (fun w' hS' => ?_) (by assumption) ?_
  ·(try dsimp only at hS'); go_simp
  try simp only [Act.put, pa, pb, pc]
  refine tk (v := .bool true) 11 20 rfl (fun w' hS' => ?_) (by assumption) ?_
  ·(try dsimp only at hS'); go_simp
  try simp only [Act.put, pa, pb, pc]
  refine wpAnyH_done (by kernel_rfl) ?_ _
  have HK : Below w.heap.size w _ := b0.trans (hS.2.2.2.2.2.mono b0.size)
  have HKH := Lib.hid HK
  clear hS SX RD HK
  go_wp2
  go_ret2
  rw [HN.out.1, HN.out.2]
  exact ⟨_, rfl, nilOwn _ _ rfl HKH.out.size, HKH.out⟩
 obtain ⟨f0, f1, f2, f3⟩ := docB_of hd
 have hi1 := of_decide_eq_true hi
 rw [f3] at hi1
 clear f3
 obtain ⟨m, hm⟩ : ∃ m : Nat, r = x.from_ + (m : Int) := ⟨(r - x.from_).toNat, by omega⟩
 subst hm
 have hm1 : m ≤ x.list.length := by omega
 have hc3 : x.list.length ≤ c3 := by obtain ⟨A, c, e, hc⟩ := RdC.len r3; injection e with _ _ e3; subst e3; simpa using hc
 have g1 : x.from_ + (m : Int) - x.from_ = (m : Int) := by omega
 have g2 : (m : Int) ≤ (c3 : Int) := by omega
 have HN := Lib.hid (show textAtB x (x.from_ + (m : Int)) = true ∧ textAtT x (x.from_ + (m : Int)) = endT (x.list.take m) x.text by have e1 : textAtB x (x.from_ + (m : Int)) = true := by { unfold textAtB; rw [hd, hi]; rfl }; exact ⟨e1, by unfold textAtT; rw [if_pos e1]; congr 2; omega⟩)
 go_enter Tryz.func31, Tryz.ntmps31
 go_wp2
 generalize w.alloc (.cells #[.string x.name, .int .i64 x.from_, .slice A2 x.text.length c2, .slice A3 x.list.length c3, .slice A4 x.seen.length c4] 36) = W1 at b0 bx ⊢
 have y0 : W1.cell? ⟨w.heap.size, 0, none⟩ = some (.string x.name) := bx.cell rfl
 have y1 : W1.cell? ⟨w.heap.size, 1, none⟩ = some (.int .i64 x.from_) := bx.cell rfl
 have y2 : W1.cell? ⟨w.heap.size, 2, none⟩ = some (.slice A2 x.text.length c2) := bx.cell rfl
 have y3 : W1.cell? ⟨w.heap.size, 3, none⟩ = some (.slice A3 x.list.length c3) := bx.cell rfl
 have y4 : W1.cell? ⟨w.heap.size, 4, none⟩ = some (.slice A4 x.seen.length c4) := bx.cell rfl
 have lD := bx.lt
 have SX := Lib.hid (show ∀ (W W' : World), (W.cell? ⟨w.heap.size, 0, none⟩ = some (.string x.name) ∧ W.cell? ⟨w.heap.size, 1, none⟩ = some (.int .i64 x.from_) ∧ W.cell? ⟨w.heap.size, 2, none⟩ = some (.slice A2 x.text.length c2) ∧ W.cell? ⟨w.heap.size, 3, none⟩ = some (.slice A3 x.list.length c3) ∧ W.cell? ⟨w.heap.size, 4, none⟩ = some (.slice A4 x.seen.length c4) ∧ KS W1 W) → Below W.heap.size W W' → (W'.cell? ⟨w.heap.size, 0, none⟩ = some (.string x.name) ∧ W'.cell? ⟨w.heap.size, 1, none⟩ = some (.int .i64 x.from_) ∧ W'.cell? ⟨w.heap.size, 2, none⟩ = some (.slice A2 x.text.length c2) ∧ W'.cell? ⟨w.heap.size, 3, none⟩ = some (.slice A3 x.list.length c3) ∧ W'.cell? ⟨w.heap.size, 4, none⟩ = some (.slice A4 x.seen.length c4) ∧ KS W1 W') from fun W W' h hb => by have hk := h.2.2.2.2.2; have hkk : KS W1 W' := hk.trans (hb.mono hk.size); exact ⟨(hkk.cell (p := ⟨w.heap.size, 0, none⟩) lD).trans y0, (hkk.cell (p := ⟨w.heap.size, 1, none⟩) lD).trans y1, (hkk.cell (p := ⟨w.heap.size, 2, none⟩) lD).trans y2, (hkk.cell (p := ⟨w.heap.size, 3, none⟩) lD).trans y3, (hkk.cell (p := ⟨w.heap.size, 4, none⟩) lD).trans y4, hkk⟩)
 have RD := Lib.hid (show ∀ W : World, (W.cell? ⟨w.heap.size, 0, none⟩ = some (.string x.name) ∧ W.cell? ⟨w.heap.size, 1, none⟩ = some (.int .i64 x.from_) ∧ W.cell? ⟨w.heap.size, 2, none⟩ = some (.slice A2 x.text.length c2) ∧ W.cell? ⟨w.heap.size, 3, none⟩ = some (.slice A3 x.list.length c3) ∧ W.cell? ⟨w.heap.size, 4, none⟩ = some (.slice A4 x.seen.length c4) ∧ KS W1 W) → RdC W W.heap.size (datDo x) (.agg #[.string x.name, .int .i64 x.from_, .slice A2 x.text.length c2, .slice A3 x.list.length c3, .slice A4 x.seen.length c4]) from fun W h => by have hk : Below W1.heap.size W1 W := h.2.2.2.2.2; exact (HR.out.past b0).past hk)
 have hS0 : W1.drew.cell? ⟨w.heap.size, 0, none⟩ = some (.string x.name) ∧ W1.drew.cell? ⟨w.heap.size, 1, none⟩ = some (.int .i64 x.from_) ∧ W1.drew.cell? ⟨w.heap.size, 2, none⟩ = some (.slice A2 x.text.length c2) ∧ W1.drew.cell? ⟨w.heap.size, 3, none⟩ = some (.slice A3 x.list.length c3) ∧ W1.drew.cell? ⟨w.heap.size, 4, none⟩ = some (.slice A4 x.seen.length c4) ∧ KS W1 W1.drew := ⟨y0, y1, y2, y3, y4, KS.start _⟩
 clear y0 y1 y2 y3 y4
 refine wp_region_held_drew (S := fun W => W.cell? ⟨w.heap.size, 0, none⟩ = some (.string x.name) ∧ W.cell? ⟨w.heap.size, 1, none⟩ = some (.int .i64 x.from_) ∧ W.cell? ⟨w.heap.size, 2, none⟩ = some (.slice A2 x.text.length c2) ∧ W.cell? ⟨w.heap.size, 3, none⟩ = some (.slice A3 x.list.length c3) ∧ W.cell? ⟨w.heap.size, 4, none⟩ = some (.slice A4 x.seen.length c4) ∧ KS W1 W) (by kernel_rfl) hS0 (fun hS => ?_)
 refine tk (v := .agg #[.string x.name, .int .i64 x.from_, .slice A2 x.text.length c2, .slice A3 x.list.length c3, .slice A4 x.seen.length c4]) 0 9 rfl (fun w' hS' => ?_) (by assumption) ?_
 ·(try dsimp only at hS'); go_simp
 try simp only [Act.put, pa, pb, pc]
 refine r1 1 (some 10) rfl (fun K hK => ?_)
 go_simp
 refine (specDocOk_d _ x _ (RD.out _ (by assumption)) hs).mono ?_
 rw [hd]
 rintro e w2 ⟨rfl, b2⟩
 refine hK.out _ _ (SX.out _ _ (by assumption) b2) (fun hS => ?_)
 clear hK K
 try simp only [Act.put, pa, pb, pc]
 refine tk (v := .bool false) 2 11 rfl (fun w' hS' => ?_) (by assumption) ?_
 ·(try dsimp only at hS'); go_simp
 try simp only [Act.put, pa, pb, pc]
 refine tk (v := .bool false) 3 12 rfl (fun w' hS' => ?_) (by assumption) ?_
 ·(try dsimp only at hS'); go_simp
 try simp only [Act.put, pa, pb, pc]
 refine tk (v := .int .i64 (x.from_ + (m : Int))) 4 13 rfl (fun w' hS' => ?_) (by assumption) ?_
 ·(try dsimp only at hS'); go_simp
 try simp only [Act.put, pa, pb, pc]
 refine tk (v := .pointer (some ⟨w.heap.size, 1, none⟩)) 5 14 rfl (fun w' hS' => ?_) (by assumption) ?_
 ·(try dsimp only at hS'); go_simp
 try simp only [Act.put, pa, pb, pc]
 refine tk (v := .int .i64 x.from_) 6 15 rfl (fun w' hS' => ?_) (by assumption) ?_
 ·(try dsimp only at hS'); go_simp
 try simp only [Act.put, pa, pb, pc]
 refine tk (v := .agg #[.string x.name, .int .i64 x.from_, .slice A2 x.text.length c2, .slice A3 x.list.length c3, .slice A4 x.seen.length c4]) 7 16 rfl (fun w' hS' => ?_) (by assumption) ?_
 ·(try dsimp only at hS'); go_simp
 try simp only [Act.put, pa, pb, pc]
 refine r1 8 (some 17) rfl (fun K hK => ?_)
 go_simp
 refine (specHeadRev_d _ x _ (RD.out _ (by assumption)) hs).mono ?_
 rintro e w3 ⟨rfl, b3⟩
 refine hK.out _ _ (SX.out _ _ (by assumption) b3) (fun hS => ?_)
 clear hK K
 try simp only [Act.put, pa, pb, pc]
 refine r1 9 (some 18) rfl (fun K hK => ?_)
 go_simp
 refine (in_any _ _ _ _).mono ?_
 rw [hi]
 rintro e w4 ⟨rfl, rfl⟩
 refine hK.out _ _ (by assumption) (fun hS => ?_)
 clear hK K
 try simp only [Act.put, pa, pb, pc]
 refine tk (v := .bool false) 10 19 rfl (fun w' hS' => ?_) (by assumption) ?_
 ·(try dsimp only at hS'); go_simp
 try simp only [Act.put, pa, pb, pc]
 refine tk (v := .bool false) 11 20 rfl (fun w' hS' => ?_) (by assumption) ?_
 ·(try dsimp only at hS'); go_simp
 try simp only [Act.put, pa, pb, pc]
 refine wpAnyH_done (by kernel_rfl) ?_ _
 have HK : Below w.heap.size w _ := b0.trans (hS.2.2.2.2.2.mono b0.size)
 obtain ⟨y0, y1, y2, y3, y4, hks⟩ := hS
 have lD2 : w.heap.size < w3.heap.size := Nat.lt_of_lt_of_le lD hks.size
 have HKH := Lib.hid HK
 clear SX RD hks hd hi
 have hib : (w3.alloc (.cells #[] 3)).ownsRow w.heap.size 3 1 (.slice (some ⟨w3.heap.size, 0, none⟩) 0 0) 0 [] := ⟨rfl, .inr ⟨w3.heap.size, 0, #[], rfl, HKH.out.size, heap_alloc_new w3 _, Nat.le_refl _, by unfold maxLen; omega, rfl, rfl⟩⟩
 have hbw : Below w.heap.size w (w3.alloc (.cells #[] 3)) := HKH.out.trans ((alloc_below _ _).mono HKH.out.size)
 obtain ⟨A2, c2_, e2, hr2, _⟩ := ints_rd (r2.past hbw)
 injection e2 with e2 _ e3
 subst e2 e3
 have hst : x.text.length ≤ 1048576 := hs.text
 go_wp2_with (at_builtin; refine wpList_append_ints rfl (.tmp 21) (.tmp 23) rfl w.heap.size (.slice (some ⟨w3.heap.size, 0, none⟩) 0 0) [] rfl hib _ x.text.length c2 x.text rfl rfl hr2 (by simp; omega) hbw.size ?_; intro An cn wn hon hgn; have q1 : wn.cell? ⟨w.heap.size, 1, none⟩ = some (.int .i64 x.from_) := (grown_cell (p := ⟨w.heap.size, 1, none⟩) hgn (by simp; omega) (by simp [Value.ownBlock]; omega)).trans (((alloc_below w3 _).cell (p := ⟨w.heap.size, 1, none⟩) lD2).trans y1); have q3 : wn.cell? ⟨w.heap.size, 3, none⟩ = some (.slice A3 x.list.length c3) := (grown_cell (p := ⟨w.heap.size, 3, none⟩) hgn (by simp; omega) (by simp [Value.ownBlock]; omega)).trans (((alloc_below w3 _).cell (p := ⟨w.heap.size, 3, none⟩) lD2).trans y3))
 have hbn := hbw.grown hgn hbw.size (fun q hq => own_ge hib q hq)
 simp only [List.nil_append, List.length_nil, Nat.zero_add] at hon
 have HON := Lib.hid (ownInts hon hbn.size)
 have hsm := hs.text
 clear q1 q3 g1 g2 hon hgn hib hbw
 go_loopw [6, 33] (fun o i wr => ∃ (j : Nat) (cur : List Int), j ≤ m ∧ i = .int .i64 (j : Int) ∧ endT (x.list.take j) x.text = cur ∧ SmI cur ∧ Own w.heap.size wr.heap.size wr (encInts cur) o ∧ Below w.heap.size w wr) (fun _ i _ => m - (intOf i).toNat)
 case atStart => exact ⟨0, x.text, Nat.zero_le _, rfl, rfl, hsm, HON.out, hbn⟩
 case round =>
  obtain ⟨j, cur, hj, rfl, hf, hsc, ho, hbel⟩ := hrel
  clear HON hbn
  have HF := Lib.hid hf
  clear hf
  obtain ⟨Ao, co, rfl⟩ := sliceI ho.read
  have HO := Lib.hid ho
  clear ho
  by_cases hlt : j < m
  ·obtain ⟨b, off, e, A5, c5, rfl, hbb, hp, z0, z1, z2, q2⟩ := atEns (r3.below hbel) (i := j) (by omega)
   have hse := hs.list.at_ (List.mem_of_getElem? hp)
   have HN2 := Lib.hid (show endT (x.list.take (j + 1)) x.text = applyT e.o cur by rw [endT_snoc hp, HF.out])
   clear hp
   have bA := alloc_below wr (.cells #[.int .i64 e.client, .int .i64 e.seq, .slice A5 e.o.length c5] 86)
   have q2 := RdC.more hbel.size _ _ q2
   go_wp2_with fail
   generalize wr.alloc (.cells #[.int .i64 e.client, .int .i64 e.seq, .slice A5 e.o.length c5] 86) = W2 at bA ⊢
   refine (specApply_d _ _ e.o cur _ (q2.past bA) (HO.out.past bA).read hse.o hsc).mono ?_
   rintro e' w5 ⟨v5, rfl, o5, b5⟩
   obtain ⟨A6, c6, rfl⟩ := sliceI o5.read
   have O5 := Lib.hid o5
   have d5 := bA.trans (b5.mono bA.size)
   have zz : w.heap.size ≤ W2.heap.size := Nat.le_trans hbel.size bA.size
   clear o5 b5 bA
   go_wp2
   go_roundw
   case rel => exact ⟨j + 1, applyT e.o cur, by omega, by go_num, HN2.out, apply_small hse.o hsc, O5.out.wide zz (Nat.le_refl _) (Nat.le_refl _), hbel.trans (d5.mono hbel.size)⟩
   case measure => simp [intOf]; omega
  ·obtain rfl : j = m := by omega
   go_wp2
   go_ret2
   rw [HN.out.1, HN.out.2, HF.out]
   exact ⟨_, rfl, HO.out, hbel⟩
def headTextT (x : Do) : List Int := textAtT x (headRevT x)
theorem headText_small {x : Do} (hs : SmDo x) : SmI (headTextT x) := textAt_small hs
theorem specHeadText_d (v : Value) (x : Do) (w : World) (h : RdC w w.heap.size (datDo x) v) (hs : SmDo x) : Calls Tryz.prog 36 #[v] w (OwnPost (encInts (headTextT x)) w) := by
 have HR := Lib.hid h
 obtain ⟨A2, c2, A3, c3, A4, c4, rfl, r2, r3, r4⟩ := aggDo h
 have b0 := alloc_below w (.cells #[.string x.name, .int .i64 x.from_, .slice A2 x.text.length c2, .slice A3 x.list.length c3, .slice A4 x.seen.length c4] 36)
 have bx := Bx.new w #[.string x.name, .int .i64 x.from_, .slice A2 x.text.length c2, .slice A3 x.list.length c3, .slice A4 x.seen.length c4] 36
 go_enter Tryz.func36, Tryz.ntmps36
 go_wp2
 generalize w.alloc (.cells #[.string x.name, .int .i64 x.from_, .slice A2 x.text.length c2, .slice A3 x.list.length c3, .slice A4 x.seen.length c4] 36) = W1 at b0 bx ⊢
 have y0 : W1.cell? ⟨w.heap.size, 0, none⟩ = some (.string x.name) := bx.cell rfl
 have y1 : W1.cell? ⟨w.heap.size, 1, none⟩ = some (.int .i64 x.from_) := bx.cell rfl
 have y2 : W1.cell? ⟨w.heap.size, 2, none⟩ = some (.slice A2 x.text.length c2) := bx.cell rfl
 have y3 : W1.cell? ⟨w.heap.size, 3, none⟩ = some (.slice A3 x.list.length c3) := bx.cell rfl
 have y4 : W1.cell? ⟨w.heap.size, 4, none⟩ = some (.slice A4 x.seen.length c4) := bx.cell rfl
 have lD := bx.lt
 have SX := Lib.hid (show ∀ (W W' : World), (W.cell? ⟨w.heap.size, 0, none⟩ = some (.string x.name) ∧ W.cell? ⟨w.heap.size, 1, none⟩ = some (.int .i64 x.from_) ∧ W.cell? ⟨w.heap.size, 2, none⟩ = some (.slice A2 x.text.length c2) ∧ W.cell? ⟨w.heap.size, 3, none⟩ = some (.slice A3 x.list.length c3) ∧ W.cell? ⟨w.heap.size, 4, none⟩ = some (.slice A4 x.seen.length c4) ∧ KS W1 W) → Below W.heap.size W W' → (W'.cell? ⟨w.heap.size, 0, none⟩ = some (.string x.name) ∧ W'.cell? ⟨w.heap.size, 1, none⟩ = some (.int .i64 x.from_) ∧ W'.cell? ⟨w.heap.size, 2, none⟩ = some (.slice A2 x.text.length c2) ∧ W'.cell? ⟨w.heap.size, 3, none⟩ = some (.slice A3 x.list.length c3) ∧ W'.cell? ⟨w.heap.size, 4, none⟩ = some (.slice A4 x.seen.length c4) ∧ KS W1 W') from fun W W' h hb => by have hk := h.2.2.2.2.2; have hkk : KS W1 W' := hk.trans (hb.mono hk.size); exact ⟨(hkk.cell (p := ⟨w.heap.size, 0, none⟩) lD).trans y0, (hkk.cell (p := ⟨w.heap.size, 1, none⟩) lD).trans y1, (hkk.cell (p := ⟨w.heap.size, 2, none⟩) lD).trans y2, (hkk.cell (p := ⟨w.heap.size, 3, none⟩) lD).trans y3, (hkk.cell (p := ⟨w.heap.size, 4, none⟩) lD).trans y4, hkk⟩)
 have RD := Lib.hid (show ∀ W : World, (W.cell? ⟨w.heap.size, 0, none⟩ = some (.string x.name) ∧ W.cell? ⟨w.heap.size, 1, none⟩ = some (.int .i64 x.from_) ∧ W.cell? ⟨w.heap.size, 2, none⟩ = some (.slice A2 x.text.length c2) ∧ W.cell? ⟨w.heap.size, 3, none⟩ = some (.slice A3 x.list.length c3) ∧ W.cell? ⟨w.heap.size, 4, none⟩ = some (.slice A4 x.seen.length c4) ∧ KS W1 W) → RdC W W.heap.size (datDo x) (.agg #[.string x.name, .int .i64 x.from_, .slice A2 x.text.length c2, .slice A3 x.list.length c3, .slice A4 x.seen.length c4]) from fun W h => by have hk : Below W1.heap.size W1 W := h.2.2.2.2.2; exact (HR.out.past b0).past hk)
 have hS0 : W1.drew.cell? ⟨w.heap.size, 0, none⟩ = some (.string x.name) ∧ W1.drew.cell? ⟨w.heap.size, 1, none⟩ = some (.int .i64 x.from_) ∧ W1.drew.cell? ⟨w.heap.size, 2, none⟩ = some (.slice A2 x.text.length c2) ∧ W1.drew.cell? ⟨w.heap.size, 3, none⟩ = some (.slice A3 x.list.length c3) ∧ W1.drew.cell? ⟨w.heap.size, 4, none⟩ = some (.slice A4 x.seen.length c4) ∧ KS W1 W1.drew := ⟨y0, y1, y2, y3, y4, KS.start _⟩
 clear y0 y1 y2 y3 y4
 go_region_held3 (fun W => W.cell? ⟨w.heap.size, 0, none⟩ = some (.string x.name) ∧ W.cell? ⟨w.heap.size, 1, none⟩ = some (.int .i64 x.from_) ∧ W.cell? ⟨w.heap.size, 2, none⟩ = some (.slice A2 x.text.length c2) ∧ W.cell? ⟨w.heap.size, 3, none⟩ = some (.slice A3 x.list.length c3) ∧ W.cell? ⟨w.heap.size, 4, none⟩ = some (.slice A4 x.seen.length c4) ∧ KS W1 W)
  (first | assumption | exact hS0 | (exact SX.out _ _ (by assumption) b3) | (exact SX.out _ _ (by assumption) b4))
  (first | (go_at_call 30; refine (specHeadRev_w _ x _ (by exact RD.out _ (by assumption))).mono ?_; rintro e w3 ⟨rfl, b3⟩) | (go_at_call 31; refine (specTextAt_d _ x (headRevT x) _ (by exact RD.out _ (by assumption)) hs).mono ?_; rintro e w4 ⟨v4, rfl, o4, b4⟩; obtain ⟨A5, c5, rfl⟩ := sliceI o4.read))
 rename_i hS2
 have HK : Below w.heap.size w w4 := b0.trans (hS2.2.2.2.2.2.mono b0.size)
 have zz : w.heap.size ≤ w3.heap.size := Nat.le_trans (Nat.le_of_lt lD) b3.size
 have HO := Lib.hid (o4.wide zz (Nat.le_refl _) (Nat.le_refl _))
 have HKH := Lib.hid HK
 clear hS2 hS0 SX RD HK o4
 go_wp2
 go_ret
 exact ⟨_, rfl, HO.out, HKH.out⟩
def seSameB (s s' : Se) : Bool := decide (s.client = s'.client) && decide (s.seq = s'.seq) && decide (s.rev = s'.rev)
def seensB : List Se → List Se → Bool
 | [], [] => true
 | e :: l, e' :: l' => seSameB e e' && seensB l l'
 | _, _ => false
theorem seensB_step {l l' : List Se} {j : Nat} {e e' : Se} (h : l[j]? = some e) (h' : l'[j]? = some e') : seensB (l.drop j) (l'.drop j) = (seSameB e e' && seensB (l.drop (j + 1)) (l'.drop (j + 1))) := by
 obtain ⟨h1, e1⟩ := List.getElem?_eq_some_iff.1 h
 obtain ⟨h2, e2⟩ := List.getElem?_eq_some_iff.1 h'
 rw [List.drop_eq_getElem_cons h1, List.drop_eq_getElem_cons h2, e1, e2]
 rfl
theorem OwB.apartG {lo hi : Nat} {w w' : World} {d : Dat} {v : Value} {b : List Nat} {r : Option Nat} (h : OwB lo hi w d v b) (hg : w.grownBy w' r) (hr : ∀ k, r = some k → k < lo ∨ hi ≤ k) : OwB lo hi w' d v b :=
 ⟨OwC.keep d v b h.ow (fun x hx => hg.block x (OwC.lt d v b h.ow x hx) (fun e => by have := h.rng x hx; have := hr x e.symm; omega)), h.nd, h.rng, Nat.le_trans h.top hg.size, h.le⟩
theorem Grew.cellOut {O O' : Nat → Prop} {w w' : World} (h : Grew O O' w w') {p : Addr} (hb : p.block < w.heap.size) (hn : ¬ O p.block) : w'.cell? p = w.cell? p := World.cell?_of_block (w := w) (h.block p.block hb hn)
theorem step_append_zero {P : Program} {w : World} {ops : Array Oper} {o : Oper} {a : Act} {KN : Act → World → Prop} {Q : Exit → Act → World → Prop} {E : Prop} (hgd : o.guard = none) (s x : Operand) (t : TypeId)
  (ho : o.op = .call { callee := .builtin .append, args := #[s, x], argTypes := #[t, t] })
  (base : Nat) (e : TypeId) (i : TypeInfo) (size : Nat) (ht : P.underlying t = some (.slice e)) (hi : P.info? e = some i)
  (v : Value) (n : Nat) (xs : List Value) (hs : a.eval s = v) (hown : w.ownsRow base e size v n xs) (A : Option Addr) (c : Nat) (hx : a.eval x = .slice A 0 c)
  (h : KN (a.put o.dst v) w) : if Region.wanted o (yielded ops a.tmps) = true then Oper.wp P o a w KN Q else E := by
 have hw : Region.wanted o (yielded ops a.tmps) = true := by simp [Region.wanted, hgd]
 rw [if_pos hw]
 have hrun := run_append_zero (P := P) (w := w) base t o.type e i size ht hi v n xs hown A c
 unfold Oper.wp
 simp [execOp, ho, resolve, invoke, builtin, hs, hx, hrun, Result.andThen]
 exact h
theorem step_append_ints {w : World} {ops : Array Oper} {o : Oper} {a : Act} {KN : Act → World → Prop} {Q : Exit → Act → World → Prop} {E : Prop} (hgd : o.guard = none) (s x : Operand)
  (ho : o.op = .call { callee := .builtin .append, args := #[s, x], argTypes := #[22, 22] })
  (base : Nat) (v : Value) (zs : List Int) (hs : a.eval s = v) (hown : w.ownsRow base 3 1 v zs.length (zs.map (Value.int .i64)))
  (A : Option Addr) (m c : Nat) (ys : List Int) (hx : a.eval x = .slice A m c) (hm : ys.length = m) (hr : Row (Value.int .i64) w w.heap.size A ys)
  (h63 : zs.length + m ≤ 1000000000) (hbase : base ≤ w.heap.size)
  (h : ∀ A' c' w', w'.ownsRow base 3 1 (.slice A' (zs.length + m) c') (zs ++ ys).length ((zs ++ ys).map (Value.int .i64)) → w.grownBy w' v.ownBlock → KN (a.put o.dst (.slice A' (zs.length + m) c')) w') : if Region.wanted o (yielded ops a.tmps) = true then Oper.wp Tryz.prog o a w KN Q else E := by
 obtain ⟨i0, hi0, hz0, hz1, hz2⟩ := info_parts ints_info
 by_cases h0 : 0 < m
 ·obtain ⟨ad, rfl, hbk, hcs⟩ := hr (by omega)
  refine step_append_lies _ hgd s x 22 ho base 3 i0 (.int .i64 0) 1 8 Tryz.underlying22 hi0 hz0 hz1 hz2 rfl (by decide) v zs.length (zs.map (Value.int .i64)) hs hown ad m c (ys.map (Value.int .i64)) hx (by simp [hm]) (fun j u hu => ?_) (by simp [Value.oneCell']) h0 (by unfold maxLen; omega) (by omega) hbase w.heap.size rfl ?_
  ·rw [List.getElem?_map] at hu
   obtain ⟨z, hz, rfl⟩ := Option.map_eq_some_iff.1 hu
   exact hcs j z hz
  ·intro g cap w' hown' hg _ _
   exact h _ cap w' (by simpa [hm] using hown') hg
 ·have e0 : ys = [] := List.eq_nil_of_length_eq_zero (by omega)
  subst e0
  obtain rfl : m = 0 := by omega
  refine step_append_zero hgd s x 22 ho base 3 i0 1 Tryz.underlying22 hi0 v zs.length (zs.map (Value.int .i64)) hs hown A c hx ?_
  obtain ⟨Av, cv, rfl⟩ := own_form hown
  exact h Av cv w (by simpa using hown) (grown_refl _ _)
theorem step_append_row {w : World} {ops : Array Oper} {o : Oper} {a : Act} {KN : Act → World → Prop} {Q : Exit → Act → World → Prop} {E : Prop} (hgd : o.guard = none) (s x : Operand) (t : TypeId)
  (ho : o.op = .call { callee := .builtin .append, args := #[s, x], argTypes := #[t, t] }) (e : TypeId) (i : TypeInfo) (z : Value) (sz bytes : Nat) (ht : Tryz.prog.underlying t = some (.slice e)) (hi : Tryz.prog.info? e = some i) (hz : i.zero = some z) (hsize : i.size = sz) (hby : i.bytes = bytes) (hzs : z.cells.size = sz) (hsz : 0 < sz) (hbm : bytes ≤ 100000)
  (lo hi' : Nat) (v : Value) (ds : List (List Dat)) (b : List Nat) (h : OwB lo hi' w (.rows e sz ds) v b) (hs : a.eval s = v) (hlen : ds.length ≤ 2000000)
  (ad : Addr) (c0 : Nat) (ys : List Value) (hx : a.eval x = .slice (some ad) 1 c0) (hl : ys.length = sz) (hnews : ∀ j u, ys[j]? = some u → w.cell? (ad.add j) = some u) (h1 : ∀ u ∈ ys, u.oneCell' = true)
  (r : List Dat) (c : List Nat) (hr : OwL w r ys c) (hcn : c.Nodup) (hbc : ∀ q ∈ b, q ∉ c) (hcr : ∀ q ∈ c, lo ≤ q)
  (K : ∀ A' c' w' b', OwB lo w'.heap.size w' (.rows e sz (ds ++ [r])) (.slice A' (ds.length + 1) c') b' → (∀ q ∈ b', q ∈ b ∨ q ∈ c ∨ w.heap.size ≤ q) → Grew (fun q => q ∈ b) (fun q => q ∈ b ∨ w.heap.size ≤ q) w w' → Below lo w w' → KN (a.put o.dst (.slice A' (ds.length + 1) c')) w') : if Region.wanted o (yielded ops a.tmps) = true then Oper.wp Tryz.prog o a w KN Q else E := by
 have hnd := h.nd
 have hrg := h.rng
 obtain ⟨xs, cs, ho', hor, hb⟩ := h.ow
 refine step_append_lies _ hgd s x t ho 0 e i z sz bytes ht hi hz hsize hby hzs hsz v ds.length xs hs ho' ad 1 c0 ys hx (by simp [hl]) hnews h1 (by omega) (by unfold maxLen; omega) ?_ (Nat.zero_le _) _ rfl ?_
 ·have : (ds.length + 1) * bytes ≤ 2000001 * 100000 := Nat.mul_le_mul (by omega) hbm
  omega
 intro g cap w' hown hg hat hlt
 rw [hb] at hnd
 obtain ⟨n1, n2, n3⟩ := List.nodup_append.1 hnd
 have own_mem : ∀ q, v.ownBlock = some q → q ∈ b := fun q hq => by rw [hb, hq]; simp
 have hcs : ∀ q ∈ cs, w'.heap[q]? = w.heap[q]? := fun q hq => hg.block q (OwR.lt sz _ _ _ hor q hq) (fun e => n3 q (by rw [← e]; simp) q hq rfl)
 have hcc : ∀ q ∈ c, w'.heap[q]? = w.heap[q]? := fun q hq => hg.block q (OwL.lt _ _ _ hr q hq) (fun e => hbc q (own_mem q e.symm) hq)
 have hor' := (OwR.keep sz _ _ _ hor hcs).append (OwR.one (OwL.keep _ _ _ hr hcc) hl)
 have g1 : g ∉ cs := fun hq => by
  rcases hat with e | e
  ·exact n3 g (by rw [e]; simp) g hq rfl
  ·have := OwR.lt sz _ _ _ hor g hq; omega
 have g2 : g ∉ c := fun hq => by
  rcases hat with e | e
  ·exact hbc g (own_mem g e) hq
  ·have := OwL.lt _ _ _ hr g hq; omega
 have g3 : lo ≤ g ∧ (g ∈ b ∨ w.heap.size ≤ g) := by
  rcases hat with e | e
  ·exact ⟨(hrg g (own_mem g e)).1, .inl (own_mem g e)⟩
  ·have := h.top; have := h.le; exact ⟨by omega, .inr (by omega)⟩
 have hsz' := hg.size
 have ht' := h.top
 refine K _ cap w' (g :: (cs ++ c)) ⟨⟨xs ++ ys, cs ++ c, by rw [List.length_append]; exact hown, hor', rfl⟩, ?_, ?_, Nat.le_refl _, by have := h.le; omega⟩ ?_ ⟨hg.size, fun q hq hn => hg.block q hq (fun e => hn (own_mem q e.symm)), fun q hq => hq⟩ ?_
 ·refine List.nodup_cons.2 ⟨fun hq => ?_, List.nodup_append.2 ⟨n2, hcn, fun q hq q' hq' e => ?_⟩⟩
  ·rcases List.mem_append.1 hq with hq | hq
   ·exact g1 hq
   ·exact g2 hq
  ·subst e
   exact hbc q (by rw [hb]; simp [hq]) hq'
 ·intro q hq
  rcases List.mem_cons.1 hq with rfl | hq
  ·exact ⟨g3.1, hlt⟩
  ·rcases List.mem_append.1 hq with hq | hq
   ·have := hrg q (by rw [hb]; simp [hq]); exact ⟨this.1, by omega⟩
   ·have := OwL.lt _ _ _ hr q hq; exact ⟨hcr q hq, by omega⟩
 ·intro q hq
  rcases List.mem_cons.1 hq with rfl | hq
  ·rcases g3.2 with h | h
   ·exact .inl h
   ·exact .inr (.inr h)
  ·rcases List.mem_append.1 hq with hq | hq
   ·exact .inl (by rw [hb]; simp [hq])
   ·exact .inr (.inl hq)
 ·exact (Below.refl lo w).grown hg (by have := h.le; omega) (fun k hk => (hrg k (own_mem k hk)).1)
theorem specCopy_d (v : Value) (ps : List Pt) (w : World) (h : RdC w w.heap.size (encPs ps) v) (hs : SmP ps) : Calls Tryz.prog 61 #[v] w (OwnPost (encPs ps) w) := by
 obtain ⟨A, c, rfl, hr, _⟩ := parts_rd h
 have hl := hs.1
 obtain ⟨i0, hi0, hz0, hz1, hz2⟩ := info_parts part_info
 have ob : OwB w.heap.size (w.heap.size + 1) (w.alloc (.cells #[] 71)) (encPs []) (.slice (some ⟨w.heap.size, 0, none⟩) 0 0) [w.heap.size] := ⟨⟨[], [], ⟨rfl, .inr ⟨w.heap.size, 0, #[], rfl, Nat.zero_le _, heap_alloc_new w _, Nat.le_refl _, by unfold maxLen; omega, rfl, rfl⟩⟩, ⟨rfl, rfl⟩, rfl⟩, by simp, fun q hq => by simp at hq; omega, by rw [World.size_alloc]; exact Nat.le_refl _, by omega⟩
 have b0 := alloc_below w (.cells #[] 71)
 have z0 : (w.alloc (.cells #[] 71)).heap.size = w.heap.size + 1 := World.size_alloc _ _
 rw [← z0] at ob
 have OB := Lib.hid ob
 clear ob z0
 go_enter Tryz.func61, Tryz.ntmps61
 go_wp2
 go_loopw [3, 9] (fun ov i wr => ∃ (j : Nat) (A1 : Option Addr) (c1 : Nat) (bs : List Nat), j ≤ ps.length ∧ i = .int .i64 (j : Int) ∧ ov = .slice A1 j c1 ∧ OwB w.heap.size wr.heap.size wr (encPs (ps.take j)) ov bs ∧ Below w.heap.size w wr) (fun _ i _ => ps.length - (intOf i).toNat)
 case atStart => exact ⟨0, _, _, _, Nat.zero_le _, rfl, rfl, OB.out, b0⟩
 case round =>
  obtain ⟨j, A1, c1, bs, hj, rfl, rfl, ho, hbel⟩ := hrel
  clear OB b0
  have HO := Lib.hid ho
  clear ho
  by_cases hlt : j < ps.length
  ·obtain ⟨b, off, p, rfl, hbb, hp, hc⟩ := hr.at_ hlt
   obtain ⟨x0, x1, A5, c5, x2, r1⟩ := hc.keep (w' := wr) hbb (fun _ hq => hbel.cell hq)
   have hsp := hs.all p (List.mem_of_getElem? hp)
   have HT := Lib.hid (show ps.take (j + 1) = ps.take j ++ [p] by rw [List.take_add_one, hp]; rfl)
   clear hp hc
   have bA := alloc_below wr (.cells #[.int .i64 p.kind, .int .i64 p.n, .slice A5 p.signs.length c5] 71)
   have bxP := Bx.new wr #[.int .i64 p.kind, .int .i64 p.n, .slice A5 p.signs.length c5] 71
   have HO1 := Lib.hid (HO.out.past bA)
   have zA : (wr.alloc (.cells #[.int .i64 p.kind, .int .i64 p.n, .slice A5 p.signs.length c5] 71)).heap.size = wr.heap.size + 1 := World.size_alloc _ _
   go_wp2
   generalize wr.alloc (.cells #[.int .i64 p.kind, .int .i64 p.n, .slice A5 p.signs.length c5] 71) = W1 at bA bxP HO1 zA ⊢
   have lP := bxP.lt
   have hS0 : W1.drew.cell? ⟨wr.heap.size, 0, none⟩ = some (.int .i64 p.kind) ∧ W1.drew.cell? ⟨wr.heap.size, 1, none⟩ = some (.int .i64 p.n) ∧ W1.drew.cell? ⟨wr.heap.size, 2, none⟩ = some (.slice A5 p.signs.length c5) := ⟨bxP.cell (j := 0) rfl, bxP.cell (j := 1) rfl, bxP.cell (j := 2) rfl⟩
   refine wp_region_held_drew (S := fun W => W.cell? ⟨wr.heap.size, 0, none⟩ = some (.int .i64 p.kind) ∧ W.cell? ⟨wr.heap.size, 1, none⟩ = some (.int .i64 p.n) ∧ W.cell? ⟨wr.heap.size, 2, none⟩ = some (.slice A5 p.signs.length c5)) (by kernel_rfl) hS0 (fun hS => ?_)
   clear hS0
   have bA := bA.trans ((Below.refl _ _).drew.mono bA.size)
   have HO1 := Lib.hid (HO1.out.past (Below.refl _ _).drew)
   have zA : W1.drew.heap.size = wr.heap.size + 1 := zA
   have lP : wr.heap.size < W1.drew.heap.size := lP
   clear bxP
   generalize W1.drew = WD at hS bA HO1 zA lP ⊢
   refine tk (v := .slice A1 j c1) 0 13 rfl (fun w' hS' => ?_) (by assumption) ?_
   ·(try dsimp only at hS'); go_simp
   try simp only [Act.put, pa, pb, pc]
   refine tk (v := .pointer (some ⟨wr.heap.size, 0, none⟩)) 1 14 rfl (fun w' hS' => ?_) (by assumption) ?_
   ·(try dsimp only at hS'); go_simp
   try simp only [Act.put, pa, pb, pc]
   refine tk (v := .int .i64 p.kind) 2 15 rfl (fun w' hS' => ?_) (by assumption) ?_
   ·(try dsimp only at hS'); go_simp
   try simp only [Act.put, pa, pb, pc]
   refine tk (v := .pointer (some ⟨wr.heap.size, 1, none⟩)) 3 16 rfl (fun w' hS' => ?_) (by assumption) ?_
   ·(try dsimp only at hS'); go_simp
   try simp only [Act.put, pa, pb, pc]
   refine tk (v := .int .i64 p.n) 4 17 rfl (fun w' hS' => ?_) (by assumption) ?_
   ·(try dsimp only at hS'); go_simp
   try simp only [Act.put, pa, pb, pc]
   refine tk (v := .pointer (some ⟨wr.heap.size, 2, none⟩)) 6 19 rfl (fun w' hS' => ?_) (by assumption) ?_
   ·(try dsimp only at hS'); go_simp
   try simp only [Act.put, pa, pb, pc]
   refine tk (v := .slice A5 p.signs.length c5) 7 20 rfl (fun w' hS' => ?_) (by assumption) ?_
   ·(try dsimp only at hS'); go_simp
   try simp only [Act.put, pa, pb, pc]
   refine low.r1 5 (some 18) rfl (fun K hK => ?_)
   go_simp
   have hS1 : (WD.alloc (.cells #[] 3)).cell? ⟨wr.heap.size, 0, none⟩ = some (.int .i64 p.kind) ∧ (WD.alloc (.cells #[] 3)).cell? ⟨wr.heap.size, 1, none⟩ = some (.int .i64 p.n) ∧ (WD.alloc (.cells #[] 3)).cell? ⟨wr.heap.size, 2, none⟩ = some (.slice A5 p.signs.length c5) := ⟨((alloc_below WD (.cells #[] 3)).cell (p := ⟨wr.heap.size, 0, none⟩) lP).trans hS.1, ((alloc_below WD (.cells #[] 3)).cell (p := ⟨wr.heap.size, 1, none⟩) lP).trans hS.2.1, ((alloc_below WD (.cells #[] 3)).cell (p := ⟨wr.heap.size, 2, none⟩) lP).trans hS.2.2⟩
   refine hK.out _ _ hS1 (fun hS => ?_)
   clear hK K hS1
   try simp only [Act.put, pa, pb, pc]
   have bD : Below WD.heap.size WD (WD.alloc (.cells #[] 3)) := alloc_below WD (.cells #[] 3)
   have hib : (WD.alloc (.cells #[] 3)).ownsRow (wr.heap.size + 1) 3 1 (.slice (some ⟨wr.heap.size + 1, 0, none⟩) 0 0) 0 [] := ⟨rfl, .inr ⟨wr.heap.size + 1, 0, #[], rfl, Nat.le_refl _, by rw [← zA]; exact heap_alloc_new WD _, Nat.le_refl _, by unfold maxLen; omega, rfl, rfl⟩⟩
   have zD : (WD.alloc (.cells #[] 3)).heap.size = wr.heap.size + 2 := by rw [World.size_alloc]; omega
   have hrow := (((r1.more hbel.size).past bA).past bD)
   have HO2 := Lib.hid (HO1.out.past bD)
   generalize WD.alloc (.cells #[] 3) = W2 at hS bD hib zD hrow HO2 ⊢
   refine low.r1 8 (some 21) rfl (fun K hK => ?_)
   refine step_append_ints (by rfl) (.tmp 18) (.tmp 20) (by rfl) (wr.heap.size + 1) (.slice (some ⟨wr.heap.size + 1, 0, none⟩) 0 0) [] (by rfl) hib A5 p.signs.length c5 p.signs (by rfl) rfl hrow (by simp; omega) (by omega) ?_
   intro An cn wn hon hgn
   simp only [List.nil_append, List.length_nil, Nat.zero_add] at hon ⊢
   have hS1 : wn.cell? ⟨wr.heap.size, 0, none⟩ = some (.int .i64 p.kind) ∧ wn.cell? ⟨wr.heap.size, 1, none⟩ = some (.int .i64 p.n) ∧ wn.cell? ⟨wr.heap.size, 2, none⟩ = some (.slice A5 p.signs.length c5) := ⟨(grown_cell (p := ⟨wr.heap.size, 0, none⟩) hgn (by simp only; omega) (by simp [Value.ownBlock])).trans hS.1, (grown_cell (p := ⟨wr.heap.size, 1, none⟩) hgn (by simp only; omega) (by simp [Value.ownBlock])).trans hS.2.1, (grown_cell (p := ⟨wr.heap.size, 2, none⟩) hgn (by simp only; omega) (by simp [Value.ownBlock])).trans hS.2.2⟩
   refine hK.out _ _ hS1 (fun hS => ?_)
   clear hK K hS1
   try simp only [Act.put, pa, pb, pc]
   have zn : wr.heap.size + 2 ≤ wn.heap.size := by have := hgn.size; omega
   have on := ownInts hon (by omega)
   have HO3 := Lib.hid (HO2.out.apartG hgn (fun k hk => by simp [Value.ownBlock] at hk; omega))
   have bn : Below wr.heap.size W2 wn := (Below.refl _ _).grown hgn (by omega) (fun q hq => by have := own_ge hib q hq; omega)
   have dn : Below w.heap.size w wn := hbel.trans (((bA.trans (bD.mono bA.size)).trans bn).mono hbel.size)
   clear hon hgn hib hrow HO2 bn bD
   refine tk (v := .agg #[.int .i64 p.kind, .int .i64 p.n, .slice An p.signs.length cn]) 9 22 rfl (fun w' hS' => ?_) (by assumption) ?_
   ·(try dsimp only at hS'); go_simp
   try simp only [Act.put, pa, pb, pc]
   refine low.r1 10 (some 23) rfl (fun K hK => ?_)
   go_simp
   have hS1 : (wn.alloc (.cells #[.int .i64 p.kind, .int .i64 p.n, .slice An p.signs.length cn] 71)).cell? ⟨wr.heap.size, 0, none⟩ = some (.int .i64 p.kind) ∧ (wn.alloc (.cells #[.int .i64 p.kind, .int .i64 p.n, .slice An p.signs.length cn] 71)).cell? ⟨wr.heap.size, 1, none⟩ = some (.int .i64 p.n) ∧ (wn.alloc (.cells #[.int .i64 p.kind, .int .i64 p.n, .slice An p.signs.length cn] 71)).cell? ⟨wr.heap.size, 2, none⟩ = some (.slice A5 p.signs.length c5) := ⟨((alloc_below wn (.cells #[.int .i64 p.kind, .int .i64 p.n, .slice An p.signs.length cn] 71)).cell (p := ⟨wr.heap.size, 0, none⟩) (by simp only; omega)).trans hS.1, ((alloc_below wn (.cells #[.int .i64 p.kind, .int .i64 p.n, .slice An p.signs.length cn] 71)).cell (p := ⟨wr.heap.size, 1, none⟩) (by simp only; omega)).trans hS.2.1, ((alloc_below wn (.cells #[.int .i64 p.kind, .int .i64 p.n, .slice An p.signs.length cn] 71)).cell (p := ⟨wr.heap.size, 2, none⟩) (by simp only; omega)).trans hS.2.2⟩
   refine hK.out _ _ hS1 (fun hS => ?_)
   clear hK K hS1
   try simp only [Act.put, pa, pb, pc]
   have bP := alloc_below wn (.cells #[.int .i64 p.kind, .int .i64 p.n, .slice An p.signs.length cn] 71)
   have HN := Lib.hid (World.news_of_block (cs := #[.int .i64 p.kind, .int .i64 p.n, .slice An p.signs.length cn]) (t := 71) (fr := (0, 0)) (heap_alloc_new wn (.cells #[.int .i64 p.kind, .int .i64 p.n, .slice An p.signs.length cn] 71)))
   obtain ⟨cs, ox⟩ := (on.past bP).blocks
   have OX := Lib.hid ox
   have HO4 := Lib.hid (HO3.out.past bP)
   have zP : (wn.alloc (.cells #[.int .i64 p.kind, .int .i64 p.n, .slice An p.signs.length cn] 71)).heap.size = wn.heap.size + 1 := World.size_alloc _ _
   have d4 := dn.trans (bP.mono dn.size)
   have e1 : ((ps.take j).map encPt).length = j := by simp; omega
   generalize wn.alloc (.cells #[.int .i64 p.kind, .int .i64 p.n, .slice An p.signs.length cn] 71) = W4 at hS HN OX HO4 zP d4 ⊢
   clear on ox bP dn
   refine low.r1 11 (some 24) rfl (fun K hK => ?_)
   refine step_append_row (by rfl) (.tmp 13) (.tmp 23) 30 (by rfl) 71 i0 _ 3 40 Tryz.underlying30 hi0 hz0 hz1 hz2 rfl (by decide) (by decide) w.heap.size _ (.slice A1 j c1) ((ps.take j).map encPt) bs HO4.out (by rfl) (by omega) ⟨wn.heap.size, 0, none⟩ 1 [.int .i64 p.kind, .int .i64 p.n, .slice An p.signs.length cn] (by rfl) rfl HN.out (by simp [Value.oneCell']) (encPt p) cs ⟨_, _, [], cs, rfl, by simp, ⟨rfl, rfl⟩, _, _, [], cs, rfl, by simp, ⟨rfl, rfl⟩, _, [], cs, [], rfl, by simp, OX.out.ow, rfl, rfl⟩ OX.out.nd (fun q hq hq' => by have q1 := (HO4.out.rng q hq).2; have q2 := (OX.out.rng q hq').1; omega) (fun q hq => by have q2 := (OX.out.rng q hq).1; have := hbel.size; omega) ?_
   intro A7 c7 w7 b7 o7 in7 g7 bl7
   rw [e1]
   have hS1 : w7.cell? ⟨wr.heap.size, 0, none⟩ = some (.int .i64 p.kind) ∧ w7.cell? ⟨wr.heap.size, 1, none⟩ = some (.int .i64 p.n) ∧ w7.cell? ⟨wr.heap.size, 2, none⟩ = some (.slice A5 p.signs.length c5) := ⟨(g7.cellOut (p := ⟨wr.heap.size, 0, none⟩) (by simp only; omega) (fun hq => by have := (HO4.out.rng _ hq).2; simp only at this; omega)).trans hS.1, (g7.cellOut (p := ⟨wr.heap.size, 1, none⟩) (by simp only; omega) (fun hq => by have := (HO4.out.rng _ hq).2; simp only at this; omega)).trans hS.2.1, (g7.cellOut (p := ⟨wr.heap.size, 2, none⟩) (by simp only; omega) (fun hq => by have := (HO4.out.rng _ hq).2; simp only at this; omega)).trans hS.2.2⟩
   refine hK.out _ _ hS1 (fun hS => ?_)
   clear hK K hS1
   try simp only [Act.put, pa, pb, pc]
   refine tk (v := .slice A7 (j + 1) c7) 12 3 rfl (fun w' hS' => ?_) (by assumption) ?_
   ·(try dsimp only at hS'); go_simp
   try simp only [Act.put, pa, pb, pc]
   refine wpAnyH_done (by kernel_rfl) ?_ _
   have O7 := Lib.hid (show OwB w.heap.size w7.heap.size w7 (encPs (ps.take (j + 1))) (.slice A7 (j + 1) c7) b7 by rw [HT.out]; rw [e1] at o7; unfold encPs; rw [List.map_append]; exact o7)
   have d7 := d4.trans bl7
   clear o7 hS
   go_wp2
   go_roundw
   case rel => exact ⟨j + 1, A7, c7, b7, by omega, by go_num, rfl, O7.out, d7⟩
   case measure => simp [intOf]; omega
  ·obtain rfl : j = ps.length := by omega
   have k1 := HO.out
   rw [List.take_length] at k1
   have K1 := Lib.hid k1
   clear k1
   go_wp2
   go_ret
   exact ⟨_, rfl, ⟨bs, K1.out.ow, K1.out.nd, K1.out.rng, Nat.le_refl _, K1.out.le⟩, hbel⟩
def opsSinceT (x : Do) (r : Int) : List (List Pt) := if textAtB x r = true then (x.list.drop (r - x.from_).toNat).map En.o else []
theorem opsSince_f {x : Do} {r : Int} (h : textAtB x r = false) : textAtB x r = false ∧ opsSinceT x r = [] := ⟨h, by unfold opsSinceT; rw [h]; rfl⟩
theorem pssInfo : (Tryz.prog.info? 30).map (fun i => (i.zero, i.size, i.bytes)) = some (some (.slice none 0 0), 1, 24) := by kernel_rfl
theorem specOpsSince_d (v : Value) (x : Do) (r : Int) (w : World) (h : RdC w w.heap.size (datDo x) v) (hs : SmDo x) : Calls Tryz.prog 33 #[v, .int .i64 r] w (ResB (encPss (opsSinceT x r)) (textAtB x r) w) := by
 have HR := Lib.hid h
 obtain ⟨A2, c2, A3, c3, A4, c4, rfl, r2, r3, r4⟩ := aggDo h
 have hl3 := hs.list.len
 have b0 := alloc_below w (.cells #[.string x.name, .int .i64 x.from_, .slice A2 x.text.length c2, .slice A3 x.list.length c3, .slice A4 x.seen.length c4] 36)
 have bx := Bx.new w #[.string x.name, .int .i64 x.from_, .slice A2 x.text.length c2, .slice A3 x.list.length c3, .slice A4 x.seen.length c4] 36
 cases hd : docB x
 ·have HN := Lib.hid (show textAtB x r = false ∧ opsSinceT x r = [] from opsSince_f (by unfold textAtB; rw [hd]; rfl))
  go_enter Tryz.func33, Tryz.ntmps33
  go_wp2
  generalize w.alloc (.cells #[.string x.name, .int .i64 x.from_, .slice A2 x.text.length c2, .slice A3 x.list.length c3, .slice A4 x.seen.length c4] 36) = W1 at b0 bx ⊢
  have y0 : W1.cell? ⟨w.heap.size, 0, none⟩ = some (.string x.name) := bx.cell rfl
  have y1 : W1.cell? ⟨w.heap.size, 1, none⟩ = some (.int .i64 x.from_) := bx.cell rfl
  have y2 : W1.cell? ⟨w.heap.size, 2, none⟩ = some (.slice A2 x.text.length c2) := bx.cell rfl
  have y3 : W1.cell? ⟨w.heap.size, 3, none⟩ = some (.slice A3 x.list.length c3) := bx.cell rfl
  have y4 : W1.cell? ⟨w.heap.size, 4, none⟩ = some (.slice A4 x.seen.length c4) := bx.cell rfl
  have lD := bx.lt
  have SX := Lib.hid (show ∀ (W W' : World), (W.cell? ⟨w.heap.size, 0, none⟩ = some (.string x.name) ∧ W.cell? ⟨w.heap.size, 1, none⟩ = some (.int .i64 x.from_) ∧ W.cell? ⟨w.heap.size, 2, none⟩ = some (.slice A2 x.text.length c2) ∧ W.cell? ⟨w.heap.size, 3, none⟩ = some (.slice A3 x.list.length c3) ∧ W.cell? ⟨w.heap.size, 4, none⟩ = some (.slice A4 x.seen.length c4) ∧ KS W1 W) → Below W.heap.size W W' → (W'.cell? ⟨w.heap.size, 0, none⟩ = some (.string x.name) ∧ W'.cell? ⟨w.heap.size, 1, none⟩ = some (.int .i64 x.from_) ∧ W'.cell? ⟨w.heap.size, 2, none⟩ = some (.slice A2 x.text.length c2) ∧ W'.cell? ⟨w.heap.size, 3, none⟩ = some (.slice A3 x.list.length c3) ∧ W'.cell? ⟨w.heap.size, 4, none⟩ = some (.slice A4 x.seen.length c4) ∧ KS W1 W') from fun W W' h hb => by have hk := h.2.2.2.2.2; have hkk : KS W1 W' := hk.trans (hb.mono hk.size); exact ⟨(hkk.cell (p := ⟨w.heap.size, 0, none⟩) lD).trans y0, (hkk.cell (p := ⟨w.heap.size, 1, none⟩) lD).trans y1, (hkk.cell (p := ⟨w.heap.size, 2, none⟩) lD).trans y2, (hkk.cell (p := ⟨w.heap.size, 3, none⟩) lD).trans y3, (hkk.cell (p := ⟨w.heap.size, 4, none⟩) lD).trans y4, hkk⟩)
  have RD := Lib.hid (show ∀ W : World, (W.cell? ⟨w.heap.size, 0, none⟩ = some (.string x.name) ∧ W.cell? ⟨w.heap.size, 1, none⟩ = some (.int .i64 x.from_) ∧ W.cell? ⟨w.heap.size, 2, none⟩ = some (.slice A2 x.text.length c2) ∧ W.cell? ⟨w.heap.size, 3, none⟩ = some (.slice A3 x.list.length c3) ∧ W.cell? ⟨w.heap.size, 4, none⟩ = some (.slice A4 x.seen.length c4) ∧ KS W1 W) → RdC W W.heap.size (datDo x) (.agg #[.string x.name, .int .i64 x.from_, .slice A2 x.text.length c2, .slice A3 x.list.length c3, .slice A4 x.seen.length c4]) from fun W h => by have hk : Below W1.heap.size W1 W := h.2.2.2.2.2; exact (HR.out.past b0).past hk)
  have hS0 : W1.drew.cell? ⟨w.heap.size, 0, none⟩ = some (.string x.name) ∧ W1.drew.cell? ⟨w.heap.size, 1, none⟩ = some (.int .i64 x.from_) ∧ W1.drew.cell? ⟨w.heap.size, 2, none⟩ = some (.slice A2 x.text.length c2) ∧ W1.drew.cell? ⟨w.heap.size, 3, none⟩ = some (.slice A3 x.list.length c3) ∧ W1.drew.cell? ⟨w.heap.size, 4, none⟩ = some (.slice A4 x.seen.length c4) ∧ KS W1 W1.drew := ⟨y0, y1, y2, y3, y4, KS.start _⟩
  clear y0 y1 y2 y3 y4
  refine wp_region_held_drew (S := fun W => W.cell? ⟨w.heap.size, 0, none⟩ = some (.string x.name) ∧ W.cell? ⟨w.heap.size, 1, none⟩ = some (.int .i64 x.from_) ∧ W.cell? ⟨w.heap.size, 2, none⟩ = some (.slice A2 x.text.length c2) ∧ W.cell? ⟨w.heap.size, 3, none⟩ = some (.slice A3 x.list.length c3) ∧ W.cell? ⟨w.heap.size, 4, none⟩ = some (.slice A4 x.seen.length c4) ∧ KS W1 W) (by kernel_rfl) hS0 (fun hS => ?_)
  refine tk (v := .agg #[.string x.name, .int .i64 x.from_, .slice A2 x.text.length c2, .slice A3 x.list.length c3, .slice A4 x.seen.length c4]) 0 9 rfl (fun w' hS' => ?_) (by assumption) ?_
  ·(try dsimp only at hS'); go_simp
  try simp only [Act.put, pa, pb, pc]
  refine r1 1 (some 10) rfl (fun K hK => ?_)
  go_simp
  refine (specDocOk_d _ x _ (RD.out _ (by assumption)) hs).mono ?_
  rw [hd]
  rintro e w2 ⟨rfl, b2⟩
  refine hK.out _ _ (SX.out _ _ (by assumption) b2) (fun hS => ?_)
  clear hK K
  try simp only [Act.put, pa, pb, pc]
  refine tk (v := .bool true) 2 11 rfl (fun w' hS' => ?_) (by assumption) ?_
  ·(try dsimp only at hS'); go_simp
  try simp only [Act.put, pa, pb, pc]
  refine tk (v := .bool true) 3 12 rfl (fun w' hS' => ?_) (by assumption) ?_
  ·(try dsimp only at hS'); go_simp
  try simp only [Act.put, pa, pb, pc]
  refine tu 4 13 rfl (by assumption) ?_
  try simp only [Act.put, pa, pb, pc]
  refine tu 5 14 rfl (by assumption) ?_
  try simp only [Act.put, pa, pb, pc]
  refine tu 6 15 rfl (by assumption) ?_
  try simp only [Act.put, pa, pb, pc]
  refine tu 7 16 rfl (by assumption) ?_
  try simp only [Act.put, pa, pb, pc]
  refine tu 8 17 rfl (by assumption) ?_
  try simp only [Act.put, pa, pb, pc]
  refine tu 9 18 rfl (by assumption) ?_
  try simp only [Act.put, pa, pb, pc]
  refine tu 10 19 rfl (by assumption) ?_
  try simp only [Act.put, pa, pb, pc]
  refine tk (v := .bool true) 11 20 rfl (fun w' hS' => ?_) (by assumption) ?_
  ·(try dsimp only at hS'); go_simp
  try simp only [Act.put, pa, pb, pc]
  refine wpAnyH_done (by kernel_rfl) ?_ _
  have HK : Below w.heap.size w _ := b0.trans (hS.2.2.2.2.2.mono b0.size)
  have HKH := Lib.hid HK
  clear hS SX RD HK
  go_wp2
  go_ret2
  rw [HN.out.1, HN.out.2]
  exact ⟨_, rfl, nilOwn _ _ rfl HKH.out.size, HKH.out⟩
 cases hi : inB r x.from_ (headRevT x)
 ·have HN := Lib.hid (show textAtB x r = false ∧ opsSinceT x r = [] from opsSince_f (by unfold textAtB; rw [hd, hi]; rfl))
  go_enter Tryz.func33, Tryz.ntmps33
  go_wp2
  generalize w.alloc (.cells #[.string x.name, .int .i64 x.from_, .slice A2 x.text.length c2, .slice A3 x.list.length c3, .slice A4 x.seen.length c4] 36) = W1 at b0 bx ⊢
  have y0 : W1.cell? ⟨w.heap.size, 0, none⟩ = some (.string x.name) := bx.cell rfl
  have y1 : W1.cell? ⟨w.heap.size, 1, none⟩ = some (.int .i64 x.from_) := bx.cell rfl
  have y2 : W1.cell? ⟨w.heap.size, 2, none⟩ = some (.slice A2 x.text.length c2) := bx.cell rfl
  have y3 : W1.cell? ⟨w.heap.size, 3, none⟩ = some (.slice A3 x.list.length c3) := bx.cell rfl
  have y4 : W1.cell? ⟨w.heap.size, 4, none⟩ = some (.slice A4 x.seen.length c4) := bx.cell rfl
  have lD := bx.lt
  have SX := Lib.hid (show ∀ (W W' : World), (W.cell? ⟨w.heap.size, 0, none⟩ = some (.string x.name) ∧ W.cell? ⟨w.heap.size, 1, none⟩ = some (.int .i64 x.from_) ∧ W.cell? ⟨w.heap.size, 2, none⟩ = some (.slice A2 x.text.length c2) ∧ W.cell? ⟨w.heap.size, 3, none⟩ = some (.slice A3 x.list.length c3) ∧ W.cell? ⟨w.heap.size, 4, none⟩ = some (.slice A4 x.seen.length c4) ∧ KS W1 W) → Below W.heap.size W W' → (W'.cell? ⟨w.heap.size, 0, none⟩ = some (.string x.name) ∧ W'.cell? ⟨w.heap.size, 1, none⟩ = some (.int .i64 x.from_) ∧ W'.cell? ⟨w.heap.size, 2, none⟩ = some (.slice A2 x.text.length c2) ∧ W'.cell? ⟨w.heap.size, 3, none⟩ = some (.slice A3 x.list.length c3) ∧ W'.cell? ⟨w.heap.size, 4, none⟩ = some (.slice A4 x.seen.length c4) ∧ KS W1 W') from fun W W' h hb => by have hk := h.2.2.2.2.2; have hkk : KS W1 W' := hk.trans (hb.mono hk.size); exact ⟨(hkk.cell (p := ⟨w.heap.size, 0, none⟩) lD).trans y0, (hkk.cell (p := ⟨w.heap.size, 1, none⟩) lD).trans y1, (hkk.cell (p := ⟨w.heap.size, 2, none⟩) lD).trans y2, (hkk.cell (p := ⟨w.heap.size, 3, none⟩) lD).trans y3, (hkk.cell (p := ⟨w.heap.size, 4, none⟩) lD).trans y4, hkk⟩)
  have RD := Lib.hid (show ∀ W : World, (W.cell? ⟨w.heap.size, 0, none⟩ = some (.string x.name) ∧ W.cell? ⟨w.heap.size, 1, none⟩ = some (.int .i64 x.from_) ∧ W.cell? ⟨w.heap.size, 2, none⟩ = some (.slice A2 x.text.length c2) ∧ W.cell? ⟨w.heap.size, 3, none⟩ = some (.slice A3 x.list.length c3) ∧ W.cell? ⟨w.heap.size, 4, none⟩ = some (.slice A4 x.seen.length c4) ∧ KS W1 W) → RdC W W.heap.size (datDo x) (.agg #[.string x.name, .int .i64 x.from_, .slice A2 x.text.length c2, .slice A3 x.list.length c3, .slice A4 x.seen.length c4]) from fun W h => by have hk : Below W1.heap.size W1 W := h.2.2.2.2.2; exact (HR.out.past b0).past hk)
  have hS0 : W1.drew.cell? ⟨w.heap.size, 0, none⟩ = some (.string x.name) ∧ W1.drew.cell? ⟨w.heap.size, 1, none⟩ = some (.int .i64 x.from_) ∧ W1.drew.cell? ⟨w.heap.size, 2, none⟩ = some (.slice A2 x.text.length c2) ∧ W1.drew.cell? ⟨w.heap.size, 3, none⟩ = some (.slice A3 x.list.length c3) ∧ W1.drew.cell? ⟨w.heap.size, 4, none⟩ = some (.slice A4 x.seen.length c4) ∧ KS W1 W1.drew := ⟨y0, y1, y2, y3, y4, KS.start _⟩
  clear y0 y1 y2 y3 y4
  refine wp_region_held_drew (S := fun W => W.cell? ⟨w.heap.size, 0, none⟩ = some (.string x.name) ∧ W.cell? ⟨w.heap.size, 1, none⟩ = some (.int .i64 x.from_) ∧ W.cell? ⟨w.heap.size, 2, none⟩ = some (.slice A2 x.text.length c2) ∧ W.cell? ⟨w.heap.size, 3, none⟩ = some (.slice A3 x.list.length c3) ∧ W.cell? ⟨w.heap.size, 4, none⟩ = some (.slice A4 x.seen.length c4) ∧ KS W1 W) (by kernel_rfl) hS0 (fun hS => ?_)
  refine tk (v := .agg #[.string x.name, .int .i64 x.from_, .slice A2 x.text.length c2, .slice A3 x.list.length c3, .slice A4 x.seen.length c4]) 0 9 rfl (fun w' hS' => ?_) (by assumption) ?_
  ·(try dsimp only at hS'); go_simp
  try simp only [Act.put, pa, pb, pc]
  refine r1 1 (some 10) rfl (fun K hK => ?_)
  go_simp
  refine (specDocOk_d _ x _ (RD.out _ (by assumption)) hs).mono ?_
  rw [hd]
  rintro e w2 ⟨rfl, b2⟩
  refine hK.out _ _ (SX.out _ _ (by assumption) b2) (fun hS => ?_)
  clear hK K
  try simp only [Act.put, pa, pb, pc]
  refine tk (v := .bool false) 2 11 rfl (fun w' hS' => ?_) (by assumption) ?_
  ·(try dsimp only at hS'); go_simp
  try simp only [Act.put, pa, pb, pc]
  refine tk (v := .bool false) 3 12 rfl (fun w' hS' => ?_) (by assumption) ?_
  ·(try dsimp only at hS'); go_simp
  try simp only [Act.put, pa, pb, pc]
  refine tk (v := .int .i64 r) 4 13 rfl (fun w' hS' => ?_) (by assumption) ?_
  ·(try dsimp only at hS'); go_simp
  try simp only [Act.put, pa, pb, pc]
  refine tk (v := .pointer (some ⟨w.heap.size, 1, none⟩)) 5 14 rfl (fun w' hS' => ?_) (by assumption) ?_
  ·(try dsimp only at hS'); go_simp
  try simp only [Act.put, pa, pb, pc]
  refine tk (v := .int .i64 x.from_) 6 15 rfl (fun w' hS' => ?_) (by assumption) ?_
  ·(try dsimp only at hS'); go_simp
  try simp only [Act.put, pa, pb, pc]
  refine tk (v := .agg #[.string x.name, .int .i64 x.from_, .slice A2 x.text.length c2, .slice A3 x.list.length c3, .slice A4 x.seen.length c4]) 7 16 rfl (fun w' hS' => ?_) (by assumption) ?_
  ·(try dsimp only at hS'); go_simp
  try simp only [Act.put, pa, pb, pc]
  refine r1 8 (some 17) rfl (fun K hK => ?_)
  go_simp
  refine (specHeadRev_d _ x _ (RD.out _ (by assumption)) hs).mono ?_
  rintro e w3 ⟨rfl, b3⟩
  refine hK.out _ _ (SX.out _ _ (by assumption) b3) (fun hS => ?_)
  clear hK K
  try simp only [Act.put, pa, pb, pc]
  refine r1 9 (some 18) rfl (fun K hK => ?_)
  go_simp
  refine (in_any _ _ _ _).mono ?_
  rw [hi]
  rintro e w4 ⟨rfl, rfl⟩
  refine hK.out _ _ (by assumption) (fun hS => ?_)
  clear hK K
  try simp only [Act.put, pa, pb, pc]
  refine tk (v := .bool true) 10 19 rfl (fun w' hS' => ?_) (by assumption) ?_
  ·(try dsimp only at hS'); go_simp
  try simp only [Act.put, pa, pb, pc]
  refine tk (v := .bool true) 11 20 rfl (fun w' hS' => ?_) (by assumption) ?_
  ·(try dsimp only at hS'); go_simp
  try simp only [Act.put, pa, pb, pc]
  refine wpAnyH_done (by kernel_rfl) ?_ _
  have HK : Below w.heap.size w _ := b0.trans (hS.2.2.2.2.2.mono b0.size)
  have HKH := Lib.hid HK
  clear hS SX RD HK
  go_wp2
  go_ret2
  rw [HN.out.1, HN.out.2]
  exact ⟨_, rfl, nilOwn _ _ rfl HKH.out.size, HKH.out⟩
 obtain ⟨f0, f1, f2, f3⟩ := docB_of hd
 have hi1 := of_decide_eq_true hi
 rw [f3] at hi1
 clear f3
 obtain ⟨m, hm⟩ : ∃ m : Nat, r = x.from_ + (m : Int) := ⟨(r - x.from_).toNat, by omega⟩
 subst hm
 have hm1 : m ≤ x.list.length := by omega
 have hc3 : x.list.length ≤ c3 := by obtain ⟨A, c, e, hc⟩ := RdC.len r3; injection e with _ _ e3; subst e3; simpa using hc
 have g1 : x.from_ + (m : Int) - x.from_ = (m : Int) := by omega
 have g2 : (m : Int) ≤ (x.list.length : Int) := by omega
 have HN := Lib.hid (show textAtB x (x.from_ + (m : Int)) = true ∧ opsSinceT x (x.from_ + (m : Int)) = (x.list.drop m).map En.o by have e1 : textAtB x (x.from_ + (m : Int)) = true := by { unfold textAtB; rw [hd, hi]; rfl }; exact ⟨e1, by unfold opsSinceT; rw [if_pos e1]; congr 2; omega⟩)
 go_enter Tryz.func33, Tryz.ntmps33
 go_wp2
 generalize w.alloc (.cells #[.string x.name, .int .i64 x.from_, .slice A2 x.text.length c2, .slice A3 x.list.length c3, .slice A4 x.seen.length c4] 36) = W1 at b0 bx ⊢
 have y0 : W1.cell? ⟨w.heap.size, 0, none⟩ = some (.string x.name) := bx.cell rfl
 have y1 : W1.cell? ⟨w.heap.size, 1, none⟩ = some (.int .i64 x.from_) := bx.cell rfl
 have y2 : W1.cell? ⟨w.heap.size, 2, none⟩ = some (.slice A2 x.text.length c2) := bx.cell rfl
 have y3 : W1.cell? ⟨w.heap.size, 3, none⟩ = some (.slice A3 x.list.length c3) := bx.cell rfl
 have y4 : W1.cell? ⟨w.heap.size, 4, none⟩ = some (.slice A4 x.seen.length c4) := bx.cell rfl
 have lD := bx.lt
 have SX := Lib.hid (show ∀ (W W' : World), (W.cell? ⟨w.heap.size, 0, none⟩ = some (.string x.name) ∧ W.cell? ⟨w.heap.size, 1, none⟩ = some (.int .i64 x.from_) ∧ W.cell? ⟨w.heap.size, 2, none⟩ = some (.slice A2 x.text.length c2) ∧ W.cell? ⟨w.heap.size, 3, none⟩ = some (.slice A3 x.list.length c3) ∧ W.cell? ⟨w.heap.size, 4, none⟩ = some (.slice A4 x.seen.length c4) ∧ KS W1 W) → Below W.heap.size W W' → (W'.cell? ⟨w.heap.size, 0, none⟩ = some (.string x.name) ∧ W'.cell? ⟨w.heap.size, 1, none⟩ = some (.int .i64 x.from_) ∧ W'.cell? ⟨w.heap.size, 2, none⟩ = some (.slice A2 x.text.length c2) ∧ W'.cell? ⟨w.heap.size, 3, none⟩ = some (.slice A3 x.list.length c3) ∧ W'.cell? ⟨w.heap.size, 4, none⟩ = some (.slice A4 x.seen.length c4) ∧ KS W1 W') from fun W W' h hb => by have hk := h.2.2.2.2.2; have hkk : KS W1 W' := hk.trans (hb.mono hk.size); exact ⟨(hkk.cell (p := ⟨w.heap.size, 0, none⟩) lD).trans y0, (hkk.cell (p := ⟨w.heap.size, 1, none⟩) lD).trans y1, (hkk.cell (p := ⟨w.heap.size, 2, none⟩) lD).trans y2, (hkk.cell (p := ⟨w.heap.size, 3, none⟩) lD).trans y3, (hkk.cell (p := ⟨w.heap.size, 4, none⟩) lD).trans y4, hkk⟩)
 have RD := Lib.hid (show ∀ W : World, (W.cell? ⟨w.heap.size, 0, none⟩ = some (.string x.name) ∧ W.cell? ⟨w.heap.size, 1, none⟩ = some (.int .i64 x.from_) ∧ W.cell? ⟨w.heap.size, 2, none⟩ = some (.slice A2 x.text.length c2) ∧ W.cell? ⟨w.heap.size, 3, none⟩ = some (.slice A3 x.list.length c3) ∧ W.cell? ⟨w.heap.size, 4, none⟩ = some (.slice A4 x.seen.length c4) ∧ KS W1 W) → RdC W W.heap.size (datDo x) (.agg #[.string x.name, .int .i64 x.from_, .slice A2 x.text.length c2, .slice A3 x.list.length c3, .slice A4 x.seen.length c4]) from fun W h => by have hk : Below W1.heap.size W1 W := h.2.2.2.2.2; exact (HR.out.past b0).past hk)
 have hS0 : W1.drew.cell? ⟨w.heap.size, 0, none⟩ = some (.string x.name) ∧ W1.drew.cell? ⟨w.heap.size, 1, none⟩ = some (.int .i64 x.from_) ∧ W1.drew.cell? ⟨w.heap.size, 2, none⟩ = some (.slice A2 x.text.length c2) ∧ W1.drew.cell? ⟨w.heap.size, 3, none⟩ = some (.slice A3 x.list.length c3) ∧ W1.drew.cell? ⟨w.heap.size, 4, none⟩ = some (.slice A4 x.seen.length c4) ∧ KS W1 W1.drew := ⟨y0, y1, y2, y3, y4, KS.start _⟩
 clear y0 y1 y2 y3 y4
 refine wp_region_held_drew (S := fun W => W.cell? ⟨w.heap.size, 0, none⟩ = some (.string x.name) ∧ W.cell? ⟨w.heap.size, 1, none⟩ = some (.int .i64 x.from_) ∧ W.cell? ⟨w.heap.size, 2, none⟩ = some (.slice A2 x.text.length c2) ∧ W.cell? ⟨w.heap.size, 3, none⟩ = some (.slice A3 x.list.length c3) ∧ W.cell? ⟨w.heap.size, 4, none⟩ = some (.slice A4 x.seen.length c4) ∧ KS W1 W) (by kernel_rfl) hS0 (fun hS => ?_)
 refine tk (v := .agg #[.string x.name, .int .i64 x.from_, .slice A2 x.text.length c2, .slice A3 x.list.length c3, .slice A4 x.seen.length c4]) 0 9 rfl (fun w' hS' => ?_) (by assumption) ?_
 ·(try dsimp only at hS'); go_simp
 try simp only [Act.put, pa, pb, pc]
 refine r1 1 (some 10) rfl (fun K hK => ?_)
 go_simp
 refine (specDocOk_d _ x _ (RD.out _ (by assumption)) hs).mono ?_
 rw [hd]
 rintro e w2 ⟨rfl, b2⟩
 refine hK.out _ _ (SX.out _ _ (by assumption) b2) (fun hS => ?_)
 clear hK K
 try simp only [Act.put, pa, pb, pc]
 refine tk (v := .bool false) 2 11 rfl (fun w' hS' => ?_) (by assumption) ?_
 ·(try dsimp only at hS'); go_simp
 try simp only [Act.put, pa, pb, pc]
 refine tk (v := .bool false) 3 12 rfl (fun w' hS' => ?_) (by assumption) ?_
 ·(try dsimp only at hS'); go_simp
 try simp only [Act.put, pa, pb, pc]
 refine tk (v := .int .i64 (x.from_ + (m : Int))) 4 13 rfl (fun w' hS' => ?_) (by assumption) ?_
 ·(try dsimp only at hS'); go_simp
 try simp only [Act.put, pa, pb, pc]
 refine tk (v := .pointer (some ⟨w.heap.size, 1, none⟩)) 5 14 rfl (fun w' hS' => ?_) (by assumption) ?_
 ·(try dsimp only at hS'); go_simp
 try simp only [Act.put, pa, pb, pc]
 refine tk (v := .int .i64 x.from_) 6 15 rfl (fun w' hS' => ?_) (by assumption) ?_
 ·(try dsimp only at hS'); go_simp
 try simp only [Act.put, pa, pb, pc]
 refine tk (v := .agg #[.string x.name, .int .i64 x.from_, .slice A2 x.text.length c2, .slice A3 x.list.length c3, .slice A4 x.seen.length c4]) 7 16 rfl (fun w' hS' => ?_) (by assumption) ?_
 ·(try dsimp only at hS'); go_simp
 try simp only [Act.put, pa, pb, pc]
 refine r1 8 (some 17) rfl (fun K hK => ?_)
 go_simp
 refine (specHeadRev_d _ x _ (RD.out _ (by assumption)) hs).mono ?_
 rintro e w3 ⟨rfl, b3⟩
 refine hK.out _ _ (SX.out _ _ (by assumption) b3) (fun hS => ?_)
 clear hK K
 try simp only [Act.put, pa, pb, pc]
 refine r1 9 (some 18) rfl (fun K hK => ?_)
 go_simp
 refine (in_any _ _ _ _).mono ?_
 rw [hi]
 rintro e w4 ⟨rfl, rfl⟩
 refine hK.out _ _ (by assumption) (fun hS => ?_)
 clear hK K
 try simp only [Act.put, pa, pb, pc]
 refine tk (v := .bool false) 10 19 rfl (fun w' hS' => ?_) (by assumption) ?_
 ·(try dsimp only at hS'); go_simp
 try simp only [Act.put, pa, pb, pc]
 refine tk (v := .bool false) 11 20 rfl (fun w' hS' => ?_) (by assumption) ?_
 ·(try dsimp only at hS'); go_simp
 try simp only [Act.put, pa, pb, pc]
 refine wpAnyH_done (by kernel_rfl) ?_ _
 have HK : Below w.heap.size w _ := b0.trans (hS.2.2.2.2.2.mono b0.size)
 obtain ⟨y0, y1, y2, y3, y4, hks⟩ := hS
 have lD2 : w.heap.size < w3.heap.size := Nat.lt_of_lt_of_le lD hks.size
 have HKH := Lib.hid HK
 clear SX RD hks hd hi
 by_cases hlast : m = x.list.length
 ·subst hlast
  have HN2 := Lib.hid (show (x.list.drop x.list.length).map En.o = [] by simp)
  have ob : OwB w.heap.size (w3.heap.size + 1) (w3.alloc (.cells #[] 30)) (encPss []) (.slice (some ⟨w3.heap.size, 0, none⟩) 0 0) [w3.heap.size] := ⟨⟨[], [], ⟨rfl, .inr ⟨w3.heap.size, 0, #[], rfl, Nat.zero_le _, heap_alloc_new w3 _, Nat.le_refl _, by unfold maxLen; omega, rfl, rfl⟩⟩, ⟨rfl, rfl⟩, rfl⟩, by simp, fun q hq => by simp at hq; omega, by rw [World.size_alloc]; exact Nat.le_refl _, by omega⟩
  have bZ := HKH.out.trans ((alloc_below w3 (.cells #[] 30)).mono HKH.out.size)
  have zZ : (w3.alloc (.cells #[] 30)).heap.size = w3.heap.size + 1 := World.size_alloc _ _
  rw [← zZ] at ob
  have OB := Lib.hid ob
  clear ob
  by_cases hcap : x.list.length = c3
  ·go_wp2
   refine wp_loop_rounds 1 ?_
   rw [rounds_succ]
   go_wp2
   go_ret2
   rw [HN.out.1, HN.out.2, HN2.out]
   exact ⟨_, rfl, ⟨_, OB.out.ow, OB.out.nd, OB.out.rng, Nat.le_refl _, OB.out.le⟩, bZ⟩
  ·go_wp2
   refine wp_loop_rounds 1 ?_
   rw [rounds_succ]
   go_wp2
   go_ret2
   rw [HN.out.1, HN.out.2, HN2.out]
   exact ⟨_, rfl, ⟨_, OB.out.ow, OB.out.nd, OB.out.rng, Nat.le_refl _, OB.out.le⟩, bZ⟩
 ·have hlt : m < x.list.length := by omega
  obtain ⟨b, off, e0, A50, c50, rfl, _, _, _⟩ := atEns r3 hlt
  have g3 : ¬ m = c3 := by omega
  obtain ⟨i0, hi0, hz0, hz1, hz2⟩ := info_parts pssInfo
  obtain ⟨n, hn⟩ : ∃ n, n = x.list.length - m := ⟨_, rfl⟩
  have ob : OwB w.heap.size (w3.heap.size + 1) (w3.alloc (.cells #[] 30)) (encPss []) (.slice (some ⟨w3.heap.size, 0, none⟩) 0 0) [w3.heap.size] := ⟨⟨[], [], ⟨rfl, .inr ⟨w3.heap.size, 0, #[], rfl, Nat.zero_le _, heap_alloc_new w3 _, Nat.le_refl _, by unfold maxLen; omega, rfl, rfl⟩⟩, ⟨rfl, rfl⟩, rfl⟩, by simp, fun q hq => by simp at hq; omega, by rw [World.size_alloc]; exact Nat.le_refl _, by omega⟩
  have bZ := HKH.out.trans ((alloc_below w3 (.cells #[] 30)).mono HKH.out.size)
  have zZ : (w3.alloc (.cells #[] 30)).heap.size = w3.heap.size + 1 := World.size_alloc _ _
  rw [← zZ] at ob
  have OB := Lib.hid ob
  clear ob
  go_wp2
  rw [← hn]
  have hn1 : n + m ≤ x.list.length := by omega
  have hn2 : x.list.length ≤ n + m := by omega
  clear hn
  clear g1 g2 g3 y0 y1 y2 y3 y4
  go_loopw [6, 30] (fun ov i wr => ∃ (j : Nat) (A1 : Option Addr) (c1 : Nat) (bs : List Nat), j ≤ n ∧ i = .int .i64 (j : Int) ∧ ov = .slice A1 j c1 ∧ OwB w.heap.size wr.heap.size wr (encPss (((x.list.drop m).take j).map En.o)) ov bs ∧ Below w.heap.size w wr) (fun _ i _ => n - (intOf i).toNat)
  case atStart => exact ⟨0, _, _, _, Nat.zero_le _, rfl, rfl, OB.out, bZ⟩
  case round =>
   obtain ⟨j, A1, c1, bs, hj, rfl, rfl, ho, hbel⟩ := hrel
   clear OB bZ zZ
   have HO := Lib.hid ho
   clear ho
   by_cases hjl : j < n
   ·obtain ⟨b', off', e, A5, c5, e1, hbb, hp, x0, x1, x2, q2⟩ := atEns (r3.below hbel) (i := m + j) (by omega)
    obtain ⟨rfl, rfl⟩ : b = b' ∧ off = off' := by injection e1 with e1; injection e1 with e1 e2; exact ⟨e1, e2⟩
    clear e1
    rw [Nat.add_mul, ← Nat.add_assoc] at x0 x1 x2
    have hse := hs.list.at_ (List.mem_of_getElem? hp)
    have HT := Lib.hid (show ((x.list.drop m).take (j + 1)).map En.o = ((x.list.drop m).take j).map En.o ++ [e.o] by rw [List.take_add_one, List.getElem?_drop, hp]; simp)
    clear hp
    have bA := alloc_below wr (.cells #[.int .i64 e.client, .int .i64 e.seq, .slice A5 e.o.length c5] 86)
    have q2 := RdC.more hbel.size _ _ q2
    have HO1 := Lib.hid (HO.out.past bA)
    have zA : (wr.alloc (.cells #[.int .i64 e.client, .int .i64 e.seq, .slice A5 e.o.length c5] 86)).heap.size = wr.heap.size + 1 := World.size_alloc _ _
    go_wp2_with fail
    generalize wr.alloc (.cells #[.int .i64 e.client, .int .i64 e.seq, .slice A5 e.o.length c5] 86) = W2 at bA HO1 zA ⊢
    refine (specCopy_d _ e.o _ (q2.past bA) hse.o).mono ?_
    rintro e_ w5 ⟨v5, rfl, o5, b5⟩
    obtain ⟨A6, c6, rfl⟩ := sliceP o5.read
    obtain ⟨kx, ox⟩ := o5.blocks
    have z5 := b5.size
    have d5 := hbel.trans ((bA.trans (b5.mono bA.size)).mono hbel.size)
    have bB := alloc_below w5 (.cells #[.slice A6 e.o.length c6] 30)
    have HO2 := Lib.hid ((HO1.out.past b5).past bB)
    have HX := Lib.hid (ox.past bB)
    have HNW := Lib.hid (World.news_of_block (cs := #[.slice A6 e.o.length c6]) (t := 30) (fr := (0, 0)) (heap_alloc_new w5 (.cells #[.slice A6 e.o.length c6] 30)))
    have d6 := d5.trans (bB.mono d5.size)
    have e1 : ((((x.list.drop m).take j).map En.o).map fun ps => [encPs ps]).length = j := by simp; omega
    clear ox o5 b5 bB
    go_wp2_with (at_builtin; refine wpList_append_row rfl (.tmp 34) (.tmp 38) 61 rfl 30 i0 (.slice none 0 0) 1 24 Tryz.underlying61 hi0 hz0 hz1 hz2 rfl (by decide) (by decide) w.heap.size _ (.slice A1 j c1) ((((x.list.drop m).take j).map En.o).map fun ps => [encPs ps]) bs HO2.out rfl (by rw [e1]; omega) ⟨w5.heap.size, 0, none⟩ _ [.slice A6 e.o.length c6] rfl rfl HNW.out (by simp [Value.oneCell']) [encPs e.o] kx HX.out.ow.row1 HX.out.nd (fun q hq hq' => by have q1 := (HO2.out.rng q hq).2; have q2 := (HX.out.rng q hq').1; omega) (fun q hq => by have q2 := (HX.out.rng q hq).1; have := hbel.size; omega) ?_; intro A7 c7 w7 b7 o7 in7 g7 bl7; rw [e1])
    have O7 := Lib.hid (show OwB w.heap.size w7.heap.size w7 (encPss (((x.list.drop m).take (j + 1)).map En.o)) (.slice A7 (j + 1) c7) b7 by rw [HT.out]; rw [e1] at o7; unfold encPss; rw [List.map_append]; exact o7)
    have d7 := d6.trans bl7
    clear o7 in7 g7 bl7
    go_wp2
    go_roundw
    case rel => exact ⟨j + 1, A7, c7, b7, by omega, by go_num, rfl, O7.out, d7⟩
    case measure => simp [intOf]; omega
   ·obtain rfl : j = n := by omega
    have hE : (x.list.drop m).take j = x.list.drop m := List.take_of_length_le (by rw [List.length_drop]; omega)
    have k1 := HO.out
    rw [hE] at k1
    have K1 := Lib.hid k1
    clear k1
    go_wp2
    go_ret2
    rw [HN.out.1, HN.out.2]
    exact ⟨_, rfl, ⟨bs, K1.out.ow, K1.out.nd, K1.out.rng, Nat.le_refl _, K1.out.le⟩, hbel⟩
end Go.Proofs.YtbpeeokgpkjnmaaGreatDoor.low
namespace Go.Proofs.YtbpeeokgpkjnmaaGreatDoor.low
set_option linter.unusedVariables false
end Go.Proofs.YtbpeeokgpkjnmaaGreatDoor.low
namespace Go.Proofs.YtbpeeokgpkjnmaaGreatDoor.low
open Go.RowKit
set_option linter.unusedVariables false
def loopsOf : Code → List Code
 | .loop c => [c]
 | .seq a b => loopsOf a ++ loopsOf b
 | .cond _ a b => loopsOf a ++ loopsOf b
 | .block _ c => loopsOf c
 | .scope c => loopsOf c
 | _ => []
def CoR (K : Fx) (go : Nat) (w0 w' : World) : Prop := ∃ O L RX RY, CB K go 134 O L w' none none RX RY ∧ CInv K.a K.b RX RY L ∧ Below K.lo w0 w'
theorem CoR.mk {K : Fx} {go : Nat} {w0 w' : World} {O : Nat → Prop} {L : List Pt} {RX RY : List U} (h : CB K go 134 O L w' none none RX RY) (hi : CInv K.a K.b RX RY L) (D : Below K.lo w0 w') : CoR K go w0 w' := ⟨O, L, RX, RY, h, hi, D⟩
theorem heap_old (w : World) (o : Obj) {g : Nat} {x : Obj} (h : w.heap[g]? = some x) : (w.alloc o).heap[g]? = some x := by
 rw [Below.heap_alloc _ _ _ (lt_of_some h)]
 exact h
theorem cur_new {w : World} {g : Nat} {T : TypeId} {A : Option Addr} {c : Nat} {ps : List Pt} (h : w.heap[g]? = some (.cells #[.slice A ps.length c, .int .i64 0, .int .i64 0] T (0, 0))) : ∃ i d, Cur g T w A c ps i d ∧ rem ps i d = units ps ∧ Sett ps i d none :=
 ⟨0, 0, ⟨h, Nat.zero_le _, fun _ _ => Nat.zero_le _, fun _ => rfl⟩, by simp [rem], trivial⟩
theorem Cs.new {w w' : World} {A B : Option Addr} {ca cb lo : Nat} {a b : List Pt} {TC : TypeId} (hlo : lo ≤ w.heap.size) (ra : RdC w lo (encPs a) (.slice A a.length ca)) (rb : RdC w lo (encPs b) (.slice B b.length cb)) (sa : ∀ p ∈ a, szP_ p) (sb : ∀ p ∈ b, szP_ p) (na : a.length ≤ 1048576) (nb : b.length ≤ 1048576)
  (hx : w'.heap[w.heap.size]? = some (.cells #[.slice A a.length ca, .int .i64 0, .int .i64 0] TC (0, 0))) (hy : w'.heap[w.heap.size + 1]? = some (.cells #[.slice B b.length cb, .int .i64 0, .int .i64 0] TC (0, 0))) (hb : Below lo w w') : Cs ⟨lo, w.heap.size, w.heap.size + 1, TC, A, ca, a, B, cb, b⟩ w' none none (units a) (units b) :=
 ⟨cur_new hx, cur_new hy, ra.below hb, rb.below hb, by simp, hlo, Nat.le_succ_of_le hlo, sa, sb, na, nb⟩
theorem CB.new {w : World} {A B : Option Addr} {ca cb lo : Nat} {a b : List Pt} {TC TB : TypeId} (hlo : lo ≤ w.heap.size) (ra : RdC w lo (encPs a) (.slice A a.length ca)) (rb : RdC w lo (encPs b) (.slice B b.length cb)) (sa : ∀ p ∈ a, szP_ p) (sb : ∀ p ∈ b, szP_ p) (na : a.length ≤ 1048576) (nb : b.length ≤ 1048576) :
  CB ⟨lo, w.heap.size, w.heap.size + 1, TC, A, ca, a, B, cb, b⟩ (w.heap.size + 1 + 1) TB (fun q => q = w.heap.size + 1 + 1) [] (((w.alloc (.cells #[.slice A a.length ca, .int .i64 0, .int .i64 0] TC)).alloc (.cells #[.slice B b.length cb, .int .i64 0, .int .i64 0] TC)).alloc (.cells #[.slice none 0 0, .slice none 0 0, .int .i64 0] TB)) none none (units a) (units b) ∧
  Below lo w (((w.alloc (.cells #[.slice A a.length ca, .int .i64 0, .int .i64 0] TC)).alloc (.cells #[.slice B b.length cb, .int .i64 0, .int .i64 0] TC)).alloc (.cells #[.slice none 0 0, .slice none 0 0, .int .i64 0] TB)) := by
 have s1 : (w.alloc (.cells #[.slice A a.length ca, .int .i64 0, .int .i64 0] TC)).heap.size = w.heap.size + 1 := Array.size_push ..
 have s2 : ((w.alloc (.cells #[.slice A a.length ca, .int .i64 0, .int .i64 0] TC)).alloc (.cells #[.slice B b.length cb, .int .i64 0, .int .i64 0] TC)).heap.size = w.heap.size + 1 + 1 := by rw [← s1]; exact Array.size_push ..
 have b1 := (((alloc_below w (.cells #[.slice A a.length ca, .int .i64 0, .int .i64 0] TC)).mono hlo).alloc (by rw [s1]; omega) (.cells #[.slice B b.length cb, .int .i64 0, .int .i64 0] TC)).alloc (by rw [s2]; omega) (.cells #[.slice none 0 0, .slice none 0 0, .int .i64 0] TB)
 have hb := Bld.new lo TB ((w.alloc (.cells #[.slice A a.length ca, .int .i64 0, .int .i64 0] TC)).alloc (.cells #[.slice B b.length cb, .int .i64 0, .int .i64 0] TC)) (by rw [s2]; omega)
 rw [s2] at hb
 exact ⟨⟨Cs.new hlo ra rb sa sb na nb (heap_old _ _ (heap_old _ _ (heap_alloc_new w _))) (heap_old _ _ (by rw [← s1]; exact heap_alloc_new _ _)) b1, hb, by show ¬ w.heap.size = _; omega, by show ¬ w.heap.size + 1 = _; omega⟩, b1⟩
def goodU (us : List U) : Prop := ∀ x, U.p x ∈ us → signB x = true
def part1 : U → Pt
 | .k => ⟨1, 1, []⟩
 | .p x => ⟨2, 0, [x]⟩
 | .d => ⟨3, 1, []⟩
def made (us : List U) : List Pt := doneN (foldU us)
theorem units_part1 : ∀ us : List U, units (us.map part1) = us
 | [] => rfl
 | u :: us => by
  rw [List.map_cons, units_cons, units_part1 us]
  cases u <;> rfl
theorem part1_sz (us : List U) : ∀ p ∈ us.map part1, szP_ p := fun p hp => by
 obtain ⟨u, _, rfl⟩ := List.mem_map.1 hp
 cases u
 ·exact ⟨.inl rfl, by simp [part1], by simp [part1], by simp [part1]⟩
 ·exact ⟨.inr (.inl rfl), by simp [part1], by simp [part1], by simp [part1]⟩
 ·exact ⟨.inr (.inr rfl), by simp [part1], by simp [part1], by simp [part1]⟩
theorem made_eq (us : List U) : made us = doneN (foldN (us.map part1)) := by unfold made; rw [foldN_units (part1_sz us), units_part1]
theorem units_made (us : List U) : units (made us) = nfU us := units_norm us
theorem len_st : ∀ us : List U, us.length ≤ src us + tgt us
 | [] => by simp
 | u :: us => by
  have := len_st us
  cases u <;> simp [src, tgt] <;> omega
theorem made_ok {us : List U} (hs : src us ≤ 200) (ht : tgt us ≤ 200) (hz : goodU us) : okOp (made us) = true ∧ normal (made us) ∧ sumK (made us) + sumD (made us) = (src us : Int) ∧ sumK (made us) + sumP (made us) = (tgt us : Int) := by
 have hsz := part1_sz us
 have hn : normal (made us) := by rw [made_eq]; exact normal_fold hsz
 obtain ⟨s1, s2, s3⟩ := sum_norm hsz
 rw [← made_eq] at s1 s2 s3
 obtain ⟨u1, u2⟩ := src_units hsz
 rw [units_part1] at u1 u2
 have hall : ∀ p ∈ made us, allB p.signs = true := by
  rw [made_eq]
  refine norm_allB (fun p hp => ?_)
  obtain ⟨u, hu, rfl⟩ := List.mem_map.1 hp
  cases u
  ·rfl
  ·rename_i x
   simp [part1, allB, hz x hu]
  ·rfl
 have n1 : ∀ f : Pt → Int, (∀ p, tidy p → 0 ≤ f p) → 0 ≤ sumOf f (made us) := fun f hf => by
  unfold sumOf
  have : ∀ (L : List Pt), (∀ p ∈ L, tidy p) → 0 ≤ (L.map f).sum := by
   intro L
   induction L with
   | nil => simp
   | cons p L ih =>
    intro h
    have a := hf p (h p (by simp))
    have b := ih (fun q hq => h q (by simp [hq]))
    simp
    omega
  exact this _ hn.1
 have k1 := n1 keepOf (fun p h => (tidy_nonneg h).1)
 have k2 := n1 putOf (fun p h => (tidy_nonneg h).2.1)
 have k3 := n1 dropOf (fun p h => (tidy_nonneg h).2.2)
 have hok : okPs (made us) = true := tidy_ok hn.1 hall (by omega) (by omega) (by omega)
 have hlen : (made us).length ≤ 600 := by
  have h1 := norm_length hsz
  rw [← made_eq, List.length_map] at h1
  have := len_st us
  omega
 have hop : okOp (made us) = true := of_okOp hok hlen (by omega) (by omega)
 obtain ⟨t1, t2, t3⟩ := sum_t (okOp_partsB hop)
 exact ⟨hop, hn, by rw [t1, t3]; omega, by rw [t1, t2]; omega⟩
theorem norm_made {a : List Pt} (h : okOp a = true) : normL a = made (units a) := by
 unfold normL made
 rw [if_pos h, foldN_units (okOp_units h).2.1]
theorem op_units {a : List Pt} (h : okOp a = true) : (src (units a) : Int) = sumK a + sumD a ∧ (tgt (units a) : Int) = sumK a + sumP a ∧ src (units a) ≤ 200 ∧ tgt (units a) ≤ 200 ∧ goodU (units a) := by
 obtain ⟨h1, h2, h3, h4, h5, h6, h7⟩ := okOp_of h
 obtain ⟨t1, t2, t3⟩ := sum_t (okOp_partsB h)
 obtain ⟨s1, s2⟩ := src_units (okPs_sz h1)
 refine ⟨by rw [t1, t3]; exact s1, by rw [t1, t2]; exact s2, by omega, by omega, fun x hx => ?_⟩
 unfold units at hx
 obtain ⟨p, hp, hx⟩ := List.mem_flatMap.1 hx
 have ha := okPs_allB h1 p hp
 unfold unitsP at hx
 split at hx
 ·have := List.eq_of_mem_replicate hx; cases this
 ·split at hx
  ·obtain ⟨z, hz, e⟩ := List.mem_map.1 hx
   injection e with e
   subst e
   unfold allB at ha
   exact List.all_eq_true.1 ha z hz
  ·have := List.eq_of_mem_replicate hx; cases this
theorem apply_mem : ∀ (us : List U) (t : List Int) (x : Int), x ∈ applyU us t → x ∈ t ∨ U.p x ∈ us
 | [], t, x, h => by simp [applyU] at h
 | .k :: us, t, x, h => by
  rw [applyU] at h
  rcases List.mem_append.1 h with h | h
  ·exact .inl (List.mem_of_mem_take h)
  ·rcases apply_mem us _ x h with h | h
   ·exact .inl (List.mem_of_mem_drop h)
   ·exact .inr (by simp [h])
 | .p y :: us, t, x, h => by
  rw [applyU] at h
  rcases List.mem_cons.1 h with rfl | h
  ·exact .inr (by simp)
  ·rcases apply_mem us _ x h with h | h
   ·exact .inl h
   ·exact .inr (by simp [h])
 | .d :: us, t, x, h => by
  rw [applyU] at h
  rcases apply_mem us _ x h with h | h
  ·exact .inl (List.mem_of_mem_drop h)
  ·exact .inr (by simp [h])
theorem okText_mem {t : List Int} (h : okText t = true) : ∀ x ∈ t, signB x = true := fun x hx => by
 unfold okText at h
 rw [Bool.and_eq_true] at h
 exact List.all_eq_true.1 h.1 x hx
theorem okText_mk {t : List Int} (h : ∀ x ∈ t, signB x = true) (hl : t.length ≤ 200) : okText t = true := by
 unfold okText allB
 rw [decide_eq_true hl, List.all_eq_true.2 h]
 rfl
theorem fits_mk {a : List Pt} {t : List Int} (ha : okOp a = true) (ht : okText t = true) (hs : sumK a + sumD a = (t.length : Int)) : fitsB a t = true := by
 unfold fitsB
 rw [ha, ht, decide_eq_true hs]
 rfl
theorem apply_ok {a : List Pt} {t : List Int} (ha : okOp a = true) (ht : okText t = true) (hs : sumK a + sumD a = (t.length : Int)) : fitsB a t = true ∧ applyT a t = applyU (units a) t ∧ okText (applyT a t) = true ∧ ((applyT a t).length : Int) = sumK a + sumP a ∧ src (units a) = t.length := by
 have hf := fits_mk ha ht hs
 obtain ⟨u1, u2, u3, u4, u5⟩ := op_units ha
 have hsrc : src (units a) = t.length := by omega
 have he := applyT_units hf
 have hl := apply_len_u (units a) t hsrc
 refine ⟨hf, he, ?_, by rw [he, hl]; exact u2, hsrc⟩
 rw [he]
 refine okText_mk (fun x hx => ?_) (by omega)
 rcases apply_mem _ _ _ hx with h | h
 ·exact okText_mem ht x h
 ·exact u5 x h
theorem signs_put : ∀ {ps : List Pt}, okPs ps = true → (signsIn ps : Int) = sumOf putOf ps
 | [], _ => by simp [signsIn, sumOf]
 | p :: ps, h => by
  unfold okPs at h
  rw [List.all_cons, Bool.and_eq_true] at h
  have ih := signs_put (ps := ps) h.2
  have e1 : signsIn (p :: ps) = p.signs.length + signsIn ps := by simp [signsIn]
  have e2 : sumOf putOf (p :: ps) = putOf p + sumOf putOf ps := by simp [sumOf]
  rw [e1, e2, ← ih]
  have := of_okPt h.1
  unfold putOf
  split <;> omega
theorem op_800 {o : List Pt} (h : okOp o = true) : o.length + signsIn o ≤ 800 := by
 have hh := h
 unfold okOp at h
 rw [Bool.and_eq_true, Bool.and_eq_true] at h
 obtain ⟨⟨h1, _⟩, h3⟩ := h
 have h3 := of_decide_eq_true h3
 obtain ⟨t1, t2, _⟩ := sum_t h1
 unfold partsB at h1
 rw [Bool.and_eq_true] at h1
 have h4 := of_decide_eq_true h1.2
 have hb := sums_bd h1.1 h4
 have hs := signs_put h1.1
 rw [t1, t2] at h3
 omega
theorem isNorm_800 {o : List Pt} (h : isNormL o = true) : o.length + signsIn o ≤ 800 := by
 unfold isNormL at h
 rw [Bool.and_eq_true] at h
 exact op_800 h.1
theorem chain_tot : ∀ {l : List En} {t : List Int}, chainGo l t = true → sumN totEn l ≤ 800 * l.length
 | [], _, _ => by simp [sumN]
 | e :: l, t, h => by
  unfold chainGo at h
  simp only [Bool.and_eq_true] at h
  have ih := chain_tot h.2
  have he : entryB e = true := h.1.1.2
  unfold entryB at he
  rw [Bool.and_eq_true] at he
  have := isNorm_800 he.2
  have e1 : totEn e = e.o.length + signsIn e.o := rfl
  rw [sumN_cons, List.length_cons, e1]
  omega
theorem seen_le : ∀ {l : List Se} {h : Int} {p : Int}, seenAllB h (some p) l = true → 0 ≤ p → p ≤ 8 → (l.length : Int) + p ≤ 8
 | [], _, _, _, _, _ => by simp; omega
 | s :: l, hh, p, h, h0, h8 => by
  unfold seenAllB seenOneB at h
  simp only [Bool.and_eq_true] at h
  have h1 := h.1.1.1.1
  have h2 := h.1.2
  unfold inB at h1
  have h1 := of_decide_eq_true h1
  have h2 : p < s.client := of_decide_eq_true h2
  have ih := seen_le h.2 (by omega) (by omega)
  rw [List.length_cons]
  omega
theorem seen_8 {l : List Se} {h : Int} (hs : seenAllB h none l = true) : l.length ≤ 8 := by
 cases l with
 | nil => simp
 | cons s l =>
  unfold seenAllB seenOneB at hs
  simp only [Bool.and_eq_true] at hs
  have h1 := hs.1.1.1.1
  unfold inB at h1
  have h1 := of_decide_eq_true h1
  have ih := seen_le hs.2 (by omega) (by omega)
  rw [List.length_cons]
  omega
structure DocIn (x : Do) : Prop where
 name : x.name.size ≤ 8
 from0 : 0 ≤ x.from_
 from1 : x.from_ ≤ 999999000
 text : x.text.length ≤ 200
 list : x.list.length ≤ 8
 ops : sumN totEn x.list ≤ 6400
 seen : x.seen.length ≤ 8
 head : headRevT x = x.from_ + (x.list.length : Int)
theorem docB_in {x : Do} (h : docB x = true) : DocIn x := by
 have hh := docB_of h
 unfold docB at h
 simp only [Bool.and_eq_true] at h
 obtain ⟨⟨⟨⟨⟨h1, h2⟩, h3⟩, h4⟩, h5⟩, h6⟩ := h
 unfold nameB inB at h1
 rw [Bool.and_eq_true] at h1
 have h1 := of_decide_eq_true h1.2
 unfold okText at h3
 rw [Bool.and_eq_true] at h3
 have h3 := of_decide_eq_true h3.2
 have h4 := of_decide_eq_true h4
 have h5 := chain_tot h5
 exact ⟨by omega, hh.1, hh.2.1, h3, h4, by omega, seen_8 h6, hh.2.2.2⟩
theorem sumN_drop {α : Type} (f : α → Nat) : ∀ (l : List α) (k : Nat), sumN f (l.drop k) ≤ sumN f l
 | _, 0 => by simp
 | [], k + 1 => by simp
 | x :: l, k + 1 => by
  have := sumN_drop f l k
  rw [List.drop_succ_cons, sumN_cons]
  omega
theorem docB_chain {x : Do} (h : docB x = true) : chainGo x.list x.text = true := by
 unfold docB at h
 simp only [Bool.and_eq_true] at h
 exact h.1.2
theorem smEns_drop {l : List En} (h : SmEns l) (m : Nat) : SmEns (l.drop m) := by
 unfold SmEns totEns at *
 have := sumN_drop totEn l m
 rw [List.length_drop]
 omega
end Go.Proofs.YtbpeeokgpkjnmaaGreatDoor.low
