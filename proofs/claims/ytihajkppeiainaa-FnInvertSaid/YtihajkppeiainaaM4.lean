/-
  Texts that the proofs over this seat rest on, one behind the other (4 of 4).
-/
import Derived.Test.YtihajkppeiainaaM2
import Derived.Test.YtihajkppeiainaaM3
import Derived.Laws.CopyOwn
import Derived.IntWalk
import Derived.Test.YtihajkppeiainaaM1
import Derived.Laws.BitsLemmas

/-
  Transformation: the loop's invariant on units, how a round goes on; the results.
-/
namespace Go.Proofs.Ytihajkppeiainaa.low
open Go.RowKit
set_option linter.unusedVariables false

structure XInv (a b : List Pt) (RX RY : List U) (L M : List Pt) : Prop where
  eq1 : units L ++ (xf RX RY).1 = (xf (units a) (units b)).1
  eq2 : units M ++ (xf RX RY).2 = (xf (units a) (units b)).2
  bal : src RX = src RY
  len : L.length + M.length + 2 * RX.length + 2 * RY.length ≤ 4000
section
variable {a b : List Pt} {RX RY : List U} {L M : List Pt}
theorem XInv.px {zs : List Int} (h : XInv a b (zs.map .p ++ RX) RY L M) (hn : 0 < zs.length) : XInv a b RX RY (L ++ [⟨2, 0, zs⟩]) (M ++ [⟨1, (zs.length : Int), []⟩]) := by
  refine ⟨?_, ?_, ?_, ?_⟩
  · rw [← h.eq1, xf_puts, units_app]; simp [units, unitsP]
  · rw [← h.eq2, xf_puts, units_app]; simp [units, unitsP]
  · have := h.bal; rw [src_app, (src_mp zs).1] at this; omega
  · have := h.len; simp at this ⊢; omega
theorem XInv.py {zs : List Int} (h : XInv a b RX (zs.map .p ++ RY) L M) (hp : noP RX) (hn : 0 < zs.length) : XInv a b RX RY (L ++ [⟨1, (zs.length : Int), []⟩]) (M ++ [⟨2, 0, zs⟩]) := by
  refine ⟨?_, ?_, ?_, ?_⟩
  · rw [← h.eq1, xf_putsB _ _ _ hp, units_app]; simp [units, unitsP]
  · rw [← h.eq2, xf_putsB _ _ _ hp, units_app]; simp [units, unitsP]
  · have := h.bal; rw [src_app, (src_mp zs).1] at this; omega
  · have := h.len; simp at this ⊢; omega
theorem XInv.kk {n : Nat} (h : XInv a b (List.replicate n .k ++ RX) (List.replicate n .k ++ RY) L M) (hn : 0 < n) : XInv a b RX RY (L ++ [⟨1, (n : Int), []⟩]) (M ++ [⟨1, (n : Int), []⟩]) := by
  refine ⟨?_, ?_, ?_, ?_⟩
  · rw [← h.eq1, xf_kk, units_app]; simp [units, unitsP]
  · rw [← h.eq2, xf_kk, units_app]; simp [units, unitsP]
  · have := h.bal; rw [src_app, src_app, (src_rk n).1] at this; omega
  · have := h.len; simp at this ⊢; omega
theorem XInv.dk {n : Nat} (h : XInv a b (List.replicate n .d ++ RX) (List.replicate n .k ++ RY) L M) (hn : 0 < n) : XInv a b RX RY (L ++ [⟨3, (n : Int), []⟩]) M := by
  refine ⟨?_, ?_, ?_, ?_⟩
  · rw [← h.eq1, xf_dk, units_app]; simp [units, unitsP]
  · rw [← h.eq2, xf_dk]
  · have := h.bal; rw [src_app, src_app, (src_rk n).1, (src_rd n).1] at this; omega
  · have := h.len; simp at this ⊢; omega
theorem XInv.kd {n : Nat} (h : XInv a b (List.replicate n .k ++ RX) (List.replicate n .d ++ RY) L M) (hn : 0 < n) : XInv a b RX RY L (M ++ [⟨3, (n : Int), []⟩]) := by
  refine ⟨?_, ?_, ?_, ?_⟩
  · rw [← h.eq1, xf_kd]
  · rw [← h.eq2, xf_kd, units_app]; simp [units, unitsP]
  · have := h.bal; rw [src_app, src_app, (src_rk n).1, (src_rd n).1] at this; omega
  · have := h.len; simp at this ⊢; omega
theorem XInv.dd {n : Nat} (h : XInv a b (List.replicate n .d ++ RX) (List.replicate n .d ++ RY) L M) : XInv a b RX RY L M := by
  refine ⟨?_, ?_, ?_, ?_⟩
  · rw [← h.eq1, xf_dd]
  · rw [← h.eq2, xf_dd]
  · have := h.bal; rw [src_app, src_app, (src_rd n).1] at this; omega
  · have := h.len; simp at this ⊢; omega
end
/-- how a round goes on -/
theorem xf_cases {RX RY : List U} (h : src RX = src RY) : (RX = [] ∧ RY = []) ∨ kindOf RX = 2 ∨ (noP RX ∧ (kindOf RX = 0 ∨ kindOf RX = 1 ∨ kindOf RX = 3) ∧ kindOf RY = 2) ∨ ((kindOf RX = 1 ∨ kindOf RX = 3) ∧ (kindOf RY = 1 ∨ kindOf RY = 3)) := by
  rcases RX with _ | ⟨ux, RX⟩
  · rcases RY with _ | ⟨uy, RY⟩
    · exact .inl ⟨rfl, rfl⟩
    · cases uy with
      | k => simp [src] at h
      | p z => exact .inr (.inr (.inl ⟨trivial, .inl rfl, rfl⟩))
      | d => simp [src] at h
  · cases ux with
    | p z => exact .inr (.inl rfl)
    | k =>
      rcases RY with _ | ⟨uy, RY⟩
      · simp [src] at h
      · cases uy with
        | k => exact .inr (.inr (.inr ⟨.inl rfl, .inl rfl⟩))
        | p z => exact .inr (.inr (.inl ⟨trivial, .inr (.inl rfl), rfl⟩))
        | d => exact .inr (.inr (.inr ⟨.inl rfl, .inr rfl⟩))
    | d =>
      rcases RY with _ | ⟨uy, RY⟩
      · simp [src] at h
      · cases uy with
        | k => exact .inr (.inr (.inr ⟨.inr rfl, .inl rfl⟩))
        | p z => exact .inr (.inr (.inl ⟨trivial, .inr (.inr rfl), rfl⟩))
        | d => exact .inr (.inr (.inr ⟨.inr rfl, .inr rfl⟩))
/-- the two results -/
def xfA (a b : List Pt) : List Pt := doneN (foldU (xf (units a) (units b)).1)
def xfB (a b : List Pt) : List Pt := doneN (foldU (xf (units a) (units b)).2)
def xformOk (a b : List Pt) : Bool := okOp a && okOp b && (sumK a + sumD a == sumK b + sumD b) && okOp (xfA a b) && okOp (xfB a b)
def xformA (a b : List Pt) : List Pt := if xformOk a b = true then xfA a b else []
def xformB (a b : List Pt) : List Pt := if xformOk a b = true then xfB a b else []
theorem xinv0 {a b : List Pt} (hoa : okOp a = true) (hob : okOp b = true) (hbal : sumK a + sumD a = sumK b + sumD b) : XInv a b (units a) (units b) [] [] := by
  obtain ⟨ua, hsa, _⟩ := okOp_units hoa
  obtain ⟨ub, hsb, _⟩ := okOp_units hob
  refine ⟨by simp [units_nil], by simp [units_nil], ?_, by simp; omega⟩
  have s1 := (src_units hsa).1
  have s2 := (src_units hsb).1
  obtain ⟨t1, t2, t3⟩ := sum_t (okOp_partsB hoa)
  obtain ⟨u1, u2, u3⟩ := sum_t (okOp_partsB hob)
  rw [t1, t3, u1, u3] at hbal
  omega
/-- two cursors and two builders -/
structure TT (K : Fx) (g1 g2 : Nat) (TB : TypeId) (O P : Nat → Prop) (L M : List Pt) (w : World) (sx sy : Option Nat) (RX RY : List U) : Prop where
  cs : Cs K w sx sy RX RY
  b1 : Bld O K.lo g1 TB w L
  b2 : Bld P K.lo g2 TB w M
  ox : ¬ O K.gx
  oy : ¬ O K.gy
  px : ¬ P K.gx
  py : ¬ P K.gy
  dis : ∀ q, O q → ¬ P q
section
variable {K : Fx} {g1 g2 : Nat} {TB : TypeId} {O O' P P' : Nat → Prop} {L L' M M' : List Pt} {w w' : World} {sx sy sx' sy' : Option Nat} {RX RY RX' RY' : List U}
theorem TT.one (h : TT K g1 g2 TB O P L M w sx sy RX RY) : CB K g1 TB O L w sx sy RX RY := ⟨h.cs, h.b1, h.ox, h.oy⟩
theorem TT.two (h : TT K g1 g2 TB O P L M w sx sy RX RY) : CB K g2 TB P M w sx sy RX RY := ⟨h.cs, h.b2, h.px, h.py⟩
theorem TT.mov (h : TT K g1 g2 TB O P L M w sx sy RX RY) (hc : Cs K w' sx' sy' RX' RY') (hf : Fr (fun q => q = K.gx) w w') : TT K g1 g2 TB O P L M w' sx' sy' RX' RY' :=
  ⟨hc, (h.one.mov hc hf).bd, (h.two.mov hc hf).bd, h.ox, h.oy, h.px, h.py, h.dis⟩
theorem TT.movy (h : TT K g1 g2 TB O P L M w sx sy RX RY) (hc : Cs K w' sx' sy' RX' RY') (hf : Fr (fun q => q = K.gy) w w') : TT K g1 g2 TB O P L M w' sx' sy' RX' RY' :=
  ⟨hc, (h.one.movy hc hf).bd, (h.two.movy hc hf).bd, h.ox, h.oy, h.px, h.py, h.dis⟩
theorem TT.past (h : TT K g1 g2 TB O P L M w sx sy RX RY) (hb : Below w.heap.size w w') : TT K g1 g2 TB O P L M w' sx sy RX RY := ⟨h.cs.past hb, h.b1.past hb, h.b2.past hb, h.ox, h.oy, h.px, h.py, h.dis⟩
theorem TT.bldr (h : TT K g1 g2 TB O P L M w sx sy RX RY) (hd : Bld O' K.lo g1 TB w' L') (hb : Below K.lo w w') (hg : Grew O O' w w') : TT K g1 g2 TB O' P L' M w' sx sy RX RY := by
  have h1 := h.one.bldr hd hb hg
  obtain ⟨h2, h3⟩ := h.b2.apart hg (fun q hq ho => h.dis q ho hq)
  exact ⟨h1.cs, hd, h2, h1.ox, h1.oy, h.px, h.py, fun q ho hp => h3 q hp ho⟩
theorem TT.bldr2 (h : TT K g1 g2 TB O P L M w sx sy RX RY) (hd : Bld P' K.lo g2 TB w' M') (hb : Below K.lo w w') (hg : Grew P P' w w') : TT K g1 g2 TB O P' L M' w' sx sy RX RY := by
  have h1 := h.two.bldr hd hb hg
  obtain ⟨h2, h3⟩ := h.b1.apart hg h.dis
  exact ⟨h1.cs, h2, hd, h.ox, h.oy, h1.ox, h1.oy, h3⟩
theorem TT.weak (h : TT K g1 g2 TB O P L M w sx sy RX RY) : TT K g1 g2 TB O P L M w none none RX RY := ⟨h.cs.weak, h.b1, h.b2, h.ox, h.oy, h.px, h.py, h.dis⟩
theorem TT.lo_le (h : TT K g1 g2 TB O P L M w sx sy RX RY) : K.lo ≤ w.heap.size := h.b1.low
theorem TT.adv2 {mx my : Nat} (h : TT K g1 g2 TB O P L M w (some mx) (some my) RX RY) (hkx : ¬ kindOf RX = 0) (hky : ¬ kindOf RY = 0) : ∃ d1 d2 : Nat, d1 ≤ 200 ∧ d2 ≤ 200 ∧ w.cell? ⟨K.gx, 2, none⟩ = some (.int .i64 (d1 : Int)) ∧ w.cell? ⟨K.gy, 2, none⟩ = some (.int .i64 (d2 : Int)) ∧ w.frozen? ⟨K.gx, 2, none⟩ = false ∧ w.frozen? ⟨K.gy, 2, none⟩ = false ∧
    ∀ n, n ≤ mx → n ≤ my → TT K g1 g2 TB O P L M ((w.setCell ⟨K.gx, 2, none⟩ (.int .i64 ((d1 : Int) + (n : Int)))).setCell ⟨K.gy, 2, none⟩ (.int .i64 ((d2 : Int) + (n : Int)))) none none (RX.drop n) (RY.drop n) := by
  obtain ⟨d1, d2, h1, h2, h3, h4, h5, h6, h7⟩ := h.one.adv2 hkx hky
  obtain ⟨e1, e2, k1, k2, k3, k4, k5, k6, k7⟩ := h.two.adv2 hkx hky
  refine ⟨d1, d2, h1, h2, h3, h4, h5, h6, fun n hx hy => ?_⟩
  have r1 := h7 n hx hy
  have r2 := k7 n hx hy
  rw [k3] at h3
  rw [k4] at h4
  injection h3 with h3
  injection h3 with _ h3
  injection h4 with h4
  injection h4 with _ h4
  rw [h3, h4] at r2
  exact ⟨r1.cs, r1.bd, r2.bd, h.ox, h.oy, h.px, h.py, h.dis⟩
end
def KindT (K : Fx) (g1 g2 : Nat) (TB : TypeId) (O P : Nat → Prop) (L M : List Pt) (v : Int) (sx sy : Option Nat) (f : Nat → Option Nat × Option Nat) (s0 : Option Nat) (RX RY : List U) (w : World) (e : Ending) (w' : World) : Prop :=
  e = .returned (.int .i64 v) ∧ ∃ m, (∀ q, s0 = some q → m = q) ∧ TT K g1 g2 TB O P L M w' (f m).1 (f m).2 RX RY ∧ Below K.lo w w'
def LeftT (K : Fx) (g1 g2 : Nat) (TB : TypeId) (O P : Nat → Prop) (L M : List Pt) (m : Nat) (sx sy : Option Nat) (RX RY : List U) (w : World) (e : Ending) (w' : World) : Prop := e = .returned (.int .i64 (m : Int)) ∧ TT K g1 g2 TB O P L M w' sx sy RX RY ∧ Below K.lo w w'
def TakeT (K : Fx) (g1 g2 : Nat) (TB : TypeId) (O P : Nat → Prop) (L M : List Pt) (n : Nat) (sy : Option Nat) (RX RY : List U) (w : World) (e : Ending) (w' : World) : Prop :=
  ∃ A' c' zs, e = .returned (.slice A' n c') ∧ zs.length = n ∧ RX = zs.map .p ++ RX.drop n ∧ Row (Value.int .i64) w' w'.heap.size A' zs ∧ TT K g1 g2 TB O P L M w' none sy (RX.drop n) RY ∧ Below K.lo w w'
def TakeTy (K : Fx) (g1 g2 : Nat) (TB : TypeId) (O P : Nat → Prop) (L M : List Pt) (n : Nat) (sx : Option Nat) (RX RY : List U) (w : World) (e : Ending) (w' : World) : Prop :=
  ∃ A' c' zs, e = .returned (.slice A' n c') ∧ zs.length = n ∧ RY = zs.map .p ++ RY.drop n ∧ Row (Value.int .i64) w' w'.heap.size A' zs ∧ TT K g1 g2 TB O P L M w' sx none RX (RY.drop n) ∧ Below K.lo w w'
def BldT1 (K : Fx) (g1 g2 : Nat) (TB : TypeId) (P : Nat → Prop) (L M : List Pt) (sx sy : Option Nat) (RX RY : List U) (w : World) (e : Ending) (w' : World) : Prop := e = .returned (.tuple #[]) ∧ ∃ O', TT K g1 g2 TB O' P L M w' sx sy RX RY ∧ Below K.lo w w'
def BldT2 (K : Fx) (g1 g2 : Nat) (TB : TypeId) (O : Nat → Prop) (L M : List Pt) (sx sy : Option Nat) (RX RY : List U) (w : World) (e : Ending) (w' : World) : Prop := e = .returned (.tuple #[]) ∧ ∃ P', TT K g1 g2 TB O P' L M w' sx sy RX RY ∧ Below K.lo w w'
section
variable {K : Fx} {g1 g2 : Nat} {TB : TypeId} {O P : Nat → Prop} {L M : List Pt} {w : World} {sx sy : Option Nat} {RX RY : List U}
theorem TT.kindx (h : TT K g1 g2 TB O P L M w sx sy RX RY) (hT : K.TC = 83) : Calls Try.prog 56 #[.pointer (some ⟨K.gx, 0, none⟩)] w (KindT K g1 g2 TB O P L M (kindOf RX) sx sy (fun m => (some m, sy)) sx RX RY w) := by
  refine (specKindX K hT w sx sy RX RY h.cs).mono ?_
  rintro e w' ⟨rfl, m, h1, h2, h3, h4⟩
  exact ⟨rfl, m, h1, h.mov h2 h4, h3⟩
theorem TT.kindy (h : TT K g1 g2 TB O P L M w sx sy RX RY) (hT : K.TC = 83) : Calls Try.prog 56 #[.pointer (some ⟨K.gy, 0, none⟩)] w (KindT K g1 g2 TB O P L M (kindOf RY) sx sy (fun m => (sx, some m)) sy RX RY w) := by
  refine (specKindX K.swap hT w sy sx RY RX h.cs.swap).mono ?_
  rintro e w' ⟨rfl, m, h1, h2, h3, h4⟩
  exact ⟨rfl, m, h1, h.movy h2.back h4, h3⟩
theorem TT.leftx {m : Nat} (h : TT K g1 g2 TB O P L M w (some m) sy RX RY) (hT : K.TC = 83) (hk : ¬ kindOf RX = 0) : Calls Try.prog 57 #[.pointer (some ⟨K.gx, 0, none⟩)] w (LeftT K g1 g2 TB O P L M m (some m) sy RX RY w) := by
  refine (specLeftX K hT w m sy RX RY h.cs hk).mono ?_
  rintro e w' ⟨rfl, h2, h3⟩
  exact ⟨rfl, h.past h3, h3.mono h.lo_le⟩
theorem TT.lefty {m : Nat} (h : TT K g1 g2 TB O P L M w sx (some m) RX RY) (hT : K.TC = 83) (hk : ¬ kindOf RY = 0) : Calls Try.prog 57 #[.pointer (some ⟨K.gy, 0, none⟩)] w (LeftT K g1 g2 TB O P L M m sx (some m) RX RY w) := by
  refine (specLeftX K.swap hT w m sx RY RX h.cs.swap hk).mono ?_
  rintro e w' ⟨rfl, h2, h3⟩
  exact ⟨rfl, h.past h3, h3.mono h.lo_le⟩
theorem TT.takex {m n : Nat} (h : TT K g1 g2 TB O P L M w (some m) sy RX RY) (hT : K.TC = 83) (hk : kindOf RX = 2) (hn : n ≤ m) (h0 : 0 < n) : Calls Try.prog 60 #[.pointer (some ⟨K.gx, 0, none⟩), .int .i64 (n : Int)] w (TakeT K g1 g2 TB O P L M n sy RX RY w) := by
  refine (specTakeX K hT w m n sy RX RY h.cs hk hn h0).mono ?_
  rintro e w' ⟨A', c', zs, rfl, h1, h2, h3, h4, h5, h6⟩
  exact ⟨A', c', zs, rfl, h1, h2, h3, h.mov h4 h6, h5⟩
theorem TT.takey {m n : Nat} (h : TT K g1 g2 TB O P L M w sx (some m) RX RY) (hT : K.TC = 83) (hk : kindOf RY = 2) (hn : n ≤ m) (h0 : 0 < n) : Calls Try.prog 60 #[.pointer (some ⟨K.gy, 0, none⟩), .int .i64 (n : Int)] w (TakeTy K g1 g2 TB O P L M n sx RX RY w) := by
  refine (specTakeX K.swap hT w m n sx RY RX h.cs.swap hk hn h0).mono ?_
  rintro e w' ⟨A', c', zs, rfl, h1, h2, h3, h4, h5, h6⟩
  exact ⟨A', c', zs, rfl, h1, h2, h3, h.movy h4.back h6, h5⟩
theorem TT.keep1 {n : Int} (h : TT K g1 g2 86 O P L M w sx sy RX RY) (h0 : 0 ≤ n) (h1 : n ≤ 200) (hl : L.length < 100000) : Calls Try.prog 62 #[.pointer (some ⟨g1, 0, none⟩), .int .i64 n] w (BldT1 K g1 g2 86 P (L ++ [⟨1, n, []⟩]) M sx sy RX RY w) := by
  refine (specKeepB O K.lo g1 L n w h.b1 h0 h1 hl).mono ?_
  rintro e w' ⟨rfl, O', h1, h2, h3⟩
  exact ⟨rfl, O', h.bldr h1 h2 h3, h2⟩
theorem TT.drop1 {n : Int} (h : TT K g1 g2 86 O P L M w sx sy RX RY) (h0 : 0 ≤ n) (h1 : n ≤ 200) (hl : L.length < 100000) : Calls Try.prog 58 #[.pointer (some ⟨g1, 0, none⟩), .int .i64 n] w (BldT1 K g1 g2 86 P (L ++ [⟨3, n, []⟩]) M sx sy RX RY w) := by
  refine (specDropB O K.lo g1 L n w h.b1 h0 h1 hl).mono ?_
  rintro e w' ⟨rfl, O', h1, h2, h3⟩
  exact ⟨rfl, O', h.bldr h1 h2 h3, h2⟩
theorem TT.put1 {A : Option Addr} {c m : Nat} {zs : List Int} (h : TT K g1 g2 86 O P L M w sx sy RX RY) (hr : Row (Value.int .i64) w w.heap.size A zs) (hm : zs.length = m) (h1 : m ≤ 200) (hl : L.length < 100000) : Calls Try.prog 59 #[.pointer (some ⟨g1, 0, none⟩), .slice A m c] w (BldT1 K g1 g2 86 P (L ++ [⟨2, 0, zs⟩]) M sx sy RX RY w) := by
  refine (specPutB O K.lo g1 L A c m zs w h.b1 hr hm (by omega) hl).mono ?_
  rintro e w' ⟨rfl, O', h1, h2, h3⟩
  exact ⟨rfl, O', h.bldr h1 h2 h3, h2⟩
theorem TT.keep2 {n : Int} (h : TT K g1 g2 86 O P L M w sx sy RX RY) (h0 : 0 ≤ n) (h1 : n ≤ 200) (hl : M.length < 100000) : Calls Try.prog 62 #[.pointer (some ⟨g2, 0, none⟩), .int .i64 n] w (BldT2 K g1 g2 86 O L (M ++ [⟨1, n, []⟩]) sx sy RX RY w) := by
  refine (specKeepB P K.lo g2 M n w h.b2 h0 h1 hl).mono ?_
  rintro e w' ⟨rfl, O', h1, h2, h3⟩
  exact ⟨rfl, O', h.bldr2 h1 h2 h3, h2⟩
theorem TT.drop2 {n : Int} (h : TT K g1 g2 86 O P L M w sx sy RX RY) (h0 : 0 ≤ n) (h1 : n ≤ 200) (hl : M.length < 100000) : Calls Try.prog 58 #[.pointer (some ⟨g2, 0, none⟩), .int .i64 n] w (BldT2 K g1 g2 86 O L (M ++ [⟨3, n, []⟩]) sx sy RX RY w) := by
  refine (specDropB P K.lo g2 M n w h.b2 h0 h1 hl).mono ?_
  rintro e w' ⟨rfl, O', h1, h2, h3⟩
  exact ⟨rfl, O', h.bldr2 h1 h2 h3, h2⟩
theorem TT.put2 {A : Option Addr} {c m : Nat} {zs : List Int} (h : TT K g1 g2 86 O P L M w sx sy RX RY) (hr : Row (Value.int .i64) w w.heap.size A zs) (hm : zs.length = m) (h1 : m ≤ 200) (hl : M.length < 100000) : Calls Try.prog 59 #[.pointer (some ⟨g2, 0, none⟩), .slice A m c] w (BldT2 K g1 g2 86 O L (M ++ [⟨2, 0, zs⟩]) sx sy RX RY w) := by
  refine (specPutB P K.lo g2 M A c m zs w h.b2 hr hm (by omega) hl).mono ?_
  rintro e w' ⟨rfl, O', h1, h2, h3⟩
  exact ⟨rfl, O', h.bldr2 h1 h2 h3, h2⟩
end
theorem OwB.grew2 {O O' : Nat → Prop} {lo hi : Nat} {w w' : World} {d : Dat} {v : Value} {b : List Nat} (h : OwB lo hi w d v b) (hg : Grew O O' w w') (hO : ∀ x ∈ b, ¬ O x) : OwB lo hi w' d v b :=
  ⟨OwC.keep d v b h.ow (fun x hx => hg.block x (OwC.lt d v b h.ow x hx) (hO x hx)), h.nd, h.rng, Nat.le_trans h.top hg.size, h.le⟩
theorem OwB.upto {lo hi hi' : Nat} {w : World} {d : Dat} {v : Value} {b : List Nat} (h : OwB lo hi w d v b) (h1 : hi ≤ hi') (h2 : hi' ≤ w.heap.size) : OwB lo hi' w d v b := ⟨h.ow, h.nd, fun x hx => ⟨(h.rng x hx).1, Nat.lt_of_lt_of_le (h.rng x hx).2 h1⟩, h2, Nat.le_trans h.le h1⟩
theorem xf_small {a b : List Pt} (h : xformOk a b = true) : SmP (xfA a b) ∧ SmP (xfB a b) := by
  unfold xformOk at h
  rw [Bool.and_eq_true, Bool.and_eq_true] at h
  obtain ⟨_, h1, h2⟩ := okOp_units h.1.2
  obtain ⟨_, h3, h4⟩ := okOp_units h.2
  have := signsIn_le h1
  have := signsIn_le h3
  exact ⟨⟨by omega, by omega⟩, ⟨by omega, by omega⟩⟩
theorem smP_nil : SmP [] := ⟨by simp, by simp [signsIn]⟩
theorem xformA_sm (a b : List Pt) : SmP (xformA a b) := by
  unfold xformA
  split
  · rename_i h; exact (xf_small h).1
  · exact smP_nil
theorem xformB_sm (a b : List Pt) : SmP (xformB a b) := by
  unfold xformB
  split
  · rename_i h; exact (xf_small h).2
  · exact smP_nil
theorem transform_small0 {a b : List Pt} (h0 : SmP a) (h1 : SmP b) : SmP (xformA a b) := xformA_sm a b
theorem transform_small1 {a b : List Pt} (h0 : SmP a) (h1 : SmP b) : SmP (xformB a b) := xformB_sm a b
end Go.Proofs.Ytihajkppeiainaa.low


/-
  The algebra of operations: what is made of units is valid and normal; applying, composing, inverting and transforming valid operations, in the words of the contracts.
-/
namespace Go.Proofs.Ytihajkppeiainaa.low
open Go.RowKit
set_option linter.unusedVariables false

/-- all that is inserted are characters -/
def goodU (us : List U) : Prop := ∀ x, U.p x ∈ us → signB x = true
def part1 : U → Pt
  | .k => ⟨1, 1, []⟩
  | .p x => ⟨2, 0, [x]⟩
  | .d => ⟨3, 1, []⟩
def made (us : List U) : List Pt := doneN (foldU us)
theorem units_part1 : ∀ us : List U, units (us.map part1) = us
  | [] => rfl
  | u :: us => by
    rw [List.map_cons, units_cons, units_part1 us]
    cases u <;> rfl
theorem part1_sz (us : List U) : ∀ p ∈ us.map part1, szP_ p := fun p hp => by
  obtain ⟨u, _, rfl⟩ := List.mem_map.1 hp
  cases u
  · exact ⟨.inl rfl, by simp [part1], by simp [part1], by simp [part1]⟩
  · exact ⟨.inr (.inl rfl), by simp [part1], by simp [part1], by simp [part1]⟩
  · exact ⟨.inr (.inr rfl), by simp [part1], by simp [part1], by simp [part1]⟩
theorem made_eq (us : List U) : made us = doneN (foldN (us.map part1)) := by unfold made; rw [foldN_units (part1_sz us), units_part1]
theorem units_made (us : List U) : units (made us) = nfU us := units_norm us
theorem len_st : ∀ us : List U, us.length ≤ src us + tgt us
  | [] => by simp
  | u :: us => by
    have := len_st us
    cases u <;> simp [src, tgt] <;> omega
/-- what is made of few good units is valid and normal -/
theorem made_ok {us : List U} (hs : src us ≤ 200) (ht : tgt us ≤ 200) (hz : goodU us) : okOp (made us) = true ∧ normal (made us) ∧ sumK (made us) + sumD (made us) = (src us : Int) ∧ sumK (made us) + sumP (made us) = (tgt us : Int) := by
  have hsz := part1_sz us
  have hn : normal (made us) := by rw [made_eq]; exact normal_fold hsz
  obtain ⟨s1, s2, s3⟩ := sum_norm hsz
  rw [← made_eq] at s1 s2 s3
  obtain ⟨u1, u2⟩ := src_units hsz
  rw [units_part1] at u1 u2
  have hall : ∀ p ∈ made us, allB p.signs = true := by
    rw [made_eq]
    refine norm_allB (fun p hp => ?_)
    obtain ⟨u, hu, rfl⟩ := List.mem_map.1 hp
    cases u
    · rfl
    · rename_i x
      simp [part1, allB, hz x hu]
    · rfl
  have n1 : ∀ f : Pt → Int, (∀ p, tidy p → 0 ≤ f p) → 0 ≤ sumOf f (made us) := fun f hf => by
    unfold sumOf
    have : ∀ (L : List Pt), (∀ p ∈ L, tidy p) → 0 ≤ (L.map f).sum := by
      intro L
      induction L with
      | nil => simp
      | cons p L ih =>
        intro h
        have a := hf p (h p (by simp))
        have b := ih (fun q hq => h q (by simp [hq]))
        simp
        omega
    exact this _ hn.1
  have k1 := n1 keepOf (fun p h => (tidy_nonneg h).1)
  have k2 := n1 putOf (fun p h => (tidy_nonneg h).2.1)
  have k3 := n1 dropOf (fun p h => (tidy_nonneg h).2.2)
  have hok : okPs (made us) = true := tidy_ok hn.1 hall (by omega) (by omega) (by omega)
  have hlen : (made us).length ≤ 600 := by
    have h1 := norm_length hsz
    rw [← made_eq, List.length_map] at h1
    have := len_st us
    omega
  have hop : okOp (made us) = true := of_okOp hok hlen (by omega) (by omega)
  obtain ⟨t1, t2, t3⟩ := sum_t (okOp_partsB hop)
  exact ⟨hop, hn, by rw [t1, t3]; omega, by rw [t1, t2]; omega⟩
theorem nf_of_fold (us : List U) : doneN (foldU (nfU us)) = doneN (foldU us) := by
  have key : ∀ (us : List U) (q : List Pt) (ps : List Int) (n : Nat) (qs : List Pt × List Int × Int), qs = (q, [], 0) → doneN ((nfGo us ps n).foldl stepU qs) = doneN (us.foldl stepU (q, ps, (n : Int))) := by
    intro us
    induction us with
    | nil =>
      intro q ps n qs e
      subst e
      rw [nfGo, List.foldl_append, fold_p, fold_d]
      simp
    | cons u us ih =>
      intro q ps n qs e
      subst e
      cases u with
      | k =>
        rw [nfGo, List.foldl_append, fold_p, List.foldl_append, fold_d, List.foldl_cons]
        have := ih (stepU (q, ps, (n : Int)) .k).1 [] 0 (stepU (q, ps, (n : Int)) .k) (by simp [stepU])
        simpa [stepU] using this
      | p x => rw [nfGo]; have := ih q (ps ++ [x]) n (q, [], 0) rfl; simpa [stepU] using this
      | d => rw [nfGo]; have := ih q ps (n + 1) (q, [], 0) rfl; simpa [stepU] using this
  have := key us [] [] 0 ([], [], 0) rfl
  simpa [foldU, nfU] using this
theorem made_nf (us : List U) : made (nfU us) = made us := nf_of_fold us
theorem made_ext {us vs : List U} (h : nfU us = nfU vs) : made us = made vs := by rw [← made_nf us, h, made_nf]
theorem norm_made {a : List Pt} (h : okOp a = true) : normL a = made (units a) := by
  unfold normL made
  rw [if_pos h, foldN_units (okOp_units h).2.1]
theorem normal_same {us : List U} (hs : src us ≤ 200) (ht : tgt us ≤ 200) (hz : goodU us) : normL (made us) = made us := by
  obtain ⟨h1, h2, _⟩ := made_ok hs ht hz
  exact norm_normal h2 h1
/-- a valid operation's units -/
theorem op_units {a : List Pt} (h : okOp a = true) : (src (units a) : Int) = sumK a + sumD a ∧ (tgt (units a) : Int) = sumK a + sumP a ∧ src (units a) ≤ 200 ∧ tgt (units a) ≤ 200 ∧ goodU (units a) := by
  obtain ⟨h1, h2, h3, h4, h5, h6, h7⟩ := okOp_of h
  obtain ⟨t1, t2, t3⟩ := sum_t (okOp_partsB h)
  obtain ⟨s1, s2⟩ := src_units (okPs_sz h1)
  refine ⟨by rw [t1, t3]; exact s1, by rw [t1, t2]; exact s2, by omega, by omega, fun x hx => ?_⟩
  unfold units at hx
  obtain ⟨p, hp, hx⟩ := List.mem_flatMap.1 hx
  have ha := okPs_allB h1 p hp
  unfold unitsP at hx
  split at hx
  · have := List.eq_of_mem_replicate hx; cases this
  · split at hx
    · obtain ⟨z, hz, e⟩ := List.mem_map.1 hx
      injection e with e
      subst e
      unfold allB at ha
      exact List.all_eq_true.1 ha z hz
    · have := List.eq_of_mem_replicate hx; cases this
theorem apply_mem : ∀ (us : List U) (t : List Int) (x : Int), x ∈ applyU us t → x ∈ t ∨ U.p x ∈ us
  | [], t, x, h => by simp [applyU] at h
  | .k :: us, t, x, h => by
    rw [applyU] at h
    rcases List.mem_append.1 h with h | h
    · exact .inl (List.mem_of_mem_take h)
    · rcases apply_mem us _ x h with h | h
      · exact .inl (List.mem_of_mem_drop h)
      · exact .inr (by simp [h])
  | .p y :: us, t, x, h => by
    rw [applyU] at h
    rcases List.mem_cons.1 h with rfl | h
    · exact .inr (by simp)
    · rcases apply_mem us _ x h with h | h
      · exact .inl h
      · exact .inr (by simp [h])
  | .d :: us, t, x, h => by
    rw [applyU] at h
    rcases apply_mem us _ x h with h | h
    · exact .inl (List.mem_of_mem_drop h)
    · exact .inr (by simp [h])
theorem okText_mem {t : List Int} (h : okText t = true) : ∀ x ∈ t, signB x = true := fun x hx => by
  unfold okText at h
  rw [Bool.and_eq_true] at h
  exact List.all_eq_true.1 h.1 x hx
theorem okText_mk {t : List Int} (h : ∀ x ∈ t, signB x = true) (hl : t.length ≤ 200) : okText t = true := by
  unfold okText allB
  rw [decide_eq_true hl, List.all_eq_true.2 h]
  rfl
theorem okText_len' {t : List Int} (h : okText t = true) : t.length ≤ 200 := by
  unfold okText at h
  rw [Bool.and_eq_true] at h
  exact of_decide_eq_true h.2
theorem fits_mk {a : List Pt} {t : List Int} (ha : okOp a = true) (ht : okText t = true) (hs : sumK a + sumD a = (t.length : Int)) : fitsB a t = true := by
  unfold fitsB
  rw [ha, ht, decide_eq_true hs]
  rfl
/-- applying a valid operation to a text that fits -/
theorem apply_ok {a : List Pt} {t : List Int} (ha : okOp a = true) (ht : okText t = true) (hs : sumK a + sumD a = (t.length : Int)) : fitsB a t = true ∧ applyT a t = applyU (units a) t ∧ okText (applyT a t) = true ∧ ((applyT a t).length : Int) = sumK a + sumP a ∧ src (units a) = t.length := by
  have hf := fits_mk ha ht hs
  obtain ⟨u1, u2, u3, u4, u5⟩ := op_units ha
  have hsrc : src (units a) = t.length := by omega
  have he := applyT_units hf
  have hl := apply_len_u (units a) t hsrc
  refine ⟨hf, he, ?_, by rw [he, hl]; exact u2, hsrc⟩
  rw [he]
  refine okText_mk (fun x hx => ?_) (by omega)
  rcases apply_mem _ _ _ hx with h | h
  · exact okText_mem ht x h
  · exact u5 x h
theorem comp_mem (a b : List U) : ∀ x, U.p x ∈ comp a b → U.p x ∈ a ∨ U.p x ∈ b := by
  induction a, b using comp.induct with
  | case1 => intro x h; simp [comp] at h
  | case2 y b ih => intro x h; rw [comp] at h; rcases List.mem_cons.1 h with h | h; exact .inr (by rw [h]; simp); rcases ih x h with h | h; exact .inl h; exact .inr (by simp [h])
  | case3 b => intro x h; simp [comp] at h
  | case4 b => intro x h; simp [comp] at h
  | case5 a b ih => intro x h; rw [comp] at h; rcases List.mem_cons.1 h with h | h; cases h; rcases ih x h with h | h; exact .inl (by simp [h]); exact .inr h
  | case6 a => intro x h; simp [comp] at h
  | case7 a y b ih => intro x h; rw [comp] at h; rcases List.mem_cons.1 h with h | h; exact .inr (by rw [h]; simp); rcases ih x h with h | h; exact .inl h; exact .inr (by simp [h])
  | case8 a b ih => intro x h; rw [comp] at h; rcases List.mem_cons.1 h with h | h; cases h; rcases ih x h with h | h; exact .inl (by simp [h]); exact .inr (by simp [h])
  | case9 a b ih => intro x h; rw [comp] at h; rcases List.mem_cons.1 h with h | h; cases h; rcases ih x h with h | h; exact .inl (by simp [h]); exact .inr (by simp [h])
  | case10 y a => intro x h; simp [comp] at h
  | case11 y a z b ih => intro x h; rw [comp] at h; rcases List.mem_cons.1 h with h | h; exact .inr (by rw [h]; simp); rcases ih x h with h | h; exact .inl h; exact .inr (by simp [h])
  | case12 y a b ih => intro x h; rw [comp] at h; rcases List.mem_cons.1 h with h | h; exact .inl (by rw [h]; simp); rcases ih x h with h | h; exact .inl (by simp [h]); exact .inr (by simp [h])
  | case13 y a b ih => intro x h; rw [comp] at h; rcases ih x h with h | h; exact .inl (by simp [h]); exact .inr (by simp [h])
/-- composing valid operations that fit one another -/
theorem compose_ok {a b : List Pt} (ha : okOp a = true) (hb : okOp b = true) (hs : sumK a + sumP a = sumK b + sumD b) : composeB a b = true ∧ composeT a b = made (comp (units a) (units b)) ∧ okOp (composeT a b) = true ∧ normL (composeT a b) = composeT a b ∧ units (composeT a b) = nfU (comp (units a) (units b)) ∧ sumK (composeT a b) + sumD (composeT a b) = sumK a + sumD a ∧ sumK (composeT a b) + sumP (composeT a b) = sumK b + sumP b ∧ tgt (units a) = src (units b) := by
  obtain ⟨u1, u2, u3, u4, u5⟩ := op_units ha
  obtain ⟨v1, v2, v3, v4, v5⟩ := op_units hb
  have hbal : tgt (units a) = src (units b) := by omega
  obtain ⟨e1, e2⟩ := comp_ends hbal
  have hg : goodU (comp (units a) (units b)) := fun x hx => by
    rcases comp_mem _ _ x hx with h | h
    · exact u5 x h
    · exact v5 x h
  obtain ⟨m1, m2, m3, m4⟩ := made_ok (us := comp (units a) (units b)) (by omega) (by omega) hg
  have hB : composeB a b = true := by
    unfold composeB
    rw [ha, hb]
    have : okOp (compL a b) = true := m1
    rw [this]
    simp [hs]
  have hT : composeT a b = made (comp (units a) (units b)) := by unfold composeT; rw [if_pos hB]; rfl
  rw [hT]
  exact ⟨hB, rfl, m1, norm_normal m2 m1, units_made _, by rw [m3, e1]; exact u1, by rw [m4, e2]; exact v2, hbal⟩
theorem compose_apply {a b : List Pt} {t : List Int} (ha : okOp a = true) (hb : okOp b = true) (hs : sumK a + sumP a = sumK b + sumD b) (ht : okText t = true) (hf : sumK a + sumD a = (t.length : Int)) : applyT (composeT a b) t = applyT b (applyT a t) := by
  obtain ⟨c1, c2, c3, c4, c5, c6, c7, c8⟩ := compose_ok ha hb hs
  obtain ⟨a1, a2, a3, a4, a5⟩ := apply_ok ha ht hf
  obtain ⟨b1, b2, _⟩ := apply_ok hb a3 (by omega)
  obtain ⟨k1, k2, _⟩ := apply_ok c3 ht (by omega)
  rw [k2, c5, apply_nf, b2, a2]
  exact (apply_comp (units a) (units b) t a5 c8).1
/-- associativity -/
theorem compose_assoc {a b c : List Pt} (ha : okOp a = true) (hb : okOp b = true) (hc : okOp c = true) (h1 : sumK a + sumP a = sumK b + sumD b) (h2 : sumK b + sumP b = sumK c + sumD c) : composeT (composeT a b) c = composeT a (composeT b c) := by
  obtain ⟨p1, p2, p3, p4, p5, p6, p7, p8⟩ := compose_ok ha hb h1
  obtain ⟨q1, q2, q3, q4, q5, q6, q7, q8⟩ := compose_ok hb hc h2
  obtain ⟨r1, r2, r3, r4, r5, r6, r7, r8⟩ := compose_ok p3 hc (by omega)
  obtain ⟨s1, s2, s3, s4, s5, s6, s7, s8⟩ := compose_ok ha q3 (by omega)
  rw [r2, s2]
  apply made_ext
  rw [p5, q5]
  have e1 : nfU (comp (nfU (comp (units a) (units b))) (units c)) = nfU (comp (comp (units a) (units b)) (units c)) := by
    have hb' : tgt (comp (units a) (units b)) = src (units c) := by rw [(comp_ends p8).2]; exact q8
    have hb'' : tgt (nfU (comp (units a) (units b))) = src (units c) := by rw [(nf_ends _).2]; exact hb'
    have x1 := comp_nf hb'
    have x2 := comp_nf hb''
    rw [nf_idem] at x2
    rw [← x2, x1]
  have e2 : nfU (comp (units a) (nfU (comp (units b) (units c)))) = nfU (comp (units a) (comp (units b) (units c))) := by
    have hb' : tgt (units a) = src (comp (units b) (units c)) := by rw [(comp_ends q8).1]; exact p8
    have hb'' : tgt (units a) = src (nfU (comp (units b) (units c))) := by rw [(nf_ends _).1]; exact hb'
    have x1 := comp_nf hb'
    have x2 := comp_nf hb''
    rw [nf_idem] at x2
    rw [← x2, x1]
  rw [e1, e2]
  exact comp_assoc p8 q8

theorem nf_ds : ∀ {n : Nat} {us : List U} {qs : List Int} {m : Nat}, nfGo (List.replicate n U.d ++ us) qs m = nfGo us qs (m + n)
  | 0, us, qs, m => by simp
  | n + 1, us, qs, m => by rw [List.replicate_succ, List.cons_append, nfGo, nf_ds]; congr 1; omega
theorem nf_ps : ∀ {zs : List Int} {us : List U} {qs : List Int} {m : Nat}, nfGo (zs.map U.p ++ us) qs m = nfGo us (qs ++ zs) m
  | [], us, qs, m => by simp
  | z :: zs, us, qs, m => by rw [List.map_cons, List.cons_append, nfGo, nf_ps]; simp
theorem inv_ps : ∀ (ps : List Int) (us : List U) (t : List Int), invU (ps.map U.p ++ us) t = List.replicate ps.length U.d ++ invU us t
  | [], us, t => by simp
  | p :: ps, us, t => by rw [List.map_cons, List.cons_append, invU, inv_ps ps us t]; simp [List.replicate_succ]
theorem inv_ds : ∀ (n : Nat) (us : List U) (t : List Int), invU (List.replicate n U.d ++ us) t = (t.take n).map U.p ++ invU us (t.drop n)
  | 0, us, t => by simp
  | n + 1, us, t => by
    rw [List.replicate_succ, List.cons_append, invU, inv_ds n us (t.drop 1), List.drop_drop, ← List.append_assoc, ← List.map_append]
    congr 2
    · rw [show n + 1 = 1 + n by omega, List.take_add]
    · rw [Nat.add_comm]
theorem inv_pd (ps : List Int) (n : Nat) (t : List Int) : invU (ps.map U.p ++ List.replicate n U.d) t = List.replicate ps.length U.d ++ (t.take n).map U.p := by
  have := inv_ds n [] t
  rw [List.append_nil] at this
  rw [inv_ps, this]
  simp [invU]
theorem inv_app_pd {ps : List Int} {n : Nat} {us : List U} {t : List Int} : invU ((ps.map U.p ++ List.replicate n U.d) ++ us) t = List.replicate ps.length U.d ++ ((t.take n).map U.p ++ invU us (t.drop n)) := by
  rw [List.append_assoc, inv_ps, inv_ds]
/-- the inverse on units: of the normal form, up to the normal form -/
theorem inv_go : ∀ (us : List U) (ps : List Int) (n : Nat) (t : List Int) (qs : List Int) (m : Nat), src us + n = t.length → nfGo (invU (nfGo us ps n) t) qs m = nfGo (invU us (t.drop n)) (qs ++ t.take n) (m + ps.length)
  | [], ps, n, t, qs, m, h => by
    have e : invU (ps.map U.p ++ List.replicate n U.d) t = List.replicate ps.length U.d ++ (t.take n).map U.p := inv_pd ps n t
    have e2 := nf_ps (zs := t.take n) (us := []) (qs := qs) (m := m + ps.length)
    rw [List.append_nil] at e2
    rw [nfGo, e, nf_ds, e2]
    simp [invU]
  | .k :: us, ps, n, t, qs, m, h => by
    have hl : src us + 0 = (t.drop (n + 1)).length := by simp [src] at h ⊢; omega
    rw [nfGo, ← List.append_assoc, inv_app_pd, nf_ds, nf_ps]
    simp only [invU]
    rw [nfGo, List.drop_drop, inv_go us [] 0 (t.drop (n + 1)) [] 0 hl]
    simp [nfGo]
  | .p x :: us, ps, n, t, qs, m, h => by
    rw [nfGo, inv_go us (ps ++ [x]) n t qs m (by simpa [src] using h)]
    simp only [invU, nfGo]
    simp [Nat.add_assoc]
  | .d :: us, ps, n, t, qs, m, h => by
    have hlt : n < t.length := by simp [src] at h; omega
    rw [nfGo, inv_go us ps (n + 1) t qs m (by simp [src] at h ⊢; omega)]
    simp only [invU]
    rw [List.drop_drop, nf_ps]
    congr 1
    rw [List.append_assoc]
    congr 1
    rw [List.take_add_one, List.take_one, List.head?_drop]
theorem inv_nf {us : List U} {t : List Int} (h : src us = t.length) : nfU (invU (nfU us) t) = nfU (invU us t) := by
  have := inv_go us [] 0 t [] 0 (by omega)
  simpa [nfU] using this
theorem inv_ks : ∀ (n : Nat) (us : List U) (t : List Int), invU (List.replicate n U.k ++ us) t = List.replicate n U.k ++ invU us (t.drop n)
  | 0, us, t => by simp
  | n + 1, us, t => by rw [List.replicate_succ, List.cons_append, invU, inv_ks n us (t.drop 1), List.drop_drop, List.cons_append, Nat.add_comm 1 n]
theorem foldI_units (t : List Int) : ∀ (L : List Pt) (s : Nat × List Pt), (∀ p ∈ L, szP_ p) → units (L.foldl (stepI t) s).2 = units s.2 ++ invU (units L) (t.drop s.1)
  | [], s, _ => by simp [units_nil, invU]
  | p :: L, s, h => by
    rw [List.foldl_cons, foldI_units t L (stepI t s p) (fun q hq => h q (by simp [hq])), units_cons]
    obtain ⟨hk, h0, h1, h2⟩ := h p (by simp)
    have e1 : (stepI t s p).2 = s.2 ++ [invP t s.1 p] := rfl
    rw [e1, units_app, List.append_assoc]
    congr 1
    have e3 : units [invP t s.1 p] = unitsP (invP t s.1 p) := by simp [units]
    rw [e3]
    obtain ⟨pk, pn, pz⟩ := p
    simp only at hk h0
    rcases hk with rfl | rfl | rfl
    · have u1 : unitsP ⟨1, pn, pz⟩ = List.replicate pn.toNat .k := by simp [unitsP]
      have u2 : unitsP (invP t s.1 ⟨1, pn, pz⟩) = List.replicate pn.toNat .k := by simp [unitsP, invP]
      rw [u1, u2, inv_ks, List.drop_drop]
      simp [stepI]
    · have u1 : unitsP ⟨2, pn, pz⟩ = pz.map .p := by simp [unitsP]
      have u2 : unitsP (invP t s.1 ⟨2, pn, pz⟩) = List.replicate pz.length .d := by simp [unitsP, invP]
      rw [u1, u2, inv_ps]
      simp [stepI]
    · have u1 : unitsP ⟨3, pn, pz⟩ = List.replicate pn.toNat .d := by simp [unitsP]
      have u2 : unitsP (invP t s.1 ⟨3, pn, pz⟩) = ((t.drop s.1).take pn.toNat).map .p := by simp [unitsP, invP]
      rw [u1, u2, inv_ds, List.drop_drop]
      simp [stepI]
theorem inv_mem : ∀ (us : List U) (t : List Int) (x : Int), U.p x ∈ invU us t → x ∈ t
  | [], t, x, h => by simp [invU] at h
  | .k :: us, t, x, h => by
    rw [invU] at h
    rcases List.mem_cons.1 h with h | h
    · cases h
    · exact List.mem_of_mem_drop (inv_mem us _ x h)
  | .p y :: us, t, x, h => by
    rw [invU] at h
    rcases List.mem_cons.1 h with h | h
    · cases h
    · exact inv_mem us _ x h
  | .d :: us, t, x, h => by
    rw [invU] at h
    rcases List.mem_append.1 h with h | h
    · obtain ⟨z, hz, e⟩ := List.mem_map.1 h
      injection e with e
      subst e
      exact List.mem_of_mem_take hz
    · exact List.mem_of_mem_drop (inv_mem us _ x h)
/-- the inverse of a valid operation -/
theorem invert_eq {a : List Pt} {t : List Int} (ha : okOp a = true) (ht : okText t = true) (hs : sumK a + sumD a = (t.length : Int)) : invertT a t = made (invU (units a) t) ∧ okOp (invertT a t) = true ∧ normL (invertT a t) = invertT a t ∧ sumK (invertT a t) + sumD (invertT a t) = sumK a + sumP a ∧ sumK (invertT a t) + sumP (invertT a t) = sumK a + sumD a := by
  obtain ⟨a1, a2, a3, a4, a5⟩ := apply_ok ha ht hs
  obtain ⟨u1, u2, u3, u4, u5⟩ := op_units ha
  obtain ⟨n1, n2, n3⟩ := fits_norm a1
  have hsz := okPs_sz n1
  have hf := foldI_fit (t := t) n1 (normL a).length (Nat.le_refl _)
  rw [List.take_length] at hf
  have hu := foldI_units t (normL a) (0, []) hsz
  have e1 : invertT a t = made (invU (nfU (units a)) t) := by
    unfold invertT
    rw [if_pos a1, foldN_units hf.2.2]
    unfold made
    congr 2
    have : units (foldI t (normL a)).2 = invU (units (normL a)) t := by simpa [foldI, units_nil] using hu
    rw [this, norm_made ha, units_made]
  have e2 : invertT a t = made (invU (units a) t) := by rw [e1]; exact made_ext (inv_nf a5)
  obtain ⟨i1, i2, i3⟩ := inv_back (units a) t a5
  obtain ⟨m1, m2, m3, m4⟩ := made_ok (us := invU (units a) t) (by omega) (by omega) (fun x hx => okText_mem ht x (inv_mem _ _ x hx))
  rw [e2]
  exact ⟨rfl, m1, norm_normal m2 m1, by rw [m3, i2]; exact u2, by rw [m4, i3]; exact u1⟩
theorem invert_ok {a : List Pt} {t : List Int} (ha : okOp a = true) (ht : okText t = true) (hs : sumK a + sumD a = (t.length : Int)) : applyT (invertT a t) (applyT a t) = t ∧ invertT (invertT a t) (applyT a t) = normL a := by
  obtain ⟨a1, a2, a3, a4, a5⟩ := apply_ok ha ht hs
  obtain ⟨x1, x2, x3, x4, x5⟩ := invert_eq ha ht hs
  obtain ⟨b1, b2, b3, b4, b5⟩ := apply_ok x2 a3 (by omega)
  obtain ⟨y1, _⟩ := invert_eq x2 a3 (by omega)
  obtain ⟨i1, i2, i3⟩ := inv_back (units a) t a5
  have hu : units (invertT a t) = nfU (invU (units a) t) := by rw [x1, units_made]
  constructor
  · rw [b2, hu, apply_nf, a2, i1]
  · rw [y1, norm_made ha]
    apply made_ext
    have hsrc : src (invU (units a) t) = (applyT a t).length := by
      have : ((applyT a t).length : Int) = (tgt (units a) : Int) := by rw [a4]; exact (op_units ha).2.1.symm
      omega
    rw [hu, inv_nf hsrc, a2, inv_inv (units a) t a5]
/-- how many characters are inserted -/
def np : List U → Nat
  | [] => 0
  | .p _ :: us => np us + 1
  | _ :: us => np us
theorem np_app : ∀ a b : List U, np (a ++ b) = np a + np b
  | [], b => by simp [np]
  | u :: a, b => by
    have := np_app a b
    cases u <;> simp [np, this] <;> omega
theorem np_rk : ∀ n : Nat, np (List.replicate n U.k) = 0
  | 0 => rfl
  | n + 1 => by rw [List.replicate_succ]; simp [np, np_rk n]
theorem np_rd : ∀ n : Nat, np (List.replicate n U.d) = 0
  | 0 => rfl
  | n + 1 => by rw [List.replicate_succ]; simp [np, np_rd n]
theorem np_mp : ∀ zs : List Int, np (zs.map U.p) = zs.length
  | [] => rfl
  | z :: zs => by rw [List.map_cons]; simp [np, np_mp zs]
theorem np_units {L : List Pt} (h : ∀ p ∈ L, szP_ p) : (np (units L) : Int) = sumOf putOf L := by
  induction L with
  | nil => simp [units_nil, np, sumOf]
  | cons p L ih =>
    have i := ih (fun q hq => h q (by simp [hq]))
    obtain ⟨hk, _⟩ := h p (by simp)
    rw [units_cons, np_app, sumOf_cons]
    have : (np (unitsP p) : Int) = putOf p := by
      obtain ⟨pk, pn, pz⟩ := p
      simp only at hk
      rcases hk with rfl | rfl | rfl
      · simp [unitsP, putOf, np_rk]
      · simp [unitsP, putOf, np_mp]
      · simp [unitsP, putOf, np_rd]
    omega
theorem np_op {a : List Pt} (h : okOp a = true) : (np (units a) : Int) = sumP a := by
  obtain ⟨t1, t2, t3⟩ := sum_t (okOp_partsB h)
  rw [np_units (okPs_sz (okOp_of h).1), t2]
theorem np_go : ∀ (us : List U) (ps : List Int) (n : Nat), np (nfGo us ps n) = np us + ps.length
  | [], ps, n => by rw [nfGo, np_app, np_mp, np_rd]; simp [np]
  | .k :: us, ps, n => by rw [nfGo, np_app, np_mp, np_app, np_rd]; simp [np, np_go us [] 0]; omega
  | .p x :: us, ps, n => by rw [nfGo, np_go us (ps ++ [x]) n]; simp [np]; omega
  | .d :: us, ps, n => by rw [nfGo, np_go us ps (n + 1)]; simp [np]
theorem np_nf (us : List U) : np (nfU us) = np us := by unfold nfU; rw [np_go]; simp
theorem xf_np (a b : List U) : src a = src b → np (xf a b).1 = np a ∧ np (xf a b).2 = np b ∧ tgt (xf a b).1 ≤ tgt b + np a ∧ (∀ x, U.p x ∈ (xf a b).1 → U.p x ∈ a) ∧ (∀ x, U.p x ∈ (xf a b).2 → U.p x ∈ b) := by
  induction a, b using xf.induct with
  | case1 => intro h; simp [xf, np, tgt]
  | case2 x a b ih =>
    intro h
    obtain ⟨i1, i2, i3, i4, i5⟩ := ih (by simpa [src] using h)
    rw [xf]
    refine ⟨by simp [np, i1], by simp [np, i2], by simp [np, tgt]; omega, fun y hy => ?_, fun y hy => ?_⟩
    · rcases List.mem_cons.1 hy with e | hy
      · rw [e]; simp
      · simp [i4 y hy]
    · rcases List.mem_cons.1 hy with e | hy
      · cases e
      · exact i5 y hy
  | case3 x b ih =>
    intro h
    obtain ⟨i1, i2, i3, i4, i5⟩ := ih (by simpa [src] using h)
    rw [xf]
    refine ⟨by simp [np, i1], by simp [np, i2], by simp [np, tgt] at i3 ⊢; omega, fun y hy => ?_, fun y hy => ?_⟩
    · rcases List.mem_cons.1 hy with e | hy
      · cases e
      · exact i4 y hy
    · rcases List.mem_cons.1 hy with e | hy
      · rw [e]; simp
      · simp [i5 y hy]
  | case4 b => intro h; simp [src] at h
  | case5 b => intro h; simp [src] at h
  | case6 a => intro h; simp [src] at h
  | case7 a x b ih =>
    intro h
    obtain ⟨i1, i2, i3, i4, i5⟩ := ih (by simpa [src] using h)
    rw [xf]
    refine ⟨by simp [np, i1], by simp [np, i2], by simp [np, tgt] at i3 ⊢; omega, fun y hy => ?_, fun y hy => ?_⟩
    · rcases List.mem_cons.1 hy with e | hy
      · cases e
      · exact i4 y hy
    · rcases List.mem_cons.1 hy with e | hy
      · rw [e]; simp
      · simp [i5 y hy]
  | case8 a b ih =>
    intro h
    obtain ⟨i1, i2, i3, i4, i5⟩ := ih (by simpa [src] using h)
    rw [xf]
    refine ⟨by simp [np, i1], by simp [np, i2], by simp [np, tgt] at i3 ⊢; omega, fun y hy => ?_, fun y hy => ?_⟩
    · rcases List.mem_cons.1 hy with e | hy
      · cases e
      · simp [i4 y hy]
    · rcases List.mem_cons.1 hy with e | hy
      · cases e
      · simp [i5 y hy]
  | case9 a b ih =>
    intro h
    obtain ⟨i1, i2, i3, i4, i5⟩ := ih (by simpa [src] using h)
    rw [xf]
    refine ⟨by simp [np, i1], by simp [np, i2], by simp [np, tgt] at i3 ⊢; omega, fun y hy => by simp [i4 y hy], fun y hy => ?_⟩
    rcases List.mem_cons.1 hy with e | hy
    · cases e
    · simp [i5 y hy]
  | case10 a => intro h; simp [src] at h
  | case11 a x b ih =>
    intro h
    obtain ⟨i1, i2, i3, i4, i5⟩ := ih (by simpa [src] using h)
    rw [xf]
    refine ⟨by simp [np, i1], by simp [np, i2], by simp [np, tgt] at i3 ⊢; omega, fun y hy => ?_, fun y hy => ?_⟩
    · rcases List.mem_cons.1 hy with e | hy
      · cases e
      · exact i4 y hy
    · rcases List.mem_cons.1 hy with e | hy
      · rw [e]; simp
      · simp [i5 y hy]
  | case12 a b ih =>
    intro h
    obtain ⟨i1, i2, i3, i4, i5⟩ := ih (by simpa [src] using h)
    rw [xf]
    refine ⟨by simp [np, i1], by simp [np, i2], by simp [np, tgt] at i3 ⊢; omega, fun y hy => ?_, fun y hy => by simp [i5 y hy]⟩
    rcases List.mem_cons.1 hy with e | hy
    · cases e
    · simp [i4 y hy]
  | case13 a b ih =>
    intro h
    obtain ⟨i1, i2, i3, i4, i5⟩ := ih (by simpa [src] using h)
    rw [xf]
    exact ⟨by simp [np, i1], by simp [np, i2], by simp [np, tgt] at i3 ⊢; omega, fun y hy => by simp [i4 y hy], fun y hy => by simp [i5 y hy]⟩
/-- transforming valid operations on one text -/
theorem xform_ok {a b : List Pt} {t : List Int} (ha : okOp a = true) (hb : okOp b = true) (ht : okText t = true) (h1 : sumK a + sumD a = (t.length : Int)) (h2 : sumK b + sumD b = (t.length : Int)) (hp : sumK b + sumP b + sumP a ≤ 200) :
    xformOk a b = true ∧ okOp (xformA a b) = true ∧ okOp (xformB a b) = true ∧ normL (xformA a b) = xformA a b ∧ normL (xformB a b) = xformB a b ∧ sumK (xformA a b) + sumD (xformA a b) = sumK b + sumP b ∧ sumK (xformB a b) + sumD (xformB a b) = sumK a + sumP a ∧ sumP (xformA a b) = sumP a ∧ sumP (xformB a b) = sumP b ∧ sumK (xformA a b) + sumP (xformA a b) = sumK (xformB a b) + sumP (xformB a b) ∧ sumK (xformA a b) + sumP (xformA a b) ≤ sumK b + sumP b + sumP a ∧ applyT (xformB a b) (applyT a t) = applyT (xformA a b) (applyT b t) := by
  obtain ⟨u1, u2, u3, u4, u5⟩ := op_units ha
  obtain ⟨v1, v2, v3, v4, v5⟩ := op_units hb
  obtain ⟨a1, a2, a3, a4, a5⟩ := apply_ok ha ht h1
  obtain ⟨b1, b2, b3, b4, b5⟩ := apply_ok hb ht h2
  obtain ⟨m1, m2, m3, m4⟩ := xf_meet (units a) (units b) t a5 b5
  obtain ⟨n1, n2, n3, n4, n5⟩ := xf_np (units a) (units b) (by omega)
  have pa := np_op ha
  have pb := np_op hb
  obtain ⟨p1, p2, p3, p4⟩ := made_ok (us := (xf (units a) (units b)).1) (by omega) (by omega) (fun x hx => u5 x (n4 x hx))
  obtain ⟨q1, q2, q3, q4⟩ := made_ok (us := (xf (units a) (units b)).2) (by omega) (by omega) (fun x hx => v5 x (n5 x hx))
  have hO : xformOk a b = true := by
    unfold xformOk
    have e1 : okOp (xfA a b) = true := p1
    have e2 : okOp (xfB a b) = true := q1
    rw [ha, hb, e1, e2]
    simp
    omega
  have eA : xformA a b = made (xf (units a) (units b)).1 := by unfold xformA; rw [if_pos hO]; rfl
  have eB : xformB a b = made (xf (units a) (units b)).2 := by unfold xformB; rw [if_pos hO]; rfl
  have sA := np_op p1
  have sB := np_op q1
  rw [units_made, np_nf] at sA sB
  rw [eA, eB]
  obtain ⟨c1, c2, _⟩ := apply_ok q1 a3 (by rw [q3, m3]; omega)
  obtain ⟨d1, d2, _⟩ := apply_ok p1 b3 (by rw [p3, m2]; omega)
  refine ⟨hO, p1, q1, norm_normal p2 p1, norm_normal q2 q1, by rw [p3, m2]; exact v2, by rw [q3, m3]; exact u2, by omega, by omega, by rw [p4, q4, m4], by rw [p4]; omega, ?_⟩
  rw [c2, d2, units_made, units_made, apply_nf, apply_nf, a2, b2, m1]
end Go.Proofs.Ytihajkppeiainaa.low


/-
  The program's side: contracts of impl.composed and impl.Compose.
-/
namespace Go.Proofs.Ytihajkppeiainaa.low
open Go.RowKit
set_option linter.unusedVariables false
attribute [local go_sem] Oper.semAt_some

/-- the readers' and the builder's blocks as composed makes them -/
def fz (w : World) : Fz := ⟨w.heap.size, w.heap.size, w.heap.size + 1, w.heap.size + 4, w⟩
def baseOf (w : World) : List (Nat × Obj) := [(w.heap.size + 2, .cells #[.pointer (some ⟨w.heap.size, 0, none⟩)] 102 (0, 0)), (w.heap.size + 3, .cells #[.pointer (some ⟨w.heap.size + 1, 0, none⟩)] 102 (0, 0)), (w.heap.size + 5, .cells #[.pointer (some ⟨w.heap.size + 4, 0, none⟩)] 72 (0, 0))]
def startW (A B : Option Addr) (na ca nb cb : Nat) (w : World) : World :=
  (((((w.alloc (.cells #[.int .i64 0, .int .i64 0, .slice none 0 0, .slice A na ca] 104)).alloc (.cells #[.int .i64 0, .int .i64 0, .slice none 0 0, .slice B nb cb] 104)).alloc (.cells #[.pointer (some ⟨w.heap.size, 0, none⟩)] 102)).alloc (.cells #[.pointer (some ⟨w.heap.size + 1, 0, none⟩)] 102)).alloc (.cells #[.slice none 0 0, .slice none 0 0, .int .i64 0] 74)).alloc (.cells #[.pointer (some ⟨w.heap.size + 4, 0, none⟩)] 72)
theorem startW_below (A B : Option Addr) (na ca nb cb : Nat) (w : World) : Below w.heap.size w (startW A B na ca nb cb w) := by
  unfold startW
  exact ((((((Below.refl _ w).alloc (Nat.le_refl _) _).alloc (by simp) _).alloc (by simp; omega) _).alloc (by simp; omega) _).alloc (by simp; omega) _).alloc (by simp; omega) _
theorem heap_at (w : World) (o : Obj) {n : Nat} (h : w.heap.size = n) : (w.alloc o).heap[n]? = some o := by rw [← h]; exact heap_alloc_new w o
theorem zeroP : Vp ⟨0, 0, []⟩ := .inr (.inr ⟨rfl, rfl, rfl⟩)
theorem units_zero : unitsP ⟨0, 0, []⟩ = [] := by simp [unitsP]
theorem coStart (A B : Option Addr) (ca cb : Nat) (a b : List Pt) (w : World) (h : RdC w w.heap.size (encPs a) (.slice A a.length ca)) (h' : RdC w w.heap.size (encPs b) (.slice B b.length cb)) (hoa : okOp a = true) (hob : okOp b = true) (hbal : sumK a + sumP a = sumK b + sumD b) :
    OutJ (fz w) (baseOf w) a b (units a).length (startW A B a.length ca b.length cb w) := by
  have hb := startW_below A B a.length ca b.length cb w
  obtain ⟨a1, _⟩ := okOp_of hoa
  obtain ⟨b1, _⟩ := okOp_of hob
  have la := (okOp_units hoa).2.2
  have lb := (okOp_units hob).2.2
  refine ⟨fun x => x = w.heap.size + 4, [], ⟨0, 0, []⟩, a, ⟨0, 0, []⟩, b, ⟨⟨⟨none, 0, A, ca, ?_, ints_none, h.below hb⟩, Nat.le_refl _, zeroP, ?_, by omega⟩, ⟨⟨none, 0, B, cb, ?_, ints_none, h'.below hb⟩, Nat.le_succ _, zeroP, ?_, by omega⟩, ?_, ?_, ?_, ?_, ?_, hb⟩, ?_, ?_⟩
  · exact heap_old _ _ (heap_old _ _ (heap_old _ _ (heap_old _ _ (heap_old _ _ (heap_at _ _ rfl)))))
  · exact fun x hx => okPs_mem a1 hx
  · exact heap_old _ _ (heap_old _ _ (heap_old _ _ (heap_old _ _ (heap_at _ _ (by simp [fz])))))
  · exact fun x hx => okPs_mem b1 hx
  · have s4 : ((((w.alloc (.cells #[.int .i64 0, .int .i64 0, .slice none 0 0, .slice A a.length ca] 104)).alloc (.cells #[.int .i64 0, .int .i64 0, .slice none 0 0, .slice B b.length cb] 104)).alloc (.cells #[.pointer (some ⟨w.heap.size, 0, none⟩)] 102)).alloc (.cells #[.pointer (some ⟨w.heap.size + 1, 0, none⟩)] 102)).heap.size = w.heap.size + 4 := by simp
    have n := Bld.new w.heap.size 74 ((((w.alloc (.cells #[.int .i64 0, .int .i64 0, .slice none 0 0, .slice A a.length ca] 104)).alloc (.cells #[.int .i64 0, .int .i64 0, .slice none 0 0, .slice B b.length cb] 104)).alloc (.cells #[.pointer (some ⟨w.heap.size, 0, none⟩)] 102)).alloc (.cells #[.pointer (some ⟨w.heap.size + 1, 0, none⟩)] 102)) (by rw [s4]; omega)
    rw [s4] at n
    exact n.past (alloc_below _ _)
  · show ¬ w.heap.size = w.heap.size + 1; omega
  · show ¬ w.heap.size = w.heap.size + 4; omega
  · show ¬ w.heap.size + 1 = w.heap.size + 4; omega
  · intro x hx
    have hx' : x = (w.heap.size + 2, .cells #[.pointer (some ⟨w.heap.size, 0, none⟩)] 102 (0, 0)) ∨ x = (w.heap.size + 3, .cells #[.pointer (some ⟨w.heap.size + 1, 0, none⟩)] 102 (0, 0)) ∨ x = (w.heap.size + 5, .cells #[.pointer (some ⟨w.heap.size + 4, 0, none⟩)] 72 (0, 0)) := by simpa [baseOf] using hx
    rcases hx' with rfl | rfl | rfl
    · exact ⟨heap_old _ _ (heap_old _ _ (heap_old _ _ (heap_at _ _ (by simp)))), by show w.heap.size ≤ w.heap.size + 2; omega, by show ¬ w.heap.size + 2 = w.heap.size; omega, by show ¬ w.heap.size + 2 = w.heap.size + 1; omega, by show ¬ w.heap.size + 2 = w.heap.size + 4; omega⟩
    · exact ⟨heap_old _ _ (heap_old _ _ (heap_at _ _ (by simp))), by show w.heap.size ≤ w.heap.size + 3; omega, by show ¬ w.heap.size + 3 = w.heap.size; omega, by show ¬ w.heap.size + 3 = w.heap.size + 1; omega, by show ¬ w.heap.size + 3 = w.heap.size + 4; omega⟩
    · exact ⟨heap_at _ _ (by simp), by show w.heap.size ≤ w.heap.size + 5; omega, by show ¬ w.heap.size + 5 = w.heap.size; omega, by show ¬ w.heap.size + 5 = w.heap.size + 1; omega, by show ¬ w.heap.size + 5 = w.heap.size + 4; omega⟩
  · rw [units_zero, List.nil_append, List.nil_append]
    exact cinv0 hoa hob hbal
  · rw [units_zero, List.nil_append]
/-- behind composed -/
def CompP (a b : List Pt) (w : World) (e : Ending) (w' : World) : Prop := ∃ v, e = .returned v ∧ Own w.heap.size w'.heap.size w' (encPs (compL a b)) v ∧ Below w.heap.size w w'

set_option maxRecDepth 1000000 in
set_option maxHeartbeats 6400000 in
theorem implComposed (A B : Option Addr) (ca cb : Nat) (a b : List Pt) (w : World) (h : RdC w w.heap.size (encPs a) (.slice A a.length ca)) (h' : RdC w w.heap.size (encPs b) (.slice B b.length cb)) (hoa : okOp a = true) (hob : okOp b = true) (hbal : sumK a + sumP a = sumK b + sumD b) :
    Calls Try.prog 45 #[.slice A a.length ca, .slice B b.length cb] w (CompP a b w) := by
  have HJ := Lib.hid (coStart A B ca cb a b w h h' hoa hob hbal)
  clear h h' hoa hob hbal
  refine (callsIn_wide (n := 0)).1 (callsIn_of_wp_marks Try.func45 rfl trivial ?_ rfl)
  simp only [Try.ntmps45, List.size_toArray, List.length_cons, List.length_nil, Nat.reduceAdd, Nat.reduceSub, Array.replicate_succ, Array.replicate_zero, List.push_toArray, List.append_toArray, List.nil_append, List.cons_append]
  gi_wp2_with (first | (refine wpIn_label ?_) | (refine wpIn_wide.2 (wp_scope_straight ((wpIn_wide (n := 0)).1 ?_))))
  refine outLoop (fz w) (baseOf w) a b _ _ (w.heap.size + 1 + 1) (w.heap.size + 1 + 1 + 1) (w.heap.size + 1 + 1 + 1 + 1 + 1) 0 [] (by simp [baseOf, fz]) (by simp [baseOf, fz]) (by simp [baseOf, fz]) _ HJ.out ?_
  intro W1 hD
  clear HJ
  obtain ⟨m, hE⟩ := hD
  have k1 : W1.cell? ⟨w.heap.size + 1 + 1 + 1, 0, none⟩ = some (.pointer (some ⟨w.heap.size + 1, 0, none⟩)) := hE.ks.cell (T := 102) (xs := #[.pointer (some ⟨w.heap.size + 1, 0, none⟩)]) (i := 0) (by simp [baseOf]) rfl
  have HE := Lib.hid hE
  clear hE
  gi_wp2_with fail
  refine endLoop (fz w) _ a b m W1 (w.heap.size + 1 + 1) (w.heap.size + 1 + 1 + 1) (w.heap.size + 1 + 1 + 1 + 1 + 1) 0 _ (by simp [baseOf, fz]) (by simp [baseOf, fz]) (by simp [baseOf, fz]) _ HE.out ?_
  intro W2 hF
  have hlt1 := HE.out.lt _ (List.mem_cons_self)
  clear HE k1
  obtain ⟨O, L, p, q, hc, hi⟩ := hF
  have k2 : W2.cell? ⟨w.heap.size + 1 + 1 + 1 + 1 + 1, 0, none⟩ = some (.pointer (some ⟨w.heap.size + 1 + 1 + 1 + 1, 0, none⟩)) := hc.ks.cell (T := 72) (xs := #[.pointer (some ⟨w.heap.size + 1 + 1 + 1 + 1, 0, none⟩)]) (i := 0) (by simp [baseOf]) rfl
  have eL : doneN (foldN L) = compL a b := by
    have h1 := hi.eq
    rw [comp_nil, List.append_nil] at h1
    unfold compL
    rw [foldN_units hc.bd.sz, h1]
  have q1 := hc.kp _ (List.mem_cons_self)
  have q2 := hc.kp _ (List.mem_cons_of_mem _ (List.mem_cons_self))
  simp only [World.size_alloc] at q1 q2 hlt1
  have HEL := Lib.hid eL
  have HC := Lib.hid hc
  have Q1 := Lib.hid q1
  have Q2 := Lib.hid q2
  have HL1 := Lib.hid hlt1
  clear hc hi eL q1 q2 hlt1
  gi_wp2_with fail
  refine ⟨trivial, rfl, (callsIn_wide.2 (implDoneB O _ _ L _ HC.out.bd)).mono ?_⟩
  rintro e w9 ⟨v9, k9, rfl, o9, hk9, bl9, g9⟩
  have HO9 := Lib.hid o9
  have HK9 := Lib.hid hk9
  have HB9 := Lib.hid bl9
  have HG9 := Lib.hid g9
  clear o9 hk9 bl9 g9 k2
  gi_wp2
  obtain ⟨x1, x2, _, _, x5⟩ := Q1.out
  obtain ⟨y1, y2, _, _, y5⟩ := Q2.out
  have l1 := lt_of_some x1
  have l2 := lt_of_some y1
  have hne : ¬ w.heap.size + 1 + 1 + 1 + 1 + 1 + 1 = W1.heap.size := by have := HL1.out; omega
  have n1 := (HG9.out.block _ l1 x5).trans x1
  have n2 := (HG9.out.block _ l2 y5).trans y1
  refine ⟨by simp, .inl ⟨_, _, rfl, run_takeDeferred n1, ?_⟩⟩
  refine ⟨by simp, .inl ⟨_, _, rfl, run_takeDeferred ((World.putObj_heap_other hne).trans n2), ?_⟩⟩
  refine ⟨_, results_tmp rfl _ _ _, v9, rfl, ⟨k9, ?_, HO9.out.nd, fun x hx => ?_, Nat.le_refl _, ?_⟩, ?_⟩
  · have ho := HO9.out.ow
    rw [HEL.out] at ho
    refine OwC.keep _ _ _ ho (fun x hx => ?_)
    have hx' := HK9.out x hx
    have e1 : ¬ x = W1.heap.size := fun e => by
      rcases hx' with h | h
      · exact x5 (e ▸ h)
      · omega
    have e2 : ¬ x = w.heap.size + 1 + 1 + 1 + 1 + 1 + 1 := fun e => by
      rcases hx' with h | h
      · exact y5 (e ▸ h)
      · omega
    exact (World.putObj_heap_other e2).trans (World.putObj_heap_other e1)
  · have := HO9.out.rng x hx
    simp only [World.putObj_size]
    exact this
  · simp only [World.putObj_size]
    exact HO9.out.le
  · refine ((HC.out.bl.trans HB9.out).trans (put_below x2 (lt_of_some n1))).trans (put_below y2 ?_)
    simp only [World.putObj_size]
    exact lt_of_some n2

/-- what composition makes of valid operations that fit is valid -/
theorem compose_true {a b : List Pt} (hoa : okOp a = true) (hob : okOp b = true) (hbal : sumK a + sumP a = sumK b + sumD b) : composeB a b = true ∧ composeT a b = compL a b := by
  have h := (compose_ok hoa hob hbal).1
  exact ⟨h, by unfold composeT; rw [h]; rfl⟩
set_option maxHeartbeats 1600000 in
theorem implCompose_d (v v' : Value) (a b : List Pt) (w : World) (h : RdC w w.heap.size (encPs a) v) (h' : RdC w w.heap.size (encPs b) v') (hs : SmP a) (hs' : SmP b) : Calls Try.prog 14 #[v, v'] w (ResB (encPs (composeT a b)) (composeB a b) w) := by
  obtain ⟨A, ca, rfl, hra, _⟩ := parts_rd h
  obtain ⟨B, cb, rfl, hrb, _⟩ := parts_rd h'
  have hlA := hs.1
  have hlB := hs'.1
  cases hoa : okOp a
  · have HN := Lib.hid (composeB_f (a := a) (b := b) (by rw [hoa]; rfl))
    go_enter Try.func14, Try.ntmps14
    go_wp2_with fail
    refine (implOpOk_any A ca a _ hra (by omega) hs.all4).mono ?_
    rintro e w1 ⟨rfl, b1⟩
    rw [hoa]
    go_wp2
    go_ret2
    rw [HN.out.1, HN.out.2]
    exact ⟨_, rfl, nilOwn _ _ rfl b1.size, b1⟩
  cases hob : okOp b
  · have HN := Lib.hid (composeB_f (a := a) (b := b) (by rw [hoa, hob]; rfl))
    go_enter Try.func14, Try.ntmps14
    go_wp2_with fail
    refine (implOpOk_any A ca a _ hra (by omega) hs.all4).mono ?_
    rintro e w1 ⟨rfl, b1⟩
    rw [hoa]
    go_wp2_with fail
    refine (implOpOk_any B cb b _ (hrb.past b1) (by omega) hs'.all4).mono ?_
    rintro e w2 ⟨rfl, b2⟩
    rw [hob]
    have d2 := b1.trans (b2.mono b1.size)
    go_wp2
    go_ret2
    rw [HN.out.1, HN.out.2]
    exact ⟨_, rfl, nilOwn _ _ rfl d2.size, d2⟩
  by_cases hbal : sumK a + sumP a = sumK b + sumD b
  · have hne : ((sumK a + sumP a) != (sumK b + sumD b)) = false := by simp [hbal]
    have HN := Lib.hid (compose_true hoa hob hbal)
    have HO := Lib.hid (show okOp a = true ∧ okOp b = true ∧ sumK a + sumP a = sumK b + sumD b from ⟨hoa, hob, hbal⟩)
    clear hbal
    go_enter Try.func14, Try.ntmps14
    go_wp2_with fail
    refine (implOpOk_any A ca a _ hra (by omega) hs.all4).mono ?_
    rintro e w1 ⟨rfl, b1⟩
    rw [hoa]
    go_wp2_with fail
    refine (implOpOk_any B cb b _ (hrb.past b1) (by omega) hs'.all4).mono ?_
    rintro e w2 ⟨rfl, b2⟩
    rw [hob]
    have d2 := b1.trans (b2.mono b1.size)
    go_wp2_with fail
    refine (implOpTo_any A ca a _ (hra.past d2) (by omega) hs.all4).mono ?_
    rintro e w3 ⟨rfl, b3⟩
    have d3 := d2.trans (b3.mono d2.size)
    go_wp2_with fail
    refine (implOpFrom_any B cb b _ (hrb.past d3) (by omega) hs'.all4).mono ?_
    rintro e w4 ⟨rfl, b4⟩
    have d4 := d3.trans (b4.mono d3.size)
    clear hoa hob b1 b2 d2 b3 d3 b4
    go_wp2_with fail
    refine (implComposed A B ca cb a b _ (h.past d4) (h'.past d4) HO.out.1 HO.out.2.1 HO.out.2.2).mono ?_
    rintro e w5 ⟨v5, rfl, o5, b5⟩
    have O5 := Lib.hid o5
    have d5 := d4.trans (b5.mono d4.size)
    clear o5 b5 hne
    go_wp2
    go_ret2
    rw [HN.out.1, HN.out.2]
    exact ⟨_, rfl, O5.out.wide d4.size (Nat.le_refl _) (Nat.le_refl _), d5⟩
  · have hne : ((sumK a + sumP a) != (sumK b + sumD b)) = true := by simp [hbal]
    have HN := Lib.hid (composeB_f (a := a) (b := b) (by rw [hoa, hob]; simp [hbal]))
    clear hbal
    go_enter Try.func14, Try.ntmps14
    go_wp2_with fail
    refine (implOpOk_any A ca a _ hra (by omega) hs.all4).mono ?_
    rintro e w1 ⟨rfl, b1⟩
    rw [hoa]
    go_wp2_with fail
    refine (implOpOk_any B cb b _ (hrb.past b1) (by omega) hs'.all4).mono ?_
    rintro e w2 ⟨rfl, b2⟩
    rw [hob]
    have d2 := b1.trans (b2.mono b1.size)
    go_wp2_with fail
    refine (implOpTo_any A ca a _ (hra.past d2) (by omega) hs.all4).mono ?_
    rintro e w3 ⟨rfl, b3⟩
    have d3 := d2.trans (b3.mono d2.size)
    go_wp2_with fail
    refine (implOpFrom_any B cb b _ (hrb.past d3) (by omega) hs'.all4).mono ?_
    rintro e w4 ⟨rfl, b4⟩
    have d4 := d3.trans (b4.mono d3.size)
    go_wp2
    go_ret2
    rw [HN.out.1, HN.out.2]
    exact ⟨_, rfl, nilOwn _ _ rfl d4.size, d4⟩

theorem inB_of {n : Int} : inB n 0 200 = (decide (0 ≤ n) && decide (n ≤ 200)) := by
  unfold inB
  first | rfl | (by_cases h1 : 0 ≤ n <;> by_cases h2 : n ≤ 200 <;> simp [h1, h2])
set_option maxHeartbeats 3200000 in
theorem implComposeAll_d (v : Value) (l : List (List Pt)) (n : Int) (w : World) (h : RdC w w.heap.size (encPss l) v) (hs : SmPP l) : Calls Try.prog 9 #[v, .int .i64 n] w (ResB (encPs (composeAllT l n)) (composeAllB l n) w) := by
  obtain ⟨A, c, rfl⟩ := pss_len h
  have hl := hs.1
  by_cases h0 : n < 0
  · have HN := Lib.hid (show composeAllB l n = false by unfold composeAllB; rw [inB_of]; simp; omega)
    go_enter Try.func9, Try.ntmps9
    go_wp2
    go_ret2
    rw [HN.out, composeAll_f HN.out]
    exact ⟨_, rfl, nilOwn _ _ rfl (Nat.le_refl _), Below.refl _ _⟩
  by_cases h1 : 200 < n
  · have HN := Lib.hid (show composeAllB l n = false by unfold composeAllB; rw [inB_of]; simp; omega)
    go_enter Try.func9, Try.ntmps9
    go_wp2
    go_ret2
    rw [HN.out, composeAll_f HN.out]
    exact ⟨_, rfl, nilOwn _ _ rfl (Nat.le_refl _), Below.refl _ _⟩
  · have HIN := Lib.hid (show inB n 0 200 = true by rw [inB_of]; simp; omega)
    go_enter Try.func9, Try.ntmps9
    go_wp2_with fail
    refine (implKeeping_any n _).mono ?_
    rintro e w1 ⟨v1, rfl, p1, b1⟩
    have HO1 := Lib.hid (own_parts p1)
    clear p1
    go_wp2
    go_loopw [6, 21] (fun o i wr => ∃ (k : Nat) (cur : List Pt), k ≤ l.length ∧ i = .int .i64 k ∧ foldCo (l.take k) n = some cur ∧ Own w.heap.size wr.heap.size wr (encPs cur) o ∧ Below w.heap.size w wr) (fun _ i _ => l.length - (intOf i).toNat)
    case atStart => exact ⟨0, keepL n, Nat.zero_le _, rfl, rfl, HO1.out, b1⟩
    case round =>
      obtain ⟨k, cur, hk, rfl, hf, ho, hbel⟩ := hrel
      clear HO1 b1
      have HF := Lib.hid hf
      have hsc := foldCo_small hk hf
      clear hf
      by_cases hlt : k < l.length
      · obtain ⟨ad, ps, A1, c1, rfl, hb, hp, hc, hpr⟩ := pss_at (h.below hbel) hlt
        have K1 := Lib.hid (foldCo_snoc (n := n) hp)
        rw [HF.out] at K1
        have hsp := hs.all ps (List.mem_of_getElem? hp)
        clear hp
        obtain ⟨Ao, co, rfl⟩ := sliceP ho.read
        have HO := Lib.hid ho
        have HPR := Lib.hid (RdC.more hbel.size _ _ hpr)
        clear ho hpr
        go_wp2_with fail
        refine (implCompose_d _ _ cur ps _ HO.out.read HPR.out hsc hsp).mono ?_
        rintro e w2 ⟨v2, rfl, o2, b2⟩
        obtain ⟨A3, c3, rfl⟩ := sliceP o2.read
        have HO2 := Lib.hid o2
        clear o2
        cases hfit : composeB cur ps
        · have HN := Lib.hid (show composeAllB l n = false by
            have : foldCo l n = none := foldCo_none (k := k + 1) (by rw [K1.out]; simp [stepCo, hfit])
            unfold composeAllB; rw [this]; simp)
          go_wp2
          go_ret2
          rw [HN.out, composeAll_f HN.out]
          exact ⟨_, rfl, nilOwn _ _ rfl (hbel.trans (b2.mono hbel.size)).size, hbel.trans (b2.mono hbel.size)⟩
        · have K2 := Lib.hid (show foldCo (l.take (k + 1)) n = some (composeT cur ps) by rw [K1.out]; simp [stepCo, hfit])
          go_wp2
          go_roundw
          case rel => exact ⟨k + 1, composeT cur ps, by omega, by go_num, K2.out, HO2.out.wide hbel.size (Nat.le_refl _) (Nat.le_refl _), hbel.trans (b2.mono hbel.size)⟩
          case measure => simp [intOf]; omega
      · have hke : l.take k = l := List.take_of_length_le (by omega)
        have HF2 := Lib.hid (show foldCo l n = some cur by rw [← HF.out, hke])
        obtain ⟨Ao, co, rfl⟩ := sliceP ho.read
        have HO := Lib.hid ho
        clear ho
        have HN := Lib.hid (show composeAllB l n = true ∧ composeAllT l n = cur by
          have e1 : composeAllB l n = true := by unfold composeAllB; rw [HIN.out, HF2.out]; rfl
          exact ⟨e1, by unfold composeAllT; rw [if_pos e1, HF2.out]; rfl⟩)
        go_wp2
        go_ret2
        rw [HN.out.1, HN.out.2]
        exact ⟨_, rfl, HO.out, hbel⟩

set_option maxHeartbeats 1600000 in
theorem implPartCount_d (v : Value) (ps : List Pt) (k : Int) (w : World) (h : RdC w w.heap.size (encPs ps) v) (hs : SmP ps) : Calls Try.prog 31 #[v, .int .i64 k] w (Nums1 (countK ps k) w) := by
  obtain ⟨A, c, rfl, hr, _⟩ := parts_rd h
  have hl := hs.1
  go_enter Try.func31, Try.ntmps31
  go_wp2
  go_loopw [5, 10] (fun o i wr => ∃ j : Nat, j ≤ ps.length ∧ i = .int .i64 j ∧ o = .int .i64 (countK (ps.take j) k) ∧ Below w.heap.size w wr) (fun _ i _ => ps.length - (intOf i).toNat)
  case atStart => exact ⟨0, Nat.zero_le _, rfl, rfl, Below.refl _ _⟩
  case round =>
    obtain ⟨j, hj, rfl, rfl, hbel⟩ := hrel
    have hb2 := countK_le ps k j
    by_cases hlt : j < ps.length
    · obtain ⟨b, off, p, rfl, hb, hp, hc⟩ := hr.at_ hlt
      obtain ⟨x0, x1, A1, e1, x2, r1⟩ := hc.keep (w' := wr) hb (fun _ hq => hbel.cell hq)
      have K1 := Lib.hid (countK_snoc (k := k) hp)
      clear hp hc
      generalize countK (ps.take j) k = q at *
      obtain ⟨pk, pn, pz⟩ := p
      simp only at x0 x1 x2
      by_cases he : pk = k
      · have he' : (pk == k) = true := by simp [he]
        have K2 := Lib.hid (show countK (ps.take (j + 1)) k = q + 1 by rw [K1.out]; simp [he])
        clear he
        go_wp2
        go_roundw
        case rel => exact ⟨j + 1, by omega, by go_num, by rw [K2.out], hbel.trans ((alloc_below wr _).mono hbel.size)⟩
        case measure => simp [intOf]; omega
      · have he' : (pk == k) = false := by simp [he]
        have K2 := Lib.hid (show countK (ps.take (j + 1)) k = q by rw [K1.out]; simp [he])
        clear he
        go_wp2
        go_roundw
        case rel => exact ⟨j + 1, by omega, by go_num, by rw [K2.out], hbel.trans ((alloc_below wr _).mono hbel.size)⟩
        case measure => simp [intOf]; omega
    · have hke : ps.take j = ps := List.take_of_length_le (by omega)
      rw [hke] at hb2 ⊢
      generalize countK ps k = q at *
      go_wp2
      go_ret
      exact ⟨rfl, hbel⟩
end Go.Proofs.Ytihajkppeiainaa.low


/-
  Applying: the lengths; a row that is filled from the front by copies.
-/
namespace Go.Proofs.Ytihajkppeiainaa.low
open Go.RowKit
set_option linter.unusedVariables false

theorem foldA_len {t : List Int} {ps : List Pt} (h : fitsB ps t = true) : ∀ k, k ≤ ps.length → ((foldA t (ps.take k)).2.length : Int) = sumOf keepOf (ps.take k) + sumOf putOf (ps.take k)
  | 0, _ => by simp [foldA, sumOf]
  | k + 1, hk => by
    obtain ⟨p, hp⟩ := idx_some (l := ps) (i := k) (by omega)
    have i2 := foldA_len h k (by omega)
    have hok := (fits_of h).1
    have hp' := of_okPt (okPs_at hp hok)
    have hin := foldA_in h hp
    rw [foldA_snoc hp, sumOf_snoc hp, sumOf_snoc hp]
    generalize foldA t (ps.take k) = s at *
    generalize sumOf keepOf (ps.take k) = q1 at *
    generalize sumOf putOf (ps.take k) = q2 at *
    unfold stepA keepOf putOf
    rcases (show p.kind = 1 ∨ p.kind = 2 ∨ p.kind = 3 by omega) with e | e | e
    · have hin := hin (.inl e)
      simp only [e, if_true]
      rw [List.length_append, List.length_take, List.length_drop]
      simp
      omega
    · simp only [e]
      simp
      omega
    · simp only [e]
      simp
      omega
theorem foldA_upto {t : List Int} {ps : List Pt} {n : Nat} (h : fitsB ps t = true) (hn : sumK ps + sumP ps = (n : Int)) (k : Nat) (hk : k ≤ ps.length) : (foldA t (ps.take k)).2.length ≤ n := by
  have h1 := foldA_len h k hk
  obtain ⟨hok, _, _, _, _, _, ho⟩ := fits_of h
  have hp : partsB ps = true := by unfold okOp at ho; rw [Bool.and_eq_true, Bool.and_eq_true] at ho; exact ho.1.1
  obtain ⟨t1, t2, t3⟩ := sum_t hp
  rw [t1, t2] at hn
  have a1 := sumOf_take (f := keepOf) (ps := ps) (fun q hq => (ok_bd (okPs_mem' hok hq)).1.1) k
  have a2 := sumOf_take (f := putOf) (ps := ps) (fun q hq => (ok_bd (okPs_mem' hok hq)).2.1.1) k
  omega
theorem foldA_all {t : List Int} {ps : List Pt} {n : Nat} (h : fitsB ps t = true) (hn : sumK ps + sumP ps = (n : Int)) : (foldA t ps).2.length = n := by
  have h1 := foldA_len h ps.length (Nat.le_refl _)
  rw [List.take_length] at h1
  obtain ⟨hok, _, _, _, _, _, ho⟩ := fits_of h
  have hp : partsB ps = true := by unfold okOp at ho; rw [Bool.and_eq_true, Bool.and_eq_true] at ho; exact ho.1.1
  obtain ⟨t1, t2, t3⟩ := sum_t hp
  rw [t1, t2] at hn
  omega
theorem fits_n {t : List Int} {ps : List Pt} (h : fitsB ps t = true) : ∃ n : Nat, sumK ps + sumP ps = (n : Int) ∧ n ≤ 200 := by
  obtain ⟨hok, _, _, h4, _, _, ho⟩ := fits_of h
  have hp : partsB ps = true := by unfold okOp at ho; rw [Bool.and_eq_true, Bool.and_eq_true] at ho; exact ho.1.1
  obtain ⟨t1, t2, t3⟩ := sum_t hp
  have h1 := foldA_len h ps.length (Nat.le_refl _)
  rw [List.take_length] at h1
  exact ⟨(foldA t ps).2.length, by rw [t1, t2]; omega, by omega⟩
/-- a row of n cells of which the first are filled -/
def fillR (n : Nat) (out : List Int) : List Value := out.map (Value.int .i64) ++ List.replicate (n - out.length) (Value.int .i64 0)
theorem fill_len (n : Nat) (out : List Int) (h : out.length ≤ n) : (fillR n out).length = n := by unfold fillR; simp; omega
theorem fill_splice (n : Nat) (out ys : List Int) (h : out.length + ys.length ≤ n) : splice (fillR n out) out.length (ys.map (Value.int .i64)) = fillR n (out ++ ys) := by
  unfold splice fillR
  have e1 : (out.map (Value.int .i64) ++ List.replicate (n - out.length) (Value.int .i64 0)).take out.length = out.map (Value.int .i64) := by
    rw [List.take_append_of_le_length (by simp), List.take_of_length_le (by simp)]
  have e2 : (out.map (Value.int .i64) ++ List.replicate (n - out.length) (Value.int .i64 0)).drop (out.length + (ys.map (Value.int .i64)).length) = List.replicate (n - (out ++ ys).length) (Value.int .i64 0) := by
    rw [List.drop_append, List.drop_eq_nil_of_le (by simp), List.nil_append, List.drop_replicate]
    congr 1
    simp
    omega
  rw [e1, e2, List.map_append, List.append_assoc]
theorem fill_all (n : Nat) (out : List Int) (h : out.length = n) : fillR n out = out.map (Value.int .i64) := by
  unfold fillR
  rw [h]
  simp
theorem own_full {w : World} {base r n : Nat} {e : TypeId} {xs : List Value} (h : w.ownsRow base e 1 (.slice (some ⟨r, 0, none⟩) n n) n xs) : w.heap[r]? = some (.cells xs.toArray e (0, 0)) ∧ base ≤ r ∧ xs.length = n := by
  have hl := h.1
  rcases h.2 with ⟨h1, _⟩ | ⟨g, cap, cur, hv, hge, hh, h4, h5, h6, h7⟩
  · cases h1
  · injection hv with q1 q2 q3
    injection q1 with q1
    injection q1 with q1
    subst q1
    subst q3
    have : cur = xs.toArray := by
      rw [← h7, List.take_of_length_le (by simp; omega)]
    subst this
    exact ⟨hh, hge, by simpa using hl⟩
theorem full_own {w : World} {base r n : Nat} {e : TypeId} {xs : List Value} (h : w.heap[r]? = some (.cells xs.toArray e (0, 0))) (hb : base ≤ r) (hl : xs.length = n) (hn : n ≤ 4294967296) : w.ownsRow base e 1 (.slice (some ⟨r, 0, none⟩) n n) n xs := by
  refine ⟨by simpa using hl, .inr ⟨r, n, xs.toArray, rfl, hb, h, Nat.le_refl _, by unfold maxLen; omega, by simp [hl], ?_⟩⟩
  rw [List.take_of_length_le (by simp [hl])]
end Go.Proofs.Ytihajkppeiainaa.low


/-
  The program's side: contract of impl.Apply.
-/
namespace Go.Proofs.Ytihajkppeiainaa.low
open Go.RowKit
set_option linter.unusedVariables false

theorem Rdr.drew {B g : Nat} {w : World} {zs : List Int} (h : Rdr B g w zs) : Rdr B g w.drew zs := h.keep rfl (fun _ _ => rfl)
theorem int_size : (Try.prog.info? 3).map (·.size) = some 1 := by kernel_rfl
theorem made_zero (n : Nat) : (madeCells (Value.cells (Value.int .i64 0)) (n * 1)).toList = fillR n [] := by
  unfold fillR
  simp [madeCells, Value.cells, Nat.mod_one, List.map_const']
theorem Row.src {w : World} {B : Nat} {A : Option Addr} {ys : List Int} (h : Row (Value.int .i64) w B A ys) (hp : 0 < (ys.map (Value.int .i64)).length) : ∃ ad, A = some ad ∧ ∀ j v, (ys.map (Value.int .i64))[j]? = some v → w.cell? (ad.add j) = some v := by
  obtain ⟨ad, e, _, hc⟩ := h (by simpa using hp)
  refine ⟨ad, e, fun j v hv => ?_⟩
  rw [List.getElem?_map] at hv
  obtain ⟨z, hz, rfl⟩ := Option.map_eq_some_iff.1 hv
  exact hc j z hz
theorem ints_one (ys : List Int) : ∀ v ∈ ys.map (Value.int .i64), v.oneCell' = true := by
  intro v hv
  obtain ⟨z, _, rfl⟩ := List.mem_map.1 hv
  rfl

set_option maxRecDepth 100000 in
set_option maxHeartbeats 3200000 in
theorem implApply_d (v v' : Value) (ps : List Pt) (t : List Int) (w : World) (h : RdC w w.heap.size (encPs ps) v) (h' : RdC w w.heap.size (encInts t) v') (hs : SmP ps) (hs' : SmI t) : Calls Try.prog 11 #[v, v'] w (ResB (encInts (applyT ps t)) (fitsB ps t) w) := by
  obtain ⟨A, c, rfl, hr, _⟩ := parts_rd h
  obtain ⟨A', c', rfl, hr', hcap⟩ := ints_rd h'
  obtain ⟨i0, hi0, hz0, hz1, hz2⟩ := info_parts ints_info
  cases hf : fitsB ps t
  · have e1 : applyT ps t = [] := by simp [applyT, hf]
    rw [e1]
    go_enter Try.func11, Try.ntmps11
    go_wp2_with fail
    refine (implFits_d _ _ ps t _ h h' hs hs').mono ?_
    rintro e w1 ⟨rfl, b1⟩
    rw [hf]
    go_wp2
    go_ret2
    exact ⟨_, rfl, ⟨[], ⟨[], [], World.ownsRow_nil _ _ _ _, ⟨rfl, rfl⟩, rfl⟩, by simp, fun b hb => by simp at hb, Nat.le_refl _, b1.size⟩, b1⟩
  · have e1 : applyT ps t = (foldA t ps).2 := by simp [applyT, hf]
    rw [e1]
    have HF := Lib.hid hf
    have HFO := Lib.hid (fits_of hf)
    have hl := HFO.out.2.1
    have ht := HFO.out.2.2.2.2.2.1
    obtain ⟨n, hn, hn2⟩ := fits_n hf
    have HN := Lib.hid hn
    clear hn
    have hl1 := hs.1
    go_enter Try.func11, Try.ntmps11
    go_wp2_with fail
    refine (implFits_d _ _ ps t _ h h' hs hs').mono ?_
    rintro e w1 ⟨rfl, b1⟩
    rw [hf]
    clear hf e1
    go_wp2_with fail
    have hrd : Rdr w.heap.size w1.heap.size (w1.alloc (.cells #[.slice A' t.length c'] 65)) t := ⟨A', c', heap_alloc_new w1 _, hcap, (hr'.below b1).keep (fun p hp => (alloc_below w1 _).cell (Nat.lt_of_lt_of_le hp b1.size)), b1.size⟩
    have hb2 := b1.trans ((alloc_below w1 (.cells #[.slice A' t.length c'] 65)).mono b1.size)
    generalize w1.alloc (.cells #[.slice A' t.length c'] 65) = w2 at *
    have hwg := b1.size
    generalize w1.heap.size = g at *
    clear b1
    refine (implOpTo_any A c ps w2 (hr.past hb2) (by omega) hs.all4).mono ?_
    rintro e w3 ⟨rfl, b3⟩
    rw [HN.out]
    have hrd3 := hrd.past b3
    have hb3 := hb2.trans (b3.mono hb2.size)
    clear hrd hb2 b3
    go_wp2_with (at_make; refine wpList_make_full _ rfl _ _ 23 rfl w3.heap.size 3 i0 (.int .i64 0) 1 Try.underlying23 hi0 hz0 hz1 _ _ _ _ n rfl rfl (by omega) (by omega) (by rw [hz2]; omega) (by unfold maxLen; omega) (Nat.le_refl _) ?_; intro w4 hown hg4)
    have hb4 := (Below.refl w3.heap.size w3).grown hg4 (Nat.le_refl _) (fun _ h => by cases h)
    rw [made_zero] at hown
    have hrow := (own_full hown).1
    have hrd4 := hrd3.past hb4
    have hgr := hrd3.lt
    have hbw := hb3.trans (hb4.mono hb3.size)
    have hwr := hb3.size
    generalize w3.heap.size = r at *
    have HRW := Lib.hid hrow
    have HRD := Lib.hid hrd4
    clear hown hg4 hb4 hrow hrd4 hrd3 hb3
    go_loopw [8, 23] (fun a i wr => ∃ k : Nat, k ≤ ps.length ∧ i = .int .i64 k ∧ a = .int .i64 ((foldA t (ps.take k)).2.length : Int) ∧ wr.heap[r]? = some (.cells (fillR n (foldA t (ps.take k)).2).toArray 3 (0, 0)) ∧ Rdr w.heap.size g wr (t.drop (foldA t (ps.take k)).1) ∧ Below w.heap.size w wr) (fun _ i _ => ps.length - (intOf i).toNat)
    case atStart => exact ⟨0, Nat.zero_le _, rfl, rfl, HRW.out, HRD.out, hbw⟩
    case round =>
      obtain ⟨k, hk, rfl, rfl, hrow, hrd, hbel⟩ := hrel
      clear HRW HRD hbw
      have hout := foldA_upto HF.out HN.out k hk
      have hfit := Lib.hid (foldA_fit (t := t) HFO.out.1 k hk)
      by_cases hlt : k < ps.length
      · obtain ⟨b, off, p, rfl, hb, hp, hc⟩ := hr.at_ hlt
        obtain ⟨x0, x1, A1, e1, x2, r1⟩ := hc.keep (w' := wr) hb (fun _ hq => hbel.cell hq)
        have hokp := okPs_at hp HFO.out.1
        have hok := of_okPt hokp
        have hout1 := foldA_upto HF.out HN.out (k + 1) hlt
        have hin := foldA_in HF.out hp
        rw [foldA_snoc (t := t) hp] at hout1
        have K1 := Lib.hid (foldA_snoc (t := t) hp)
        have hsl := hs.all p (List.mem_of_getElem? hp)
        clear hp hc
        have hat : (foldA t (ps.take k)).1 ≤ 200 := by
          have f := hfit.out
          have a1 := sumOf_take (f := keepOf) (ps := ps) (fun q hq => (ok_bd (okPs_mem' HFO.out.1 hq)).1.1) k
          have a3 := sumOf_take (f := dropOf) (ps := ps) (fun q hq => (ok_bd (okPs_mem' HFO.out.1 hq)).2.2.1) k
          have g1 := HFO.out.2.2.1
          omega
        generalize foldA t (ps.take k) = st at *
        obtain ⟨at_, out⟩ := st
        obtain ⟨pk, pn, pz⟩ := p
        simp only at x0 x1 x2 hok r1 hin hrow hrd hat hout
        rcases (show pk = 1 ∨ pk = 2 ∨ pk = 3 by omega) with rfl | rfl | rfl
        · have hn1 : 0 ≤ pn := by omega
          have hn2 : pn ≤ 200 := by omega
          have hin' := hin (.inl rfl)
          obtain ⟨m, rfl⟩ := Int.eq_ofNat_of_zero_le hn1
          have hlen : ((t.drop at_).take m).length = m := piece_len (by omega)
          have K2 := Lib.hid (show stepA t (at_, out) ⟨1, (m : Int), pz⟩ = (at_ + m, out ++ (t.drop at_).take m) by simp [stepA])
          rw [K2.out] at hout1
          have HY := Lib.hid (show (t.drop at_).take ((t.drop at_).take m).length = (t.drop at_).take m by rw [hlen])
          generalize (t.drop at_).take m = ys at *
          obtain rfl : ys.length = m := hlen
          have hn3 : out.length + ys.length ≤ n := by simpa using hout1
          clear hok hin hout1
          have bA := alloc_below wr (.cells #[.int .i64 1, .int .i64 (ys.length : Int), .slice A1 pz.length e1] 67)
          have HRD := Lib.hid (hrd.past bA)
          have hrl := lt_of_some hrow
          have HRW := Lib.hid ((bA.block r hrl).trans hrow)
          clear hrd hrow r1
          have hb0 := hbel.trans (bA.mono hbel.size)
          clear bA
          have hfl : (ys.map (Value.int .i64)).length = Nat.min ys.length (n - out.length) := by rw [List.length_map]; exact (Nat.min_eq_left (by omega)).symm
          have HFL := Lib.hid hfl
          clear hfl
          have hdst : 0 < (ys.map (Value.int .i64)).length → (if n = out.length then some (⟨r, 0, none⟩ : Addr) else some ⟨r, out.length, none⟩) = some ⟨r, out.length, none⟩ := fun hp => if_neg (by rw [List.length_map] at hp; omega)
          have HDST := Lib.hid hdst
          clear hdst
          have hz1 : ys.length ≤ (t.drop at_).length := by rw [List.length_drop]; omega
          have hz2' : (t.drop at_).length ≤ 1000000 := by rw [List.length_drop]; omega
          have HZ1 := Lib.hid hz1
          have HZ2 := Lib.hid hz2'
          clear hz1 hz2'
          have hw1 : IntKind.i64.wrap ((out.length : Int) + (ys.length : Int)) = (out.length : Int) + (ys.length : Int) := IntWalk.i64_in _ (by omega)
          go_wp2
          go_region_law (first | (refine step_copy_splice rfl (.tmp 34) (.tmp 38) 23 23 rfl 3 Try.underlying23 int_size (if n = out.length then some (⟨r, 0, none⟩ : Addr) else some ⟨r, out.length, none⟩) A4 (n - out.length) (n - out.length) ys.length ys.length rfl rfl r out.length (fillR n out) 3 (by exact hrw4.out) (ys.map (Value.int .i64)) (by exact HFL.out) (fun hp => ⟨HDST.out hp, r4.out.src hp⟩) (by rw [fill_len _ _ hout]; simpa using hn3) (ints_one _) r _ (Below.refl _ _) (Nat.le_refl _) ?_; intro w5 hg5 hb5) | (go_simp; go_at_call 41; refine (implNext w.heap.size g ys.length (t.drop at_) _ (by exact HRD.out.drew) (by exact HZ1.out) (by exact HZ2.out)).mono ?_; rintro e w4 ⟨A4, rfl, r4, rd4, t4⟩; rw [HY.out] at r4; replace r4 := Lib.hid r4; have HR4 := Lib.hid rd4; have hrw4 := Lib.hid ((t4.block r (by omega)).trans HRW.out); clear rd4))
          have hb4' : Below w.heap.size w w4 := hb0.drew.trans (t4.below (fun b hb => by have hb' : b = g := hb; omega))
          have hb5' : Below w.heap.size w w5 := hb4'.trans (hb5.mono hwr)
          have HR5 := Lib.hid (show w5.heap[r]? = some (.cells (fillR n (out ++ ys)).toArray 3 (0, 0)) by rw [hg5.out, fill_splice _ _ _ hn3])
          have HD5 := Lib.hid (HR4.out.keep (hb5.block g hgr) (fun p hp => hb5.cell (by omega)))
          clear hg5 hb5 HDST HFL hb4' t4
          go_wp2
          go_roundw
          case rel => exact ⟨k + 1, by omega, by go_num, by rw [K1.out, K2.out]; simp, by rw [K1.out, K2.out]; exact HR5.out, by rw [K1.out, K2.out]; have := HD5.out; rw [List.drop_drop] at this; exact this, hb5'⟩
          case measure => simp [intOf]; omega
        · have hn3 : out.length + pz.length ≤ n := by
            have := hout1
            simp [stepA] at this
            exact this
          clear hok hin hout1
          have bA := alloc_below wr (.cells #[.int .i64 2, .int .i64 pn, .slice A1 pz.length e1] 67)
          have HRD := Lib.hid (hrd.past bA)
          have hrl := lt_of_some hrow
          have HRW := Lib.hid ((bA.block r hrl).trans hrow)
          have hpc := Lib.hid (Row.past_alloc (r1.more hbel.size) (.cells #[.int .i64 2, .int .i64 pn, .slice A1 pz.length e1] 67))
          clear hrd hrow r1
          have hb0 := hbel.trans (bA.mono hbel.size)
          clear bA
          have hfl : (pz.map (Value.int .i64)).length = Nat.min pz.length (n - out.length) := by rw [List.length_map]; exact (Nat.min_eq_left (by omega)).symm
          have HFL := Lib.hid hfl
          clear hfl
          have hw1 : IntKind.i64.wrap ((out.length : Int) + (pz.length : Int)) = (out.length : Int) + (pz.length : Int) := IntWalk.i64_in _ (by omega)
          have hdst : 0 < (pz.map (Value.int .i64)).length → (if n = out.length then some (⟨r, 0, none⟩ : Addr) else some ⟨r, out.length, none⟩) = some ⟨r, out.length, none⟩ := fun hp => if_neg (by rw [List.length_map] at hp; omega)
          have HDST := Lib.hid hdst
          clear hdst
          go_wp2
          go_region_law (refine step_copy_splice rfl (.tmp 46) (.tmp 48) 23 23 rfl 3 Try.underlying23 int_size (if n = out.length then some (⟨r, 0, none⟩ : Addr) else some ⟨r, out.length, none⟩) A1 (n - out.length) (n - out.length) pz.length e1 rfl rfl r out.length (fillR n out) 3 (by exact HRW.out) (pz.map (Value.int .i64)) (by exact HFL.out) (fun hp => ⟨HDST.out hp, hpc.out.src hp⟩) (by rw [fill_len _ _ hout]; simpa using hn3) (ints_one _) r _ (Below.refl _ _) (Nat.le_refl _) ?_; intro w5 hg5 hb5)
          have hb5' : Below w.heap.size w w5 := hb0.drew.trans (hb5.mono hwr)
          have HR5 := Lib.hid (show w5.heap[r]? = some (.cells (fillR n (out ++ pz)).toArray 3 (0, 0)) by rw [hg5.out, fill_splice _ _ _ hn3])
          have HD5 := Lib.hid (HRD.out.drew.keep (hb5.block g hgr) (fun p hp => hb5.cell (by omega)))
          clear hg5 hb5 HDST HFL
          go_wp2
          go_roundw
          case rel => exact ⟨k + 1, by omega, by go_num, by rw [K1.out]; simp [stepA], by rw [K1.out]; exact HR5.out, by rw [K1.out]; exact HD5.out, hb5'⟩
          case measure => simp [intOf]; omega
        · have hn1 : 0 ≤ pn := by omega
          have hn2 : pn ≤ 200 := by omega
          have hin' := hin (.inr rfl)
          clear hok hin hout1
          obtain ⟨m, rfl⟩ := Int.eq_ofNat_of_zero_le hn1
          have bA := alloc_below wr (.cells #[.int .i64 3, .int .i64 (m : Int), .slice A1 pz.length e1] 67)
          have HRD := Lib.hid (hrd.past bA)
          have hrl := lt_of_some hrow
          have HRW := Lib.hid ((bA.block r hrl).trans hrow)
          clear hrd hrow
          have hb0 := hbel.trans (bA.mono hbel.size)
          clear bA
          go_wp2_with fail
          refine (implNext w.heap.size g m (t.drop at_) _ HRD.out (by rw [List.length_drop]; omega) (by rw [List.length_drop]; omega)).mono ?_
          rintro e w4 ⟨A4, rfl, r4, rd4, t4⟩
          have HR4 := Lib.hid rd4
          have hrw4 := Lib.hid ((t4.block r (by omega)).trans HRW.out)
          have hb4 := hb0.trans (t4.below (fun b hb => by have := hb; omega))
          clear r4 rd4 t4
          go_wp2
          go_roundw
          case rel => exact ⟨k + 1, by omega, by go_num, by rw [K1.out]; rfl, by rw [K1.out]; exact hrw4.out, by rw [K1.out]; have := HR4.out; rw [List.drop_drop] at this; simpa [stepA] using this, hb4⟩
          case measure => simp [intOf]; omega
      · have hke : ps.take k = ps := List.take_of_length_le (by omega)
        rw [hke] at hrow hrd ⊢
        have hall := foldA_all HF.out HN.out
        rw [fill_all _ _ hall] at hrow
        have HO := Lib.hid (full_own (base := w.heap.size) hrow hwr (by simpa using hall) (by omega))
        have HL := Lib.hid hall
        clear hrow hrd hall hke hout
        generalize (foldA t ps).2 = out at *
        go_wp2
        go_ret2
        have HO2 := HO.out
        rw [← HL.out] at HO2 ⊢
        exact ⟨_, rfl, ⟨_, ow_ints HO2, by simp [Value.ownBlock], fun b hb => by
          have hb' : b = r := by simpa [Value.ownBlock] using hb
          subst hb'
          exact ⟨hwr, own_in HO2 rfl⟩, Nat.le_refl _, hbel.size⟩, hbel⟩
end Go.Proofs.Ytihajkppeiainaa.low


/-
  The program's side: contracts of impl.ApplyAll and impl.Idle.
-/
namespace Go.Proofs.Ytihajkppeiainaa.low
open Go.RowKit
set_option linter.unusedVariables false

set_option maxRecDepth 100000 in
set_option maxHeartbeats 3200000 in
theorem implApplyAll_d (v v' : Value) (l : List (List Pt)) (t : List Int) (w : World) (h : RdC w w.heap.size (encPss l) v) (h' : RdC w w.heap.size (encInts t) v') (hs : SmPP l) (hs' : SmI t) : Calls Try.prog 10 #[v, v'] w (ResB (encInts (applyAllT l t)) (applyAllB l t) w) := by
  obtain ⟨A, c, rfl⟩ := pss_len h
  obtain ⟨A', c', rfl, hr', _⟩ := ints_rd h'
  obtain ⟨i0, hi0, hz0, hz1, hz2⟩ := info_parts ints_info
  have hl := hs.1
  have ht : t.length ≤ 1048576 := hs'
  cases htx : okText t
  · have HN := Lib.hid (show applyAllB l t = false ∧ applyAllT l t = [] by
      have e1 : applyAllB l t = false := by unfold applyAllB; rw [htx, Bool.and_false]
      exact ⟨e1, by unfold applyAllT; rw [e1]; rfl⟩)
    go_enter Try.func10, Try.ntmps10
    go_wp2_with fail
    refine (implTextOk_d _ t _ h' hs').mono ?_
    rintro e w1 ⟨rfl, b1⟩
    rw [htx]
    go_wp2
    go_ret2
    rw [HN.out.1, HN.out.2]
    exact ⟨_, rfl, nilOwn _ _ rfl b1.size, b1⟩
  · have HTX := Lib.hid htx
    have hsrc : Nat.min t.length t.length = t.length := Nat.min_self _
    have hfl : (t.map (Value.int .i64)).length = Nat.min t.length t.length := by rw [List.length_map, hsrc]
    have HFL := Lib.hid hfl
    clear hfl hsrc
    go_enter Try.func10, Try.ntmps10
    go_wp2_with fail
    refine (implTextOk_d _ t _ h' hs').mono ?_
    rintro e w1 ⟨rfl, b1⟩
    rw [htx]
    clear htx
    go_wp2_with (first | (at_make; refine wpList_make_full _ rfl _ _ 23 rfl w1.heap.size 3 i0 (.int .i64 0) 1 Try.underlying23 hi0 hz0 hz1 _ _ _ _ t.length rfl rfl (by omega) (by omega) (by rw [hz2]; omega) (by unfold maxLen; omega) (Nat.le_refl _) ?_; intro w2 hown hg2; rw [made_zero] at hown; have HROW := Lib.hid (own_full hown).1; have hb2 := (Below.refl w1.heap.size w1).grown hg2 (Nat.le_refl _) (fun _ h => by cases h); have hsr := Lib.hid ((hr'.past b1).past hb2); clear hown hg2) | (refine wpList_copy_splice (o := ⟨some 19, _, _, _, _, _⟩) rfl (.tmp 17) (.tmp 18) 23 23 rfl 3 Try.underlying23 int_size (some ⟨w1.heap.size, 0, none⟩) A' t.length t.length t.length c' rfl rfl w1.heap.size 0 (fillR t.length []) 3 HROW.out (t.map (Value.int .i64)) HFL.out (fun hp => ⟨rfl, hsr.out.src hp⟩) (by rw [fill_len _ _ (Nat.zero_le _)]; simp) (ints_one _) w1.heap.size _ (Below.refl _ _) (Nat.le_refl _) ?_; intro w3 hg3 hb3))
    have hbn := b1.trans ((hb2.trans hb3).mono b1.size)
    have hrow3 : w3.heap[w1.heap.size]? = some (.cells (t.map (Value.int .i64)).toArray 3 (0, 0)) := by
      have e := fill_splice t.length [] t (by simp)
      rw [List.nil_append, List.length_nil] at e
      rw [hg3.out, e, fill_all _ _ rfl]
    have HON := Lib.hid (ownInts (full_own (base := w.heap.size) hrow3 b1.size (by simp) (by omega)) hbn.size)
    clear hrow3 hg3 hb3 hb2 b1 HROW hsr HFL
    generalize w1.heap.size = r at *
    go_loopw [6, 22] (fun o i wr => ∃ (k : Nat) (cur : List Int), k ≤ l.length ∧ i = .int .i64 k ∧ foldAll (l.take k) t = some cur ∧ Own w.heap.size wr.heap.size wr (encInts cur) o ∧ Below w.heap.size w wr) (fun _ i _ => l.length - (intOf i).toNat)
    case atStart => exact ⟨0, t, Nat.zero_le _, rfl, rfl, HON.out, hbn⟩
    case round =>
      obtain ⟨k, cur, hk, rfl, hf, ho, hbel⟩ := hrel
      clear HON hbn
      have HF := Lib.hid hf
      have hcl := foldAll_len hk hf
      clear hf
      by_cases hlt : k < l.length
      · obtain ⟨ad, ps, A1, c1, rfl, hb, hp, hc, hpr⟩ := pss_at (h.below hbel) hlt
        have K1 := Lib.hid (foldAll_snoc (t := t) hp)
        rw [HF.out] at K1
        have hsp := hs.all ps (List.mem_of_getElem? hp)
        clear hp
        obtain ⟨Ao, co, rfl⟩ := sliceI ho.read
        have HO := Lib.hid ho
        have HPR := Lib.hid (RdC.more hbel.size _ _ hpr)
        clear ho hpr
        have hsc : SmI cur := by unfold SmI; omega
        go_wp2_with fail
        refine (implApply_d _ _ ps cur _ HPR.out HO.out.read hsp hsc).mono ?_
        rintro e w1 ⟨v1, rfl, o1, b1⟩
        obtain ⟨A3, c3, rfl⟩ := sliceI o1.read
        have HO1 := Lib.hid o1
        clear o1
        cases hfit : fitsB ps cur
        · have HN := Lib.hid (show applyAllB l t = false ∧ applyAllT l t = [] by
            have : foldAll l t = none := foldAll_none (k := k + 1) (by rw [K1.out]; simp [stepAll, hfit])
            have e1 : applyAllB l t = false := by unfold applyAllB; rw [this]; rfl
            exact ⟨e1, by unfold applyAllT; rw [e1]; rfl⟩)
          go_wp2
          go_ret2
          rw [HN.out.1, HN.out.2]
          exact ⟨_, rfl, nilOwn _ _ rfl (hbel.trans (b1.mono hbel.size)).size, hbel.trans (b1.mono hbel.size)⟩
        · have K2 := Lib.hid (show foldAll (l.take (k + 1)) t = some (applyT ps cur) by rw [K1.out]; simp [stepAll, hfit])
          go_wp2
          go_roundw
          case rel => exact ⟨k + 1, applyT ps cur, by omega, by go_num, K2.out, HO1.out.wide hbel.size (Nat.le_refl _) (Nat.le_refl _), hbel.trans (b1.mono hbel.size)⟩
          case measure => simp [intOf]; omega

      · have hke : l.take k = l := List.take_of_length_le (by omega)
        have HF2 := Lib.hid (show foldAll l t = some cur by rw [← HF.out, hke])
        obtain ⟨Ao, co, rfl⟩ := sliceI ho.read
        have HO := Lib.hid ho
        clear ho
        have HN := Lib.hid (show applyAllB l t = true ∧ applyAllT l t = cur by
          have e1 : applyAllB l t = true := by unfold applyAllB; rw [HTX.out, HF2.out]; rfl
          exact ⟨e1, by unfold applyAllT; rw [if_pos e1, HF2.out]; rfl⟩)
        go_wp2
        go_ret2
        rw [HN.out.1, HN.out.2]
        exact ⟨_, rfl, HO.out, hbel⟩
end Go.Proofs.Ytihajkppeiainaa.low


/-
  The program's side: contract of impl.Invert.
-/
namespace Go.Proofs.Ytihajkppeiainaa.low
open Go.RowKit
set_option linter.unusedVariables false

theorem implOpNorm_d (v : Value) (ps : List Pt) (w : World) (h : RdC w w.heap.size (encPs ps) v) (hs : SmP ps) : Calls Try.prog 18 #[v] w (OwnPost (encPs (normL ps)) w) := by
  obtain ⟨A, c, rfl, hr, _⟩ := parts_rd h
  have hl := hs.1
  refine (implOpNorm_any A c ps w hr (by omega) hs.all4 hs.2).mono ?_
  rintro e w1 ⟨v1, rfl, p1, b1⟩
  exact ⟨v1, rfl, own_parts p1, b1⟩

/-- the state of Invert's loop: the reader at gr, the builder at g with its blocks O, the normal form in blocks from z2 to z3 -/
structure InvS (B gr g z2 z3 : Nat) (t : List Int) (qs : List Pt) (Qv : Value) (bq : List Nat) (O : Nat → Prop) (at_ : Nat) (L : List Pt) (w0 wr : World) : Prop where
  rd : Rdr B gr wr (t.drop at_)
  bd : Bld O B g 74 wr L
  far : ∀ x, O x → (x < z2 ∨ z3 ≤ x) ∧ ¬ x = gr
  ow : OwB z2 z3 wr (encPs qs) Qv bq
  low : gr < z2
  bel : Below B w0 wr
theorem InvS.base {B gr g z2 z3 : Nat} {t : List Int} {qs : List Pt} {Qv : Value} {bq : List Nat} {O : Nat → Prop} {at_ : Nat} {L : List Pt} {w0 wr : World} (h : InvS B gr g z2 z3 t qs Qv bq O at_ L w0 wr) : B ≤ gr := by
  obtain ⟨_, _, _, _, _, h4⟩ := h.rd
  exact h4
theorem InvS.past {B gr g z2 z3 : Nat} {t : List Int} {qs : List Pt} {Qv : Value} {bq : List Nat} {O : Nat → Prop} {at_ : Nat} {L : List Pt} {w0 wr w' : World} (h : InvS B gr g z2 z3 t qs Qv bq O at_ L w0 wr) (hb : Below wr.heap.size wr w') (hB : B ≤ wr.heap.size) : InvS B gr g z2 z3 t qs Qv bq O at_ L w0 w' :=
  ⟨h.rd.past hb, h.bd.past hb, h.far, h.ow.past hb, h.low, h.bel.trans (hb.mono hB)⟩
/-- the reader goes on -/
theorem InvS.next {B gr g z2 z3 : Nat} {t : List Int} {qs : List Pt} {Qv : Value} {bq : List Nat} {O : Nat → Prop} {at_ m : Nat} {L : List Pt} {w0 wr w' : World} (h : InvS B gr g z2 z3 t qs Qv bq O at_ L w0 wr) (hr : Rdr B gr w' ((t.drop at_).drop m)) (ht : Touch (fun b => b = gr) wr w') : InvS B gr g z2 z3 t qs Qv bq O (at_ + m) L w0 w' := by
  have hB := h.base
  have hl := h.low
  exact ⟨by rw [List.drop_drop] at hr; exact hr, h.bd.keep (by rw [ht.size]; exact Nat.le_refl _) (fun b _ hO => ht.block b (h.far b hO).2), h.far, h.ow.touch ht (fun x hx e => by have := h.ow.rng x hx; have e' : x = gr := e; omega), h.low, h.bel.trans (ht.below (fun b hb => by have e' : b = gr := hb; omega))⟩
/-- the builder has grown -/
theorem InvS.grow {B gr g z2 z3 : Nat} {t : List Int} {qs : List Pt} {Qv : Value} {bq : List Nat} {O O' : Nat → Prop} {at_ : Nat} {L L' : List Pt} {w0 wr w' : World} (h : InvS B gr g z2 z3 t qs Qv bq O at_ L w0 wr) (hb : Bld O' B g 74 w' L') (b : Below B wr w') (hg : Grew O O' wr w') : InvS B gr g z2 z3 t qs Qv bq O' at_ L' w0 w' := by
  have hlt := h.rd.lt
  refine ⟨h.rd.keep (hg.block gr hlt (fun ho => (h.far gr ho).2 rfl)) (fun p hp => b.cell hp), hb, fun x hx => ?_, h.ow.grew hg (fun x hx => (h.far x hx).1), h.low, h.bel.trans b⟩
  rcases hg.more x hx with h1 | h1
  · exact h.far x h1
  · exact ⟨.inr (Nat.le_trans h.ow.top h1), by omega⟩

set_option maxRecDepth 100000 in
set_option maxHeartbeats 3200000 in
theorem implInvert_d (v v' : Value) (ps : List Pt) (t : List Int) (w : World) (h : RdC w w.heap.size (encPs ps) v) (h' : RdC w w.heap.size (encInts t) v') (hs : SmP ps) (hs' : SmI t) : Calls Try.prog 17 #[v, v'] w (ResB (encPs (invertT ps t)) (fitsB ps t) w) := by
  obtain ⟨A, c, rfl⟩ := sliceP h
  obtain ⟨A', c', rfl, hr', hcap⟩ := ints_rd h'
  cases hf : fitsB ps t
  · have e1 : invertT ps t = [] := by simp [invertT, hf]
    rw [e1]
    go_enter Try.func17, Try.ntmps17
    go_wp2_with fail
    refine (implFits_d _ _ ps t _ h h' hs hs').mono ?_
    rintro e w1 ⟨rfl, b1⟩
    rw [hf]
    go_wp2
    go_ret2
    exact ⟨_, rfl, nilOwn _ _ rfl b1.size, b1⟩
  · have e1 : invertT ps t = doneN (foldN (foldI t (normL ps)).2) := by simp [invertT, hf]
    rw [e1]
    have HFN := Lib.hid (fits_norm hf)
    have ht := (fits_of hf).2.2.2.2.2.1
    go_enter Try.func17, Try.ntmps17
    go_wp2_with fail
    refine (implFits_d _ _ ps t _ h h' hs hs').mono ?_
    rintro e w1 ⟨rfl, b1⟩
    rw [hf]
    clear hf e1
    go_wp2_with fail
    have hrd : Rdr w.heap.size w1.heap.size (w1.alloc (.cells #[.slice A' t.length c'] 65)) t := ⟨A', c', heap_alloc_new w1 _, hcap, (hr'.below b1).keep (fun p hp => (alloc_below w1 _).cell (Nat.lt_of_lt_of_le hp b1.size)), b1.size⟩
    have hb2 := b1.trans ((alloc_below w1 (.cells #[.slice A' t.length c'] 65)).mono b1.size)
    have hsz2 : (w1.alloc (.cells #[.slice A' t.length c'] 65)).heap.size = w1.heap.size + 1 := by simp
    generalize hW2 : w1.alloc (.cells #[.slice A' t.length c'] 65) = w2 at *
    have hnew := Bld.new w.heap.size 74 w2 hb2.size
    have bN := alloc_below w2 (.cells #[.slice none 0 0, .slice none 0 0, .int .i64 0] 74)
    have hb3 := hb2.trans (bN.mono hb2.size)
    have hrd3 := hrd.past bN
    have hlt3 := hrd3.lt
    clear hrd bN b1 hb2
    rw [hsz2] at hnew
    try rw [hsz2]
    generalize w2.alloc (.cells #[.slice none 0 0, .slice none 0 0, .int .i64 0] 74) = w3 at *
    have hne : ∀ x, x = w1.heap.size + 1 → ¬ x = w1.heap.size := fun x hx => by omega
    have hold := hnew.old
    clear hsz2 hW2
    generalize w1.heap.size = gr at *
    generalize gr + 1 = g at *
    refine (implOpNorm_d _ ps w3 (h.past hb3) hs).mono ?_
    rintro e w4 ⟨v3, rfl, o3, b4⟩
    have hn2 := HFN.out.2.1
    generalize normL ps = qs at *
    obtain ⟨bq, oq⟩ := o3.blocks
    obtain ⟨Q, cq, rfl⟩ := sliceP oq.read
    have HS0 : InvS w.heap.size gr g w3.heap.size w4.heap.size t qs (.slice Q qs.length cq) bq (fun b => b = g) 0 [] w w4 := ⟨hrd3.past b4, hnew.past b4, fun x hx => ⟨.inl (hold x hx), hne x hx⟩, oq, hlt3, hb3.trans (b4.mono hb3.size)⟩
    replace HS0 := Lib.hid HS0
    clear hnew hrd3 hold hne oq o3 b4 hlt3 hb3
    generalize w3.heap.size = z2 at *
    generalize w4.heap.size = z3 at *
    go_wp2
    go_loopw [22] (fun i wr => ∃ (k : Nat) (O : Nat → Prop), k ≤ qs.length ∧ i = .int .i64 k ∧ InvS w.heap.size gr g z2 z3 t qs (.slice Q qs.length cq) bq O (foldI t (qs.take k)).1 (foldI t (qs.take k)).2 w wr) (fun i _ => qs.length - (intOf i).toNat)
    case atStart => exact ⟨0, _, Nat.zero_le _, rfl, HS0.out⟩
    case round =>
      obtain ⟨k, O, hk, rfl, hst⟩ := hrel
      clear HS0
      have hfit := Lib.hid (foldI_fit (t := t) HFN.out.1 k hk)
      have hat := foldI_at (t := t) HFN.out.1 HFN.out.2.2 hk
      have hLk : (foldI t (qs.take k)).2.length = k := hfit.out.2.1
      obtain ⟨Q', cq', eQ, hq, _⟩ := parts_rd hst.ow.read
      obtain ⟨rfl, rfl⟩ : Q' = Q ∧ cq' = cq := by injection eQ with e1 _ e3; exact ⟨e1.symm, e3.symm⟩
      clear eQ
      have hBs := hst.bel.size
      by_cases hlt : k < qs.length
      · obtain ⟨b, off, p, rfl, hb, hp, hc⟩ := hq.at_ hlt
        obtain ⟨x0, x1, A1, e1, x2, r1⟩ := hc
        have hok := of_okPt (okPs_at hp HFN.out.1)
        have K1 := Lib.hid (foldI_snoc (t := t) hp)
        have hin := foldI_in (t := t) HFN.out.1 HFN.out.2.2 hp
        clear hp hfit
        generalize foldI t (qs.take k) = st at *
        obtain ⟨at_, L⟩ := st
        obtain ⟨pk, pn, pz⟩ := p
        simp only at x0 x1 x2 hok r1 hin hst hLk hat
        have HL := Lib.hid (show L.length ≤ 600 by omega)
        have hL1 : L.length < 100000 := by omega
        clear hLk hq
        rcases (show pk = 1 ∨ pk = 2 ∨ pk = 3 by omega) with rfl | rfl | rfl
        · have hn1 : 0 ≤ pn := by omega
          have hn2 : pn ≤ 200 := by omega
          have hin' := hin (.inl rfl)
          clear hok hin
          obtain ⟨m, rfl⟩ := Int.eq_ofNat_of_zero_le hn1
          have hcx := cell_of_row (wr.alloc (.cells #[.int .i64 1, .int .i64 (m : Int), .slice A1 pz.length e1] 67)) wr.heap.size 1 _ _ _ (heap_alloc_new wr _)
          have hrl := hst.rd.lt
          have HST := Lib.hid (hst.past (alloc_below wr (.cells #[.int .i64 1, .int .i64 (m : Int), .slice A1 pz.length e1] 67)) hBs)
          clear hst
          go_wp2_with fail
          refine (implNext w.heap.size gr m (t.drop at_) _ HST.out.rd (by rw [List.length_drop]; omega) (by rw [List.length_drop]; omega)).mono ?_
          rintro e w4 ⟨A4, rfl, r4, rd4, t4⟩
          have HS4 := Lib.hid (HST.out.next rd4 t4)
          have hcx4 : w4.cell? ⟨wr.heap.size, 1, none⟩ = some (.int .i64 (m : Int)) := (t4.cell (p := ⟨wr.heap.size, 1, none⟩) (fun e => by have e' : wr.heap.size = gr := e; omega)).trans hcx
          clear r4 rd4 t4 hcx HST
          go_wp2_with fail
          refine (implKeepB O w.heap.size g L (m : Int) _ HS4.out.bd hn1 hn2 hL1).mono ?_
          rintro e w5 ⟨rfl, O', hb5, b5, g5⟩
          have HS5 := Lib.hid (HS4.out.grow hb5 b5 g5)
          clear hb5 b5 g5 HS4 hcx4
          go_wp2
          go_roundw
          case rel => exact ⟨k + 1, O', by omega, by go_num, by rw [K1.out]; exact HS5.out⟩
          case measure => simp [intOf]; omega
        · have hn3 : pz.length ≤ 200 := by omega
          clear hok hin
          have HST := Lib.hid (hst.past (alloc_below wr (.cells #[.int .i64 2, .int .i64 pn, .slice A1 pz.length e1] 67)) hBs)
          clear hst
          go_wp2_with fail
          refine (implDropB O w.heap.size g L (pz.length : Int) _ HST.out.bd (by omega) (by omega) hL1).mono ?_
          rintro e w5 ⟨rfl, O', hb5, b5, g5⟩
          have HS5 := Lib.hid (HST.out.grow hb5 b5 g5)
          clear hb5 b5 g5 HST
          go_wp2
          go_roundw
          case rel => exact ⟨k + 1, O', by omega, by go_num, by rw [K1.out]; exact HS5.out⟩
          case measure => simp [intOf]; omega
        · have hn1 : 0 ≤ pn := by omega
          have hn2 : pn ≤ 200 := by omega
          have hin' := hin (.inr rfl)
          clear hok hin
          obtain ⟨m, rfl⟩ := Int.eq_ofNat_of_zero_le hn1
          have HST := Lib.hid (hst.past (alloc_below wr (.cells #[.int .i64 3, .int .i64 (m : Int), .slice A1 pz.length e1] 67)) hBs)
          clear hst
          go_wp2_with fail
          refine (implNext w.heap.size gr m (t.drop at_) _ HST.out.rd (by rw [List.length_drop]; omega) (by rw [List.length_drop]; omega)).mono ?_
          rintro e w4 ⟨A4, rfl, r4, rd4, t4⟩
          have HS4 := Lib.hid (HST.out.next rd4 t4)
          have R4 := Lib.hid (r4.more HS4.out.bel.size)
          have hlen : ((t.drop at_).take m).length = m := piece_len (by omega)
          have HLN := Lib.hid hlen
          clear r4 rd4 t4 HST hlen
          go_wp2_with fail
          refine (implPutB O w.heap.size g L A4 _ m ((t.drop at_).take m) _ HS4.out.bd R4.out HLN.out (by rw [HLN.out]; omega) hL1).mono ?_
          rintro e w5 ⟨rfl, O', hb5, b5, g5⟩
          have HS5 := Lib.hid (HS4.out.grow hb5 b5 g5)
          clear hb5 b5 g5 HS4
          go_wp2
          go_roundw
          case rel => exact ⟨k + 1, O', by omega, by go_num, by rw [K1.out]; exact HS5.out⟩
          case measure => simp [intOf]; omega
      · have hke : qs.take k = qs := List.take_of_length_le (by omega)
        rw [hke] at hst hfit
        have HST := Lib.hid hst
        clear hst hq hke hLk hat hfit
        go_wp2_with fail
        refine (implDoneB O w.heap.size g _ _ HST.out.bd).mono ?_
        rintro e w8 ⟨v8, b8, rfl, o8, _, bl8, _⟩
        obtain ⟨A8, c8, rfl⟩ := sliceP o8.read
        have H8 := Lib.hid o8
        clear o8
        go_wp2
        go_ret2
        exact ⟨_, rfl, ⟨b8, H8.out.ow, H8.out.nd, H8.out.rng, H8.out.top, H8.out.le⟩, HST.out.bel.trans bl8⟩
end Go.Proofs.Ytihajkppeiainaa.low


/-
  For laws over several calls: a law's bytes opened; calls whose answer is true.
-/
namespace Go.Proofs.Ytihajkppeiainaa.low
open Go.RowKit Go.ChangeShapes Go.WideShapes Go.Deep
set_option linter.unusedVariables false

theorem cellsU8 : Try.prog.cellsOf 5 = 1 := by kernel_rfl
section
variable {H : Type} {enc : TypeId × Value → H} {w : World} {base : Nat} {spare : Nat → Bool} {held : Bool}
theorem read_bytes {fuel : Nat} {cs : List Value} {x : DataW H × List MemPlace} (h : DataW.trod enc Try.prog w base spare held fuel 22 cs = some x) :
    ∃ A c, ∃ zs : List Int, cs = [.slice A zs.length c] ∧ Row (Value.int .u8) w w.heap.size A zs ∧ zs.length ≤ maxLen ∧ ∀ z ∈ zs, 0 ≤ z ∧ z < 256 := by
  rcases open_ints Try.underlying22 Try.underlying5 cellsU8 h with ⟨hcs, _⟩ | ⟨a, len, cap, zs, hcs, _, hl, hm, hz, _, hc, hw⟩
  · exact ⟨none, 0, [], hcs, Row.nil, Nat.zero_le _, by simp⟩
  · have hzl : len ≤ zs.length := by rw [hz]; split <;> omega
    refine ⟨some a, cap, zs.take len, by rw [hcs, List.length_take, Nat.min_eq_left hzl], fun hn => ?_, by rw [List.length_take]; omega, fun z hz' => ?_⟩
    · have h0 := cell_lt (hc 0 (by simp at hn; omega))
      rw [block_of_add] at h0
      refine ⟨a, rfl, h0, fun k z hk => ?_⟩
      have hk' : k < zs.length := by
        rcases Nat.lt_or_ge k zs.length with h | h
        · exact h
        · rw [List.getElem?_eq_none (by simp; omega)] at hk; cases hk
      have hk2 : zs[k]? = some z := by
        rw [List.getElem?_take] at hk
        split at hk
        · exact hk
        · cases hk
      rw [hc k hk']
      simp [List.getD, hk2]
    · have := hw z (List.mem_of_mem_take hz')
      simp [Lit.wf, IntKind.min, IntKind.max, IntKind.signed, IntKind.bits] at this
      omega
end
theorem signsSame_t (v v' : Value) (t t' : List Int) (w : World) (h : RdC w w.heap.size (encInts t) v) (h' : RdC w w.heap.size (encInts t') v') (hs : SmI t) (e : t = t') : Calls Try.prog 12 #[v, v'] w (Tells true w) := by
  subst e
  obtain ⟨A, c, rfl, hr, _⟩ := ints_rd h
  obtain ⟨B, d, rfl, hr', _⟩ := ints_rd h'
  unfold SmI at hs
  refine (implSignsSame_any A B c d t t w hr hr' (by omega) (by omega)).mono ?_
  intro e w1 h1
  rw [sameB_self] at h1
  exact says_tells h1
theorem opSame_t (v v' : Value) (a b : List Pt) (w : World) (h : RdC w w.heap.size (encPs a) v) (h' : RdC w w.heap.size (encPs b) v') (hs : SmP a) (e : a = b) : Calls Try.prog 15 #[v, v'] w (Tells true w) := by
  subst e
  obtain ⟨A, c, rfl, hr, _⟩ := parts_rd h
  obtain ⟨B, d, rfl, hr', _⟩ := parts_rd h'
  have hl := hs.1
  refine (implOpSame_any A B c d a a w hr hr' (by omega) (by omega) hs.all4 hs.all4).mono ?_
  intro e w1 h1
  rw [samePs_self] at h1
  exact h1
theorem isNorm_t (v : Value) (a : List Pt) (w : World) (h : RdC w w.heap.size (encPs a) v) (hs : SmP a) (ho : okOp a = true) (hn : normL a = a) : Calls Try.prog 13 #[v] w (Tells true w) := by
  obtain ⟨A, c, rfl, hr, _⟩ := parts_rd h
  have hl := hs.1
  refine (implIsNorm_any A c a w hr (by omega) hs.all4 hs.2).mono ?_
  intro e w1 h1
  have : isNormL a = true := by unfold isNormL; rw [ho, hn, samePs_self]; rfl
  rw [this] at h1
  exact h1
theorem smI_text {t : List Int} (h : okText t = true) : SmI t := by have := okText_len' h; unfold SmI; omega
theorem smP_op {a : List Pt} (h : okOp a = true) : SmP a := by
  obtain ⟨_, h1, h2⟩ := okOp_units h
  have := signsIn_le h1
  exact ⟨by omega, by omega⟩
end Go.Proofs.Ytihajkppeiainaa.low


/-
  The specification's draws: a cursor over the bytes of a draw (DC), a byte, a number below n.
-/
namespace Go.Proofs.Ytihajkppeiainaa.low
open Go.RowKit
set_option linter.unusedVariables false

theorem and255 (n : Int) : bits .and .i64 n 255 = n % 256 := by
  have h127 : (BitVec.ofInt 64 255).toNat = 2 ^ 8 - 1 := by decide
  have key : (BitVec.ofInt 64 n &&& BitVec.ofInt 64 255).toNat = (n % ((2 ^ 64 : Nat) : Int)).toNat % 2 ^ 8 := by
    rw [BitVec.toNat_and, BitVec.toNat_ofInt, h127, Nat.and_two_pow_sub_one_eq_mod]
  show IntKind.i64.wrap ((BitVec.ofInt 64 n &&& BitVec.ofInt 64 255).toNat : Nat) = n % 256
  rw [key, IntKind.wrap_i64]
  omega
theorem and255_bd (n : Int) : 0 ≤ bits .and .i64 n 255 ∧ bits .and .i64 n 255 ≤ 255 := by rw [and255]; omega

/-- the cursor of a draw at block g; its bytes lie in blocks below B -/
def DC (B g : Nat) (w : World) : Prop := ∃ (A : Option Addr) (c : Nat) (zs : List Int) (i : Nat) (h : Int), w.heap[g]? = some (.cells #[.slice A zs.length c, .int .i64 (i : Int), .int .i64 h] 97 (0, 0)) ∧ zs.length ≤ 1048576 ∧ Row (Value.int .u8) w B A zs ∧ (∀ z ∈ zs, 0 ≤ z ∧ z < 256) ∧ B ≤ g
theorem DC.keep {B g : Nat} {w w' : World} (h : DC B g w) (hg : w'.heap[g]? = w.heap[g]?) (hk : ∀ p : Addr, p.block < B → w'.cell? p = w.cell? p) : DC B g w' := by
  obtain ⟨A, c, zs, i, x, h1, h2, h3, h4, h5⟩ := h
  exact ⟨A, c, zs, i, x, hg.trans h1, h2, h3.keep hk, h4, h5⟩
theorem DC.lt {B g : Nat} {w : World} (h : DC B g w) : g < w.heap.size := by
  obtain ⟨A, c, zs, i, x, h1, _⟩ := h
  exact lt_of_some h1
theorem DC.low {B g : Nat} {w : World} (h : DC B g w) : B ≤ g := by
  obtain ⟨A, c, zs, i, x, _, _, _, _, h5⟩ := h
  exact h5
theorem DC.past {B g : Nat} {w w' : World} (h : DC B g w) (hb : Below w.heap.size w w') : DC B g w' := h.keep (hb.block g h.lt) (fun p hp => hb.cell (by have := h.lt; have := h.low; omega))
theorem DC.grew {B g : Nat} {O O' : Nat → Prop} {w w' : World} (h : DC B g w) (hg : Grew O O' w w') (hb : Below B w w') (ho : ¬ O g) : DC B g w' := h.keep (hg.block g h.lt ho) (fun p hp => hb.cell hp)
/-- behind a draw: a number with P, the cursor moved, nothing else turned -/
def DrawP (P : Int → Prop) (B g : Nat) (w : World) (e : Ending) (w' : World) : Prop := ∃ x, e = .returned (.int .i64 x) ∧ P x ∧ DC B g w' ∧ Fr (fun q => q = g) w w' ∧ Below B w w'

theorem set2_row {w : World} {g : Nat} {T : TypeId} {a b c v : Value} {n : Nat} (h : w.heap[g]? = some (.cells #[a, b, c] T (0, 0))) : ((w.setCell ⟨g, 2, none⟩ v).drewN n).heap[g]? = some (.cells #[a, b, v] T (0, 0)) := by
  show (w.setCell ⟨g, 2, none⟩ v).heap[g]? = _
  rw [heap_setCell_same _ _ _ _ _ _ h]
  rfl
theorem set1_row {w : World} {g : Nat} {T : TypeId} {a b c v : Value} (h : w.heap[g]? = some (.cells #[a, b, c] T (0, 0))) : (w.setCell ⟨g, 1, none⟩ v).heap[g]? = some (.cells #[a, v, c] T (0, 0)) := by
  rw [heap_setCell_same _ _ _ _ _ _ h]
  rfl
theorem fr_drewN' {S : Nat → Prop} {n : Nat} {w wr : World} (h : Fr S w wr) : Fr S w (wr.drewN n) := ⟨h.size, h.block⟩
theorem below_drewN' {lo n : Nat} {w wr : World} (h : Below lo w wr) : Below lo w (wr.drewN n) := ⟨h.os, h.tape, h.output, h.size, h.block⟩

set_option maxRecDepth 100000 in
set_option maxHeartbeats 1600000 in
theorem specByte_d (B g : Nat) (w : World) (h : DC B g w) : Calls Try.prog 71 #[.pointer (some ⟨g, 0, none⟩)] w (DrawP (fun x => 0 ≤ x ∧ x ≤ 255) B g w) := by
  obtain ⟨A, c, zs, i, x, h1, h2, h3, h4, h5⟩ := h
  have c0 : w.cell? ⟨g, 0, none⟩ = some (.slice A zs.length c) := cell_of_row _ _ 0 _ _ _ h1
  have c1 : w.cell? ⟨g, 1, none⟩ = some (.int .i64 (i : Int)) := cell_of_row _ _ 1 _ _ _ h1
  have c2 : w.cell? ⟨g, 2, none⟩ = some (.int .i64 x) := cell_of_row _ _ 2 _ _ _ h1
  have f1 : w.frozen? ⟨g, 1, none⟩ = false := by simp [World.frozen?, h1]
  have f2 : w.frozen? ⟨g, 2, none⟩ = false := by simp [World.frozen?, h1]
  have H1 := Lib.hid h1
  have H4 := Lib.hid h4
  clear h1 h4
  by_cases hlt : i < zs.length
  · obtain ⟨ad, z, rfl, hbl, hz, hc⟩ := h3.at_ hlt
    have hzz := H4.out z (List.mem_of_getElem? hz)
    clear hz
    have hcx : ∀ v, (w.setCell ⟨g, 2, none⟩ v).cell? (ad.add i) = some (.int .u8 z) := fun v => (World.cell?_of_block (heap_setCell_other _ _ _ _ (fun e => by have e' : (ad.add i).block = g := e; rw [block_of_add] at e'; omega))).trans hc
    go_enter Try.func71, Try.ntmps71
    go_wp2
    go_quiet (fail)
    go_wp2
    go_quiet (fail)
    go_wp2
    go_quiet (fail)
    go_wp2
    go_ret
    refine ⟨_, rfl, and255_bd _, ⟨some ad, c, zs, i + 1, wrap64 (wrap64 (x * 6364136223846793005) + 1442695040888963407), set1_row (set2_row H1.out), h2, h3.keep (fun p hp => ?_), H4.out, h5⟩, ?_, ?_⟩
    · exact (World.cell?_of_block (heap_setCell_other _ _ _ _ (fun e => by have e' : p.block = g := e; omega))).trans (World.cell?_of_block (heap_setCell_other _ _ _ _ (fun e => by have e' : p.block = g := e; omega)))
    · exact (fr_drewN' ((Fr.refl (fun q => q = g) w).setCell (p := ⟨g, 2, none⟩) rfl _)).setCell (p := ⟨g, 1, none⟩) rfl _
    · exact (below_drewN' ((Below.refl B w).setCell (p := ⟨g, 2, none⟩) h5 _)).setCell (p := ⟨g, 1, none⟩) h5 _
  · go_enter Try.func71, Try.ntmps71
    go_wp2
    go_quiet (fail)
    go_wp2
    go_quiet (fail)
    go_wp2
    go_ret
    refine ⟨_, rfl, and255_bd _, ⟨A, c, zs, i, wrap64 (wrap64 (x * 6364136223846793005) + 1442695040888963407), set2_row (n := 0) H1.out, h2, h3.keep (fun p hp => ?_), H4.out, h5⟩, ?_, ?_⟩
    · exact World.cell?_of_block (heap_setCell_other _ _ _ _ (fun e => by have e' : p.block = g := e; omega))
    · exact fr_drewN' (fr_drewN' ((Fr.refl (fun q => q = g) w).setCell (p := ⟨g, 2, none⟩) rfl _))
    · exact below_drewN' (below_drewN' ((Below.refl B w).setCell (p := ⟨g, 2, none⟩) h5 _))

theorem DrawP.mono {P P' : Int → Prop} {B g : Nat} {w w' : World} {e : Ending} (h : DrawP P B g w e w') (hp : ∀ x, P x → P' x) : DrawP P' B g w e w' := by
  obtain ⟨x, h1, h2, h3⟩ := h
  exact ⟨x, h1, hp x h2, h3⟩
set_option maxHeartbeats 1600000 in
theorem specBelow_d (B g : Nat) (n : Int) (w : World) (h : DC B g w) (hn : n ≤ 2147483648) : Calls Try.prog 34 #[.pointer (some ⟨g, 0, none⟩), .int .i64 n] w (DrawP (fun x => 0 ≤ x ∧ (0 < n → x < n) ∧ (n ≤ 0 → x = 0)) B g w) := by
  by_cases h0 : n ≤ 0
  · go_enter Try.func34, Try.ntmps34
    go_wp2
    go_ret
    exact ⟨0, rfl, ⟨by omega, fun h => by omega, fun _ => rfl⟩, h, Fr.refl _ _, Below.refl _ _⟩
  · have h0' : 0 < n := by omega
    by_cases h1 : n ≤ 256
    · go_enter Try.func34, Try.ntmps34
      go_wp2_with fail
      refine (specByte_d B g _ h).mono ?_
      rintro e w1 ⟨x, rfl, ⟨x1, x2⟩, dc, fr, bl⟩
      have hz : ¬ n = 0 := by omega
      go_wp2
      go_ret
      exact ⟨_, rfl, ⟨Int.emod_nonneg _ (by omega), fun _ => Int.emod_lt_of_pos _ h0', fun h => by omega⟩, dc, fr, bl⟩
    · go_enter Try.func34, Try.ntmps34
      go_wp2_with fail
      refine (specByte_d B g _ h).mono ?_
      rintro e w1 ⟨x, rfl, ⟨x1, x2⟩, dc, fr, bl⟩
      go_wp2_with fail
      refine (specByte_d B g _ dc).mono ?_
      rintro e w2 ⟨y, rfl, ⟨y1, y2⟩, dc2, fr2, bl2⟩
      go_wp2_with fail
      refine (specByte_d B g _ dc2).mono ?_
      rintro e w3 ⟨z, rfl, ⟨z1, z2⟩, dc3, fr3, bl3⟩
      go_wp2_with fail
      refine (specByte_d B g _ dc3).mono ?_
      rintro e w4 ⟨t, rfl, ⟨t1, t2⟩, dc4, fr4, bl4⟩
      have hz : ¬ n = 0 := by omega
      go_wp2
      go_ret
      exact ⟨_, rfl, ⟨Int.emod_nonneg _ (by omega), fun _ => Int.emod_lt_of_pos _ h0', fun h => by omega⟩, dc4, ((fr.trans fr2).trans fr3).trans fr4, ((bl.trans bl2).trans bl3).trans bl4⟩
end Go.Proofs.Ytihajkppeiainaa.low


/-
  append(out, x) where out is an owned slice of whatever rows and x is one row of data of the caller's own.
-/
namespace Go.Proofs.Ytihajkppeiainaa.low
open Go.RowKit
set_option linter.unusedVariables false

theorem wpList_append_row {w : World} {ops : Array Oper} {rest : List Oper} {o : Oper} {a : Act} {Q : Exit → Act → World → Prop} (hgd : o.guard = none) (s x : Operand) (t : TypeId)
    (ho : o.op = .call { callee := .builtin .append, args := #[s, x], argTypes := #[t, t] }) (e : TypeId) (i : TypeInfo) (z : Value) (sz bytes : Nat) (ht : Try.prog.underlying t = some (.slice e)) (hi : Try.prog.info? e = some i) (hz : i.zero = some z) (hsize : i.size = sz) (hby : i.bytes = bytes) (hzs : z.cells.size = sz) (hsz : 0 < sz) (hbm : bytes ≤ 100000)
    (lo hi' : Nat) (v : Value) (ds : List (List Dat)) (b : List Nat) (h : OwB lo hi' w (.rows e sz ds) v b) (hs : a.eval s = v) (hlen : ds.length ≤ 2000000)
    (ad : Addr) (c0 : Nat) (ys : List Value) (hx : a.eval x = .slice (some ad) 1 c0) (hl : ys.length = sz) (hnews : ∀ j u, ys[j]? = some u → w.cell? (ad.add j) = some u) (h1 : ∀ u ∈ ys, u.oneCell' = true)
    (r : List Dat) (c : List Nat) (hr : OwL w r ys c) (hcn : c.Nodup) (hbc : ∀ q ∈ b, q ∉ c) (hcr : ∀ q ∈ c, lo ≤ q)
    (K : ∀ A' c' w' b', OwB lo w'.heap.size w' (.rows e sz (ds ++ [r])) (.slice A' (ds.length + 1) c') b' → (∀ q ∈ b', q ∈ b ∨ q ∈ c ∨ w.heap.size ≤ q) → Grew (fun q => q ∈ b) (fun q => q ∈ b ∨ w.heap.size ≤ q) w w' → Below lo w w' → wpList Try.prog ops Q rest (a.put o.dst (.slice A' (ds.length + 1) c')) w') : wpList Try.prog ops Q (o :: rest) a w := by
  have hnd := h.nd
  have hrg := h.rng
  obtain ⟨xs, cs, ho', hor, hb⟩ := h.ow
  refine wpList_append_lies _ hgd s x t ho 0 e i z sz bytes ht hi hz hsize hby hzs hsz v ds.length xs hs ho' ad 1 c0 ys hx (by simp [hl]) hnews h1 (by omega) (by unfold maxLen; omega) ?_ (Nat.zero_le _) _ rfl ?_
  · have : (ds.length + 1) * bytes ≤ 2000001 * 100000 := Nat.mul_le_mul (by omega) hbm
    omega
  intro g cap w' hown hg hat hlt
  rw [hb] at hnd
  obtain ⟨n1, n2, n3⟩ := List.nodup_append.1 hnd
  have own_mem : ∀ q, v.ownBlock = some q → q ∈ b := fun q hq => by rw [hb, hq]; simp
  have hcs : ∀ q ∈ cs, w'.heap[q]? = w.heap[q]? := fun q hq => hg.block q (OwR.lt sz _ _ _ hor q hq) (fun e => n3 q (by rw [← e]; simp) q hq rfl)
  have hcc : ∀ q ∈ c, w'.heap[q]? = w.heap[q]? := fun q hq => hg.block q (OwL.lt _ _ _ hr q hq) (fun e => hbc q (own_mem q e.symm) hq)
  have hor' := (OwR.keep sz _ _ _ hor hcs).append (OwR.one (OwL.keep _ _ _ hr hcc) hl)
  have g1 : g ∉ cs := fun hq => by
    rcases hat with e | e
    · exact n3 g (by rw [e]; simp) g hq rfl
    · have := OwR.lt sz _ _ _ hor g hq; omega
  have g2 : g ∉ c := fun hq => by
    rcases hat with e | e
    · exact hbc g (own_mem g e) hq
    · have := OwL.lt _ _ _ hr g hq; omega
  have g3 : lo ≤ g ∧ (g ∈ b ∨ w.heap.size ≤ g) := by
    rcases hat with e | e
    · exact ⟨(hrg g (own_mem g e)).1, .inl (own_mem g e)⟩
    · have := h.top; have := h.le; exact ⟨by omega, .inr (by omega)⟩
  have hsz' := hg.size
  have ht' := h.top
  refine K _ cap w' (g :: (cs ++ c)) ⟨⟨xs ++ ys, cs ++ c, by rw [List.length_append]; exact hown, hor', rfl⟩, ?_, ?_, Nat.le_refl _, by have := h.le; omega⟩ ?_ ⟨hg.size, fun q hq hn => hg.block q hq (fun e => hn (own_mem q e.symm)), fun q hq => hq⟩ ?_
  · refine List.nodup_cons.2 ⟨fun hq => ?_, List.nodup_append.2 ⟨n2, hcn, fun q hq q' hq' e => ?_⟩⟩
    · rcases List.mem_append.1 hq with hq | hq
      · exact g1 hq
      · exact g2 hq
    · subst e
      exact hbc q (by rw [hb]; simp [hq]) hq'
  · intro q hq
    rcases List.mem_cons.1 hq with rfl | hq
    · exact ⟨g3.1, hlt⟩
    · rcases List.mem_append.1 hq with hq | hq
      · have := hrg q (by rw [hb]; simp [hq]); exact ⟨this.1, by omega⟩
      · have := OwL.lt _ _ _ hr q hq; exact ⟨hcr q hq, by omega⟩
  · intro q hq
    rcases List.mem_cons.1 hq with rfl | hq
    · rcases g3.2 with h | h
      · exact .inl h
      · exact .inr (.inr h)
    · rcases List.mem_append.1 hq with hq | hq
      · exact .inl (by rw [hb]; simp [hq])
      · exact .inr (.inl hq)
  · exact (Below.refl lo w).grown hg (by have := h.le; omega) (fun k hk => (hrg k (own_mem k hk)).1)
/-- one cell that owns a datum -/
theorem OwC.row1 {w : World} {d : Dat} {v : Value} {b : List Nat} (h : OwC w d v b) : OwL w [d] [v] b := ⟨v, [], b, [], rfl, by simp, h, rfl, rfl⟩
end Go.Proofs.Ytihajkppeiainaa.low


/-
  The specification's draws: the cursor made; once; one of a list; a character; characters. append(out, p) of one part.
-/
namespace Go.Proofs.Ytihajkppeiainaa.low
open Go.RowKit
set_option linter.unusedVariables false

def OnceP (B g : Nat) (w : World) (e : Ending) (w' : World) : Prop := ∃ q : Bool, e = .returned (.bool q) ∧ DC B g w' ∧ Fr (fun q => q = g) w w' ∧ Below B w w'
set_option maxHeartbeats 800000 in
theorem specOnce_d (B g : Nat) (n : Int) (w : World) (h : DC B g w) (hn : n ≤ 2147483648) : Calls Try.prog 72 #[.pointer (some ⟨g, 0, none⟩), .int .i64 n] w (OnceP B g w) := by
  go_enter Try.func72, Try.ntmps72
  go_wp2_with fail
  refine (specBelow_d B g n _ h hn).mono ?_
  rintro e w1 ⟨x, rfl, _, dc, fr, bl⟩
  go_wp2
  go_ret
  exact ⟨_, rfl, dc, fr, bl⟩

set_option maxHeartbeats 800000 in
theorem specPick_d (B g : Nat) (A : Option Addr) (c : Nat) (zs : List Int) (w : World) (h : DC B g w) (hr : Row (Value.int .i64) w w.heap.size A zs) (hz : 0 < zs.length) (hl : zs.length ≤ 1000) (P : Int → Prop) (hp : ∀ z ∈ zs, P z) (hg : ∀ ad, A = some ad → ¬ ad.block = g) :
    Calls Try.prog 88 #[.pointer (some ⟨g, 0, none⟩), .slice A zs.length c] w (DrawP P B g w) := by
  go_enter Try.func88, Try.ntmps88
  go_wp2_with fail
  refine (specBelow_d B g (zs.length : Int) _ h (by omega)).mono ?_
  rintro e w1 ⟨x, rfl, ⟨x1, x2, _⟩, dc, fr, bl⟩
  have x2 := x2 (by omega)
  obtain ⟨k, rfl⟩ := Int.eq_ofNat_of_zero_le x1
  obtain ⟨ad, z, rfl, hb, hzk, hc⟩ := hr.at_ (k := k) (by omega)
  have hc' : w1.cell? (ad.add k) = some (.int .i64 z) := by
    rw [World.cell?_of_block (w := w) (fr.block _ (by rw [block_of_add]; exact hb) (by rw [block_of_add]; exact hg ad rfl))]
    exact hc
  have HP := Lib.hid (hp z (List.mem_of_getElem? hzk))
  clear hzk
  have hlt : k < zs.length := by omega
  go_wp2
  go_ret
  exact ⟨z, rfl, HP.out, dc, fr, bl⟩
theorem pickList_ok : ∀ z ∈ ([0, 127, 128, 2047, 2048, 55295, 57344, 65535, 65536, 1114111, 10, 32] : List Int), signB z = true := by decide
set_option maxRecDepth 100000 in
set_option maxHeartbeats 1600000 in
theorem specSign_d (B g : Nat) (w : World) (h : DC B g w) : Calls Try.prog 70 #[.pointer (some ⟨g, 0, none⟩)] w (DrawP (fun x => signB x = true) B g w) := by
  go_enter Try.func70, Try.ntmps70
  go_wp2_with fail
  refine (specOnce_d B g 8 _ h (by omega)).mono ?_
  rintro e w1 ⟨q, rfl, dc, fr, bl⟩
  cases q
  · go_wp2_with fail
    refine (specBelow_d B g 6 _ dc (by omega)).mono ?_
    rintro e w2 ⟨x, rfl, ⟨x1, x2, _⟩, dc2, fr2, bl2⟩
    have x2 := x2 (by omega)
    go_wp2
    go_ret
    exact ⟨_, rfl, by simp only [signB, decide_eq_true_eq]; omega, dc2, fr.trans fr2, bl.trans bl2⟩
  · go_wp2_with fail
    have hB := dc.lt
    have hBg := dc.low
    have bA := alloc_below w1 (.cells #[.int .i64 0, .int .i64 127, .int .i64 128, .int .i64 2047, .int .i64 2048, .int .i64 55295, .int .i64 57344, .int .i64 65535, .int .i64 65536, .int .i64 1114111, .int .i64 10, .int .i64 32] 3)
    have hrow : Row (Value.int .i64) (w1.alloc (.cells #[.int .i64 0, .int .i64 127, .int .i64 128, .int .i64 2047, .int .i64 2048, .int .i64 55295, .int .i64 57344, .int .i64 65535, .int .i64 65536, .int .i64 1114111, .int .i64 10, .int .i64 32] 3)) (w1.alloc (.cells #[.int .i64 0, .int .i64 127, .int .i64 128, .int .i64 2047, .int .i64 2048, .int .i64 55295, .int .i64 57344, .int .i64 65535, .int .i64 65536, .int .i64 1114111, .int .i64 10, .int .i64 32] 3)).heap.size (some ⟨w1.heap.size, 0, none⟩) [0, 127, 128, 2047, 2048, 55295, 57344, 65535, 65536, 1114111, 10, 32] := fun _ => by
      refine ⟨_, rfl, lt_of_some (heap_alloc_new w1 _), fun k z hz => ?_⟩
      rw [add_plain0]
      have hk := idx_lt hz
      rw [cell_of_row _ _ k _ _ _ (heap_alloc_new w1 _)]
      have : (#[Value.int .i64 0, .int .i64 127, .int .i64 128, .int .i64 2047, .int .i64 2048, .int .i64 55295, .int .i64 57344, .int .i64 65535, .int .i64 65536, .int .i64 1114111, .int .i64 10, .int .i64 32] : Array Value) = (([0, 127, 128, 2047, 2048, 55295, 57344, 65535, 65536, 1114111, 10, 32] : List Int).map (Value.int .i64)).toArray := rfl
      rw [this]
      simp only [List.getElem?_toArray, List.getElem?_map, hz, Option.map_some]
    refine (specPick_d B g _ _ _ _ (dc.past bA) hrow (by decide) (by decide) (fun x => signB x = true) pickList_ok (fun ad e => by injection e with e; subst e; show ¬ w1.heap.size = g; omega)).mono ?_
    rintro e w2 ⟨x, rfl, hx, dc2, fr2, bl2⟩
    have fA : Fr (fun q => q = g) w1 _ := Fr.below bA
    have HX := Lib.hid hx
    go_wp2
    go_ret
    exact ⟨x, rfl, HX.out, dc2, (fr.trans fA).trans fr2, (bl.trans (bA.mono (by omega))).trans bl2⟩
/-- behind a draw of characters: a text of its own -/
def SignsP (most B g : Nat) (w : World) (e : Ending) (w' : World) : Prop := ∃ t v b, e = .returned v ∧ t.length ≤ most ∧ allB t = true ∧ OwB w.heap.size w'.heap.size w' (encInts t) v b ∧ DC B g w' ∧ Fr (fun q => q = g) w w' ∧ Below B w w'
theorem Fr.old {S : Nat → Prop} {w w1 w2 : World} {O O' : Nat → Prop} (h : Fr S w w1) (hg : Grew O O' w1 w2) (hO : ∀ q, O q → w.heap.size ≤ q) : Fr S w w2 :=
  ⟨Nat.le_trans h.size hg.size, fun q hq hs => (hg.block q (Nat.lt_of_lt_of_le hq h.size) (fun ho => by have := hO q ho; omega)).trans (h.block q hq hs)⟩
theorem OwB.fr {lo hi g : Nat} {w w' : World} {d : Dat} {v : Value} {b : List Nat} (h : OwB lo hi w d v b) (hf : Fr (fun q => q = g) w w') (hg : g < lo) : OwB lo hi w' d v b :=
  ⟨OwC.keep d v b h.ow (fun x hx => hf.block x (OwC.lt d v b h.ow x hx) (fun e => by have e' : x = g := e; have := (h.rng x hx).1; omega)), h.nd, h.rng, Nat.le_trans h.top hf.size, h.le⟩
theorem allB_add {t : List Int} {x : Int} (h : allB t = true) (hx : signB x = true) : allB (t ++ [x]) = true := by rw [allB_app, h]; simp [allB, hx]
set_option maxRecDepth 100000 in
set_option maxHeartbeats 3200000 in
theorem specSigns_d (B g most : Nat) (w : World) (h : DC B g w) (hm : most ≤ 1000) : Calls Try.prog 33 #[.pointer (some ⟨g, 0, none⟩), .int .i64 (most : Int)] w (SignsP most B g w) := by
  obtain ⟨i0, hi0, hz0, hz1, hz2⟩ := info_parts ints_info
  have hgl := h.lt
  have hBg := h.low
  go_enter Try.func33, Try.ntmps33
  go_wp2_with fail
  have bA := alloc_below w (.cells #[] 3)
  have hib : OwB w.heap.size (w.alloc (.cells #[] 3)).heap.size (w.alloc (.cells #[] 3)) (encInts []) (.slice (some ⟨w.heap.size, 0, none⟩) 0 0) [w.heap.size] :=
    ⟨⟨[], [], ⟨rfl, .inr ⟨w.heap.size, 0, #[], rfl, Nat.zero_le _, heap_alloc_new w _, Nat.le_refl _, by unfold maxLen; omega, rfl, rfl⟩⟩, ⟨rfl, rfl⟩, rfl⟩, by simp, fun x hx => by obtain rfl : x = w.heap.size := (by simpa using hx); exact ⟨Nat.le_refl _, lt_of_some (heap_alloc_new w _)⟩, Nat.le_refl _, bA.size⟩
  have hdc := h.past bA
  have fA : Fr (fun q => q = g) w _ := Fr.below bA
  generalize w.alloc (.cells #[] 3) = w1 at *
  generalize (Value.slice (some ⟨w.heap.size, 0, none⟩) 0 0) = v0 at *
  refine (specBelow_d B g ((most : Int) + 1) _ hdc (by omega)).mono ?_
  rintro e w2 ⟨x, rfl, ⟨x1, x2, _⟩, dc, fr, bl⟩
  have x2 := x2 (by omega)
  obtain ⟨m, rfl⟩ := Int.eq_ofNat_of_zero_le x1
  have hib2 := (hib.fr fr hgl).upto fr.size (Nat.le_refl _)
  have HR0 := Lib.hid hib2
  have F0 := fA.trans fr
  have D0 := (bA.mono (show B ≤ w.heap.size by omega)).trans bl
  clear hib hib2 hdc fA fr bl bA
  go_wp2
  go_loopw [5, 6] (fun o i wr => ∃ (k : Nat) (t : List Int) (b : List Nat), t.length + k ≤ most ∧ i = .int .i64 k ∧ allB t = true ∧ OwB w.heap.size wr.heap.size wr (encInts t) o b ∧ DC B g wr ∧ Fr (fun q => q = g) w wr ∧ Below B w wr) (fun _ i _ => (intOf i).toNat)
  case atStart => exact ⟨m, [], _, by simp; omega, rfl, rfl, HR0.out, dc, F0, D0⟩
  case round =>
    obtain ⟨k, t, b, hk, rfl, ha, ho, dc, fr, bl⟩ := hrel
    clear HR0 F0 D0
    have HO := Lib.hid ho
    have HA := Lib.hid ha
    obtain ⟨A1, c1, rfl⟩ := sliceI ho.read
    clear ho ha
    by_cases hk0 : 0 < k
    · have hz := bl.size
      go_wp2_with fail
      refine (specSign_d B g _ dc).mono ?_
      rintro e w3 ⟨x, rfl, hx, dc3, fr3, bl3⟩
      have HX := Lib.hid hx
      have HO3 := Lib.hid ((HO.out.fr fr3 hgl).upto fr3.size (Nat.le_refl _))
      have bA := alloc_below w3 (.cells #[.int .i64 x] 3)
      have HO4 := Lib.hid (HO3.out.past bA)
      have hnews : ∀ (j : Nat) (u : Value), [Value.int .i64 x][j]? = some u → (w3.alloc (.cells #[.int .i64 x] 3)).cell? ((⟨w3.heap.size, 0, none⟩ : Addr).add j) = some u := fun j u hu => by
        cases j with
        | zero =>
          simp at hu
          subst hu
          exact cell_of_row _ _ 0 _ _ _ (heap_alloc_new w3 _)
        | succ j => simp at hu
      have HNW := Lib.hid hnews
      have hlx : (t.map fun z => [Dat.int z]).length ≤ 2000000 := by rw [List.length_map]; omega
      have dc4 := dc3.past bA
      have fr4 : Fr (fun q => q = g) w _ := (fr.trans fr3).trans (Fr.below bA)
      have bl4 := (bl.trans bl3).trans (bA.mono (by have := dc3.lt; omega))
      have hgn : g < w.heap.size := hgl
      clear hnews hx fr3 bl3 dc3 dc fr bl bA
      go_wp2_with (at_builtin; refine wpList_append_row rfl (.tmp 16) (.tmp 19) 23 rfl 3 i0 (.int .i64 0) 1 8 Try.underlying23 hi0 hz0 hz1 hz2 rfl (by decide) (by decide) w.heap.size _ (.slice A1 t.length c1) (t.map fun z => [Dat.int z]) b HO4.out rfl hlx ⟨w3.heap.size, 0, none⟩ _ [.int .i64 x] rfl rfl HNW.out (by simp [Value.oneCell']) [.int x] [] ⟨_, [], [], [], rfl, rfl, ⟨rfl, rfl⟩, rfl, rfl⟩ (by simp) (by simp) (by simp) ?_; intro A7 c7 w7 b7 o7 in7 g7 bl7)
      have HO7 : OwB w.heap.size w7.heap.size w7 (encInts (t ++ [x])) (.slice A7 (t.length + 1) c7) b7 := by
        have e : encInts (t ++ [x]) = .rows 3 1 ((t.map fun z => [Dat.int z]) ++ [[Dat.int x]]) := by unfold encInts; rw [List.map_append]; rfl
        rw [e]
        simpa using o7
      replace HO7 := Lib.hid HO7
      have fr7 := fr4.old g7 (fun q hq => (HO4.out.rng q hq).1)
      have dc7 := dc4.grew g7 (bl7.mono (show B ≤ w.heap.size by omega)) (fun hq => by have := (HO4.out.rng g hq).1; omega)
      have bl7' := bl4.trans (bl7.mono (show B ≤ w.heap.size by omega))
      clear o7 in7 g7 bl7 HO4 HO3 HNW dc4 fr4 bl4
      go_wp2
      go_roundw
      case rel => exact ⟨k - 1, t ++ [x], b7, by simp; omega, by rw [Int.natCast_sub (by omega)]; rfl, allB_add HA.out HX.out, by simpa using HO7.out, dc7, fr7, bl7'⟩
      case measure => simp [intOf]; omega
    · obtain rfl : k = 0 := by omega
      go_wp2
      go_ret
      exact ⟨t, _, b, rfl, by omega, HA.out, HO.out, dc, fr, bl⟩

/-- append(out, p) of one part, its characters of the caller's own -/
theorem wpList_append_part {w : World} {ops : Array Oper} {rest : List Oper} {o : Oper} {a : Act} {Q : Exit → Act → World → Prop} (hgd : o.guard = none) (s x : Operand)
    (ho : o.op = .call { callee := .builtin .append, args := #[s, x], argTypes := #[25, 25] })
    (lo hi' : Nat) (v : Value) (L : List Pt) (b : List Nat) (h : OwB lo hi' w (encPs L) v b) (hs : a.eval s = v) (hlen : L.length ≤ 2000000)
    (g0 c0 : Nat) (p : Pt) (u : Value) (c : List Nat) (hx : a.eval x = .slice (some ⟨g0, 0, none⟩) 1 c0) (hcell : w.heap[g0]? = some (.cells #[.int .i64 p.kind, .int .i64 p.n, u] 67 (0, 0)))
    (hu : OwC w (encInts p.signs) u c) (hcn : c.Nodup) (hbc : ∀ q ∈ b, q ∉ c) (hcr : ∀ q ∈ c, lo ≤ q)
    (K : ∀ A' c' w' b', OwB lo w'.heap.size w' (encPs (L ++ [p])) (.slice A' (L.length + 1) c') b' → (∀ q ∈ b', q ∈ b ∨ q ∈ c ∨ w.heap.size ≤ q) → Grew (fun q => q ∈ b) (fun q => q ∈ b ∨ w.heap.size ≤ q) w w' → Below lo w w' → wpList Try.prog ops Q rest (a.put o.dst (.slice A' (L.length + 1) c')) w') : wpList Try.prog ops Q (o :: rest) a w := by
  obtain ⟨i0, hi0, hz0, hz1, hz2⟩ := info_parts part_info
  have hone : ∀ y ∈ [Value.int .i64 p.kind, .int .i64 p.n, u], y.oneCell' = true := by
    intro y hy
    obtain ⟨A, cc, rfl, _⟩ : ∃ A cc, u = .slice A p.signs.length cc ∧ True := by
      obtain ⟨xs, cs, hox, _⟩ := hu
      obtain ⟨A, cc, e⟩ := own_form hox
      exact ⟨A, cc, by simpa using e, trivial⟩
    simp at hy
    rcases hy with rfl | rfl | rfl <;> rfl
  refine wpList_append_row hgd s x 25 ho 67 i0 _ 3 40 Try.underlying25 hi0 hz0 hz1 hz2 rfl (by decide) (by decide) lo hi' v (L.map encPt) b h hs (by rw [List.length_map]; exact hlen) ⟨g0, 0, none⟩ c0 [.int .i64 p.kind, .int .i64 p.n, u] hx rfl (fun j y hy => ?_) hone (encPt p) c ⟨_, _, [], c, rfl, by simp, ⟨rfl, rfl⟩, _, _, [], c, rfl, by simp, ⟨rfl, rfl⟩, _, [], c, [], rfl, by simp, hu, rfl, rfl⟩ hcn hbc hcr ?_
  · rw [add_plain0, cell_of_row _ _ j _ _ _ hcell]
    rw [← hy]
    simp
  · intro A' c' w' b' o1 h1 h2 h3
    rw [List.length_map] at o1 ⊢
    refine K A' c' w' b' ?_ h1 h2 h3
    have e : encPs (L ++ [p]) = .rows 67 3 (L.map encPt ++ [encPt p]) := by unfold encPs; rw [List.map_append]; rfl
    rw [e]
    exact o1
end Go.Proofs.Ytihajkppeiainaa.low


/-
  The specification's draws: an operation (spec.l02Draw).
-/
namespace Go.Proofs.Ytihajkppeiainaa.low
open Go.RowKit
set_option linter.unusedVariables false

theorem nil_ow (w : World) : OwC w (encInts []) (.slice none 0 0) [] := ⟨[], [], World.ownsRow_nil _ _ _ _, ⟨rfl, rfl⟩, rfl⟩
theorem sumOf_nonneg {L : List Pt} (h : okPs L = true) : 0 ≤ sumOf keepOf L ∧ 0 ≤ sumOf dropOf L ∧ 0 ≤ sumOf putOf L := by
  have a1 := sumOf_take (f := keepOf) (ps := L) (fun q hq => (ok_bd (okPs_mem' h hq)).1.1) 0
  have a2 := sumOf_take (f := dropOf) (ps := L) (fun q hq => (ok_bd (okPs_mem' h hq)).2.2.1) 0
  have a3 := sumOf_take (f := putOf) (ps := L) (fun q hq => (ok_bd (okPs_mem' h hq)).2.1.1) 0
  simp [sumOf] at a1 a2 a3
  exact ⟨a1, a2, a3⟩
noncomputable def drBody : Code := (((Try.f35.body.map loopsOf).getD []).headD .skip)
def slen : Value → Nat
  | .slice _ n _ => n
  | _ => 0
/-- the state of the loop -/
structure DS (B g : Nat) (w0 : World) (n : Nat) (o : Value) (left room : Nat) (L : List Pt) (b : List Nat) (w : World) : Prop where
  ow : OwB w0.heap.size w.heap.size w (encPs L) o b
  ok : okPs L = true
  sum : sumOf keepOf L + sumOf dropOf L + (left : Int) = (n : Int)
  puts : sumOf putOf L + (room : Int) = 12
  dc : DC B g w
  fr : Fr (fun q => q = g) w0 w
  bl : Below B w0 w
  lt : g < w0.heap.size
theorem sumOf_add (f : Pt → Int) (L : List Pt) (p : Pt) : sumOf f (L ++ [p]) = sumOf f L + f p := by simp [sumOf]
section
variable {B g n : Nat} {w0 w w' : World} {o : Value} {left room : Nat} {L : List Pt} {b : List Nat}
theorem DS.draw (h : DS B g w0 n o left room L b w) (dc : DC B g w') (fr : Fr (fun q => q = g) w w') (bl : Below B w w') : DS B g w0 n o left room L b w' :=
  ⟨(h.ow.fr fr h.lt).upto fr.size (Nat.le_refl _), h.ok, h.sum, h.puts, dc, h.fr.trans fr, h.bl.trans bl, h.lt⟩
theorem DS.past (h : DS B g w0 n o left room L b w) (hb : Below w.heap.size w w') : DS B g w0 n o left room L b w' :=
  h.draw (h.dc.past hb) (Fr.below hb) (hb.mono (by have := h.dc.lt; have := h.dc.low; omega))
theorem DS.app {p : Pt} {o' : Value} {b' : List Nat} {O' : Nat → Prop} {left' room' : Nat} (h : DS B g w0 n o left room L b w) (ow : OwB w0.heap.size w'.heap.size w' (encPs (L ++ [p])) o' b') (hg : Grew (fun q => q ∈ b) O' w w') (bl : Below w0.heap.size w w') (hp : okPt p = true) (h1 : keepOf p + dropOf p + (left' : Int) = (left : Int)) (h2 : putOf p + (room' : Int) = (room : Int)) : DS B g w0 n o' left' room' (L ++ [p]) b' w' := by
  have hlt := h.lt
  have hB := h.dc.low
  have q1 := h.sum
  have q2 := h.puts
  have bB := bl.mono (show B ≤ w0.heap.size by omega)
  exact ⟨ow, by have := h.ok; unfold okPs at *; rw [List.all_append, this]; simp [hp], by rw [sumOf_add, sumOf_add]; omega, by rw [sumOf_add]; omega, h.dc.grew hg bB (fun hq => by have := (h.ow.rng g hq).1; omega), h.fr.old hg (fun q hq => (h.ow.rng q hq).1), h.bl.trans bB, h.lt⟩
end
theorem okPt_keep {n : Int} (h0 : 0 ≤ n) (h : n ≤ 200) : okPt ⟨1, n, []⟩ = true := by simp [okPt]; omega
theorem okPt_drop {n : Int} (h0 : 0 ≤ n) (h : n ≤ 200) : okPt ⟨3, n, []⟩ = true := by simp [okPt]; omega
theorem okPt_put {t : List Int} (h : t.length ≤ 200) (ha : allB t = true) : okPt ⟨2, 0, t⟩ = true := by simp [okPt, ha]; omega
def DrR (B g : Nat) (w0 : World) (n : Nat) (o l r : Value) (w : World) : Prop := ∃ left room L b, DS B g w0 n o left room L b w ∧ L.length ≤ 40 ∧ l = .int .i64 (left : Int) ∧ r = .int .i64 (room : Int)
def DrX (B g : Nat) (w0 : World) (n : Nat) (o : Value) (w : World) : Prop := ∃ room L b, DS B g w0 n o 0 room L b w ∧ L.length ≤ 42
set_option maxRecDepth 1000000 in
def DrI (B g : Nat) (w0 : World) (n : Nat) (c1 c2 c3 c4 c11 c12 c74 : Value) (a : Act) (w : World) : Prop := ∃ u5 u6 u7 u8 u9 u10 u13 u14 u15 u16 u17 u18 u19 u20 u21 u22 u23 u24 u25 u26 u27 u28 u29 u30 u31 u32 u33 u34 u35 u36 u37 u38 u39 u40 u41 u42 u43 u44 u45 u46 u47 u48 u49 u50 u51 u52 u53 u54 u55 u56 u57 u58 u59 u60 u61 u62 u63 u64 u65 u66 u67 u68 u69 u70 u71 u72 u73 : Value, DrR B g w0 n u5 u6 u7 w ∧ a = ⟨#[.pointer (some ⟨g, 0, none⟩), c1, c2, c3, c4, u5, u6, u7, u8, u9, u10, c11, c12, u13, u14, u15, u16, u17, u18, u19, u20, u21, u22, u23, u24, u25, u26, u27, u28, u29, u30, u31, u32, u33, u34, u35, u36, u37, u38, u39, u40, u41, u42, u43, u44, u45, u46, u47, u48, u49, u50, u51, u52, u53, u54, u55, u56, u57, u58, u59, u60, u61, u62, u63, u64, u65, u66, u67, u68, u69, u70, u71, u72, u73, c74], []⟩
set_option maxRecDepth 1000000 in
def DrE (B g : Nat) (w0 : World) (n : Nat) (c1 c2 c3 c4 c11 c12 c74 : Value) (a : Act) (w : World) : Prop := ∃ u5 u6 u7 u8 u9 u10 u13 u14 u15 u16 u17 u18 u19 u20 u21 u22 u23 u24 u25 u26 u27 u28 u29 u30 u31 u32 u33 u34 u35 u36 u37 u38 u39 u40 u41 u42 u43 u44 u45 u46 u47 u48 u49 u50 u51 u52 u53 u54 u55 u56 u57 u58 u59 u60 u61 u62 u63 u64 u65 u66 u67 u68 u69 u70 u71 u72 u73 : Value, DrX B g w0 n u5 w ∧ a = ⟨#[.pointer (some ⟨g, 0, none⟩), c1, c2, c3, c4, u5, u6, u7, u8, u9, u10, c11, c12, u13, u14, u15, u16, u17, u18, u19, u20, u21, u22, u23, u24, u25, u26, u27, u28, u29, u30, u31, u32, u33, u34, u35, u36, u37, u38, u39, u40, u41, u42, u43, u44, u45, u46, u47, u48, u49, u50, u51, u52, u53, u54, u55, u56, u57, u58, u59, u60, u61, u62, u63, u64, u65, u66, u67, u68, u69, u70, u71, u72, u73, c74], []⟩
set_option maxRecDepth 1000000 in
set_option maxHeartbeats 6400000 in
theorem drP (B g : Nat) (w0 wr : World) (n : Nat) (hn : n ≤ 150) (A : Option Addr) (c left room : Nat) (L : List Pt) (b : List Nat) (c1 c2 c3 c4 c11 c12 c74 u8 u9 u10 u13 u14 u15 u16 u17 u18 u19 u20 u21 u22 u23 u24 u25 u26 u27 u28 u29 u30 u31 u32 u33 u34 u35 u36 u37 u38 u39 u40 u41 u42 u43 u44 u45 u46 u47 u48 u49 u50 u51 u52 u53 u54 u55 u56 u57 u58 u59 u60 u61 u62 u63 u64 u65 u66 u67 u68 u69 u70 u71 u72 u73 : Value) (Q0 : Exit → Act → World → Prop) (hs : DS B g w0 n (.slice A L.length c) left room L b wr) (hL : L.length ≤ 40) (hl0 : 0 < left) (hexit : ∀ a w, DrE B g w0 n c1 c2 c3 c4 c11 c12 c74 a w → Q0 (.exit 0) a w) :
    Code.wp Try.prog drBody (Exit.then (fun a' w'' => DrI B g w0 n c1 c2 c3 c4 c11 c12 c74 a' w'' ∧ 41 - slen (a'.tmps.getD 5 undef) < 41 - L.length) Q0) ⟨#[.pointer (some ⟨g, 0, none⟩), c1, c2, c3, c4, .slice A L.length c, .int .i64 (left : Int), .int .i64 (room : Int), u8, u9, u10, c11, c12, u13, u14, u15, u16, u17, u18, u19, u20, u21, u22, u23, u24, u25, u26, u27, u28, u29, u30, u31, u32, u33, u34, u35, u36, u37, u38, u39, u40, u41, u42, u43, u44, u45, u46, u47, u48, u49, u50, u51, u52, u53, u54, u55, u56, u57, u58, u59, u60, u61, u62, u63, u64, u65, u66, u67, u68, u69, u70, u71, u72, u73, c74], []⟩ wr := by
  have hb1 : (left : Int) ≤ n := by have := hs.sum; have q1 := sumOf_nonneg hs.ok; omega
  have hb2 : (room : Int) ≤ 12 := by have := hs.puts; have q1 := sumOf_nonneg hs.ok; omega
  have HS := Lib.hid hs
  clear hs
  conv => arg 2; whnf
  go_wp2_with fail
  refine (specBelow_d B g 4 _ HS.out.dc (by omega)).mono ?_
  rintro e w1 ⟨x1, rfl, ⟨xa1, xb1, _⟩, dc1, fr1, bl1⟩
  replace HS := Lib.hid (HS.out.draw dc1 fr1 bl1)
  clear dc1 fr1 bl1
  have xb1 := xb1 (by omega)
  by_cases hx0 : x1 = 0
  · subst hx0
    go_wp2_with fail
    refine (specSigns_d B g 3 _ HS.out.dc (by omega)).mono ?_
    rintro e w2 ⟨t2, v2, s2, rfl, tl2, ta2, to2, dc2, fr2, bl2⟩
    have HOLD := HS.out.ow
    have HSZ := HS.out.fr.size
    replace HS := Lib.hid (HS.out.draw dc2 fr2 bl2)
    have HT2 := Lib.hid to2
    have HTA2 := Lib.hid ta2
    obtain ⟨At2, ct2, rfl⟩ := sliceI to2.read
    have HSR2 := Lib.hid (show ∀ q ∈ b, q ∉ s2 from fun q hq hq' => by have q1 := (HOLD.rng q hq).2; have q2 := (to2.rng q hq').1; omega)
    clear HOLD to2 ta2
    clear dc2 fr2 bl2
    by_cases hr : t2.length ≤ room
    · have hr2 : ¬ room < t2.length := by omega
      by_cases hm : L.length + 1 ≤ 40
      · have hm2 : ¬ 40 < L.length + 1 := by omega
        have bA3 := alloc_below w2 (.cells #[.int .i64 2, .int .i64 0, .slice At2 t2.length ct2] 67)
        have HN3 := Lib.hid (heap_alloc_new w2 (.cells #[.int .i64 2, .int .i64 0, .slice At2 t2.length ct2] 67))
        replace HS := Lib.hid (HS.out.past bA3)
        have HU3 := Lib.hid ((HT2.out.past bA3).ow)
        have hll3 : (L).length ≤ 2000000 := (by omega)
        go_wp2_with (at_builtin; refine wpList_append_part rfl (.tmp 45) (.tmp 48) rfl w0.heap.size _ (.slice A L.length c) (L) b HS.out.ow rfl hll3 w2.heap.size _ ⟨2, 0, t2⟩ (.slice At2 t2.length ct2) s2 rfl HN3.out HU3.out HT2.out.nd HSR2.out (fun q hq => by have q1 := (HT2.out.rng q hq).1; omega) ?_; intro Ap3 cp3 w3 b3 o3 in3 g3 bl3)
        replace HS := Lib.hid (HS.out.app (left' := left) (room' := (room - t2.length)) o3 g3 bl3 (okPt_put (by omega) HTA2.out) (by simp [keepOf, dropOf]) (by simp [putOf]; omega))
        clear o3 in3 g3 bl3 bA3 HN3 HU3 hll3
        refine ⟨?_, by simp [slen]; omega⟩
        unfold DrI
        iterate 67 apply Exists.intro
        refine ⟨⟨_, _, _, _, HS.out, ?_, ?_, ?_⟩, rfl⟩
        · simp; omega
        · first | rfl | (congr 1; omega)
        · first | rfl | (congr 1; omega)
      · have hm2 : 40 < L.length + 1 := by omega
        have bA4 := alloc_below w2 (.cells #[.int .i64 2, .int .i64 0, .slice At2 t2.length ct2] 67)
        have HN4 := Lib.hid (heap_alloc_new w2 (.cells #[.int .i64 2, .int .i64 0, .slice At2 t2.length ct2] 67))
        replace HS := Lib.hid (HS.out.past bA4)
        have HU4 := Lib.hid ((HT2.out.past bA4).ow)
        have hll4 : (L).length ≤ 2000000 := (by omega)
        go_wp2_with (first | (at_builtin; refine wpList_append_part rfl (.tmp 45) (.tmp 48) rfl w0.heap.size _ (.slice A L.length c) (L) b HS.out.ow rfl hll4 w2.heap.size _ ⟨2, 0, t2⟩ (.slice At2 t2.length ct2) s2 rfl HN4.out HU4.out HT2.out.nd HSR2.out (fun q hq => by have q1 := (HT2.out.rng q hq).1; omega) ?_; intro Ap4 cp4 w4 b4 o4 in4 g4 bl4; replace HS := Lib.hid (HS.out.app (left' := left) (room' := (room - t2.length)) o4 g4 bl4 (okPt_put (by omega) HTA2.out) (by simp [keepOf, dropOf]) (by simp [putOf]; omega)); clear o4 in4 g4 bl4 bA4 HN4 HU4 hll4; have bA5 := alloc_below w4 (.cells #[.int .i64 1, .int .i64 (left : Int), .slice none 0 0] 67); have HN5 := Lib.hid (heap_alloc_new w4 (.cells #[.int .i64 1, .int .i64 (left : Int), .slice none 0 0] 67)); replace HS := Lib.hid (HS.out.past bA5); have HU5 := Lib.hid (nil_ow (w4.alloc (.cells #[.int .i64 1, .int .i64 (left : Int), .slice none 0 0] 67))); have hll5 : (L ++ [(⟨2, 0, t2⟩ : Pt)]).length ≤ 2000000 := (by rw [List.length_append]; show L.length + 1 ≤ 2000000; omega)) | (at_builtin; refine wpList_append_part rfl (.tmp 69) (.tmp 72) rfl w0.heap.size _ (.slice Ap4 (L.length + 1) cp4) (L ++ [(⟨2, 0, t2⟩ : Pt)]) b4 HS.out.ow rfl hll5 w4.heap.size _ ⟨1, (left : Int), []⟩ (.slice none 0 0) [] rfl HN5.out HU5.out (by simp) (by simp) (by simp) ?_; intro Ap5 cp5 w5 b5 o5 in5 g5 bl5))
        replace HS := Lib.hid (HS.out.app (left' := 0) (room' := (room - t2.length)) o5 g5 bl5 (okPt_keep (by omega) (by omega)) (by first | (simp [keepOf, dropOf]; done) | (simp [keepOf, dropOf]; omega)) (by simp [putOf]))
        clear o5 in5 g5 bl5 bA5 HN5 HU5 hll5
        have HSx := HS.out
        rw [List.length_append] at HSx
        have HR : DrX B g w0 n _ _ := ⟨_, _, _, HSx, by simp; omega⟩
        unfold DrE
        iterate 67 apply Exists.intro
        exact ⟨HR, rfl⟩
    · have hr2 : room < t2.length := by omega
      by_cases hm : L.length + 1 ≤ 40
      · have hm2 : ¬ 40 < L.length + 1 := by omega
        have bA6 := alloc_below w2 (.cells #[.int .i64 2, .int .i64 0, .slice none 0 0] 67)
        have HN6 := Lib.hid (heap_alloc_new w2 (.cells #[.int .i64 2, .int .i64 0, .slice none 0 0] 67))
        replace HS := Lib.hid (HS.out.past bA6)
        have HU6 := Lib.hid (nil_ow (w2.alloc (.cells #[.int .i64 2, .int .i64 0, .slice none 0 0] 67)))
        have hll6 : (L).length ≤ 2000000 := (by omega)
        go_wp2_with (at_builtin; refine wpList_append_part rfl (.tmp 45) (.tmp 48) rfl w0.heap.size _ (.slice A L.length c) (L) b HS.out.ow rfl hll6 w2.heap.size _ ⟨2, 0, []⟩ (.slice none 0 0) [] rfl HN6.out HU6.out (by simp) (by simp) (by simp) ?_; intro Ap6 cp6 w6 b6 o6 in6 g6 bl6)
        replace HS := Lib.hid (HS.out.app (left' := left) (room' := room) o6 g6 bl6 (okPt_put (by simp) rfl) (by simp [keepOf, dropOf]) (by simp [putOf]))
        clear o6 in6 g6 bl6 bA6 HN6 HU6 hll6
        refine ⟨?_, by simp [slen]; omega⟩
        unfold DrI
        iterate 67 apply Exists.intro
        refine ⟨⟨_, _, _, _, HS.out, ?_, ?_, ?_⟩, rfl⟩
        · simp; omega
        · first | rfl | (congr 1; omega)
        · first | rfl | (congr 1; omega)
      · have hm2 : 40 < L.length + 1 := by omega
        have bA7 := alloc_below w2 (.cells #[.int .i64 2, .int .i64 0, .slice none 0 0] 67)
        have HN7 := Lib.hid (heap_alloc_new w2 (.cells #[.int .i64 2, .int .i64 0, .slice none 0 0] 67))
        replace HS := Lib.hid (HS.out.past bA7)
        have HU7 := Lib.hid (nil_ow (w2.alloc (.cells #[.int .i64 2, .int .i64 0, .slice none 0 0] 67)))
        have hll7 : (L).length ≤ 2000000 := (by omega)
        go_wp2_with (first | (at_builtin; refine wpList_append_part rfl (.tmp 45) (.tmp 48) rfl w0.heap.size _ (.slice A L.length c) (L) b HS.out.ow rfl hll7 w2.heap.size _ ⟨2, 0, []⟩ (.slice none 0 0) [] rfl HN7.out HU7.out (by simp) (by simp) (by simp) ?_; intro Ap7 cp7 w7 b7 o7 in7 g7 bl7; replace HS := Lib.hid (HS.out.app (left' := left) (room' := room) o7 g7 bl7 (okPt_put (by simp) rfl) (by simp [keepOf, dropOf]) (by simp [putOf])); clear o7 in7 g7 bl7 bA7 HN7 HU7 hll7; have bA8 := alloc_below w7 (.cells #[.int .i64 1, .int .i64 (left : Int), .slice none 0 0] 67); have HN8 := Lib.hid (heap_alloc_new w7 (.cells #[.int .i64 1, .int .i64 (left : Int), .slice none 0 0] 67)); replace HS := Lib.hid (HS.out.past bA8); have HU8 := Lib.hid (nil_ow (w7.alloc (.cells #[.int .i64 1, .int .i64 (left : Int), .slice none 0 0] 67))); have hll8 : (L ++ [(⟨2, 0, []⟩ : Pt)]).length ≤ 2000000 := (by rw [List.length_append]; show L.length + 1 ≤ 2000000; omega)) | (at_builtin; refine wpList_append_part rfl (.tmp 69) (.tmp 72) rfl w0.heap.size _ (.slice Ap7 (L.length + 1) cp7) (L ++ [(⟨2, 0, []⟩ : Pt)]) b7 HS.out.ow rfl hll8 w7.heap.size _ ⟨1, (left : Int), []⟩ (.slice none 0 0) [] rfl HN8.out HU8.out (by simp) (by simp) (by simp) ?_; intro Ap8 cp8 w8 b8 o8 in8 g8 bl8))
        replace HS := Lib.hid (HS.out.app (left' := 0) (room' := room) o8 g8 bl8 (okPt_keep (by omega) (by omega)) (by first | (simp [keepOf, dropOf]; done) | (simp [keepOf, dropOf]; omega)) (by simp [putOf]))
        clear o8 in8 g8 bl8 bA8 HN8 HU8 hll8
        have HSx := HS.out
        rw [List.length_append] at HSx
        have HR : DrX B g w0 n _ _ := ⟨_, _, _, HSx, by simp; omega⟩
        unfold DrE
        iterate 67 apply Exists.intro
        exact ⟨HR, rfl⟩
  · have hx0b : (x1 == 0) = false := by simp [hx0]
    by_cases hx1 : x1 = 1
    · subst hx1
      clear hx0 hx0b
      go_wp2_with fail
      refine (specBelow_d B g ((left : Int) + 1) _ HS.out.dc (by omega)).mono ?_
      rintro e w9 ⟨m9, rfl, ⟨ma9, mb9, _⟩, dc9, fr9, bl9⟩
      replace HS := Lib.hid (HS.out.draw dc9 fr9 bl9)
      clear dc9 fr9 bl9
      have mb9 := mb9 (by omega)
      obtain ⟨d, rfl⟩ := Int.eq_ofNat_of_zero_le ma9
      by_cases h4 : d ≤ 4
      · have h4b : ¬ 4 < d := by omega
        by_cases hm : L.length + 1 ≤ 40
        · have hm2 : ¬ 40 < L.length + 1 := by omega
          have bA10 := alloc_below w9 (.cells #[.int .i64 3, .int .i64 (d : Int), .slice none 0 0] 67)
          have HN10 := Lib.hid (heap_alloc_new w9 (.cells #[.int .i64 3, .int .i64 (d : Int), .slice none 0 0] 67))
          replace HS := Lib.hid (HS.out.past bA10)
          have HU10 := Lib.hid (nil_ow (w9.alloc (.cells #[.int .i64 3, .int .i64 (d : Int), .slice none 0 0] 67)))
          have hll10 : (L).length ≤ 2000000 := (by omega)
          go_wp2_with (at_builtin; refine wpList_append_part rfl (.tmp 61) (.tmp 64) rfl w0.heap.size _ (.slice A L.length c) (L) b HS.out.ow rfl hll10 w9.heap.size _ ⟨3, (d : Int), []⟩ (.slice none 0 0) [] rfl HN10.out HU10.out (by simp) (by simp) (by simp) ?_; intro Ap10 cp10 w10 b10 o10 in10 g10 bl10)
          replace HS := Lib.hid (HS.out.app (left' := (left - d)) (room' := room) o10 g10 bl10 (okPt_drop (by omega) (by omega)) (by simp [keepOf, dropOf]; omega) (by simp [putOf]))
          clear o10 in10 g10 bl10 bA10 HN10 HU10 hll10
          refine ⟨?_, by simp [slen]; omega⟩
          unfold DrI
          iterate 67 apply Exists.intro
          refine ⟨⟨_, _, _, _, HS.out, ?_, ?_, ?_⟩, rfl⟩
          · simp; omega
          · first | rfl | (congr 1; omega)
          · first | rfl | (congr 1; omega)
        · have hm2 : 40 < L.length + 1 := by omega
          have bA11 := alloc_below w9 (.cells #[.int .i64 3, .int .i64 (d : Int), .slice none 0 0] 67)
          have HN11 := Lib.hid (heap_alloc_new w9 (.cells #[.int .i64 3, .int .i64 (d : Int), .slice none 0 0] 67))
          replace HS := Lib.hid (HS.out.past bA11)
          have HU11 := Lib.hid (nil_ow (w9.alloc (.cells #[.int .i64 3, .int .i64 (d : Int), .slice none 0 0] 67)))
          have hll11 : (L).length ≤ 2000000 := (by omega)
          go_wp2_with (first | (at_builtin; refine wpList_append_part rfl (.tmp 61) (.tmp 64) rfl w0.heap.size _ (.slice A L.length c) (L) b HS.out.ow rfl hll11 w9.heap.size _ ⟨3, (d : Int), []⟩ (.slice none 0 0) [] rfl HN11.out HU11.out (by simp) (by simp) (by simp) ?_; intro Ap11 cp11 w11 b11 o11 in11 g11 bl11; replace HS := Lib.hid (HS.out.app (left' := (left - d)) (room' := room) o11 g11 bl11 (okPt_drop (by omega) (by omega)) (by simp [keepOf, dropOf]; omega) (by simp [putOf])); clear o11 in11 g11 bl11 bA11 HN11 HU11 hll11; have bA12 := alloc_below w11 (.cells #[.int .i64 1, .int .i64 ((left : Int) - (d : Int)), .slice none 0 0] 67); have HN12 := Lib.hid (heap_alloc_new w11 (.cells #[.int .i64 1, .int .i64 ((left : Int) - (d : Int)), .slice none 0 0] 67)); replace HS := Lib.hid (HS.out.past bA12); have HU12 := Lib.hid (nil_ow (w11.alloc (.cells #[.int .i64 1, .int .i64 ((left : Int) - (d : Int)), .slice none 0 0] 67))); have hll12 : (L ++ [(⟨3, (d : Int), []⟩ : Pt)]).length ≤ 2000000 := (by rw [List.length_append]; show L.length + 1 ≤ 2000000; omega)) | (at_builtin; refine wpList_append_part rfl (.tmp 69) (.tmp 72) rfl w0.heap.size _ (.slice Ap11 (L.length + 1) cp11) (L ++ [(⟨3, (d : Int), []⟩ : Pt)]) b11 HS.out.ow rfl hll12 w11.heap.size _ ⟨1, ((left : Int) - (d : Int)), []⟩ (.slice none 0 0) [] rfl HN12.out HU12.out (by simp) (by simp) (by simp) ?_; intro Ap12 cp12 w12 b12 o12 in12 g12 bl12))
          replace HS := Lib.hid (HS.out.app (left' := 0) (room' := room) o12 g12 bl12 (okPt_keep (by omega) (by omega)) (by first | (simp [keepOf, dropOf]; done) | (simp [keepOf, dropOf]; omega)) (by simp [putOf]))
          clear o12 in12 g12 bl12 bA12 HN12 HU12 hll12
          have HSx := HS.out
          rw [List.length_append] at HSx
          have HR : DrX B g w0 n _ _ := ⟨_, _, _, HSx, by simp; omega⟩
          unfold DrE
          iterate 67 apply Exists.intro
          exact ⟨HR, rfl⟩
      · have h4b : 4 < d := by omega
        by_cases hm : L.length + 1 ≤ 40
        · have hm2 : ¬ 40 < L.length + 1 := by omega
          have bA13 := alloc_below w9 (.cells #[.int .i64 3, .int .i64 4, .slice none 0 0] 67)
          have HN13 := Lib.hid (heap_alloc_new w9 (.cells #[.int .i64 3, .int .i64 4, .slice none 0 0] 67))
          replace HS := Lib.hid (HS.out.past bA13)
          have HU13 := Lib.hid (nil_ow (w9.alloc (.cells #[.int .i64 3, .int .i64 4, .slice none 0 0] 67)))
          have hll13 : (L).length ≤ 2000000 := (by omega)
          go_wp2_with (at_builtin; refine wpList_append_part rfl (.tmp 61) (.tmp 64) rfl w0.heap.size _ (.slice A L.length c) (L) b HS.out.ow rfl hll13 w9.heap.size _ ⟨3, 4, []⟩ (.slice none 0 0) [] rfl HN13.out HU13.out (by simp) (by simp) (by simp) ?_; intro Ap13 cp13 w13 b13 o13 in13 g13 bl13)
          replace HS := Lib.hid (HS.out.app (left' := (left - 4)) (room' := room) o13 g13 bl13 (okPt_drop (by omega) (by omega)) (by simp [keepOf, dropOf]; omega) (by simp [putOf]))
          clear o13 in13 g13 bl13 bA13 HN13 HU13 hll13
          refine ⟨?_, by simp [slen]; omega⟩
          unfold DrI
          iterate 67 apply Exists.intro
          refine ⟨⟨_, _, _, _, HS.out, ?_, ?_, ?_⟩, rfl⟩
          · simp; omega
          · first | rfl | (congr 1; omega)
          · first | rfl | (congr 1; omega)
        · have hm2 : 40 < L.length + 1 := by omega
          have bA14 := alloc_below w9 (.cells #[.int .i64 3, .int .i64 4, .slice none 0 0] 67)
          have HN14 := Lib.hid (heap_alloc_new w9 (.cells #[.int .i64 3, .int .i64 4, .slice none 0 0] 67))
          replace HS := Lib.hid (HS.out.past bA14)
          have HU14 := Lib.hid (nil_ow (w9.alloc (.cells #[.int .i64 3, .int .i64 4, .slice none 0 0] 67)))
          have hll14 : (L).length ≤ 2000000 := (by omega)
          go_wp2_with (first | (at_builtin; refine wpList_append_part rfl (.tmp 61) (.tmp 64) rfl w0.heap.size _ (.slice A L.length c) (L) b HS.out.ow rfl hll14 w9.heap.size _ ⟨3, 4, []⟩ (.slice none 0 0) [] rfl HN14.out HU14.out (by simp) (by simp) (by simp) ?_; intro Ap14 cp14 w14 b14 o14 in14 g14 bl14; replace HS := Lib.hid (HS.out.app (left' := (left - 4)) (room' := room) o14 g14 bl14 (okPt_drop (by omega) (by omega)) (by simp [keepOf, dropOf]; omega) (by simp [putOf])); clear o14 in14 g14 bl14 bA14 HN14 HU14 hll14; have bA15 := alloc_below w14 (.cells #[.int .i64 1, .int .i64 ((left : Int) - 4), .slice none 0 0] 67); have HN15 := Lib.hid (heap_alloc_new w14 (.cells #[.int .i64 1, .int .i64 ((left : Int) - 4), .slice none 0 0] 67)); replace HS := Lib.hid (HS.out.past bA15); have HU15 := Lib.hid (nil_ow (w14.alloc (.cells #[.int .i64 1, .int .i64 ((left : Int) - 4), .slice none 0 0] 67))); have hll15 : (L ++ [(⟨3, 4, []⟩ : Pt)]).length ≤ 2000000 := (by rw [List.length_append]; show L.length + 1 ≤ 2000000; omega)) | (at_builtin; refine wpList_append_part rfl (.tmp 69) (.tmp 72) rfl w0.heap.size _ (.slice Ap14 (L.length + 1) cp14) (L ++ [(⟨3, 4, []⟩ : Pt)]) b14 HS.out.ow rfl hll15 w14.heap.size _ ⟨1, ((left : Int) - 4), []⟩ (.slice none 0 0) [] rfl HN15.out HU15.out (by simp) (by simp) (by simp) ?_; intro Ap15 cp15 w15 b15 o15 in15 g15 bl15))
          replace HS := Lib.hid (HS.out.app (left' := 0) (room' := room) o15 g15 bl15 (okPt_keep (by omega) (by omega)) (by first | (simp [keepOf, dropOf]; done) | (simp [keepOf, dropOf]; omega)) (by simp [putOf]))
          clear o15 in15 g15 bl15 bA15 HN15 HU15 hll15
          have HSx := HS.out
          rw [List.length_append] at HSx
          have HR : DrX B g w0 n _ _ := ⟨_, _, _, HSx, by simp; omega⟩
          unfold DrE
          iterate 67 apply Exists.intro
          exact ⟨HR, rfl⟩
    · have hx1b : (x1 == 1) = false := by simp [hx1]
      clear hx0 hx1
      go_wp2_with fail
      refine (specBelow_d B g ((left : Int) + 1) _ HS.out.dc (by omega)).mono ?_
      rintro e w16 ⟨m16, rfl, ⟨ma16, mb16, _⟩, dc16, fr16, bl16⟩
      replace HS := Lib.hid (HS.out.draw dc16 fr16 bl16)
      clear dc16 fr16 bl16
      have mb16 := mb16 (by omega)
      obtain ⟨d, rfl⟩ := Int.eq_ofNat_of_zero_le ma16
      by_cases hm : L.length + 1 ≤ 40
      · have hm2 : ¬ 40 < L.length + 1 := by omega
        have bA17 := alloc_below w16 (.cells #[.int .i64 1, .int .i64 (d : Int), .slice none 0 0] 67)
        have HN17 := Lib.hid (heap_alloc_new w16 (.cells #[.int .i64 1, .int .i64 (d : Int), .slice none 0 0] 67))
        replace HS := Lib.hid (HS.out.past bA17)
        have HU17 := Lib.hid (nil_ow (w16.alloc (.cells #[.int .i64 1, .int .i64 (d : Int), .slice none 0 0] 67)))
        have hll17 : (L).length ≤ 2000000 := (by omega)
        go_wp2_with (at_builtin; refine wpList_append_part rfl (.tmp 28) (.tmp 31) rfl w0.heap.size _ (.slice A L.length c) (L) b HS.out.ow rfl hll17 w16.heap.size _ ⟨1, (d : Int), []⟩ (.slice none 0 0) [] rfl HN17.out HU17.out (by simp) (by simp) (by simp) ?_; intro Ap17 cp17 w17 b17 o17 in17 g17 bl17)
        replace HS := Lib.hid (HS.out.app (left' := (left - d)) (room' := room) o17 g17 bl17 (okPt_keep (by omega) (by omega)) (by simp [keepOf, dropOf]; omega) (by simp [putOf]))
        clear o17 in17 g17 bl17 bA17 HN17 HU17 hll17
        refine ⟨?_, by simp [slen]; omega⟩
        unfold DrI
        iterate 67 apply Exists.intro
        refine ⟨⟨_, _, _, _, HS.out, ?_, ?_, ?_⟩, rfl⟩
        · simp; omega
        · first | rfl | (congr 1; omega)
        · first | rfl | (congr 1; omega)
      · have hm2 : 40 < L.length + 1 := by omega
        have bA18 := alloc_below w16 (.cells #[.int .i64 1, .int .i64 (d : Int), .slice none 0 0] 67)
        have HN18 := Lib.hid (heap_alloc_new w16 (.cells #[.int .i64 1, .int .i64 (d : Int), .slice none 0 0] 67))
        replace HS := Lib.hid (HS.out.past bA18)
        have HU18 := Lib.hid (nil_ow (w16.alloc (.cells #[.int .i64 1, .int .i64 (d : Int), .slice none 0 0] 67)))
        have hll18 : (L).length ≤ 2000000 := (by omega)
        go_wp2_with (first | (at_builtin; refine wpList_append_part rfl (.tmp 28) (.tmp 31) rfl w0.heap.size _ (.slice A L.length c) (L) b HS.out.ow rfl hll18 w16.heap.size _ ⟨1, (d : Int), []⟩ (.slice none 0 0) [] rfl HN18.out HU18.out (by simp) (by simp) (by simp) ?_; intro Ap18 cp18 w18 b18 o18 in18 g18 bl18; replace HS := Lib.hid (HS.out.app (left' := (left - d)) (room' := room) o18 g18 bl18 (okPt_keep (by omega) (by omega)) (by simp [keepOf, dropOf]; omega) (by simp [putOf])); clear o18 in18 g18 bl18 bA18 HN18 HU18 hll18; have bA19 := alloc_below w18 (.cells #[.int .i64 1, .int .i64 ((left : Int) - (d : Int)), .slice none 0 0] 67); have HN19 := Lib.hid (heap_alloc_new w18 (.cells #[.int .i64 1, .int .i64 ((left : Int) - (d : Int)), .slice none 0 0] 67)); replace HS := Lib.hid (HS.out.past bA19); have HU19 := Lib.hid (nil_ow (w18.alloc (.cells #[.int .i64 1, .int .i64 ((left : Int) - (d : Int)), .slice none 0 0] 67))); have hll19 : (L ++ [(⟨1, (d : Int), []⟩ : Pt)]).length ≤ 2000000 := (by rw [List.length_append]; show L.length + 1 ≤ 2000000; omega)) | (at_builtin; refine wpList_append_part rfl (.tmp 69) (.tmp 72) rfl w0.heap.size _ (.slice Ap18 (L.length + 1) cp18) (L ++ [(⟨1, (d : Int), []⟩ : Pt)]) b18 HS.out.ow rfl hll19 w18.heap.size _ ⟨1, ((left : Int) - (d : Int)), []⟩ (.slice none 0 0) [] rfl HN19.out HU19.out (by simp) (by simp) (by simp) ?_; intro Ap19 cp19 w19 b19 o19 in19 g19 bl19))
        replace HS := Lib.hid (HS.out.app (left' := 0) (room' := room) o19 g19 bl19 (okPt_keep (by omega) (by omega)) (by first | (simp [keepOf, dropOf]; done) | (simp [keepOf, dropOf]; omega)) (by simp [putOf]))
        clear o19 in19 g19 bl19 bA19 HN19 HU19 hll19
        have HSx := HS.out
        rw [List.length_append] at HSx
        have HR : DrX B g w0 n _ _ := ⟨_, _, _, HSx, by simp; omega⟩
        unfold DrE
        iterate 67 apply Exists.intro
        exact ⟨HR, rfl⟩
set_option maxRecDepth 1000000 in
set_option maxHeartbeats 6400000 in
theorem drZ (B g : Nat) (w0 wr : World) (n : Nat) (hn : n ≤ 150) (A : Option Addr) (c left room : Nat) (L : List Pt) (b : List Nat) (c1 c2 c3 c4 c11 c12 c74 u8 u9 u10 u13 u14 u15 u16 u17 u18 u19 u20 u21 u22 u23 u24 u25 u26 u27 u28 u29 u30 u31 u32 u33 u34 u35 u36 u37 u38 u39 u40 u41 u42 u43 u44 u45 u46 u47 u48 u49 u50 u51 u52 u53 u54 u55 u56 u57 u58 u59 u60 u61 u62 u63 u64 u65 u66 u67 u68 u69 u70 u71 u72 u73 : Value) (Q0 : Exit → Act → World → Prop) (hs : DS B g w0 n (.slice A L.length c) left room L b wr) (hL : L.length ≤ 40) (hl0 : ¬ 0 < left) (hexit : ∀ a w, DrE B g w0 n c1 c2 c3 c4 c11 c12 c74 a w → Q0 (.exit 0) a w) :
    Code.wp Try.prog drBody (Exit.then (fun a' w'' => DrI B g w0 n c1 c2 c3 c4 c11 c12 c74 a' w'' ∧ 41 - slen (a'.tmps.getD 5 undef) < 41 - L.length) Q0) ⟨#[.pointer (some ⟨g, 0, none⟩), c1, c2, c3, c4, .slice A L.length c, .int .i64 (left : Int), .int .i64 (room : Int), u8, u9, u10, c11, c12, u13, u14, u15, u16, u17, u18, u19, u20, u21, u22, u23, u24, u25, u26, u27, u28, u29, u30, u31, u32, u33, u34, u35, u36, u37, u38, u39, u40, u41, u42, u43, u44, u45, u46, u47, u48, u49, u50, u51, u52, u53, u54, u55, u56, u57, u58, u59, u60, u61, u62, u63, u64, u65, u66, u67, u68, u69, u70, u71, u72, u73, c74], []⟩ wr := by
  have hb1 : (left : Int) ≤ n := by have := hs.sum; have q1 := sumOf_nonneg hs.ok; omega
  have hb2 : (room : Int) ≤ 12 := by have := hs.puts; have q1 := sumOf_nonneg hs.ok; omega
  have HS := Lib.hid hs
  clear hs
  conv => arg 2; whnf
  go_wp2_with fail
  refine (specOnce_d B g 3 _ HS.out.dc (by omega)).mono ?_
  rintro e w1 ⟨q1, rfl, dc1, fr1, bl1⟩
  replace HS := Lib.hid (HS.out.draw dc1 fr1 bl1)
  clear dc1 fr1 bl1
  cases q1
  · go_wp2
    have e0 : left = 0 := by omega
    have HS0 := HS.out
    rw [e0] at HS0
    have HR : DrX B g w0 n _ _ := ⟨_, _, _, HS0, by omega⟩
    unfold DrE
    iterate 67 apply Exists.intro
    exact ⟨HR, rfl⟩
  go_wp2_with fail
  refine (specBelow_d B g 4 _ HS.out.dc (by omega)).mono ?_
  rintro e w2 ⟨x2, rfl, ⟨xa2, xb2, _⟩, dc2, fr2, bl2⟩
  replace HS := Lib.hid (HS.out.draw dc2 fr2 bl2)
  clear dc2 fr2 bl2
  have xb2 := xb2 (by omega)
  by_cases hx0 : x2 = 0
  · subst hx0
    go_wp2_with fail
    refine (specSigns_d B g 3 _ HS.out.dc (by omega)).mono ?_
    rintro e w3 ⟨t3, v3, s3, rfl, tl3, ta3, to3, dc3, fr3, bl3⟩
    have HOLD := HS.out.ow
    have HSZ := HS.out.fr.size
    replace HS := Lib.hid (HS.out.draw dc3 fr3 bl3)
    have HT3 := Lib.hid to3
    have HTA3 := Lib.hid ta3
    obtain ⟨At3, ct3, rfl⟩ := sliceI to3.read
    have HSR3 := Lib.hid (show ∀ q ∈ b, q ∉ s3 from fun q hq hq' => by have q1 := (HOLD.rng q hq).2; have q2 := (to3.rng q hq').1; omega)
    clear HOLD to3 ta3
    clear dc3 fr3 bl3
    by_cases hr : t3.length ≤ room
    · have hr2 : ¬ room < t3.length := by omega
      by_cases hm : L.length + 1 ≤ 40
      · have hm2 : ¬ 40 < L.length + 1 := by omega
        have bA4 := alloc_below w3 (.cells #[.int .i64 2, .int .i64 0, .slice At3 t3.length ct3] 67)
        have HN4 := Lib.hid (heap_alloc_new w3 (.cells #[.int .i64 2, .int .i64 0, .slice At3 t3.length ct3] 67))
        replace HS := Lib.hid (HS.out.past bA4)
        have HU4 := Lib.hid ((HT3.out.past bA4).ow)
        have hll4 : (L).length ≤ 2000000 := (by omega)
        go_wp2_with (at_builtin; refine wpList_append_part rfl (.tmp 45) (.tmp 48) rfl w0.heap.size _ (.slice A L.length c) (L) b HS.out.ow rfl hll4 w3.heap.size _ ⟨2, 0, t3⟩ (.slice At3 t3.length ct3) s3 rfl HN4.out HU4.out HT3.out.nd HSR3.out (fun q hq => by have q1 := (HT3.out.rng q hq).1; omega) ?_; intro Ap4 cp4 w4 b4 o4 in4 g4 bl4)
        replace HS := Lib.hid (HS.out.app (left' := left) (room' := (room - t3.length)) o4 g4 bl4 (okPt_put (by omega) HTA3.out) (by simp [keepOf, dropOf]) (by simp [putOf]; omega))
        clear o4 in4 g4 bl4 bA4 HN4 HU4 hll4
        refine ⟨?_, by simp [slen]; omega⟩
        unfold DrI
        iterate 67 apply Exists.intro
        refine ⟨⟨_, _, _, _, HS.out, ?_, ?_, ?_⟩, rfl⟩
        · simp; omega
        · first | rfl | (congr 1; omega)
        · first | rfl | (congr 1; omega)
      · have hm2 : 40 < L.length + 1 := by omega
        have bA5 := alloc_below w3 (.cells #[.int .i64 2, .int .i64 0, .slice At3 t3.length ct3] 67)
        have HN5 := Lib.hid (heap_alloc_new w3 (.cells #[.int .i64 2, .int .i64 0, .slice At3 t3.length ct3] 67))
        replace HS := Lib.hid (HS.out.past bA5)
        have HU5 := Lib.hid ((HT3.out.past bA5).ow)
        have hll5 : (L).length ≤ 2000000 := (by omega)
        go_wp2_with (first | (at_builtin; refine wpList_append_part rfl (.tmp 45) (.tmp 48) rfl w0.heap.size _ (.slice A L.length c) (L) b HS.out.ow rfl hll5 w3.heap.size _ ⟨2, 0, t3⟩ (.slice At3 t3.length ct3) s3 rfl HN5.out HU5.out HT3.out.nd HSR3.out (fun q hq => by have q1 := (HT3.out.rng q hq).1; omega) ?_; intro Ap5 cp5 w5 b5 o5 in5 g5 bl5; replace HS := Lib.hid (HS.out.app (left' := left) (room' := (room - t3.length)) o5 g5 bl5 (okPt_put (by omega) HTA3.out) (by simp [keepOf, dropOf]) (by simp [putOf]; omega)); clear o5 in5 g5 bl5 bA5 HN5 HU5 hll5; have bA6 := alloc_below w5 (.cells #[.int .i64 1, .int .i64 (left : Int), .slice none 0 0] 67); have HN6 := Lib.hid (heap_alloc_new w5 (.cells #[.int .i64 1, .int .i64 (left : Int), .slice none 0 0] 67)); replace HS := Lib.hid (HS.out.past bA6); have HU6 := Lib.hid (nil_ow (w5.alloc (.cells #[.int .i64 1, .int .i64 (left : Int), .slice none 0 0] 67))); have hll6 : (L ++ [(⟨2, 0, t3⟩ : Pt)]).length ≤ 2000000 := (by rw [List.length_append]; show L.length + 1 ≤ 2000000; omega)) | (at_builtin; refine wpList_append_part rfl (.tmp 69) (.tmp 72) rfl w0.heap.size _ (.slice Ap5 (L.length + 1) cp5) (L ++ [(⟨2, 0, t3⟩ : Pt)]) b5 HS.out.ow rfl hll6 w5.heap.size _ ⟨1, (left : Int), []⟩ (.slice none 0 0) [] rfl HN6.out HU6.out (by simp) (by simp) (by simp) ?_; intro Ap6 cp6 w6 b6 o6 in6 g6 bl6))
        replace HS := Lib.hid (HS.out.app (left' := 0) (room' := (room - t3.length)) o6 g6 bl6 (okPt_keep (by omega) (by omega)) (by first | (simp [keepOf, dropOf]; done) | (simp [keepOf, dropOf]; omega)) (by simp [putOf]))
        clear o6 in6 g6 bl6 bA6 HN6 HU6 hll6
        have HSx := HS.out
        rw [List.length_append] at HSx
        have HR : DrX B g w0 n _ _ := ⟨_, _, _, HSx, by simp; omega⟩
        unfold DrE
        iterate 67 apply Exists.intro
        exact ⟨HR, rfl⟩
    · have hr2 : room < t3.length := by omega
      by_cases hm : L.length + 1 ≤ 40
      · have hm2 : ¬ 40 < L.length + 1 := by omega
        have bA7 := alloc_below w3 (.cells #[.int .i64 2, .int .i64 0, .slice none 0 0] 67)
        have HN7 := Lib.hid (heap_alloc_new w3 (.cells #[.int .i64 2, .int .i64 0, .slice none 0 0] 67))
        replace HS := Lib.hid (HS.out.past bA7)
        have HU7 := Lib.hid (nil_ow (w3.alloc (.cells #[.int .i64 2, .int .i64 0, .slice none 0 0] 67)))
        have hll7 : (L).length ≤ 2000000 := (by omega)
        go_wp2_with (at_builtin; refine wpList_append_part rfl (.tmp 45) (.tmp 48) rfl w0.heap.size _ (.slice A L.length c) (L) b HS.out.ow rfl hll7 w3.heap.size _ ⟨2, 0, []⟩ (.slice none 0 0) [] rfl HN7.out HU7.out (by simp) (by simp) (by simp) ?_; intro Ap7 cp7 w7 b7 o7 in7 g7 bl7)
        replace HS := Lib.hid (HS.out.app (left' := left) (room' := room) o7 g7 bl7 (okPt_put (by simp) rfl) (by simp [keepOf, dropOf]) (by simp [putOf]))
        clear o7 in7 g7 bl7 bA7 HN7 HU7 hll7
        refine ⟨?_, by simp [slen]; omega⟩
        unfold DrI
        iterate 67 apply Exists.intro
        refine ⟨⟨_, _, _, _, HS.out, ?_, ?_, ?_⟩, rfl⟩
        · simp; omega
        · first | rfl | (congr 1; omega)
        · first | rfl | (congr 1; omega)
      · have hm2 : 40 < L.length + 1 := by omega
        have bA8 := alloc_below w3 (.cells #[.int .i64 2, .int .i64 0, .slice none 0 0] 67)
        have HN8 := Lib.hid (heap_alloc_new w3 (.cells #[.int .i64 2, .int .i64 0, .slice none 0 0] 67))
        replace HS := Lib.hid (HS.out.past bA8)
        have HU8 := Lib.hid (nil_ow (w3.alloc (.cells #[.int .i64 2, .int .i64 0, .slice none 0 0] 67)))
        have hll8 : (L).length ≤ 2000000 := (by omega)
        go_wp2_with (first | (at_builtin; refine wpList_append_part rfl (.tmp 45) (.tmp 48) rfl w0.heap.size _ (.slice A L.length c) (L) b HS.out.ow rfl hll8 w3.heap.size _ ⟨2, 0, []⟩ (.slice none 0 0) [] rfl HN8.out HU8.out (by simp) (by simp) (by simp) ?_; intro Ap8 cp8 w8 b8 o8 in8 g8 bl8; replace HS := Lib.hid (HS.out.app (left' := left) (room' := room) o8 g8 bl8 (okPt_put (by simp) rfl) (by simp [keepOf, dropOf]) (by simp [putOf])); clear o8 in8 g8 bl8 bA8 HN8 HU8 hll8; have bA9 := alloc_below w8 (.cells #[.int .i64 1, .int .i64 (left : Int), .slice none 0 0] 67); have HN9 := Lib.hid (heap_alloc_new w8 (.cells #[.int .i64 1, .int .i64 (left : Int), .slice none 0 0] 67)); replace HS := Lib.hid (HS.out.past bA9); have HU9 := Lib.hid (nil_ow (w8.alloc (.cells #[.int .i64 1, .int .i64 (left : Int), .slice none 0 0] 67))); have hll9 : (L ++ [(⟨2, 0, []⟩ : Pt)]).length ≤ 2000000 := (by rw [List.length_append]; show L.length + 1 ≤ 2000000; omega)) | (at_builtin; refine wpList_append_part rfl (.tmp 69) (.tmp 72) rfl w0.heap.size _ (.slice Ap8 (L.length + 1) cp8) (L ++ [(⟨2, 0, []⟩ : Pt)]) b8 HS.out.ow rfl hll9 w8.heap.size _ ⟨1, (left : Int), []⟩ (.slice none 0 0) [] rfl HN9.out HU9.out (by simp) (by simp) (by simp) ?_; intro Ap9 cp9 w9 b9 o9 in9 g9 bl9))
        replace HS := Lib.hid (HS.out.app (left' := 0) (room' := room) o9 g9 bl9 (okPt_keep (by omega) (by omega)) (by first | (simp [keepOf, dropOf]; done) | (simp [keepOf, dropOf]; omega)) (by simp [putOf]))
        clear o9 in9 g9 bl9 bA9 HN9 HU9 hll9
        have HSx := HS.out
        rw [List.length_append] at HSx
        have HR : DrX B g w0 n _ _ := ⟨_, _, _, HSx, by simp; omega⟩
        unfold DrE
        iterate 67 apply Exists.intro
        exact ⟨HR, rfl⟩
  · have hx0b : (x2 == 0) = false := by simp [hx0]
    by_cases hx1 : x2 = 1
    · subst hx1
      clear hx0 hx0b
      go_wp2_with fail
      refine (specBelow_d B g ((left : Int) + 1) _ HS.out.dc (by omega)).mono ?_
      rintro e w10 ⟨m10, rfl, ⟨ma10, mb10, _⟩, dc10, fr10, bl10⟩
      replace HS := Lib.hid (HS.out.draw dc10 fr10 bl10)
      clear dc10 fr10 bl10
      have mb10 := mb10 (by omega)
      obtain ⟨d, rfl⟩ := Int.eq_ofNat_of_zero_le ma10
      by_cases h4 : d ≤ 4
      · have h4b : ¬ 4 < d := by omega
        by_cases hm : L.length + 1 ≤ 40
        · have hm2 : ¬ 40 < L.length + 1 := by omega
          have bA11 := alloc_below w10 (.cells #[.int .i64 3, .int .i64 (d : Int), .slice none 0 0] 67)
          have HN11 := Lib.hid (heap_alloc_new w10 (.cells #[.int .i64 3, .int .i64 (d : Int), .slice none 0 0] 67))
          replace HS := Lib.hid (HS.out.past bA11)
          have HU11 := Lib.hid (nil_ow (w10.alloc (.cells #[.int .i64 3, .int .i64 (d : Int), .slice none 0 0] 67)))
          have hll11 : (L).length ≤ 2000000 := (by omega)
          go_wp2_with (at_builtin; refine wpList_append_part rfl (.tmp 61) (.tmp 64) rfl w0.heap.size _ (.slice A L.length c) (L) b HS.out.ow rfl hll11 w10.heap.size _ ⟨3, (d : Int), []⟩ (.slice none 0 0) [] rfl HN11.out HU11.out (by simp) (by simp) (by simp) ?_; intro Ap11 cp11 w11 b11 o11 in11 g11 bl11)
          replace HS := Lib.hid (HS.out.app (left' := (left - d)) (room' := room) o11 g11 bl11 (okPt_drop (by omega) (by omega)) (by simp [keepOf, dropOf]; omega) (by simp [putOf]))
          clear o11 in11 g11 bl11 bA11 HN11 HU11 hll11
          refine ⟨?_, by simp [slen]; omega⟩
          unfold DrI
          iterate 67 apply Exists.intro
          refine ⟨⟨_, _, _, _, HS.out, ?_, ?_, ?_⟩, rfl⟩
          · simp; omega
          · first | rfl | (congr 1; omega)
          · first | rfl | (congr 1; omega)
        · have hm2 : 40 < L.length + 1 := by omega
          have bA12 := alloc_below w10 (.cells #[.int .i64 3, .int .i64 (d : Int), .slice none 0 0] 67)
          have HN12 := Lib.hid (heap_alloc_new w10 (.cells #[.int .i64 3, .int .i64 (d : Int), .slice none 0 0] 67))
          replace HS := Lib.hid (HS.out.past bA12)
          have HU12 := Lib.hid (nil_ow (w10.alloc (.cells #[.int .i64 3, .int .i64 (d : Int), .slice none 0 0] 67)))
          have hll12 : (L).length ≤ 2000000 := (by omega)
          go_wp2_with (first | (at_builtin; refine wpList_append_part rfl (.tmp 61) (.tmp 64) rfl w0.heap.size _ (.slice A L.length c) (L) b HS.out.ow rfl hll12 w10.heap.size _ ⟨3, (d : Int), []⟩ (.slice none 0 0) [] rfl HN12.out HU12.out (by simp) (by simp) (by simp) ?_; intro Ap12 cp12 w12 b12 o12 in12 g12 bl12; replace HS := Lib.hid (HS.out.app (left' := (left - d)) (room' := room) o12 g12 bl12 (okPt_drop (by omega) (by omega)) (by simp [keepOf, dropOf]; omega) (by simp [putOf])); clear o12 in12 g12 bl12 bA12 HN12 HU12 hll12; have bA13 := alloc_below w12 (.cells #[.int .i64 1, .int .i64 ((left : Int) - (d : Int)), .slice none 0 0] 67); have HN13 := Lib.hid (heap_alloc_new w12 (.cells #[.int .i64 1, .int .i64 ((left : Int) - (d : Int)), .slice none 0 0] 67)); replace HS := Lib.hid (HS.out.past bA13); have HU13 := Lib.hid (nil_ow (w12.alloc (.cells #[.int .i64 1, .int .i64 ((left : Int) - (d : Int)), .slice none 0 0] 67))); have hll13 : (L ++ [(⟨3, (d : Int), []⟩ : Pt)]).length ≤ 2000000 := (by rw [List.length_append]; show L.length + 1 ≤ 2000000; omega)) | (at_builtin; refine wpList_append_part rfl (.tmp 69) (.tmp 72) rfl w0.heap.size _ (.slice Ap12 (L.length + 1) cp12) (L ++ [(⟨3, (d : Int), []⟩ : Pt)]) b12 HS.out.ow rfl hll13 w12.heap.size _ ⟨1, ((left : Int) - (d : Int)), []⟩ (.slice none 0 0) [] rfl HN13.out HU13.out (by simp) (by simp) (by simp) ?_; intro Ap13 cp13 w13 b13 o13 in13 g13 bl13))
          replace HS := Lib.hid (HS.out.app (left' := 0) (room' := room) o13 g13 bl13 (okPt_keep (by omega) (by omega)) (by first | (simp [keepOf, dropOf]; done) | (simp [keepOf, dropOf]; omega)) (by simp [putOf]))
          clear o13 in13 g13 bl13 bA13 HN13 HU13 hll13
          have HSx := HS.out
          rw [List.length_append] at HSx
          have HR : DrX B g w0 n _ _ := ⟨_, _, _, HSx, by simp; omega⟩
          unfold DrE
          iterate 67 apply Exists.intro
          exact ⟨HR, rfl⟩
      · exfalso
        omega
    · have hx1b : (x2 == 1) = false := by simp [hx1]
      clear hx0 hx1
      go_wp2_with fail
      refine (specBelow_d B g ((left : Int) + 1) _ HS.out.dc (by omega)).mono ?_
      rintro e w14 ⟨m14, rfl, ⟨ma14, mb14, _⟩, dc14, fr14, bl14⟩
      replace HS := Lib.hid (HS.out.draw dc14 fr14 bl14)
      clear dc14 fr14 bl14
      have mb14 := mb14 (by omega)
      obtain ⟨d, rfl⟩ := Int.eq_ofNat_of_zero_le ma14
      by_cases hm : L.length + 1 ≤ 40
      · have hm2 : ¬ 40 < L.length + 1 := by omega
        have bA15 := alloc_below w14 (.cells #[.int .i64 1, .int .i64 (d : Int), .slice none 0 0] 67)
        have HN15 := Lib.hid (heap_alloc_new w14 (.cells #[.int .i64 1, .int .i64 (d : Int), .slice none 0 0] 67))
        replace HS := Lib.hid (HS.out.past bA15)
        have HU15 := Lib.hid (nil_ow (w14.alloc (.cells #[.int .i64 1, .int .i64 (d : Int), .slice none 0 0] 67)))
        have hll15 : (L).length ≤ 2000000 := (by omega)
        go_wp2_with (at_builtin; refine wpList_append_part rfl (.tmp 28) (.tmp 31) rfl w0.heap.size _ (.slice A L.length c) (L) b HS.out.ow rfl hll15 w14.heap.size _ ⟨1, (d : Int), []⟩ (.slice none 0 0) [] rfl HN15.out HU15.out (by simp) (by simp) (by simp) ?_; intro Ap15 cp15 w15 b15 o15 in15 g15 bl15)
        replace HS := Lib.hid (HS.out.app (left' := (left - d)) (room' := room) o15 g15 bl15 (okPt_keep (by omega) (by omega)) (by simp [keepOf, dropOf]; omega) (by simp [putOf]))
        clear o15 in15 g15 bl15 bA15 HN15 HU15 hll15
        refine ⟨?_, by simp [slen]; omega⟩
        unfold DrI
        iterate 67 apply Exists.intro
        refine ⟨⟨_, _, _, _, HS.out, ?_, ?_, ?_⟩, rfl⟩
        · simp; omega
        · first | rfl | (congr 1; omega)
        · first | rfl | (congr 1; omega)
      · have hm2 : 40 < L.length + 1 := by omega
        have bA16 := alloc_below w14 (.cells #[.int .i64 1, .int .i64 (d : Int), .slice none 0 0] 67)
        have HN16 := Lib.hid (heap_alloc_new w14 (.cells #[.int .i64 1, .int .i64 (d : Int), .slice none 0 0] 67))
        replace HS := Lib.hid (HS.out.past bA16)
        have HU16 := Lib.hid (nil_ow (w14.alloc (.cells #[.int .i64 1, .int .i64 (d : Int), .slice none 0 0] 67)))
        have hll16 : (L).length ≤ 2000000 := (by omega)
        go_wp2_with (first | (at_builtin; refine wpList_append_part rfl (.tmp 28) (.tmp 31) rfl w0.heap.size _ (.slice A L.length c) (L) b HS.out.ow rfl hll16 w14.heap.size _ ⟨1, (d : Int), []⟩ (.slice none 0 0) [] rfl HN16.out HU16.out (by simp) (by simp) (by simp) ?_; intro Ap16 cp16 w16 b16 o16 in16 g16 bl16; replace HS := Lib.hid (HS.out.app (left' := (left - d)) (room' := room) o16 g16 bl16 (okPt_keep (by omega) (by omega)) (by simp [keepOf, dropOf]; omega) (by simp [putOf])); clear o16 in16 g16 bl16 bA16 HN16 HU16 hll16; have bA17 := alloc_below w16 (.cells #[.int .i64 1, .int .i64 ((left : Int) - (d : Int)), .slice none 0 0] 67); have HN17 := Lib.hid (heap_alloc_new w16 (.cells #[.int .i64 1, .int .i64 ((left : Int) - (d : Int)), .slice none 0 0] 67)); replace HS := Lib.hid (HS.out.past bA17); have HU17 := Lib.hid (nil_ow (w16.alloc (.cells #[.int .i64 1, .int .i64 ((left : Int) - (d : Int)), .slice none 0 0] 67))); have hll17 : (L ++ [(⟨1, (d : Int), []⟩ : Pt)]).length ≤ 2000000 := (by rw [List.length_append]; show L.length + 1 ≤ 2000000; omega)) | (at_builtin; refine wpList_append_part rfl (.tmp 69) (.tmp 72) rfl w0.heap.size _ (.slice Ap16 (L.length + 1) cp16) (L ++ [(⟨1, (d : Int), []⟩ : Pt)]) b16 HS.out.ow rfl hll17 w16.heap.size _ ⟨1, ((left : Int) - (d : Int)), []⟩ (.slice none 0 0) [] rfl HN17.out HU17.out (by simp) (by simp) (by simp) ?_; intro Ap17 cp17 w17 b17 o17 in17 g17 bl17))
        replace HS := Lib.hid (HS.out.app (left' := 0) (room' := room) o17 g17 bl17 (okPt_keep (by omega) (by omega)) (by first | (simp [keepOf, dropOf]; done) | (simp [keepOf, dropOf]; omega)) (by simp [putOf]))
        clear o17 in17 g17 bl17 bA17 HN17 HU17 hll17
        have HSx := HS.out
        rw [List.length_append] at HSx
        have HR : DrX B g w0 n _ _ := ⟨_, _, _, HSx, by simp; omega⟩
        unfold DrE
        iterate 67 apply Exists.intro
        exact ⟨HR, rfl⟩
set_option maxRecDepth 1000000 in
set_option maxHeartbeats 1600000 in
theorem drRound (B g : Nat) (w0 : World) (n : Nat) (hn : n ≤ 150) (c1 c2 c3 c4 c11 c12 c74 : Value) (Q0 : Exit → Act → World → Prop) (hexit : ∀ a w, DrE B g w0 n c1 c2 c3 c4 c11 c12 c74 a w → Q0 (.exit 0) a w) (a : Act) (w : World) (hI : DrI B g w0 n c1 c2 c3 c4 c11 c12 c74 a w) :
    Code.wp Try.prog drBody (Exit.then (fun a' w'' => DrI B g w0 n c1 c2 c3 c4 c11 c12 c74 a' w'' ∧ 41 - slen (a'.tmps.getD 5 undef) < 41 - slen (a.tmps.getD 5 undef)) Q0) a w := by
  unfold DrI at hI
  obtain ⟨u5, hI⟩ := hI
  obtain ⟨u6, hI⟩ := hI
  obtain ⟨u7, hI⟩ := hI
  obtain ⟨u8, hI⟩ := hI
  obtain ⟨u9, hI⟩ := hI
  obtain ⟨u10, hI⟩ := hI
  obtain ⟨u13, hI⟩ := hI
  obtain ⟨u14, hI⟩ := hI
  obtain ⟨u15, hI⟩ := hI
  obtain ⟨u16, hI⟩ := hI
  obtain ⟨u17, hI⟩ := hI
  obtain ⟨u18, hI⟩ := hI
  obtain ⟨u19, hI⟩ := hI
  obtain ⟨u20, hI⟩ := hI
  obtain ⟨u21, hI⟩ := hI
  obtain ⟨u22, hI⟩ := hI
  obtain ⟨u23, hI⟩ := hI
  obtain ⟨u24, hI⟩ := hI
  obtain ⟨u25, hI⟩ := hI
  obtain ⟨u26, hI⟩ := hI
  obtain ⟨u27, hI⟩ := hI
  obtain ⟨u28, hI⟩ := hI
  obtain ⟨u29, hI⟩ := hI
  obtain ⟨u30, hI⟩ := hI
  obtain ⟨u31, hI⟩ := hI
  obtain ⟨u32, hI⟩ := hI
  obtain ⟨u33, hI⟩ := hI
  obtain ⟨u34, hI⟩ := hI
  obtain ⟨u35, hI⟩ := hI
  obtain ⟨u36, hI⟩ := hI
  obtain ⟨u37, hI⟩ := hI
  obtain ⟨u38, hI⟩ := hI
  obtain ⟨u39, hI⟩ := hI
  obtain ⟨u40, hI⟩ := hI
  obtain ⟨u41, hI⟩ := hI
  obtain ⟨u42, hI⟩ := hI
  obtain ⟨u43, hI⟩ := hI
  obtain ⟨u44, hI⟩ := hI
  obtain ⟨u45, hI⟩ := hI
  obtain ⟨u46, hI⟩ := hI
  obtain ⟨u47, hI⟩ := hI
  obtain ⟨u48, hI⟩ := hI
  obtain ⟨u49, hI⟩ := hI
  obtain ⟨u50, hI⟩ := hI
  obtain ⟨u51, hI⟩ := hI
  obtain ⟨u52, hI⟩ := hI
  obtain ⟨u53, hI⟩ := hI
  obtain ⟨u54, hI⟩ := hI
  obtain ⟨u55, hI⟩ := hI
  obtain ⟨u56, hI⟩ := hI
  obtain ⟨u57, hI⟩ := hI
  obtain ⟨u58, hI⟩ := hI
  obtain ⟨u59, hI⟩ := hI
  obtain ⟨u60, hI⟩ := hI
  obtain ⟨u61, hI⟩ := hI
  obtain ⟨u62, hI⟩ := hI
  obtain ⟨u63, hI⟩ := hI
  obtain ⟨u64, hI⟩ := hI
  obtain ⟨u65, hI⟩ := hI
  obtain ⟨u66, hI⟩ := hI
  obtain ⟨u67, hI⟩ := hI
  obtain ⟨u68, hI⟩ := hI
  obtain ⟨u69, hI⟩ := hI
  obtain ⟨u70, hI⟩ := hI
  obtain ⟨u71, hI⟩ := hI
  obtain ⟨u72, hI⟩ := hI
  obtain ⟨u73, hI⟩ := hI
  obtain ⟨⟨left, room, L, b, hs, hL, rfl, rfl⟩, rfl⟩ := hI
  obtain ⟨A, c, rfl⟩ := sliceP hs.ow.read
  by_cases hl : 0 < left
  · exact drP B g w0 w n hn A c left room L b c1 c2 c3 c4 c11 c12 c74 u8 u9 u10 u13 u14 u15 u16 u17 u18 u19 u20 u21 u22 u23 u24 u25 u26 u27 u28 u29 u30 u31 u32 u33 u34 u35 u36 u37 u38 u39 u40 u41 u42 u43 u44 u45 u46 u47 u48 u49 u50 u51 u52 u53 u54 u55 u56 u57 u58 u59 u60 u61 u62 u63 u64 u65 u66 u67 u68 u69 u70 u71 u72 u73 Q0 hs hL hl hexit
  · exact drZ B g w0 w n hn A c left room L b c1 c2 c3 c4 c11 c12 c74 u8 u9 u10 u13 u14 u15 u16 u17 u18 u19 u20 u21 u22 u23 u24 u25 u26 u27 u28 u29 u30 u31 u32 u33 u34 u35 u36 u37 u38 u39 u40 u41 u42 u43 u44 u45 u46 u47 u48 u49 u50 u51 u52 u53 u54 u55 u56 u57 u58 u59 u60 u61 u62 u63 u64 u65 u66 u67 u68 u69 u70 u71 u72 u73 Q0 hs hL hl hexit
set_option maxRecDepth 1000000 in
set_option maxHeartbeats 1600000 in
theorem drLoop (B g : Nat) (w0 : World) (n : Nat) (hn : n ≤ 150) (c1 c2 c3 c4 c11 c12 c74 u5 u6 u7 u8 u9 u10 u13 u14 u15 u16 u17 u18 u19 u20 u21 u22 u23 u24 u25 u26 u27 u28 u29 u30 u31 u32 u33 u34 u35 u36 u37 u38 u39 u40 u41 u42 u43 u44 u45 u46 u47 u48 u49 u50 u51 u52 u53 u54 u55 u56 u57 u58 u59 u60 u61 u62 u63 u64 u65 u66 u67 u68 u69 u70 u71 u72 u73 : Value) (Q0 : Exit → Act → World → Prop) (w : World) (hR : DrR B g w0 n u5 u6 u7 w) (hexit : ∀ a w, DrE B g w0 n c1 c2 c3 c4 c11 c12 c74 a w → Q0 (.exit 0) a w) :
    Code.wp Try.prog (Code.loop drBody) Q0 ⟨#[.pointer (some ⟨g, 0, none⟩), c1, c2, c3, c4, u5, u6, u7, u8, u9, u10, c11, c12, u13, u14, u15, u16, u17, u18, u19, u20, u21, u22, u23, u24, u25, u26, u27, u28, u29, u30, u31, u32, u33, u34, u35, u36, u37, u38, u39, u40, u41, u42, u43, u44, u45, u46, u47, u48, u49, u50, u51, u52, u53, u54, u55, u56, u57, u58, u59, u60, u61, u62, u63, u64, u65, u66, u67, u68, u69, u70, u71, u72, u73, c74], []⟩ w := by
  refine wp_loop (DrI B g w0 n c1 c2 c3 c4 c11 c12 c74) (fun a _ => 41 - slen (a.tmps.getD 5 undef)) ?_ (fun a w'' hI => drRound B g w0 n hn c1 c2 c3 c4 c11 c12 c74 Q0 hexit a w'' hI)
  unfold DrI
  iterate 67 apply Exists.intro
  exact ⟨hR, rfl⟩
/-- behind a draw of an operation on n characters -/
def OpP (n B g : Nat) (w : World) (e : Ending) (w' : World) : Prop := ∃ L v b, e = .returned v ∧ okOp L = true ∧ sumK L + sumD L = (n : Int) ∧ sumK L + sumP L ≤ (n : Int) + 12 ∧ sumP L ≤ 12 ∧ SmP L ∧ OwB w.heap.size w'.heap.size w' (encPs L) v b ∧ DC B g w' ∧ Fr (fun q => q = g) w w' ∧ Below B w w'
theorem drawn_ok {L : List Pt} {n room : Nat} (hok : okPs L = true) (hs : sumOf keepOf L + sumOf dropOf L + ((0 : Nat) : Int) = (n : Int)) (hp : sumOf putOf L + (room : Int) = 12) (hl : L.length ≤ 42) (hn : n ≤ 150) : okOp L = true ∧ sumK L + sumD L = (n : Int) ∧ sumK L + sumP L ≤ (n : Int) + 12 ∧ sumP L ≤ 12 ∧ SmP L := by
  have hpb : partsB L = true := by unfold partsB; rw [hok]; simp; omega
  obtain ⟨t1, t2, t3⟩ := sum_t hpb
  obtain ⟨q1, q2, q3⟩ := sumOf_nonneg hok
  have h1 : sumK L + sumD L = (n : Int) := by rw [t1, t3]; omega
  have h2 : sumK L + sumP L ≤ (n : Int) + 12 := by rw [t1, t2]; omega
  refine ⟨?_, h1, h2, by rw [t2]; omega, by omega, ?_⟩
  · unfold okOp
    rw [hpb, decide_eq_true (show sumK L + sumD L ≤ 200 by omega), decide_eq_true (show sumK L + sumP L ≤ 200 by omega)]
    rfl
  · have := signsIn_le (okPs_sz hok)
    omega
set_option maxRecDepth 1000000 in
set_option maxHeartbeats 3200000 in
theorem specDraw_d (B g n : Nat) (w : World) (h : DC B g w) (hn : n ≤ 150) : Calls Try.prog 35 #[.pointer (some ⟨g, 0, none⟩), .int .i64 (n : Int)] w (OpP n B g w) := by
  have hgl := h.lt
  have hBg := h.low
  go_enter Try.func35, Try.ntmps35
  go_wp2
  have bA := alloc_below w (.cells #[] 67)
  have hib : OwB w.heap.size (w.alloc (.cells #[] 67)).heap.size (w.alloc (.cells #[] 67)) (encPs []) (.slice (some ⟨w.heap.size, 0, none⟩) 0 0) [w.heap.size] :=
    ⟨⟨[], [], ⟨rfl, .inr ⟨w.heap.size, 0, #[], rfl, Nat.zero_le _, heap_alloc_new w _, Nat.le_refl _, by unfold maxLen; omega, rfl, rfl⟩⟩, ⟨rfl, rfl⟩, rfl⟩, by simp, fun x hx => by obtain rfl : x = w.heap.size := (by simpa using hx); exact ⟨Nat.le_refl _, lt_of_some (heap_alloc_new w _)⟩, Nat.le_refl _, bA.size⟩
  have hs : DS B g w n (.slice (some ⟨w.heap.size, 0, none⟩) 0 0) n 12 [] [w.heap.size] (w.alloc (.cells #[] 67)) := ⟨hib, rfl, by simp [sumOf], by simp [sumOf], h.past bA, Fr.below bA, bA.mono (by omega), hgl⟩
  have HS := Lib.hid hs
  clear hs hib bA
  refine drLoop B g w n hn _ _ _ _ _ _ _ _ _ _ _ _ _ _ _ _ _ _ _ _ _ _ _ _ _ _ _ _ _ _ _ _ _ _ _ _ _ _ _ _ _ _ _ _ _ _ _ _ _ _ _ _ _ _ _ _ _ _ _ _ _ _ _ _ _ _ _ _ _ _ _ _ _ _ _ _ ⟨n, 12, [], _, HS.out, by simp, rfl, rfl⟩ ?_
  intro act w8 hI
  clear HS
  unfold DrE at hI
  obtain ⟨u5, hI⟩ := hI
  obtain ⟨u6, hI⟩ := hI
  obtain ⟨u7, hI⟩ := hI
  obtain ⟨u8, hI⟩ := hI
  obtain ⟨u9, hI⟩ := hI
  obtain ⟨u10, hI⟩ := hI
  obtain ⟨u13, hI⟩ := hI
  obtain ⟨u14, hI⟩ := hI
  obtain ⟨u15, hI⟩ := hI
  obtain ⟨u16, hI⟩ := hI
  obtain ⟨u17, hI⟩ := hI
  obtain ⟨u18, hI⟩ := hI
  obtain ⟨u19, hI⟩ := hI
  obtain ⟨u20, hI⟩ := hI
  obtain ⟨u21, hI⟩ := hI
  obtain ⟨u22, hI⟩ := hI
  obtain ⟨u23, hI⟩ := hI
  obtain ⟨u24, hI⟩ := hI
  obtain ⟨u25, hI⟩ := hI
  obtain ⟨u26, hI⟩ := hI
  obtain ⟨u27, hI⟩ := hI
  obtain ⟨u28, hI⟩ := hI
  obtain ⟨u29, hI⟩ := hI
  obtain ⟨u30, hI⟩ := hI
  obtain ⟨u31, hI⟩ := hI
  obtain ⟨u32, hI⟩ := hI
  obtain ⟨u33, hI⟩ := hI
  obtain ⟨u34, hI⟩ := hI
  obtain ⟨u35, hI⟩ := hI
  obtain ⟨u36, hI⟩ := hI
  obtain ⟨u37, hI⟩ := hI
  obtain ⟨u38, hI⟩ := hI
  obtain ⟨u39, hI⟩ := hI
  obtain ⟨u40, hI⟩ := hI
  obtain ⟨u41, hI⟩ := hI
  obtain ⟨u42, hI⟩ := hI
  obtain ⟨u43, hI⟩ := hI
  obtain ⟨u44, hI⟩ := hI
  obtain ⟨u45, hI⟩ := hI
  obtain ⟨u46, hI⟩ := hI
  obtain ⟨u47, hI⟩ := hI
  obtain ⟨u48, hI⟩ := hI
  obtain ⟨u49, hI⟩ := hI
  obtain ⟨u50, hI⟩ := hI
  obtain ⟨u51, hI⟩ := hI
  obtain ⟨u52, hI⟩ := hI
  obtain ⟨u53, hI⟩ := hI
  obtain ⟨u54, hI⟩ := hI
  obtain ⟨u55, hI⟩ := hI
  obtain ⟨u56, hI⟩ := hI
  obtain ⟨u57, hI⟩ := hI
  obtain ⟨u58, hI⟩ := hI
  obtain ⟨u59, hI⟩ := hI
  obtain ⟨u60, hI⟩ := hI
  obtain ⟨u61, hI⟩ := hI
  obtain ⟨u62, hI⟩ := hI
  obtain ⟨u63, hI⟩ := hI
  obtain ⟨u64, hI⟩ := hI
  obtain ⟨u65, hI⟩ := hI
  obtain ⟨u66, hI⟩ := hI
  obtain ⟨u67, hI⟩ := hI
  obtain ⟨u68, hI⟩ := hI
  obtain ⟨u69, hI⟩ := hI
  obtain ⟨u70, hI⟩ := hI
  obtain ⟨u71, hI⟩ := hI
  obtain ⟨u72, hI⟩ := hI
  obtain ⟨u73, hI⟩ := hI
  obtain ⟨⟨room, L, b, hs, hL⟩, rfl⟩ := hI
  obtain ⟨A, c, rfl⟩ := sliceP hs.ow.read
  have HS := Lib.hid hs
  clear hs
  go_wp2
  go_ret
  obtain ⟨k1, k2, k3, k3b, k4⟩ := drawn_ok HS.out.ok HS.out.sum HS.out.puts hL hn
  exact ⟨L, _, b, rfl, k1, k2, k3, k3b, k4, HS.out.ow, HS.out.dc, HS.out.fr, HS.out.bl⟩

end Go.Proofs.Ytihajkppeiainaa.low


/-
  The specification's draws: the cursor made (spec.l01New), a text and two operations (spec.MakeOps), a text and a list of operations (spec.MakeList).
-/
namespace Go.Proofs.Ytihajkppeiainaa.low
open Go.RowKit
set_option linter.unusedVariables false

def NewP (w : World) (e : Ending) (w' : World) : Prop := e = .returned (.pointer (some ⟨w.heap.size, 0, none⟩)) ∧ DC w.heap.size w.heap.size w' ∧ Below w.heap.size w w'
/-- the bytes of a draw -/
def Code8 (w : World) (v : Value) : Prop := ∃ A c zs, v = .slice A zs.length c ∧ zs.length ≤ 1048576 ∧ Row (Value.int .u8) w w.heap.size A zs ∧ ∀ z ∈ zs, 0 ≤ z ∧ z < 256
set_option maxRecDepth 100000 in
set_option maxHeartbeats 1600000 in
theorem specNew_d (v : Value) (w : World) (h : Code8 w v) : Calls Try.prog 32 #[v] w (NewP w) := by
  obtain ⟨A, c, zs, rfl, hl, hr, hz⟩ := h
  go_enter Try.func32, Try.ntmps32
  go_wp2
  go_loop [3, 4] (fun x i => ∃ (k : Nat) (h : Int), k ≤ zs.length ∧ i = .int .i64 k ∧ x = .int .i64 h) (fun _ i => zs.length - (intOf i).toNat)
  case atStart => exact ⟨0, _, Nat.zero_le _, rfl, rfl⟩
  case round =>
    obtain ⟨k, h, hk, rfl, rfl⟩ := hrel
    have fin : NewP w (.returned (.pointer (some ⟨w.heap.size, 0, none⟩))) (w.alloc (.cells #[.slice A zs.length c, .int .i64 0, .int .i64 h] 97)) :=
      ⟨rfl, ⟨A, c, zs, 0, h, heap_alloc_new w _, hl, hr.keep (fun p hp => (alloc_below w _).cell hp), hz, Nat.le_refl _⟩, alloc_below w _⟩
    have FIN := Lib.hid fin
    clear fin
    by_cases hlt : k < zs.length
    · by_cases h4 : k < 4000
      · obtain ⟨ad, z, rfl, hb, hzk, hc⟩ := hr.at_ hlt
        have hzz := hz z (List.mem_of_getElem? hzk)
        clear hzk
        go_wp2
        go_round
        case rel => exact ⟨k + 1, _, by omega, by go_num, rfl⟩
        case measure => simp [intOf]; omega
      · go_wp2
        go_ret
        exact FIN.out
    · go_wp2
      go_ret
      exact FIN.out

/-- behind MakeOps -/
def MOps (w : World) (e : Ending) (w' : World) : Prop := ∃ t a b v1 v2 v3, e = .returned (.tuple #[v1, v2, v3]) ∧ okText t = true ∧ t.length ≤ 10 ∧ okOp a = true ∧ okOp b = true ∧ sumK a + sumD a = (t.length : Int) ∧ sumK b + sumD b = (t.length : Int) ∧ sumK a + sumP a ≤ 30 ∧ sumK b + sumP b ≤ 30 ∧ sumP a ≤ 12 ∧ sumP b ≤ 12 ∧ SmP a ∧ SmP b ∧
  RdC w' w'.heap.size (encInts t) v1 ∧ RdC w' w'.heap.size (encPs a) v2 ∧ RdC w' w'.heap.size (encPs b) v3 ∧ Below w.heap.size w w'
theorem okText_of {t : List Int} (h : allB t = true) (hl : t.length ≤ 200) : okText t = true := by unfold okText; rw [h, decide_eq_true hl]; rfl
theorem read_fr {lo hi g : Nat} {w w' : World} {d : Dat} {v : Value} {b : List Nat} (h : OwB lo hi w d v b) (hf : Fr (fun q => q = g) w w') (hg : g < lo) : RdC w' w'.heap.size d v := (h.fr hf hg).read
set_option maxHeartbeats 1600000 in
theorem specMakeOps_d (v : Value) (w : World) (h : Code8 w v) : Calls Try.prog 16 #[v] w (MOps w) := by
  obtain ⟨A0, c0, zs0, rfl, _⟩ : ∃ A c zs, v = .slice A (List.length (α := Int) zs) c ∧ True := by obtain ⟨A, c, zs, e, _⟩ := h; exact ⟨A, c, zs, e, trivial⟩
  go_enter Try.func16, Try.ntmps16
  go_wp2_with fail
  refine (specNew_d _ w h).mono ?_
  rintro e w1 ⟨rfl, dc, b1⟩
  have hB := b1.size
  generalize hBB : w.heap.size = B at *
  go_wp2_with fail
  refine (specSigns_d B B 10 _ dc (by omega)).mono ?_
  rintro e w2 ⟨t, vt, kt, rfl, tl, ta, ot, dc2, fr2, bl2⟩
  obtain ⟨At, ct, rfl⟩ := sliceI ot.read
  have hg1 := dc.lt
  have HT := Lib.hid ot
  have HTA := Lib.hid ta
  have hl2 := dc2.lt
  clear ot ta
  go_wp2_with fail
  refine (specDraw_d B B t.length _ dc2 (by omega)).mono ?_
  rintro e w3 ⟨a, va, ka, rfl, oa, sa1, sa2, sa3, sma, owa, dc3, fr3, bl3⟩
  obtain ⟨Aa, ca, rfl⟩ := sliceP owa.read
  have HWA := Lib.hid owa
  have HA := Lib.hid (And.intro oa (And.intro sa1 (And.intro sa2 sa3)))
  have hl3 := dc3.lt
  clear owa oa sa1
  go_wp2_with fail
  refine (specDraw_d B B t.length _ dc3 (by omega)).mono ?_
  rintro e w4 ⟨b, vb, kb, rfl, ob, sb1, sb2, sb3, smb, owb, dc4, fr4, bl4⟩
  obtain ⟨Ab, cb, rfl⟩ := sliceP owb.read
  have HWB := Lib.hid owb
  have HB := Lib.hid (And.intro ob (And.intro sb1 (And.intro sb2 sb3)))
  clear owb ob sb1
  go_wp2
  go_ret3
  exact ⟨t, a, b, _, _, _, rfl, okText_of HTA.out (by omega), by omega, HA.out.1, HB.out.1, HA.out.2.1, HB.out.2.1, by have := HA.out.2.2.1; omega, by have := HB.out.2.2.1; omega, HA.out.2.2.2, HB.out.2.2.2, sma, smb, read_fr HT.out (fr3.trans fr4) hg1, read_fr HWA.out fr4 hl2, HWB.out.read, by rw [hBB]; exact ((b1.trans bl2).trans bl3).trans bl4⟩

/-- operations one behind the other, on n characters first -/
def chain : Int → List (List Pt) → Prop
  | _, [] => True
  | n, o :: l => okOp o = true ∧ sumK o + sumD o = n ∧ sumP o ≤ 12 ∧ chain (sumK o + sumP o) l
def endN (n : Int) (l : List (List Pt)) : Int := l.foldl (fun _ o => sumK o + sumP o) n
theorem endN_snoc (n : Int) (l : List (List Pt)) (o : List Pt) : endN n (l ++ [o]) = sumK o + sumP o := by simp [endN]
theorem chain_snoc : ∀ (n : Int) (l : List (List Pt)) (o : List Pt), chain n l → okOp o = true → sumK o + sumD o = endN n l → sumP o ≤ 12 → chain n (l ++ [o])
  | n, [], o, _, h1, h2, h3 => ⟨h1, h2, h3, trivial⟩
  | n, p :: l, o, h, h1, h2, h3 => ⟨h.1, h.2.1, h.2.2.1, chain_snoc _ l o h.2.2.2 h1 h2 h3⟩
/-- behind MakeList -/
def MList (w : World) (e : Ending) (w' : World) : Prop := ∃ t l b v1 v2 v3, e = .returned (.tuple #[v1, v2, v3]) ∧ okText t = true ∧ t.length ≤ 8 ∧ chain (t.length : Int) l ∧ l.length ≤ 4 ∧ endN (t.length : Int) l ≤ 60 ∧ okOp b = true ∧ sumK b + sumD b = (t.length : Int) ∧ sumK b + sumP b ≤ 20 ∧ sumP b ≤ 12 ∧ SmPP l ∧ SmP b ∧
  RdC w' w'.heap.size (encInts t) v1 ∧ RdC w' w'.heap.size (encPss l) v2 ∧ RdC w' w'.heap.size (encPs b) v3 ∧ Below w.heap.size w w'
theorem bulk_app (l : List (List Pt)) (o : List Pt) : bulk (l ++ [o]) = bulk l + (o.length + signsIn o) := by simp [bulk]
/-- the state of MakeList's loop -/
structure ML (B g : Nat) (w0 : World) (n : Nat) (o : Value) (l : List (List Pt)) (b : List Nat) (w : World) : Prop where
  ow : OwB w0.heap.size w.heap.size w (encPss l) o b
  ch : chain (n : Int) l
  le : 0 ≤ endN (n : Int) l ∧ endN (n : Int) l ≤ (n : Int) + 12 * l.length
  bk : bulk l ≤ 130000 * l.length
  dc : DC B g w
  fr : Fr (fun q => q = g) w0 w
  bl : Below B w0 w
  lt : g < w0.heap.size
theorem op_bulk {o : List Pt} (h : okOp o = true) : o.length + signsIn o ≤ 130000 := by
  obtain ⟨_, h1, h2⟩ := okOp_units h
  have := signsIn_le h1
  omega
theorem op_nonneg {o : List Pt} (h : okOp o = true) : 0 ≤ sumK o + sumP o := by
  obtain ⟨t1, t2, _⟩ := sum_t (okOp_partsB h)
  have hok := (okOp_of h).1
  obtain ⟨q1, q2, q3⟩ := sumOf_nonneg hok
  rw [t1, t2]
  omega
set_option maxRecDepth 100000 in
set_option maxHeartbeats 3200000 in
theorem specMakeList_d (v : Value) (w : World) (h : Code8 w v) : Calls Try.prog 8 #[v] w (MList w) := by
  obtain ⟨A0, c0, zs0, rfl, _⟩ : ∃ A c zs, v = .slice A (List.length (α := Int) zs) c ∧ True := by obtain ⟨A, c, zs, e, _⟩ := h; exact ⟨A, c, zs, e, trivial⟩
  obtain ⟨i0, hi0, hz0, hz1, hz2⟩ := info_parts pss_info
  go_enter Try.func8, Try.ntmps8
  go_wp2_with fail
  refine (specNew_d _ w h).mono ?_
  rintro e w1 ⟨rfl, dc, b1⟩
  have hB := b1.size
  generalize hBB : w.heap.size = B at *
  go_wp2_with fail
  refine (specSigns_d B B 8 _ dc (by omega)).mono ?_
  rintro e w2 ⟨t, vt, kt, rfl, tl, ta, ot, dc2, fr2, bl2⟩
  obtain ⟨At, ct, rfl⟩ := sliceI ot.read
  have hg1 := dc.lt
  have HT := Lib.hid ot
  have HTA := Lib.hid ta
  have hl2 := dc2.lt
  have D2 := b1.trans bl2
  clear ot ta fr2 bl2 b1 dc
  go_wp2_with fail
  have bA := alloc_below w2 (.cells #[] 25)
  have hib : OwB w2.heap.size (w2.alloc (.cells #[] 25)).heap.size (w2.alloc (.cells #[] 25)) (encPss []) (.slice (some ⟨w2.heap.size, 0, none⟩) 0 0) [w2.heap.size] :=
    ⟨⟨[], [], ⟨rfl, .inr ⟨w2.heap.size, 0, #[], rfl, Nat.zero_le _, heap_alloc_new w2 _, Nat.le_refl _, by unfold maxLen; omega, rfl, rfl⟩⟩, ⟨rfl, rfl⟩, rfl⟩, by simp, fun x hx => by obtain rfl : x = w2.heap.size := (by simpa using hx); exact ⟨Nat.le_refl _, lt_of_some (heap_alloc_new w2 _)⟩, Nat.le_refl _, bA.size⟩
  have hm : ML B B w2 t.length (.slice (some ⟨w2.heap.size, 0, none⟩) 0 0) [] [w2.heap.size] (w2.alloc (.cells #[] 25)) := ⟨hib, trivial, by simp [endN], by simp [bulk], dc2.past bA, Fr.below bA, bA.mono (by omega), hl2⟩
  generalize w2.alloc (.cells #[] 25) = w3 at *
  generalize (Value.slice (some ⟨w2.heap.size, 0, none⟩) 0 0) = v0 at *
  generalize [w2.heap.size] = kb0 at *
  refine (specBelow_d B B 5 _ hm.dc (by omega)).mono ?_
  rintro e w4 ⟨x, rfl, ⟨x1, x2, _⟩, dc4, fr4, bl4⟩
  have x2 := x2 (by omega)
  obtain ⟨m, rfl⟩ := Int.eq_ofNat_of_zero_le x1
  have HM0 := Lib.hid (show ML B B w2 t.length v0 [] kb0 w4 from ⟨(hm.ow.fr fr4 hl2).upto fr4.size (Nat.le_refl _), hm.ch, hm.le, hm.bk, dc4, hm.fr.trans fr4, hm.bl.trans bl4, hl2⟩)
  clear hm hib bA dc4 fr4 bl4 dc2
  go_wp2
  go_loopw [7, 8, 9] (fun at_ o i wr => ∃ (k : Nat) (l : List (List Pt)) (b : List Nat), l.length + k ≤ 4 ∧ i = .int .i64 k ∧ at_ = .int .i64 (endN (t.length : Int) l) ∧ ML B B w2 t.length o l b wr) (fun _ _ i _ => (intOf i).toNat)
  case atStart => exact ⟨m, [], kb0, by simp; omega, rfl, by simp [endN], HM0.out⟩
  case round =>
    obtain ⟨k, l, b, hk, rfl, rfl, hm⟩ := hrel
    clear HM0
    obtain ⟨A1, c1, rfl⟩ := pss_len hm.ow.read
    have HM := Lib.hid hm
    have hle := hm.le
    have hll : l.length ≤ 4 := by omega
    clear hm
    by_cases hk0 : 0 < k
    · obtain ⟨q, hq⟩ := Int.eq_ofNat_of_zero_le hle.1
      have HQ := Lib.hid hq
      rw [hq] at hle ⊢
      clear hq
      go_wp2_with fail
      refine (specDraw_d B B q _ HM.out.dc (by omega)).mono ?_
      rintro e w5 ⟨o, vo, ko, rfl, oo, so1, so2, so3, smo, owo, dc5, fr5, bl5⟩
      obtain ⟨Ao, co, rfl, ro, _⟩ := parts_rd owo.read
      have HWO := Lib.hid owo
      have HO := Lib.hid (And.intro oo (And.intro so1 (And.intro so2 so3)))
      have hz5 := fr5.size
      have hz5' := HM.out.fr.size
      have HDJ := Lib.hid (show ∀ x ∈ b, x ∉ ko from fun x hx hx' => by have q1 := (HM.out.ow.rng x hx).2; have q2 := (owo.rng x hx').1; omega)
      have HM5 := Lib.hid (show ML B B w2 t.length (.slice A1 l.length c1) l b w5 from ⟨(HM.out.ow.fr fr5 hl2).upto fr5.size (Nat.le_refl _), HM.out.ch, HM.out.le, HM.out.bk, dc5, HM.out.fr.trans fr5, HM.out.bl.trans bl5, hl2⟩)
      have hlo := smo.1
      clear owo oo so1 dc5 fr5 bl5 HM
      go_wp2_with fail
      refine (specOpTo_any Ao co o _ ro (by omega) smo.all4).mono ?_
      rintro e w6 ⟨rfl, b6⟩
      have HM6 := Lib.hid (show ML B B w2 t.length (.slice A1 l.length c1) l b w6 from ⟨(HM5.out.ow.past b6).upto b6.size (Nat.le_refl _), HM5.out.ch, HM5.out.le, HM5.out.bk, HM5.out.dc.past b6, HM5.out.fr.trans (Fr.below b6), HM5.out.bl.trans (b6.mono (by have := HM5.out.dc.lt; omega)), hl2⟩)
      have HW6 := Lib.hid (HWO.out.past b6)
      have bA := alloc_below w6 (.cells #[.slice Ao o.length co] 25)
      have HO1' := Lib.hid (HM6.out.ow.past bA)
      have HX' := Lib.hid (HW6.out.past bA)
      have hnews : ∀ (j : Nat) (u : Value), [Value.slice Ao o.length co][j]? = some u → (w6.alloc (.cells #[.slice Ao o.length co] 25)).cell? ((⟨w6.heap.size, 0, none⟩ : Addr).add j) = some u := fun j u hu => by
        cases j with
        | zero =>
          simp at hu
          subst hu
          exact cell_of_row _ _ 0 _ _ _ (heap_alloc_new w6 _)
        | succ j => simp at hu
      have HNW := Lib.hid hnews
      have hlx : (l.map fun ps => [encPs ps]).length ≤ 2000000 := by rw [List.length_map]; omega
      have dcA := HM6.out.dc.past bA
      have frA : Fr (fun q => q = B) w2 _ := HM6.out.fr.trans (Fr.below bA)
      have blA := HM6.out.bl.trans (bA.mono (by have := HM6.out.dc.lt; omega))
      clear hnews bA b6 HM5
      go_wp2_with (at_builtin; refine wpList_append_row rfl (.tmp 29) (.tmp 31) 24 rfl 25 i0 (.slice none 0 0) 1 24 Try.underlying24 hi0 hz0 hz1 hz2 rfl (by decide) (by decide) w2.heap.size _ (.slice A1 l.length c1) (l.map fun ps => [encPs ps]) b HO1'.out rfl hlx ⟨w6.heap.size, 0, none⟩ _ [.slice Ao o.length co] rfl rfl HNW.out (by simp [Value.oneCell']) [encPs o] ko HX'.out.ow.row1 HWO.out.nd HDJ.out (fun q hq => by have q2 := (HWO.out.rng q hq).1; omega) ?_; intro A7 c7 w7 b7 o7 in7 g7 bl7)
      have o7' : OwB w2.heap.size w7.heap.size w7 (encPss (l ++ [o])) (.slice A7 (l.length + 1) c7) b7 := by
        have e : encPss (l ++ [o]) = .rows 25 1 ((l.map fun ps => [encPs ps]) ++ [[encPs o]]) := by unfold encPss; rw [List.map_append]; rfl
        rw [e]
        simpa using o7
      have blB := bl7.mono (show B ≤ w2.heap.size by omega)
      have HM7 := Lib.hid (show ML B B w2 t.length (.slice A7 (l.length + 1) c7) (l ++ [o]) b7 w7 from
        ⟨o7', chain_snoc _ l o HM6.out.ch HO.out.1 (by rw [HQ.out]; exact HO.out.2.1) HO.out.2.2.2, by rw [endN_snoc]; have q1 := HO.out.2.2.1; have q2 := op_nonneg HO.out.1; rw [List.length_append]; simp only [List.length_cons, List.length_nil]; omega, by have q1 := HM6.out.bk; have q2 := op_bulk HO.out.1; rw [bulk_app, List.length_append]; simp only [List.length_cons, List.length_nil]; omega, dcA.grew g7 blB (fun hq => by have := (HO1'.out.rng B hq).1; omega), frA.old g7 (fun q hq => (HO1'.out.rng q hq).1), blA.trans blB, hl2⟩)
      have HEN := Lib.hid (endN_snoc (t.length : Int) l o)
      clear o7 o7' in7 g7 bl7 HO1' HX' HNW HM6 HW6 dcA frA blA blB
      go_wp2
      go_roundw
      case rel => exact ⟨k - 1, l ++ [o], b7, by simp; omega, by rw [Int.natCast_sub (by omega)]; rfl, by rw [HEN.out], by simpa using HM7.out⟩
      case measure => simp [intOf]; omega
    · obtain rfl : k = 0 := by omega
      go_wp2_with fail
      refine (specDraw_d B B t.length _ HM.out.dc (by omega)).mono ?_
      rintro e w5 ⟨o, vo, ko, rfl, oo, so1, so2, so3, smo, owo, dc5, fr5, bl5⟩
      obtain ⟨Ao, co, rfl⟩ := sliceP owo.read
      have HWO := Lib.hid owo
      have HO := Lib.hid (And.intro oo (And.intro so1 (And.intro so2 so3)))
      clear owo oo so1
      go_wp2
      go_ret3
      have hsm : SmPP l := ⟨by omega, by have := HM.out.bk; omega⟩
      exact ⟨t, l, o, _, _, _, rfl, okText_of HTA.out (by omega), by omega, HM.out.ch, hll, by have := HM.out.le; omega, HO.out.1, HO.out.2.1, by have := HO.out.2.2.1; omega, HO.out.2.2.2, hsm, smo, read_fr HT.out (HM.out.fr.trans fr5) hg1, read_fr HM.out.ow fr5 hl2, HWO.out.read, by rw [hBB]; exact (D2.trans HM.out.bl).trans bl5⟩
end Go.Proofs.Ytihajkppeiainaa.low


/-
  Operations one behind the other: composing them all, leading one past them all.
-/
namespace Go.Proofs.Ytihajkppeiainaa.low
open Go.RowKit
set_option linter.unusedVariables false

theorem okOp_nil : okOp [] = true := by decide
theorem keepL_ok {n : Nat} (h : n ≤ 200) : okOp (keepL (n : Int)) = true ∧ normL (keepL (n : Int)) = keepL (n : Int) ∧ units (keepL (n : Int)) = List.replicate n .k ∧ sumK (keepL (n : Int)) + sumD (keepL (n : Int)) = (n : Int) ∧ sumK (keepL (n : Int)) + sumP (keepL (n : Int)) = (n : Int) := by
  have hu : units (keepL (n : Int)) = List.replicate n .k := by
    unfold keepL
    split
    · simp [units, unitsP]
    · obtain rfl : n = 0 := by omega
      rfl
  have hok : okOp (keepL (n : Int)) = true := by
    unfold keepL
    split
    · refine of_okOp ?_ (by simp) (by simp [sumOf, keepOf, dropOf]; omega) (by simp [sumOf, keepOf, putOf]; omega)
      simp [okPs, okPt]
      omega
    · exact okOp_nil
  obtain ⟨u1, u2, _⟩ := op_units hok
  rw [hu, (src_rk n).1] at u1
  rw [hu, (src_rk n).2] at u2
  refine ⟨hok, ?_, hu, u1.symm, u2.symm⟩
  refine norm_normal ?_ hok
  unfold keepL
  split
  · refine ⟨fun p hp => ?_, trivial⟩
    simp at hp
    subst hp
    exact .inl ⟨rfl, by simp; omega, rfl⟩
  · exact ⟨fun p hp => by simp at hp, trivial⟩
theorem applyU_keep : ∀ (n : Nat) (t : List Int), n = t.length → applyU (List.replicate n .k) t = t := fun n t h => by
  have := applyU_ks n [] t
  rw [List.append_nil] at this
  rw [this, h]
  simp [applyU]
/-- composing goes through, and has the effect of the operations in order -/
theorem chain_co : ∀ (l : List (List Pt)) (cur : List Pt) (n : Int) (t u : List Int), okOp cur = true → normL cur = cur → sumK cur + sumD cur = (t.length : Int) → okText t = true → applyT cur t = u → chain (sumK cur + sumP cur) l →
    ∃ c u', l.foldl stepCo (some cur) = some c ∧ l.foldl stepAll (some u) = some u' ∧ okOp c = true ∧ normL c = c ∧ sumK c + sumD c = (t.length : Int) ∧ applyT c t = u' ∧ okText u' = true ∧ fitsB c t = true
  | [], cur, n, t, u, ho, hn, hs, ht, hu, _ => by
    obtain ⟨a1, _, a3, _⟩ := apply_ok ho ht hs
    exact ⟨cur, u, rfl, rfl, ho, hn, hs, hu, by rw [← hu]; exact a3, a1⟩
  | o :: l, cur, n, t, u, ho, hn, hs, ht, hu, hc => by
    obtain ⟨c1, c2, _, c3⟩ := hc
    obtain ⟨k1, k2, k3, k4, k5, k6, k7, k8⟩ := compose_ok ho c1 c2.symm
    obtain ⟨a1, a2, a3, a4, a5⟩ := apply_ok ho ht hs
    have hf := (apply_ok c1 a3 (by omega)).1
    have ha := compose_apply ho c1 c2.symm ht hs
    have s1 : stepCo (some cur) o = some (composeT cur o) := by simp [stepCo, k1]
    have s2 : stepAll (some u) o = some (applyT o u) := by rw [← hu]; simp [stepAll, hf]
    rw [List.foldl_cons, List.foldl_cons, s1, s2]
    exact chain_co l (composeT cur o) n t (applyT o u) k3 k4 (by omega) ht (by rw [ha, hu]) (by rw [k7]; exact c3)
theorem composeAll_ok {l : List (List Pt)} {t : List Int} (ht : okText t = true) (hc : chain (t.length : Int) l) : composeAllB l (t.length : Int) = true ∧ applyAllB l t = true ∧ fitsB (composeAllT l (t.length : Int)) t = true ∧ applyAllT l t = applyT (composeAllT l (t.length : Int)) t ∧ okOp (composeAllT l (t.length : Int)) = true ∧ normL (composeAllT l (t.length : Int)) = composeAllT l (t.length : Int) ∧ okText (applyAllT l t) = true := by
  have htl := okText_len' ht
  obtain ⟨p1, p2, p3, p4, p5⟩ := keepL_ok htl
  have hap : applyT (keepL (t.length : Int)) t = t := by
    rw [(apply_ok p1 ht p4).2.1, p3, applyU_keep _ _ rfl]
  obtain ⟨c, u, f1, f2, h1, h2, h3, h4, h5, h6⟩ := chain_co l (keepL (t.length : Int)) 0 t t p1 p2 p4 ht hap (by rw [p5]; exact hc)
  have e1 : composeAllB l (t.length : Int) = true := by
    unfold composeAllB foldCo
    rw [f1, inB_t (by omega)]
    rfl
  have e2 : composeAllT l (t.length : Int) = c := by
    unfold composeAllT
    rw [if_pos e1]
    unfold foldCo
    rw [f1]
    rfl
  have e3 : applyAllB l t = true := by
    unfold applyAllB foldAll
    rw [f2, ht]
    rfl
  have e4 : applyAllT l t = u := by
    unfold applyAllT
    rw [if_pos e3]
    unfold foldAll
    rw [f2]
    rfl
  rw [e2, e4]
  exact ⟨e1, e3, h6, h4.symm, h1, h2, h5⟩
theorem chain3 {n : Int} {l : List (List Pt)} {a b c : List Pt} (h : chain n l) (ha : l[0]? = some a) (hb : l[1]? = some b) (hc : l[2]? = some c) : okOp a = true ∧ okOp b = true ∧ okOp c = true ∧ sumK a + sumP a = sumK b + sumD b ∧ sumK b + sumP b = sumK c + sumD c := by
  match l, h, ha, hb, hc with
  | x :: y :: z :: r, h, ha, hb, hc =>
    simp at ha hb hc
    subst ha
    subst hb
    subst hc
    obtain ⟨q1, q2, _, q3, q4, _, q5, q6, _⟩ := h
    exact ⟨q1, q3, q5, q4.symm, q6.symm⟩
end Go.Proofs.Ytihajkppeiainaa.low

