/-
  Texts that the proofs over this seat rest on, one behind the other (3 of 5).
-/
import Derived.Test.YtfpjoncaccbnmaaM2
import Derived.Test.YtfpjoncaccbnmaaM1
import Derived.StillTailTactics

/-
  The loop of spec.Transform: its body, taken out of the translation; the cases of a round, each a theorem over the frame; the round; the loop.
-/
namespace Go.Proofs.Ytfpjoncaccbnmaa.low
open Go.RowKit
set_option linter.unusedVariables false

noncomputable def trBody : Code := (((Try.f18.body.map loopsOf).getD []).headD .skip)
/-- the loop's invariant -/
def TrR (K : Fx) (g1 g2 : Nat) (w0 w' : World) : Prop := ∃ O P L M RX RY, TT K g1 g2 80 O P L M w' none none RX RY ∧ XInv K.a K.b RX RY L M ∧ Below K.lo w0 w'
theorem TrR.mk {K : Fx} {g1 g2 : Nat} {w0 w' : World} {O P : Nat → Prop} {L M : List Pt} {RX RY : List U} (h : TT K g1 g2 80 O P L M w' none none RX RY) (hi : XInv K.a K.b RX RY L M) (D : Below K.lo w0 w') : TrR K g1 g2 w0 w' := ⟨O, P, L, M, RX, RY, h, hi, D⟩
set_option maxRecDepth 1000000 in
def TrI (K : Fx) (g1 g2 : Nat) (w0 : World) (c0 c1 c2 c3 c4 c5 c6 c16 c17 c18 c19 c20 c21 c22 c23 c24 c25 c26 c27 c28 c29 c30 c31 c32 c33 c34 c35 c36 c37 c38 c39 c40 c41 c42 c127 c128 c129 c130 c131 c132 c133 c134 c135 c136 c137 c138 c139 c140 : Value) (a : Act) (w' : World) : Prop := ∃ u11 u12 u13 u14 u15 u43 u44 u45 u46 u47 u48 u49 u50 u51 u52 u53 u54 u55 u56 u57 u58 u59 u60 u61 u62 u63 u64 u65 u66 u67 u68 u69 u70 u71 u72 u73 u74 u75 u76 u77 u78 u79 u80 u81 u82 u83 u84 u85 u86 u87 u88 u89 u90 u91 u92 u93 u94 u95 u96 u97 u98 u99 u100 u101 u102 u103 u104 u105 u106 u107 u108 u109 u110 u111 u112 u113 u114 u115 u116 u117 u118 u119 u120 u121 u122 u123 u124 u125 u126 : Value, TrR K g1 g2 w0 w' ∧ a = ⟨#[c0, c1, c2, c3, c4, c5, c6, .pointer (some ⟨K.gx, 0, none⟩), .pointer (some ⟨K.gy, 0, none⟩), .pointer (some ⟨g1, 0, none⟩), .pointer (some ⟨g2, 0, none⟩), u11, u12, u13, u14, u15, c16, c17, c18, c19, c20, c21, c22, c23, c24, c25, c26, c27, c28, c29, c30, c31, c32, c33, c34, c35, c36, c37, c38, c39, c40, c41, c42, u43, u44, u45, u46, u47, u48, u49, u50, u51, u52, u53, u54, u55, u56, u57, u58, u59, u60, u61, u62, u63, u64, u65, u66, u67, u68, u69, u70, u71, u72, u73, u74, u75, u76, u77, u78, u79, u80, u81, u82, u83, u84, u85, u86, u87, u88, u89, u90, u91, u92, u93, u94, u95, u96, u97, u98, u99, u100, u101, u102, u103, u104, u105, u106, u107, u108, u109, u110, u111, u112, u113, u114, u115, u116, u117, u118, u119, u120, u121, u122, u123, u124, u125, u126, c127, c128, c129, c130, c131, c132, c133, c134, c135, c136, c137, c138, c139, c140], []⟩
/-- behind the loop -/
def TrX (K : Fx) (g1 g2 : Nat) (w0 w' : World) : Prop := ∃ O P L M, TT K g1 g2 80 O P L M w' none none [] [] ∧ XInv K.a K.b [] [] L M ∧ Below K.lo w0 w'
set_option maxRecDepth 1000000 in
def TrE (K : Fx) (g1 g2 : Nat) (w0 : World) (c0 c1 c2 c3 c4 c5 c6 c16 c17 c18 c19 c20 c21 c22 c23 c24 c25 c26 c27 c28 c29 c30 c31 c32 c33 c34 c35 c36 c37 c38 c39 c40 c41 c42 c127 c128 c129 c130 c131 c132 c133 c134 c135 c136 c137 c138 c139 c140 : Value) (a : Act) (w' : World) : Prop := ∃ u11 u12 u13 u14 u15 u43 u44 u45 u46 u47 u48 u49 u50 u51 u52 u53 u54 u55 u56 u57 u58 u59 u60 u61 u62 u63 u64 u65 u66 u67 u68 u69 u70 u71 u72 u73 u74 u75 u76 u77 u78 u79 u80 u81 u82 u83 u84 u85 u86 u87 u88 u89 u90 u91 u92 u93 u94 u95 u96 u97 u98 u99 u100 u101 u102 u103 u104 u105 u106 u107 u108 u109 u110 u111 u112 u113 u114 u115 u116 u117 u118 u119 u120 u121 u122 u123 u124 u125 u126 : Value, TrX K g1 g2 w0 w' ∧ a = ⟨#[c0, c1, c2, c3, c4, c5, c6, .pointer (some ⟨K.gx, 0, none⟩), .pointer (some ⟨K.gy, 0, none⟩), .pointer (some ⟨g1, 0, none⟩), .pointer (some ⟨g2, 0, none⟩), u11, u12, u13, u14, u15, c16, c17, c18, c19, c20, c21, c22, c23, c24, c25, c26, c27, c28, c29, c30, c31, c32, c33, c34, c35, c36, c37, c38, c39, c40, c41, c42, u43, u44, u45, u46, u47, u48, u49, u50, u51, u52, u53, u54, u55, u56, u57, u58, u59, u60, u61, u62, u63, u64, u65, u66, u67, u68, u69, u70, u71, u72, u73, u74, u75, u76, u77, u78, u79, u80, u81, u82, u83, u84, u85, u86, u87, u88, u89, u90, u91, u92, u93, u94, u95, u96, u97, u98, u99, u100, u101, u102, u103, u104, u105, u106, u107, u108, u109, u110, u111, u112, u113, u114, u115, u116, u117, u118, u119, u120, u121, u122, u123, u124, u125, u126, c127, c128, c129, c130, c131, c132, c133, c134, c135, c136, c137, c138, c139, c140], []⟩
set_option maxRecDepth 1000000 in
set_option maxHeartbeats 6400000 in
theorem trE (K : Fx) (hT : K.TC = 77) (g1 g2 : Nat) (w0 wr : World) (c0 c1 c2 c3 c4 c5 c6 c16 c17 c18 c19 c20 c21 c22 c23 c24 c25 c26 c27 c28 c29 c30 c31 c32 c33 c34 c35 c36 c37 c38 c39 c40 c41 c42 c127 c128 c129 c130 c131 c132 c133 c134 c135 c136 c137 c138 c139 c140 u11 u12 u13 u14 u15 u43 u44 u45 u46 u47 u48 u49 u50 u51 u52 u53 u54 u55 u56 u57 u58 u59 u60 u61 u62 u63 u64 u65 u66 u67 u68 u69 u70 u71 u72 u73 u74 u75 u76 u77 u78 u79 u80 u81 u82 u83 u84 u85 u86 u87 u88 u89 u90 u91 u92 u93 u94 u95 u96 u97 u98 u99 u100 u101 u102 u103 u104 u105 u106 u107 u108 u109 u110 u111 u112 u113 u114 u115 u116 u117 u118 u119 u120 u121 u122 u123 u124 u125 u126 : Value) (Q0 : Exit → Act → World → Prop) (O P : Nat → Prop) (L M : List Pt) (RX RY : List U) (hs : TT K g1 g2 80 O P L M wr none none RX RY) (hi : XInv K.a K.b RX RY L M) (D : Below K.lo w0 wr) (hx : RX = []) (hy : RY = []) (hexit : ∀ a w, TrE K g1 g2 w0 c0 c1 c2 c3 c4 c5 c6 c16 c17 c18 c19 c20 c21 c22 c23 c24 c25 c26 c27 c28 c29 c30 c31 c32 c33 c34 c35 c36 c37 c38 c39 c40 c41 c42 c127 c128 c129 c130 c131 c132 c133 c134 c135 c136 c137 c138 c139 c140 a w → Q0 (.exit 0) a w) :
    Code.wp Try.prog trBody (Exit.then (fun a' w'' => TrI K g1 g2 w0 c0 c1 c2 c3 c4 c5 c6 c16 c17 c18 c19 c20 c21 c22 c23 c24 c25 c26 c27 c28 c29 c30 c31 c32 c33 c34 c35 c36 c37 c38 c39 c40 c41 c42 c127 c128 c129 c130 c131 c132 c133 c134 c135 c136 c137 c138 c139 c140 a' w'' ∧ muC K w'' < muC K wr) Q0) ⟨#[c0, c1, c2, c3, c4, c5, c6, .pointer (some ⟨K.gx, 0, none⟩), .pointer (some ⟨K.gy, 0, none⟩), .pointer (some ⟨g1, 0, none⟩), .pointer (some ⟨g2, 0, none⟩), u11, u12, u13, u14, u15, c16, c17, c18, c19, c20, c21, c22, c23, c24, c25, c26, c27, c28, c29, c30, c31, c32, c33, c34, c35, c36, c37, c38, c39, c40, c41, c42, u43, u44, u45, u46, u47, u48, u49, u50, u51, u52, u53, u54, u55, u56, u57, u58, u59, u60, u61, u62, u63, u64, u65, u66, u67, u68, u69, u70, u71, u72, u73, u74, u75, u76, u77, u78, u79, u80, u81, u82, u83, u84, u85, u86, u87, u88, u89, u90, u91, u92, u93, u94, u95, u96, u97, u98, u99, u100, u101, u102, u103, u104, u105, u106, u107, u108, u109, u110, u111, u112, u113, u114, u115, u116, u117, u118, u119, u120, u121, u122, u123, u124, u125, u126, c127, c128, c129, c130, c131, c132, c133, c134, c135, c136, c137, c138, c139, c140], []⟩ wr := by
  have HMU := Lib.hid hs.cs.mu
  have hLb : L.length < 100000 := by have := hi.len; omega
  have hMb : M.length < 100000 := by have := hi.len; omega
  have HS := Lib.hid hs
  have HI := Lib.hid hi
  clear hs hi
  conv => arg 2; whnf
  subst hx
  subst hy
  have hk0 : kindOf [] = 0 := rfl
  go_wp2_with fail
  refine (HS.out.kindx hT).mono ?_
  rintro e w1 ⟨rfl, m1, q1, h1, b1⟩
  simp only at h1
  replace HS := Lib.hid h1
  replace D := D.trans b1
  clear h1 b1
  clear q1
  rw [hk0]
  have hmx := HS.out.cs.lead
  go_wp2_with fail
  refine (HS.out.kindy hT).mono ?_
  rintro e w2 ⟨rfl, m2, q2, h2, b2⟩
  simp only at h2
  replace HS := Lib.hid h2
  replace D := D.trans b2
  clear h2 b2
  clear q2
  rw [hk0]
  have hmy := HS.out.cs.swap.lead
  clear hmx hmy
  go_wp2
  have HR : TrX K g1 g2 w0 _ := ⟨_, _, _, _, HS.out.weak, HI.out, D⟩
  unfold TrE
  iterate 89 apply Exists.intro
  exact ⟨HR, rfl⟩

set_option maxRecDepth 1000000 in
set_option maxHeartbeats 6400000 in
theorem trA (K : Fx) (hT : K.TC = 77) (g1 g2 : Nat) (w0 wr : World) (c0 c1 c2 c3 c4 c5 c6 c16 c17 c18 c19 c20 c21 c22 c23 c24 c25 c26 c27 c28 c29 c30 c31 c32 c33 c34 c35 c36 c37 c38 c39 c40 c41 c42 c127 c128 c129 c130 c131 c132 c133 c134 c135 c136 c137 c138 c139 c140 u11 u12 u13 u14 u15 u43 u44 u45 u46 u47 u48 u49 u50 u51 u52 u53 u54 u55 u56 u57 u58 u59 u60 u61 u62 u63 u64 u65 u66 u67 u68 u69 u70 u71 u72 u73 u74 u75 u76 u77 u78 u79 u80 u81 u82 u83 u84 u85 u86 u87 u88 u89 u90 u91 u92 u93 u94 u95 u96 u97 u98 u99 u100 u101 u102 u103 u104 u105 u106 u107 u108 u109 u110 u111 u112 u113 u114 u115 u116 u117 u118 u119 u120 u121 u122 u123 u124 u125 u126 : Value) (Q0 : Exit → Act → World → Prop) (O P : Nat → Prop) (L M : List Pt) (RX RY : List U) (hs : TT K g1 g2 80 O P L M wr none none RX RY) (hi : XInv K.a K.b RX RY L M) (D : Below K.lo w0 wr) (hkx : kindOf RX = 2) :
    Code.wp Try.prog trBody (Exit.then (fun a' w'' => TrI K g1 g2 w0 c0 c1 c2 c3 c4 c5 c6 c16 c17 c18 c19 c20 c21 c22 c23 c24 c25 c26 c27 c28 c29 c30 c31 c32 c33 c34 c35 c36 c37 c38 c39 c40 c41 c42 c127 c128 c129 c130 c131 c132 c133 c134 c135 c136 c137 c138 c139 c140 a' w'' ∧ muC K w'' < muC K wr) Q0) ⟨#[c0, c1, c2, c3, c4, c5, c6, .pointer (some ⟨K.gx, 0, none⟩), .pointer (some ⟨K.gy, 0, none⟩), .pointer (some ⟨g1, 0, none⟩), .pointer (some ⟨g2, 0, none⟩), u11, u12, u13, u14, u15, c16, c17, c18, c19, c20, c21, c22, c23, c24, c25, c26, c27, c28, c29, c30, c31, c32, c33, c34, c35, c36, c37, c38, c39, c40, c41, c42, u43, u44, u45, u46, u47, u48, u49, u50, u51, u52, u53, u54, u55, u56, u57, u58, u59, u60, u61, u62, u63, u64, u65, u66, u67, u68, u69, u70, u71, u72, u73, u74, u75, u76, u77, u78, u79, u80, u81, u82, u83, u84, u85, u86, u87, u88, u89, u90, u91, u92, u93, u94, u95, u96, u97, u98, u99, u100, u101, u102, u103, u104, u105, u106, u107, u108, u109, u110, u111, u112, u113, u114, u115, u116, u117, u118, u119, u120, u121, u122, u123, u124, u125, u126, c127, c128, c129, c130, c131, c132, c133, c134, c135, c136, c137, c138, c139, c140], []⟩ wr := by
  have HMU := Lib.hid hs.cs.mu
  have hLb : L.length < 100000 := by have := hi.len; omega
  have hMb : M.length < 100000 := by have := hi.len; omega
  have HS := Lib.hid hs
  have HI := Lib.hid hi
  clear hs hi
  conv => arg 2; whnf
  go_wp2_with fail
  refine (HS.out.kindx hT).mono ?_
  rintro e w1 ⟨rfl, m1, q1, h1, b1⟩
  simp only at h1
  replace HS := Lib.hid h1
  replace D := D.trans b1
  clear h1 b1
  clear q1
  rw [hkx]
  have hmx := HS.out.cs.lead
  go_wp2_with fail
  refine (HS.out.kindx hT).mono ?_
  rintro e w2 ⟨rfl, m2, q2, h2, b2⟩
  rw [q2 _ rfl] at h2
  simp only at h2
  replace HS := Lib.hid h2
  replace D := D.trans b2
  clear h2 b2
  clear q2 m2
  rw [hkx]
  have hpx := hmx.pos (by rw [hkx]; decide)
  have HMx := Lib.hid hmx
  clear hmx
  go_wp2_with fail
  refine (HS.out.leftx hT (by rw [hkx]; decide)).mono ?_
  rintro e w3 ⟨rfl, h3, b3⟩
  replace HS := Lib.hid h3
  replace D := D.trans b3
  clear h3 b3
  go_wp2_with fail
  refine (HS.out.takex hT hkx (Nat.le_refl _ : m1 ≤ m1) hpx.1).mono ?_
  rintro e w4 ⟨A4, c4, z4, rfl, hl4, hz4, row4, h4, b4⟩
  have HZ4 := Lib.hid hz4
  have HL4 := Lib.hid hl4
  have HR4 := Lib.hid row4
  clear hz4 hl4 row4
  replace HS := Lib.hid h4
  replace D := D.trans b4
  clear h4 b4
  go_wp2_with fail
  refine (HS.out.put1 HR4.out HL4.out (by omega) hLb).mono ?_
  rintro e w5 ⟨rfl, O5, h5, b5⟩
  replace HS := Lib.hid h5
  replace D := D.trans b5
  clear h5 b5
  go_wp2_with fail
  refine (HS.out.keep2 (n := (m1 : Int)) (by omega) (by omega) hMb).mono ?_
  rintro e w6 ⟨rfl, O6, h6, b6⟩
  replace HS := Lib.hid h6
  replace D := D.trans b6
  clear h6 b6
  go_wp2
  have hz := HZ4.out
  have hl := HL4.out
  have HR := TrR.mk HS.out.weak (show XInv K.a K.b (RX.drop m1) RY _ (M ++ [⟨1, (m1 : Int), []⟩]) by rw [← hl] at hz ⊢; exact (by rw [← hz]; exact HI.out : XInv K.a K.b (z4.map .p ++ RX.drop z4.length) RY L M).px (by omega)) D
  refine ⟨?_, ?_⟩
  · unfold TrI
    iterate 89 apply Exists.intro
    exact ⟨HR, rfl⟩
  rw [HS.out.weak.cs.mu, HMU.out]
  rw [List.length_drop]
  omega

set_option maxRecDepth 1000000 in
set_option maxHeartbeats 6400000 in
theorem trB0 (K : Fx) (hT : K.TC = 77) (g1 g2 : Nat) (w0 wr : World) (c0 c1 c2 c3 c4 c5 c6 c16 c17 c18 c19 c20 c21 c22 c23 c24 c25 c26 c27 c28 c29 c30 c31 c32 c33 c34 c35 c36 c37 c38 c39 c40 c41 c42 c127 c128 c129 c130 c131 c132 c133 c134 c135 c136 c137 c138 c139 c140 u11 u12 u13 u14 u15 u43 u44 u45 u46 u47 u48 u49 u50 u51 u52 u53 u54 u55 u56 u57 u58 u59 u60 u61 u62 u63 u64 u65 u66 u67 u68 u69 u70 u71 u72 u73 u74 u75 u76 u77 u78 u79 u80 u81 u82 u83 u84 u85 u86 u87 u88 u89 u90 u91 u92 u93 u94 u95 u96 u97 u98 u99 u100 u101 u102 u103 u104 u105 u106 u107 u108 u109 u110 u111 u112 u113 u114 u115 u116 u117 u118 u119 u120 u121 u122 u123 u124 u125 u126 : Value) (Q0 : Exit → Act → World → Prop) (O P : Nat → Prop) (L M : List Pt) (RX RY : List U) (hs : TT K g1 g2 80 O P L M wr none none RX RY) (hi : XInv K.a K.b RX RY L M) (D : Below K.lo w0 wr) (hnp : noP RX) (hkx : kindOf RX = 0) (hky : kindOf RY = 2) :
    Code.wp Try.prog trBody (Exit.then (fun a' w'' => TrI K g1 g2 w0 c0 c1 c2 c3 c4 c5 c6 c16 c17 c18 c19 c20 c21 c22 c23 c24 c25 c26 c27 c28 c29 c30 c31 c32 c33 c34 c35 c36 c37 c38 c39 c40 c41 c42 c127 c128 c129 c130 c131 c132 c133 c134 c135 c136 c137 c138 c139 c140 a' w'' ∧ muC K w'' < muC K wr) Q0) ⟨#[c0, c1, c2, c3, c4, c5, c6, .pointer (some ⟨K.gx, 0, none⟩), .pointer (some ⟨K.gy, 0, none⟩), .pointer (some ⟨g1, 0, none⟩), .pointer (some ⟨g2, 0, none⟩), u11, u12, u13, u14, u15, c16, c17, c18, c19, c20, c21, c22, c23, c24, c25, c26, c27, c28, c29, c30, c31, c32, c33, c34, c35, c36, c37, c38, c39, c40, c41, c42, u43, u44, u45, u46, u47, u48, u49, u50, u51, u52, u53, u54, u55, u56, u57, u58, u59, u60, u61, u62, u63, u64, u65, u66, u67, u68, u69, u70, u71, u72, u73, u74, u75, u76, u77, u78, u79, u80, u81, u82, u83, u84, u85, u86, u87, u88, u89, u90, u91, u92, u93, u94, u95, u96, u97, u98, u99, u100, u101, u102, u103, u104, u105, u106, u107, u108, u109, u110, u111, u112, u113, u114, u115, u116, u117, u118, u119, u120, u121, u122, u123, u124, u125, u126, c127, c128, c129, c130, c131, c132, c133, c134, c135, c136, c137, c138, c139, c140], []⟩ wr := by
  have HMU := Lib.hid hs.cs.mu
  have hLb : L.length < 100000 := by have := hi.len; omega
  have hMb : M.length < 100000 := by have := hi.len; omega
  have HS := Lib.hid hs
  have HI := Lib.hid hi
  clear hs hi
  conv => arg 2; whnf
  go_wp2_with fail
  refine (HS.out.kindx hT).mono ?_
  rintro e w1 ⟨rfl, m1, q1, h1, b1⟩
  simp only at h1
  replace HS := Lib.hid h1
  replace D := D.trans b1
  clear h1 b1
  clear q1
  rw [hkx]
  have hmx := HS.out.cs.lead
  go_wp2_with fail
  refine (HS.out.kindy hT).mono ?_
  rintro e w2 ⟨rfl, m2, q2, h2, b2⟩
  simp only at h2
  replace HS := Lib.hid h2
  replace D := D.trans b2
  clear h2 b2
  clear q2
  rw [hky]
  have hmy := HS.out.cs.swap.lead
  go_wp2_with fail
  refine (HS.out.kindx hT).mono ?_
  rintro e w3 ⟨rfl, m3, q3, h3, b3⟩
  rw [q3 _ rfl] at h3
  simp only at h3
  replace HS := Lib.hid h3
  replace D := D.trans b3
  clear h3 b3
  clear q3 m3
  rw [hkx]
  go_wp2_with fail
  refine (HS.out.kindy hT).mono ?_
  rintro e w4 ⟨rfl, m4, q4, h4, b4⟩
  rw [q4 _ rfl] at h4
  simp only at h4
  replace HS := Lib.hid h4
  replace D := D.trans b4
  clear h4 b4
  clear q4 m4
  rw [hky]
  have hpy := hmy.pos (by rw [hky]; decide)
  have HMy := Lib.hid hmy
  clear hmy
  clear hmx
  go_wp2_with fail
  refine (HS.out.lefty hT (by rw [hky]; decide)).mono ?_
  rintro e w5 ⟨rfl, h5, b5⟩
  replace HS := Lib.hid h5
  replace D := D.trans b5
  clear h5 b5
  go_wp2_with fail
  refine (HS.out.takey hT hky (Nat.le_refl _ : m2 ≤ m2) hpy.1).mono ?_
  rintro e w6 ⟨A6, c6, z6, rfl, hl6, hz6, row6, h6, b6⟩
  have HZ6 := Lib.hid hz6
  have HL6 := Lib.hid hl6
  have HR6 := Lib.hid row6
  clear hz6 hl6 row6
  replace HS := Lib.hid h6
  replace D := D.trans b6
  clear h6 b6
  go_wp2_with fail
  refine (HS.out.put2 HR6.out HL6.out (by omega) hMb).mono ?_
  rintro e w7 ⟨rfl, O7, h7, b7⟩
  replace HS := Lib.hid h7
  replace D := D.trans b7
  clear h7 b7
  go_wp2_with fail
  refine (HS.out.keep1 (n := (m2 : Int)) (by omega) (by omega) hLb).mono ?_
  rintro e w8 ⟨rfl, O8, h8, b8⟩
  replace HS := Lib.hid h8
  replace D := D.trans b8
  clear h8 b8
  go_wp2
  have hz := HZ6.out
  have hl := HL6.out
  have HR := TrR.mk HS.out.weak (show XInv K.a K.b RX (RY.drop m2) (L ++ [⟨1, (m2 : Int), []⟩]) _ by rw [← hl] at hz ⊢; exact (by rw [← hz]; exact HI.out : XInv K.a K.b RX (z6.map .p ++ RY.drop z6.length) L M).py hnp (by omega)) D
  refine ⟨?_, ?_⟩
  · unfold TrI
    iterate 89 apply Exists.intro
    exact ⟨HR, rfl⟩
  rw [HS.out.weak.cs.mu, HMU.out]
  rw [List.length_drop]
  omega

set_option maxRecDepth 1000000 in
set_option maxHeartbeats 6400000 in
theorem trB1 (K : Fx) (hT : K.TC = 77) (g1 g2 : Nat) (w0 wr : World) (c0 c1 c2 c3 c4 c5 c6 c16 c17 c18 c19 c20 c21 c22 c23 c24 c25 c26 c27 c28 c29 c30 c31 c32 c33 c34 c35 c36 c37 c38 c39 c40 c41 c42 c127 c128 c129 c130 c131 c132 c133 c134 c135 c136 c137 c138 c139 c140 u11 u12 u13 u14 u15 u43 u44 u45 u46 u47 u48 u49 u50 u51 u52 u53 u54 u55 u56 u57 u58 u59 u60 u61 u62 u63 u64 u65 u66 u67 u68 u69 u70 u71 u72 u73 u74 u75 u76 u77 u78 u79 u80 u81 u82 u83 u84 u85 u86 u87 u88 u89 u90 u91 u92 u93 u94 u95 u96 u97 u98 u99 u100 u101 u102 u103 u104 u105 u106 u107 u108 u109 u110 u111 u112 u113 u114 u115 u116 u117 u118 u119 u120 u121 u122 u123 u124 u125 u126 : Value) (Q0 : Exit → Act → World → Prop) (O P : Nat → Prop) (L M : List Pt) (RX RY : List U) (hs : TT K g1 g2 80 O P L M wr none none RX RY) (hi : XInv K.a K.b RX RY L M) (D : Below K.lo w0 wr) (hnp : noP RX) (hkx : kindOf RX = 1) (hky : kindOf RY = 2) :
    Code.wp Try.prog trBody (Exit.then (fun a' w'' => TrI K g1 g2 w0 c0 c1 c2 c3 c4 c5 c6 c16 c17 c18 c19 c20 c21 c22 c23 c24 c25 c26 c27 c28 c29 c30 c31 c32 c33 c34 c35 c36 c37 c38 c39 c40 c41 c42 c127 c128 c129 c130 c131 c132 c133 c134 c135 c136 c137 c138 c139 c140 a' w'' ∧ muC K w'' < muC K wr) Q0) ⟨#[c0, c1, c2, c3, c4, c5, c6, .pointer (some ⟨K.gx, 0, none⟩), .pointer (some ⟨K.gy, 0, none⟩), .pointer (some ⟨g1, 0, none⟩), .pointer (some ⟨g2, 0, none⟩), u11, u12, u13, u14, u15, c16, c17, c18, c19, c20, c21, c22, c23, c24, c25, c26, c27, c28, c29, c30, c31, c32, c33, c34, c35, c36, c37, c38, c39, c40, c41, c42, u43, u44, u45, u46, u47, u48, u49, u50, u51, u52, u53, u54, u55, u56, u57, u58, u59, u60, u61, u62, u63, u64, u65, u66, u67, u68, u69, u70, u71, u72, u73, u74, u75, u76, u77, u78, u79, u80, u81, u82, u83, u84, u85, u86, u87, u88, u89, u90, u91, u92, u93, u94, u95, u96, u97, u98, u99, u100, u101, u102, u103, u104, u105, u106, u107, u108, u109, u110, u111, u112, u113, u114, u115, u116, u117, u118, u119, u120, u121, u122, u123, u124, u125, u126, c127, c128, c129, c130, c131, c132, c133, c134, c135, c136, c137, c138, c139, c140], []⟩ wr := by
  have HMU := Lib.hid hs.cs.mu
  have hLb : L.length < 100000 := by have := hi.len; omega
  have hMb : M.length < 100000 := by have := hi.len; omega
  have HS := Lib.hid hs
  have HI := Lib.hid hi
  clear hs hi
  conv => arg 2; whnf
  go_wp2_with fail
  refine (HS.out.kindx hT).mono ?_
  rintro e w1 ⟨rfl, m1, q1, h1, b1⟩
  simp only at h1
  replace HS := Lib.hid h1
  replace D := D.trans b1
  clear h1 b1
  clear q1
  rw [hkx]
  have hmx := HS.out.cs.lead
  go_wp2_with fail
  refine (HS.out.kindx hT).mono ?_
  rintro e w2 ⟨rfl, m2, q2, h2, b2⟩
  rw [q2 _ rfl] at h2
  simp only at h2
  replace HS := Lib.hid h2
  replace D := D.trans b2
  clear h2 b2
  clear q2 m2
  rw [hkx]
  go_wp2_with fail
  refine (HS.out.kindy hT).mono ?_
  rintro e w3 ⟨rfl, m3, q3, h3, b3⟩
  simp only at h3
  replace HS := Lib.hid h3
  replace D := D.trans b3
  clear h3 b3
  clear q3
  rw [hky]
  have hmy := HS.out.cs.swap.lead
  have hpy := hmy.pos (by rw [hky]; decide)
  have HMy := Lib.hid hmy
  clear hmy
  clear hmx
  go_wp2_with fail
  refine (HS.out.lefty hT (by rw [hky]; decide)).mono ?_
  rintro e w4 ⟨rfl, h4, b4⟩
  replace HS := Lib.hid h4
  replace D := D.trans b4
  clear h4 b4
  go_wp2_with fail
  refine (HS.out.takey hT hky (Nat.le_refl _ : m3 ≤ m3) hpy.1).mono ?_
  rintro e w5 ⟨A5, c5, z5, rfl, hl5, hz5, row5, h5, b5⟩
  have HZ5 := Lib.hid hz5
  have HL5 := Lib.hid hl5
  have HR5 := Lib.hid row5
  clear hz5 hl5 row5
  replace HS := Lib.hid h5
  replace D := D.trans b5
  clear h5 b5
  go_wp2_with fail
  refine (HS.out.put2 HR5.out HL5.out (by omega) hMb).mono ?_
  rintro e w6 ⟨rfl, O6, h6, b6⟩
  replace HS := Lib.hid h6
  replace D := D.trans b6
  clear h6 b6
  go_wp2_with fail
  refine (HS.out.keep1 (n := (m3 : Int)) (by omega) (by omega) hLb).mono ?_
  rintro e w7 ⟨rfl, O7, h7, b7⟩
  replace HS := Lib.hid h7
  replace D := D.trans b7
  clear h7 b7
  go_wp2
  have hz := HZ5.out
  have hl := HL5.out
  have HR := TrR.mk HS.out.weak (show XInv K.a K.b RX (RY.drop m3) (L ++ [⟨1, (m3 : Int), []⟩]) _ by rw [← hl] at hz ⊢; exact (by rw [← hz]; exact HI.out : XInv K.a K.b RX (z5.map .p ++ RY.drop z5.length) L M).py hnp (by omega)) D
  refine ⟨?_, ?_⟩
  · unfold TrI
    iterate 89 apply Exists.intro
    exact ⟨HR, rfl⟩
  rw [HS.out.weak.cs.mu, HMU.out]
  rw [List.length_drop]
  omega

set_option maxRecDepth 1000000 in
set_option maxHeartbeats 6400000 in
theorem trB3 (K : Fx) (hT : K.TC = 77) (g1 g2 : Nat) (w0 wr : World) (c0 c1 c2 c3 c4 c5 c6 c16 c17 c18 c19 c20 c21 c22 c23 c24 c25 c26 c27 c28 c29 c30 c31 c32 c33 c34 c35 c36 c37 c38 c39 c40 c41 c42 c127 c128 c129 c130 c131 c132 c133 c134 c135 c136 c137 c138 c139 c140 u11 u12 u13 u14 u15 u43 u44 u45 u46 u47 u48 u49 u50 u51 u52 u53 u54 u55 u56 u57 u58 u59 u60 u61 u62 u63 u64 u65 u66 u67 u68 u69 u70 u71 u72 u73 u74 u75 u76 u77 u78 u79 u80 u81 u82 u83 u84 u85 u86 u87 u88 u89 u90 u91 u92 u93 u94 u95 u96 u97 u98 u99 u100 u101 u102 u103 u104 u105 u106 u107 u108 u109 u110 u111 u112 u113 u114 u115 u116 u117 u118 u119 u120 u121 u122 u123 u124 u125 u126 : Value) (Q0 : Exit → Act → World → Prop) (O P : Nat → Prop) (L M : List Pt) (RX RY : List U) (hs : TT K g1 g2 80 O P L M wr none none RX RY) (hi : XInv K.a K.b RX RY L M) (D : Below K.lo w0 wr) (hnp : noP RX) (hkx : kindOf RX = 3) (hky : kindOf RY = 2) :
    Code.wp Try.prog trBody (Exit.then (fun a' w'' => TrI K g1 g2 w0 c0 c1 c2 c3 c4 c5 c6 c16 c17 c18 c19 c20 c21 c22 c23 c24 c25 c26 c27 c28 c29 c30 c31 c32 c33 c34 c35 c36 c37 c38 c39 c40 c41 c42 c127 c128 c129 c130 c131 c132 c133 c134 c135 c136 c137 c138 c139 c140 a' w'' ∧ muC K w'' < muC K wr) Q0) ⟨#[c0, c1, c2, c3, c4, c5, c6, .pointer (some ⟨K.gx, 0, none⟩), .pointer (some ⟨K.gy, 0, none⟩), .pointer (some ⟨g1, 0, none⟩), .pointer (some ⟨g2, 0, none⟩), u11, u12, u13, u14, u15, c16, c17, c18, c19, c20, c21, c22, c23, c24, c25, c26, c27, c28, c29, c30, c31, c32, c33, c34, c35, c36, c37, c38, c39, c40, c41, c42, u43, u44, u45, u46, u47, u48, u49, u50, u51, u52, u53, u54, u55, u56, u57, u58, u59, u60, u61, u62, u63, u64, u65, u66, u67, u68, u69, u70, u71, u72, u73, u74, u75, u76, u77, u78, u79, u80, u81, u82, u83, u84, u85, u86, u87, u88, u89, u90, u91, u92, u93, u94, u95, u96, u97, u98, u99, u100, u101, u102, u103, u104, u105, u106, u107, u108, u109, u110, u111, u112, u113, u114, u115, u116, u117, u118, u119, u120, u121, u122, u123, u124, u125, u126, c127, c128, c129, c130, c131, c132, c133, c134, c135, c136, c137, c138, c139, c140], []⟩ wr := by
  have HMU := Lib.hid hs.cs.mu
  have hLb : L.length < 100000 := by have := hi.len; omega
  have hMb : M.length < 100000 := by have := hi.len; omega
  have HS := Lib.hid hs
  have HI := Lib.hid hi
  clear hs hi
  conv => arg 2; whnf
  go_wp2_with fail
  refine (HS.out.kindx hT).mono ?_
  rintro e w1 ⟨rfl, m1, q1, h1, b1⟩
  simp only at h1
  replace HS := Lib.hid h1
  replace D := D.trans b1
  clear h1 b1
  clear q1
  rw [hkx]
  have hmx := HS.out.cs.lead
  go_wp2_with fail
  refine (HS.out.kindx hT).mono ?_
  rintro e w2 ⟨rfl, m2, q2, h2, b2⟩
  rw [q2 _ rfl] at h2
  simp only at h2
  replace HS := Lib.hid h2
  replace D := D.trans b2
  clear h2 b2
  clear q2 m2
  rw [hkx]
  go_wp2_with fail
  refine (HS.out.kindy hT).mono ?_
  rintro e w3 ⟨rfl, m3, q3, h3, b3⟩
  simp only at h3
  replace HS := Lib.hid h3
  replace D := D.trans b3
  clear h3 b3
  clear q3
  rw [hky]
  have hmy := HS.out.cs.swap.lead
  have hpy := hmy.pos (by rw [hky]; decide)
  have HMy := Lib.hid hmy
  clear hmy
  clear hmx
  go_wp2_with fail
  refine (HS.out.lefty hT (by rw [hky]; decide)).mono ?_
  rintro e w4 ⟨rfl, h4, b4⟩
  replace HS := Lib.hid h4
  replace D := D.trans b4
  clear h4 b4
  go_wp2_with fail
  refine (HS.out.takey hT hky (Nat.le_refl _ : m3 ≤ m3) hpy.1).mono ?_
  rintro e w5 ⟨A5, c5, z5, rfl, hl5, hz5, row5, h5, b5⟩
  have HZ5 := Lib.hid hz5
  have HL5 := Lib.hid hl5
  have HR5 := Lib.hid row5
  clear hz5 hl5 row5
  replace HS := Lib.hid h5
  replace D := D.trans b5
  clear h5 b5
  go_wp2_with fail
  refine (HS.out.put2 HR5.out HL5.out (by omega) hMb).mono ?_
  rintro e w6 ⟨rfl, O6, h6, b6⟩
  replace HS := Lib.hid h6
  replace D := D.trans b6
  clear h6 b6
  go_wp2_with fail
  refine (HS.out.keep1 (n := (m3 : Int)) (by omega) (by omega) hLb).mono ?_
  rintro e w7 ⟨rfl, O7, h7, b7⟩
  replace HS := Lib.hid h7
  replace D := D.trans b7
  clear h7 b7
  go_wp2
  have hz := HZ5.out
  have hl := HL5.out
  have HR := TrR.mk HS.out.weak (show XInv K.a K.b RX (RY.drop m3) (L ++ [⟨1, (m3 : Int), []⟩]) _ by rw [← hl] at hz ⊢; exact (by rw [← hz]; exact HI.out : XInv K.a K.b RX (z5.map .p ++ RY.drop z5.length) L M).py hnp (by omega)) D
  refine ⟨?_, ?_⟩
  · unfold TrI
    iterate 89 apply Exists.intro
    exact ⟨HR, rfl⟩
  rw [HS.out.weak.cs.mu, HMU.out]
  rw [List.length_drop]
  omega

set_option maxRecDepth 1000000 in
set_option maxHeartbeats 6400000 in
theorem trM11 (K : Fx) (hT : K.TC = 77) (g1 g2 : Nat) (w0 wr : World) (c0 c1 c2 c3 c4 c5 c6 c16 c17 c18 c19 c20 c21 c22 c23 c24 c25 c26 c27 c28 c29 c30 c31 c32 c33 c34 c35 c36 c37 c38 c39 c40 c41 c42 c127 c128 c129 c130 c131 c132 c133 c134 c135 c136 c137 c138 c139 c140 u11 u12 u13 u14 u15 u43 u44 u45 u46 u47 u48 u49 u50 u51 u52 u53 u54 u55 u56 u57 u58 u59 u60 u61 u62 u63 u64 u65 u66 u67 u68 u69 u70 u71 u72 u73 u74 u75 u76 u77 u78 u79 u80 u81 u82 u83 u84 u85 u86 u87 u88 u89 u90 u91 u92 u93 u94 u95 u96 u97 u98 u99 u100 u101 u102 u103 u104 u105 u106 u107 u108 u109 u110 u111 u112 u113 u114 u115 u116 u117 u118 u119 u120 u121 u122 u123 u124 u125 u126 : Value) (Q0 : Exit → Act → World → Prop) (O P : Nat → Prop) (L M : List Pt) (RX RY : List U) (hs : TT K g1 g2 80 O P L M wr none none RX RY) (hi : XInv K.a K.b RX RY L M) (D : Below K.lo w0 wr) (hkx : kindOf RX = 1) (hky : kindOf RY = 1) :
    Code.wp Try.prog trBody (Exit.then (fun a' w'' => TrI K g1 g2 w0 c0 c1 c2 c3 c4 c5 c6 c16 c17 c18 c19 c20 c21 c22 c23 c24 c25 c26 c27 c28 c29 c30 c31 c32 c33 c34 c35 c36 c37 c38 c39 c40 c41 c42 c127 c128 c129 c130 c131 c132 c133 c134 c135 c136 c137 c138 c139 c140 a' w'' ∧ muC K w'' < muC K wr) Q0) ⟨#[c0, c1, c2, c3, c4, c5, c6, .pointer (some ⟨K.gx, 0, none⟩), .pointer (some ⟨K.gy, 0, none⟩), .pointer (some ⟨g1, 0, none⟩), .pointer (some ⟨g2, 0, none⟩), u11, u12, u13, u14, u15, c16, c17, c18, c19, c20, c21, c22, c23, c24, c25, c26, c27, c28, c29, c30, c31, c32, c33, c34, c35, c36, c37, c38, c39, c40, c41, c42, u43, u44, u45, u46, u47, u48, u49, u50, u51, u52, u53, u54, u55, u56, u57, u58, u59, u60, u61, u62, u63, u64, u65, u66, u67, u68, u69, u70, u71, u72, u73, u74, u75, u76, u77, u78, u79, u80, u81, u82, u83, u84, u85, u86, u87, u88, u89, u90, u91, u92, u93, u94, u95, u96, u97, u98, u99, u100, u101, u102, u103, u104, u105, u106, u107, u108, u109, u110, u111, u112, u113, u114, u115, u116, u117, u118, u119, u120, u121, u122, u123, u124, u125, u126, c127, c128, c129, c130, c131, c132, c133, c134, c135, c136, c137, c138, c139, c140], []⟩ wr := by
  have HMU := Lib.hid hs.cs.mu
  have hLb : L.length < 100000 := by have := hi.len; omega
  have hMb : M.length < 100000 := by have := hi.len; omega
  have HS := Lib.hid hs
  have HI := Lib.hid hi
  clear hs hi
  conv => arg 2; whnf
  go_wp2_with fail
  refine (HS.out.kindx hT).mono ?_
  rintro e w1 ⟨rfl, m1, q1, h1, b1⟩
  simp only at h1
  replace HS := Lib.hid h1
  replace D := D.trans b1
  clear h1 b1
  clear q1
  rw [hkx]
  have hmx := HS.out.cs.lead
  go_wp2_with fail
  refine (HS.out.kindx hT).mono ?_
  rintro e w2 ⟨rfl, m2, q2, h2, b2⟩
  rw [q2 _ rfl] at h2
  simp only at h2
  replace HS := Lib.hid h2
  replace D := D.trans b2
  clear h2 b2
  clear q2 m2
  rw [hkx]
  go_wp2_with fail
  refine (HS.out.kindy hT).mono ?_
  rintro e w3 ⟨rfl, m3, q3, h3, b3⟩
  simp only at h3
  replace HS := Lib.hid h3
  replace D := D.trans b3
  clear h3 b3
  clear q3
  rw [hky]
  have hmy := HS.out.cs.swap.lead
  have hpx := hmx.pos (by rw [hkx]; decide)
  have HMx := Lib.hid hmx
  clear hmx
  have hpy := hmy.pos (by rw [hky]; decide)
  have HMy := Lib.hid hmy
  clear hmy
  go_wp2_with fail
  refine (HS.out.leftx hT (by rw [hkx]; decide)).mono ?_
  rintro e w4 ⟨rfl, h4, b4⟩
  replace HS := Lib.hid h4
  replace D := D.trans b4
  clear h4 b4
  go_wp2_with fail
  refine (HS.out.lefty hT (by rw [hky]; decide)).mono ?_
  rintro e w5 ⟨rfl, h5, b5⟩
  replace HS := Lib.hid h5
  replace D := D.trans b5
  clear h5 b5
  go_wp2_with fail
  refine (specMin_d _ _ _).mono ?_
  rintro e w'_ ⟨rfl, rfl⟩
  rw [show (if (m1 : Int) < (m3 : Int) then (m1 : Int) else (m3 : Int)) = ((min m1 m3 : Nat) : Int) by split <;> omega]
  have hn1 : min m1 m3 ≤ m1 := Nat.min_le_left _ _
  have hn2 : min m1 m3 ≤ m3 := Nat.min_le_right _ _
  have hn3 : 0 < min m1 m3 := by omega
  generalize min m1 m3 = n at *
  go_wp2_with fail
  refine (HS.out.kindx hT).mono ?_
  rintro e w6 ⟨rfl, m6, q6, h6, b6⟩
  rw [q6 _ rfl] at h6
  simp only at h6
  replace HS := Lib.hid h6
  replace D := D.trans b6
  clear h6 b6
  clear q6 m6
  rw [hkx]
  go_wp2_with fail
  refine (HS.out.kindy hT).mono ?_
  rintro e w7 ⟨rfl, m7, q7, h7, b7⟩
  rw [q7 _ rfl] at h7
  simp only at h7
  replace HS := Lib.hid h7
  replace D := D.trans b7
  clear h7 b7
  clear q7 m7
  rw [hky]
  have hne := HS.out.cs.ne
  have hne2 : ¬ K.gy = K.gx := fun h => hne h.symm
  go_wp2_with fail
  refine (HS.out.keep1 (n := (n : Int)) (by omega) (by omega) hLb).mono ?_
  rintro e w8 ⟨rfl, O8, h8, b8⟩
  replace HS := Lib.hid h8
  replace D := D.trans b8
  clear h8 b8
  go_wp2_with fail
  refine (HS.out.keep2 (n := (n : Int)) (by omega) (by omega) hMb).mono ?_
  rintro e w9 ⟨rfl, O9, h9, b9⟩
  replace HS := Lib.hid h9
  replace D := D.trans b9
  clear h9 b9
  obtain ⟨d10, f10, hd10, hf10, hc10, hg10, hu10, hv10, ha10⟩ := HS.out.adv2 (by rw [hkx]; decide) (by rw [hky]; decide)
  have HA10 := Lib.hid (ha10 n hn1 hn2)
  clear ha10
  go_wp2
  have ex := HMx.out.k hkx hn1
  have ey := HMy.out.k hky hn2
  have HR := TrR.mk HA10.out.weak ((by rw [← ex, ← ey]; exact HI.out : XInv K.a K.b (List.replicate n .k ++ RX.drop n) (List.replicate n .k ++ RY.drop n) L M).kk hn3) ((D.setCell HS.out.cs.lx _).setCell HS.out.cs.ly _)
  refine ⟨?_, ?_⟩
  · unfold TrI
    iterate 89 apply Exists.intro
    exact ⟨HR, rfl⟩
  rw [HA10.out.weak.cs.mu, HMU.out]
  rw [List.length_drop, List.length_drop]
  omega

set_option maxRecDepth 1000000 in
set_option maxHeartbeats 6400000 in
theorem trM13 (K : Fx) (hT : K.TC = 77) (g1 g2 : Nat) (w0 wr : World) (c0 c1 c2 c3 c4 c5 c6 c16 c17 c18 c19 c20 c21 c22 c23 c24 c25 c26 c27 c28 c29 c30 c31 c32 c33 c34 c35 c36 c37 c38 c39 c40 c41 c42 c127 c128 c129 c130 c131 c132 c133 c134 c135 c136 c137 c138 c139 c140 u11 u12 u13 u14 u15 u43 u44 u45 u46 u47 u48 u49 u50 u51 u52 u53 u54 u55 u56 u57 u58 u59 u60 u61 u62 u63 u64 u65 u66 u67 u68 u69 u70 u71 u72 u73 u74 u75 u76 u77 u78 u79 u80 u81 u82 u83 u84 u85 u86 u87 u88 u89 u90 u91 u92 u93 u94 u95 u96 u97 u98 u99 u100 u101 u102 u103 u104 u105 u106 u107 u108 u109 u110 u111 u112 u113 u114 u115 u116 u117 u118 u119 u120 u121 u122 u123 u124 u125 u126 : Value) (Q0 : Exit → Act → World → Prop) (O P : Nat → Prop) (L M : List Pt) (RX RY : List U) (hs : TT K g1 g2 80 O P L M wr none none RX RY) (hi : XInv K.a K.b RX RY L M) (D : Below K.lo w0 wr) (hkx : kindOf RX = 1) (hky : kindOf RY = 3) :
    Code.wp Try.prog trBody (Exit.then (fun a' w'' => TrI K g1 g2 w0 c0 c1 c2 c3 c4 c5 c6 c16 c17 c18 c19 c20 c21 c22 c23 c24 c25 c26 c27 c28 c29 c30 c31 c32 c33 c34 c35 c36 c37 c38 c39 c40 c41 c42 c127 c128 c129 c130 c131 c132 c133 c134 c135 c136 c137 c138 c139 c140 a' w'' ∧ muC K w'' < muC K wr) Q0) ⟨#[c0, c1, c2, c3, c4, c5, c6, .pointer (some ⟨K.gx, 0, none⟩), .pointer (some ⟨K.gy, 0, none⟩), .pointer (some ⟨g1, 0, none⟩), .pointer (some ⟨g2, 0, none⟩), u11, u12, u13, u14, u15, c16, c17, c18, c19, c20, c21, c22, c23, c24, c25, c26, c27, c28, c29, c30, c31, c32, c33, c34, c35, c36, c37, c38, c39, c40, c41, c42, u43, u44, u45, u46, u47, u48, u49, u50, u51, u52, u53, u54, u55, u56, u57, u58, u59, u60, u61, u62, u63, u64, u65, u66, u67, u68, u69, u70, u71, u72, u73, u74, u75, u76, u77, u78, u79, u80, u81, u82, u83, u84, u85, u86, u87, u88, u89, u90, u91, u92, u93, u94, u95, u96, u97, u98, u99, u100, u101, u102, u103, u104, u105, u106, u107, u108, u109, u110, u111, u112, u113, u114, u115, u116, u117, u118, u119, u120, u121, u122, u123, u124, u125, u126, c127, c128, c129, c130, c131, c132, c133, c134, c135, c136, c137, c138, c139, c140], []⟩ wr := by
  have HMU := Lib.hid hs.cs.mu
  have hLb : L.length < 100000 := by have := hi.len; omega
  have hMb : M.length < 100000 := by have := hi.len; omega
  have HS := Lib.hid hs
  have HI := Lib.hid hi
  clear hs hi
  conv => arg 2; whnf
  go_wp2_with fail
  refine (HS.out.kindx hT).mono ?_
  rintro e w1 ⟨rfl, m1, q1, h1, b1⟩
  simp only at h1
  replace HS := Lib.hid h1
  replace D := D.trans b1
  clear h1 b1
  clear q1
  rw [hkx]
  have hmx := HS.out.cs.lead
  go_wp2_with fail
  refine (HS.out.kindx hT).mono ?_
  rintro e w2 ⟨rfl, m2, q2, h2, b2⟩
  rw [q2 _ rfl] at h2
  simp only at h2
  replace HS := Lib.hid h2
  replace D := D.trans b2
  clear h2 b2
  clear q2 m2
  rw [hkx]
  go_wp2_with fail
  refine (HS.out.kindy hT).mono ?_
  rintro e w3 ⟨rfl, m3, q3, h3, b3⟩
  simp only at h3
  replace HS := Lib.hid h3
  replace D := D.trans b3
  clear h3 b3
  clear q3
  rw [hky]
  have hmy := HS.out.cs.swap.lead
  have hpx := hmx.pos (by rw [hkx]; decide)
  have HMx := Lib.hid hmx
  clear hmx
  have hpy := hmy.pos (by rw [hky]; decide)
  have HMy := Lib.hid hmy
  clear hmy
  go_wp2_with fail
  refine (HS.out.leftx hT (by rw [hkx]; decide)).mono ?_
  rintro e w4 ⟨rfl, h4, b4⟩
  replace HS := Lib.hid h4
  replace D := D.trans b4
  clear h4 b4
  go_wp2_with fail
  refine (HS.out.lefty hT (by rw [hky]; decide)).mono ?_
  rintro e w5 ⟨rfl, h5, b5⟩
  replace HS := Lib.hid h5
  replace D := D.trans b5
  clear h5 b5
  go_wp2_with fail
  refine (specMin_d _ _ _).mono ?_
  rintro e w'_ ⟨rfl, rfl⟩
  rw [show (if (m1 : Int) < (m3 : Int) then (m1 : Int) else (m3 : Int)) = ((min m1 m3 : Nat) : Int) by split <;> omega]
  have hn1 : min m1 m3 ≤ m1 := Nat.min_le_left _ _
  have hn2 : min m1 m3 ≤ m3 := Nat.min_le_right _ _
  have hn3 : 0 < min m1 m3 := by omega
  generalize min m1 m3 = n at *
  go_wp2_with fail
  refine (HS.out.kindx hT).mono ?_
  rintro e w6 ⟨rfl, m6, q6, h6, b6⟩
  rw [q6 _ rfl] at h6
  simp only at h6
  replace HS := Lib.hid h6
  replace D := D.trans b6
  clear h6 b6
  clear q6 m6
  rw [hkx]
  go_wp2_with fail
  refine (HS.out.kindy hT).mono ?_
  rintro e w7 ⟨rfl, m7, q7, h7, b7⟩
  rw [q7 _ rfl] at h7
  simp only at h7
  replace HS := Lib.hid h7
  replace D := D.trans b7
  clear h7 b7
  clear q7 m7
  rw [hky]
  have hne := HS.out.cs.ne
  have hne2 : ¬ K.gy = K.gx := fun h => hne h.symm
  go_wp2_with fail
  refine (HS.out.drop2 (n := (n : Int)) (by omega) (by omega) hMb).mono ?_
  rintro e w8 ⟨rfl, O8, h8, b8⟩
  replace HS := Lib.hid h8
  replace D := D.trans b8
  clear h8 b8
  obtain ⟨d9, f9, hd9, hf9, hc9, hg9, hu9, hv9, ha9⟩ := HS.out.adv2 (by rw [hkx]; decide) (by rw [hky]; decide)
  have HA9 := Lib.hid (ha9 n hn1 hn2)
  clear ha9
  go_wp2
  have ex := HMx.out.k hkx hn1
  have ey := HMy.out.d hky hn2
  have HR := TrR.mk HA9.out.weak ((by rw [← ex, ← ey]; exact HI.out : XInv K.a K.b (List.replicate n .k ++ RX.drop n) (List.replicate n .d ++ RY.drop n) L M).kd hn3) ((D.setCell HS.out.cs.lx _).setCell HS.out.cs.ly _)
  refine ⟨?_, ?_⟩
  · unfold TrI
    iterate 89 apply Exists.intro
    exact ⟨HR, rfl⟩
  rw [HA9.out.weak.cs.mu, HMU.out]
  rw [List.length_drop, List.length_drop]
  omega

set_option maxRecDepth 1000000 in
set_option maxHeartbeats 6400000 in
theorem trM31 (K : Fx) (hT : K.TC = 77) (g1 g2 : Nat) (w0 wr : World) (c0 c1 c2 c3 c4 c5 c6 c16 c17 c18 c19 c20 c21 c22 c23 c24 c25 c26 c27 c28 c29 c30 c31 c32 c33 c34 c35 c36 c37 c38 c39 c40 c41 c42 c127 c128 c129 c130 c131 c132 c133 c134 c135 c136 c137 c138 c139 c140 u11 u12 u13 u14 u15 u43 u44 u45 u46 u47 u48 u49 u50 u51 u52 u53 u54 u55 u56 u57 u58 u59 u60 u61 u62 u63 u64 u65 u66 u67 u68 u69 u70 u71 u72 u73 u74 u75 u76 u77 u78 u79 u80 u81 u82 u83 u84 u85 u86 u87 u88 u89 u90 u91 u92 u93 u94 u95 u96 u97 u98 u99 u100 u101 u102 u103 u104 u105 u106 u107 u108 u109 u110 u111 u112 u113 u114 u115 u116 u117 u118 u119 u120 u121 u122 u123 u124 u125 u126 : Value) (Q0 : Exit → Act → World → Prop) (O P : Nat → Prop) (L M : List Pt) (RX RY : List U) (hs : TT K g1 g2 80 O P L M wr none none RX RY) (hi : XInv K.a K.b RX RY L M) (D : Below K.lo w0 wr) (hkx : kindOf RX = 3) (hky : kindOf RY = 1) :
    Code.wp Try.prog trBody (Exit.then (fun a' w'' => TrI K g1 g2 w0 c0 c1 c2 c3 c4 c5 c6 c16 c17 c18 c19 c20 c21 c22 c23 c24 c25 c26 c27 c28 c29 c30 c31 c32 c33 c34 c35 c36 c37 c38 c39 c40 c41 c42 c127 c128 c129 c130 c131 c132 c133 c134 c135 c136 c137 c138 c139 c140 a' w'' ∧ muC K w'' < muC K wr) Q0) ⟨#[c0, c1, c2, c3, c4, c5, c6, .pointer (some ⟨K.gx, 0, none⟩), .pointer (some ⟨K.gy, 0, none⟩), .pointer (some ⟨g1, 0, none⟩), .pointer (some ⟨g2, 0, none⟩), u11, u12, u13, u14, u15, c16, c17, c18, c19, c20, c21, c22, c23, c24, c25, c26, c27, c28, c29, c30, c31, c32, c33, c34, c35, c36, c37, c38, c39, c40, c41, c42, u43, u44, u45, u46, u47, u48, u49, u50, u51, u52, u53, u54, u55, u56, u57, u58, u59, u60, u61, u62, u63, u64, u65, u66, u67, u68, u69, u70, u71, u72, u73, u74, u75, u76, u77, u78, u79, u80, u81, u82, u83, u84, u85, u86, u87, u88, u89, u90, u91, u92, u93, u94, u95, u96, u97, u98, u99, u100, u101, u102, u103, u104, u105, u106, u107, u108, u109, u110, u111, u112, u113, u114, u115, u116, u117, u118, u119, u120, u121, u122, u123, u124, u125, u126, c127, c128, c129, c130, c131, c132, c133, c134, c135, c136, c137, c138, c139, c140], []⟩ wr := by
  have HMU := Lib.hid hs.cs.mu
  have hLb : L.length < 100000 := by have := hi.len; omega
  have hMb : M.length < 100000 := by have := hi.len; omega
  have HS := Lib.hid hs
  have HI := Lib.hid hi
  clear hs hi
  conv => arg 2; whnf
  go_wp2_with fail
  refine (HS.out.kindx hT).mono ?_
  rintro e w1 ⟨rfl, m1, q1, h1, b1⟩
  simp only at h1
  replace HS := Lib.hid h1
  replace D := D.trans b1
  clear h1 b1
  clear q1
  rw [hkx]
  have hmx := HS.out.cs.lead
  go_wp2_with fail
  refine (HS.out.kindx hT).mono ?_
  rintro e w2 ⟨rfl, m2, q2, h2, b2⟩
  rw [q2 _ rfl] at h2
  simp only at h2
  replace HS := Lib.hid h2
  replace D := D.trans b2
  clear h2 b2
  clear q2 m2
  rw [hkx]
  go_wp2_with fail
  refine (HS.out.kindy hT).mono ?_
  rintro e w3 ⟨rfl, m3, q3, h3, b3⟩
  simp only at h3
  replace HS := Lib.hid h3
  replace D := D.trans b3
  clear h3 b3
  clear q3
  rw [hky]
  have hmy := HS.out.cs.swap.lead
  have hpx := hmx.pos (by rw [hkx]; decide)
  have HMx := Lib.hid hmx
  clear hmx
  have hpy := hmy.pos (by rw [hky]; decide)
  have HMy := Lib.hid hmy
  clear hmy
  go_wp2_with fail
  refine (HS.out.leftx hT (by rw [hkx]; decide)).mono ?_
  rintro e w4 ⟨rfl, h4, b4⟩
  replace HS := Lib.hid h4
  replace D := D.trans b4
  clear h4 b4
  go_wp2_with fail
  refine (HS.out.lefty hT (by rw [hky]; decide)).mono ?_
  rintro e w5 ⟨rfl, h5, b5⟩
  replace HS := Lib.hid h5
  replace D := D.trans b5
  clear h5 b5
  go_wp2_with fail
  refine (specMin_d _ _ _).mono ?_
  rintro e w'_ ⟨rfl, rfl⟩
  rw [show (if (m1 : Int) < (m3 : Int) then (m1 : Int) else (m3 : Int)) = ((min m1 m3 : Nat) : Int) by split <;> omega]
  have hn1 : min m1 m3 ≤ m1 := Nat.min_le_left _ _
  have hn2 : min m1 m3 ≤ m3 := Nat.min_le_right _ _
  have hn3 : 0 < min m1 m3 := by omega
  generalize min m1 m3 = n at *
  go_wp2_with fail
  refine (HS.out.kindx hT).mono ?_
  rintro e w6 ⟨rfl, m6, q6, h6, b6⟩
  rw [q6 _ rfl] at h6
  simp only at h6
  replace HS := Lib.hid h6
  replace D := D.trans b6
  clear h6 b6
  clear q6 m6
  rw [hkx]
  go_wp2_with fail
  refine (HS.out.kindy hT).mono ?_
  rintro e w7 ⟨rfl, m7, q7, h7, b7⟩
  rw [q7 _ rfl] at h7
  simp only at h7
  replace HS := Lib.hid h7
  replace D := D.trans b7
  clear h7 b7
  clear q7 m7
  rw [hky]
  have hne := HS.out.cs.ne
  have hne2 : ¬ K.gy = K.gx := fun h => hne h.symm
  go_wp2_with fail
  refine (HS.out.drop1 (n := (n : Int)) (by omega) (by omega) hLb).mono ?_
  rintro e w8 ⟨rfl, O8, h8, b8⟩
  replace HS := Lib.hid h8
  replace D := D.trans b8
  clear h8 b8
  obtain ⟨d9, f9, hd9, hf9, hc9, hg9, hu9, hv9, ha9⟩ := HS.out.adv2 (by rw [hkx]; decide) (by rw [hky]; decide)
  have HA9 := Lib.hid (ha9 n hn1 hn2)
  clear ha9
  go_wp2
  have ex := HMx.out.d hkx hn1
  have ey := HMy.out.k hky hn2
  have HR := TrR.mk HA9.out.weak ((by rw [← ex, ← ey]; exact HI.out : XInv K.a K.b (List.replicate n .d ++ RX.drop n) (List.replicate n .k ++ RY.drop n) L M).dk hn3) ((D.setCell HS.out.cs.lx _).setCell HS.out.cs.ly _)
  refine ⟨?_, ?_⟩
  · unfold TrI
    iterate 89 apply Exists.intro
    exact ⟨HR, rfl⟩
  rw [HA9.out.weak.cs.mu, HMU.out]
  rw [List.length_drop, List.length_drop]
  omega

set_option maxRecDepth 1000000 in
set_option maxHeartbeats 6400000 in
theorem trM33 (K : Fx) (hT : K.TC = 77) (g1 g2 : Nat) (w0 wr : World) (c0 c1 c2 c3 c4 c5 c6 c16 c17 c18 c19 c20 c21 c22 c23 c24 c25 c26 c27 c28 c29 c30 c31 c32 c33 c34 c35 c36 c37 c38 c39 c40 c41 c42 c127 c128 c129 c130 c131 c132 c133 c134 c135 c136 c137 c138 c139 c140 u11 u12 u13 u14 u15 u43 u44 u45 u46 u47 u48 u49 u50 u51 u52 u53 u54 u55 u56 u57 u58 u59 u60 u61 u62 u63 u64 u65 u66 u67 u68 u69 u70 u71 u72 u73 u74 u75 u76 u77 u78 u79 u80 u81 u82 u83 u84 u85 u86 u87 u88 u89 u90 u91 u92 u93 u94 u95 u96 u97 u98 u99 u100 u101 u102 u103 u104 u105 u106 u107 u108 u109 u110 u111 u112 u113 u114 u115 u116 u117 u118 u119 u120 u121 u122 u123 u124 u125 u126 : Value) (Q0 : Exit → Act → World → Prop) (O P : Nat → Prop) (L M : List Pt) (RX RY : List U) (hs : TT K g1 g2 80 O P L M wr none none RX RY) (hi : XInv K.a K.b RX RY L M) (D : Below K.lo w0 wr) (hkx : kindOf RX = 3) (hky : kindOf RY = 3) :
    Code.wp Try.prog trBody (Exit.then (fun a' w'' => TrI K g1 g2 w0 c0 c1 c2 c3 c4 c5 c6 c16 c17 c18 c19 c20 c21 c22 c23 c24 c25 c26 c27 c28 c29 c30 c31 c32 c33 c34 c35 c36 c37 c38 c39 c40 c41 c42 c127 c128 c129 c130 c131 c132 c133 c134 c135 c136 c137 c138 c139 c140 a' w'' ∧ muC K w'' < muC K wr) Q0) ⟨#[c0, c1, c2, c3, c4, c5, c6, .pointer (some ⟨K.gx, 0, none⟩), .pointer (some ⟨K.gy, 0, none⟩), .pointer (some ⟨g1, 0, none⟩), .pointer (some ⟨g2, 0, none⟩), u11, u12, u13, u14, u15, c16, c17, c18, c19, c20, c21, c22, c23, c24, c25, c26, c27, c28, c29, c30, c31, c32, c33, c34, c35, c36, c37, c38, c39, c40, c41, c42, u43, u44, u45, u46, u47, u48, u49, u50, u51, u52, u53, u54, u55, u56, u57, u58, u59, u60, u61, u62, u63, u64, u65, u66, u67, u68, u69, u70, u71, u72, u73, u74, u75, u76, u77, u78, u79, u80, u81, u82, u83, u84, u85, u86, u87, u88, u89, u90, u91, u92, u93, u94, u95, u96, u97, u98, u99, u100, u101, u102, u103, u104, u105, u106, u107, u108, u109, u110, u111, u112, u113, u114, u115, u116, u117, u118, u119, u120, u121, u122, u123, u124, u125, u126, c127, c128, c129, c130, c131, c132, c133, c134, c135, c136, c137, c138, c139, c140], []⟩ wr := by
  have HMU := Lib.hid hs.cs.mu
  have hLb : L.length < 100000 := by have := hi.len; omega
  have hMb : M.length < 100000 := by have := hi.len; omega
  have HS := Lib.hid hs
  have HI := Lib.hid hi
  clear hs hi
  conv => arg 2; whnf
  go_wp2_with fail
  refine (HS.out.kindx hT).mono ?_
  rintro e w1 ⟨rfl, m1, q1, h1, b1⟩
  simp only at h1
  replace HS := Lib.hid h1
  replace D := D.trans b1
  clear h1 b1
  clear q1
  rw [hkx]
  have hmx := HS.out.cs.lead
  go_wp2_with fail
  refine (HS.out.kindx hT).mono ?_
  rintro e w2 ⟨rfl, m2, q2, h2, b2⟩
  rw [q2 _ rfl] at h2
  simp only at h2
  replace HS := Lib.hid h2
  replace D := D.trans b2
  clear h2 b2
  clear q2 m2
  rw [hkx]
  go_wp2_with fail
  refine (HS.out.kindy hT).mono ?_
  rintro e w3 ⟨rfl, m3, q3, h3, b3⟩
  simp only at h3
  replace HS := Lib.hid h3
  replace D := D.trans b3
  clear h3 b3
  clear q3
  rw [hky]
  have hmy := HS.out.cs.swap.lead
  have hpx := hmx.pos (by rw [hkx]; decide)
  have HMx := Lib.hid hmx
  clear hmx
  have hpy := hmy.pos (by rw [hky]; decide)
  have HMy := Lib.hid hmy
  clear hmy
  go_wp2_with fail
  refine (HS.out.leftx hT (by rw [hkx]; decide)).mono ?_
  rintro e w4 ⟨rfl, h4, b4⟩
  replace HS := Lib.hid h4
  replace D := D.trans b4
  clear h4 b4
  go_wp2_with fail
  refine (HS.out.lefty hT (by rw [hky]; decide)).mono ?_
  rintro e w5 ⟨rfl, h5, b5⟩
  replace HS := Lib.hid h5
  replace D := D.trans b5
  clear h5 b5
  go_wp2_with fail
  refine (specMin_d _ _ _).mono ?_
  rintro e w'_ ⟨rfl, rfl⟩
  rw [show (if (m1 : Int) < (m3 : Int) then (m1 : Int) else (m3 : Int)) = ((min m1 m3 : Nat) : Int) by split <;> omega]
  have hn1 : min m1 m3 ≤ m1 := Nat.min_le_left _ _
  have hn2 : min m1 m3 ≤ m3 := Nat.min_le_right _ _
  have hn3 : 0 < min m1 m3 := by omega
  generalize min m1 m3 = n at *
  go_wp2_with fail
  refine (HS.out.kindx hT).mono ?_
  rintro e w6 ⟨rfl, m6, q6, h6, b6⟩
  rw [q6 _ rfl] at h6
  simp only at h6
  replace HS := Lib.hid h6
  replace D := D.trans b6
  clear h6 b6
  clear q6 m6
  rw [hkx]
  go_wp2_with fail
  refine (HS.out.kindy hT).mono ?_
  rintro e w7 ⟨rfl, m7, q7, h7, b7⟩
  rw [q7 _ rfl] at h7
  simp only at h7
  replace HS := Lib.hid h7
  replace D := D.trans b7
  clear h7 b7
  clear q7 m7
  rw [hky]
  have hne := HS.out.cs.ne
  have hne2 : ¬ K.gy = K.gx := fun h => hne h.symm
  obtain ⟨d8, f8, hd8, hf8, hc8, hg8, hu8, hv8, ha8⟩ := HS.out.adv2 (by rw [hkx]; decide) (by rw [hky]; decide)
  have HA8 := Lib.hid (ha8 n hn1 hn2)
  clear ha8
  go_wp2
  have ex := HMx.out.d hkx hn1
  have ey := HMy.out.d hky hn2
  have HR := TrR.mk HA8.out.weak ((by rw [← ex, ← ey]; exact HI.out : XInv K.a K.b (List.replicate n .d ++ RX.drop n) (List.replicate n .d ++ RY.drop n) L M).dd) ((D.setCell HS.out.cs.lx _).setCell HS.out.cs.ly _)
  refine ⟨?_, ?_⟩
  · unfold TrI
    iterate 89 apply Exists.intro
    exact ⟨HR, rfl⟩
  rw [HA8.out.weak.cs.mu, HMU.out]
  rw [List.length_drop, List.length_drop]
  omega

set_option maxRecDepth 1000000 in
set_option maxHeartbeats 1600000 in
theorem trRound (K : Fx) (hT : K.TC = 77) (g1 g2 : Nat) (w0 : World) (c0 c1 c2 c3 c4 c5 c6 c16 c17 c18 c19 c20 c21 c22 c23 c24 c25 c26 c27 c28 c29 c30 c31 c32 c33 c34 c35 c36 c37 c38 c39 c40 c41 c42 c127 c128 c129 c130 c131 c132 c133 c134 c135 c136 c137 c138 c139 c140 : Value) (Q0 : Exit → Act → World → Prop) (hexit : ∀ a w, TrE K g1 g2 w0 c0 c1 c2 c3 c4 c5 c6 c16 c17 c18 c19 c20 c21 c22 c23 c24 c25 c26 c27 c28 c29 c30 c31 c32 c33 c34 c35 c36 c37 c38 c39 c40 c41 c42 c127 c128 c129 c130 c131 c132 c133 c134 c135 c136 c137 c138 c139 c140 a w → Q0 (.exit 0) a w) (a : Act) (w' : World) (hI : TrI K g1 g2 w0 c0 c1 c2 c3 c4 c5 c6 c16 c17 c18 c19 c20 c21 c22 c23 c24 c25 c26 c27 c28 c29 c30 c31 c32 c33 c34 c35 c36 c37 c38 c39 c40 c41 c42 c127 c128 c129 c130 c131 c132 c133 c134 c135 c136 c137 c138 c139 c140 a w') :
    Code.wp Try.prog trBody (Exit.then (fun a' w'' => TrI K g1 g2 w0 c0 c1 c2 c3 c4 c5 c6 c16 c17 c18 c19 c20 c21 c22 c23 c24 c25 c26 c27 c28 c29 c30 c31 c32 c33 c34 c35 c36 c37 c38 c39 c40 c41 c42 c127 c128 c129 c130 c131 c132 c133 c134 c135 c136 c137 c138 c139 c140 a' w'' ∧ muC K w'' < muC K w') Q0) a w' := by
  unfold TrI at hI
  obtain ⟨u11, hI⟩ := hI
  obtain ⟨u12, hI⟩ := hI
  obtain ⟨u13, hI⟩ := hI
  obtain ⟨u14, hI⟩ := hI
  obtain ⟨u15, hI⟩ := hI
  obtain ⟨u43, hI⟩ := hI
  obtain ⟨u44, hI⟩ := hI
  obtain ⟨u45, hI⟩ := hI
  obtain ⟨u46, hI⟩ := hI
  obtain ⟨u47, hI⟩ := hI
  obtain ⟨u48, hI⟩ := hI
  obtain ⟨u49, hI⟩ := hI
  obtain ⟨u50, hI⟩ := hI
  obtain ⟨u51, hI⟩ := hI
  obtain ⟨u52, hI⟩ := hI
  obtain ⟨u53, hI⟩ := hI
  obtain ⟨u54, hI⟩ := hI
  obtain ⟨u55, hI⟩ := hI
  obtain ⟨u56, hI⟩ := hI
  obtain ⟨u57, hI⟩ := hI
  obtain ⟨u58, hI⟩ := hI
  obtain ⟨u59, hI⟩ := hI
  obtain ⟨u60, hI⟩ := hI
  obtain ⟨u61, hI⟩ := hI
  obtain ⟨u62, hI⟩ := hI
  obtain ⟨u63, hI⟩ := hI
  obtain ⟨u64, hI⟩ := hI
  obtain ⟨u65, hI⟩ := hI
  obtain ⟨u66, hI⟩ := hI
  obtain ⟨u67, hI⟩ := hI
  obtain ⟨u68, hI⟩ := hI
  obtain ⟨u69, hI⟩ := hI
  obtain ⟨u70, hI⟩ := hI
  obtain ⟨u71, hI⟩ := hI
  obtain ⟨u72, hI⟩ := hI
  obtain ⟨u73, hI⟩ := hI
  obtain ⟨u74, hI⟩ := hI
  obtain ⟨u75, hI⟩ := hI
  obtain ⟨u76, hI⟩ := hI
  obtain ⟨u77, hI⟩ := hI
  obtain ⟨u78, hI⟩ := hI
  obtain ⟨u79, hI⟩ := hI
  obtain ⟨u80, hI⟩ := hI
  obtain ⟨u81, hI⟩ := hI
  obtain ⟨u82, hI⟩ := hI
  obtain ⟨u83, hI⟩ := hI
  obtain ⟨u84, hI⟩ := hI
  obtain ⟨u85, hI⟩ := hI
  obtain ⟨u86, hI⟩ := hI
  obtain ⟨u87, hI⟩ := hI
  obtain ⟨u88, hI⟩ := hI
  obtain ⟨u89, hI⟩ := hI
  obtain ⟨u90, hI⟩ := hI
  obtain ⟨u91, hI⟩ := hI
  obtain ⟨u92, hI⟩ := hI
  obtain ⟨u93, hI⟩ := hI
  obtain ⟨u94, hI⟩ := hI
  obtain ⟨u95, hI⟩ := hI
  obtain ⟨u96, hI⟩ := hI
  obtain ⟨u97, hI⟩ := hI
  obtain ⟨u98, hI⟩ := hI
  obtain ⟨u99, hI⟩ := hI
  obtain ⟨u100, hI⟩ := hI
  obtain ⟨u101, hI⟩ := hI
  obtain ⟨u102, hI⟩ := hI
  obtain ⟨u103, hI⟩ := hI
  obtain ⟨u104, hI⟩ := hI
  obtain ⟨u105, hI⟩ := hI
  obtain ⟨u106, hI⟩ := hI
  obtain ⟨u107, hI⟩ := hI
  obtain ⟨u108, hI⟩ := hI
  obtain ⟨u109, hI⟩ := hI
  obtain ⟨u110, hI⟩ := hI
  obtain ⟨u111, hI⟩ := hI
  obtain ⟨u112, hI⟩ := hI
  obtain ⟨u113, hI⟩ := hI
  obtain ⟨u114, hI⟩ := hI
  obtain ⟨u115, hI⟩ := hI
  obtain ⟨u116, hI⟩ := hI
  obtain ⟨u117, hI⟩ := hI
  obtain ⟨u118, hI⟩ := hI
  obtain ⟨u119, hI⟩ := hI
  obtain ⟨u120, hI⟩ := hI
  obtain ⟨u121, hI⟩ := hI
  obtain ⟨u122, hI⟩ := hI
  obtain ⟨u123, hI⟩ := hI
  obtain ⟨u124, hI⟩ := hI
  obtain ⟨u125, hI⟩ := hI
  obtain ⟨u126, hI⟩ := hI
  obtain ⟨⟨O, P, L, M, RX, RY, hs, hi, D⟩, rfl⟩ := hI
  rcases xf_cases hi.bal with ⟨hx, hy⟩ | hkx | ⟨hnp, hkx | hkx | hkx, hky⟩ | ⟨hkx | hkx, hky | hky⟩
  · exact trE K hT g1 g2 w0 w' c0 c1 c2 c3 c4 c5 c6 c16 c17 c18 c19 c20 c21 c22 c23 c24 c25 c26 c27 c28 c29 c30 c31 c32 c33 c34 c35 c36 c37 c38 c39 c40 c41 c42 c127 c128 c129 c130 c131 c132 c133 c134 c135 c136 c137 c138 c139 c140 u11 u12 u13 u14 u15 u43 u44 u45 u46 u47 u48 u49 u50 u51 u52 u53 u54 u55 u56 u57 u58 u59 u60 u61 u62 u63 u64 u65 u66 u67 u68 u69 u70 u71 u72 u73 u74 u75 u76 u77 u78 u79 u80 u81 u82 u83 u84 u85 u86 u87 u88 u89 u90 u91 u92 u93 u94 u95 u96 u97 u98 u99 u100 u101 u102 u103 u104 u105 u106 u107 u108 u109 u110 u111 u112 u113 u114 u115 u116 u117 u118 u119 u120 u121 u122 u123 u124 u125 u126 Q0 O P L M RX RY hs hi D hx hy hexit
  · exact trA K hT g1 g2 w0 w' c0 c1 c2 c3 c4 c5 c6 c16 c17 c18 c19 c20 c21 c22 c23 c24 c25 c26 c27 c28 c29 c30 c31 c32 c33 c34 c35 c36 c37 c38 c39 c40 c41 c42 c127 c128 c129 c130 c131 c132 c133 c134 c135 c136 c137 c138 c139 c140 u11 u12 u13 u14 u15 u43 u44 u45 u46 u47 u48 u49 u50 u51 u52 u53 u54 u55 u56 u57 u58 u59 u60 u61 u62 u63 u64 u65 u66 u67 u68 u69 u70 u71 u72 u73 u74 u75 u76 u77 u78 u79 u80 u81 u82 u83 u84 u85 u86 u87 u88 u89 u90 u91 u92 u93 u94 u95 u96 u97 u98 u99 u100 u101 u102 u103 u104 u105 u106 u107 u108 u109 u110 u111 u112 u113 u114 u115 u116 u117 u118 u119 u120 u121 u122 u123 u124 u125 u126 Q0 O P L M RX RY hs hi D hkx
  · exact trB0 K hT g1 g2 w0 w' c0 c1 c2 c3 c4 c5 c6 c16 c17 c18 c19 c20 c21 c22 c23 c24 c25 c26 c27 c28 c29 c30 c31 c32 c33 c34 c35 c36 c37 c38 c39 c40 c41 c42 c127 c128 c129 c130 c131 c132 c133 c134 c135 c136 c137 c138 c139 c140 u11 u12 u13 u14 u15 u43 u44 u45 u46 u47 u48 u49 u50 u51 u52 u53 u54 u55 u56 u57 u58 u59 u60 u61 u62 u63 u64 u65 u66 u67 u68 u69 u70 u71 u72 u73 u74 u75 u76 u77 u78 u79 u80 u81 u82 u83 u84 u85 u86 u87 u88 u89 u90 u91 u92 u93 u94 u95 u96 u97 u98 u99 u100 u101 u102 u103 u104 u105 u106 u107 u108 u109 u110 u111 u112 u113 u114 u115 u116 u117 u118 u119 u120 u121 u122 u123 u124 u125 u126 Q0 O P L M RX RY hs hi D hnp hkx hky
  · exact trB1 K hT g1 g2 w0 w' c0 c1 c2 c3 c4 c5 c6 c16 c17 c18 c19 c20 c21 c22 c23 c24 c25 c26 c27 c28 c29 c30 c31 c32 c33 c34 c35 c36 c37 c38 c39 c40 c41 c42 c127 c128 c129 c130 c131 c132 c133 c134 c135 c136 c137 c138 c139 c140 u11 u12 u13 u14 u15 u43 u44 u45 u46 u47 u48 u49 u50 u51 u52 u53 u54 u55 u56 u57 u58 u59 u60 u61 u62 u63 u64 u65 u66 u67 u68 u69 u70 u71 u72 u73 u74 u75 u76 u77 u78 u79 u80 u81 u82 u83 u84 u85 u86 u87 u88 u89 u90 u91 u92 u93 u94 u95 u96 u97 u98 u99 u100 u101 u102 u103 u104 u105 u106 u107 u108 u109 u110 u111 u112 u113 u114 u115 u116 u117 u118 u119 u120 u121 u122 u123 u124 u125 u126 Q0 O P L M RX RY hs hi D hnp hkx hky
  · exact trB3 K hT g1 g2 w0 w' c0 c1 c2 c3 c4 c5 c6 c16 c17 c18 c19 c20 c21 c22 c23 c24 c25 c26 c27 c28 c29 c30 c31 c32 c33 c34 c35 c36 c37 c38 c39 c40 c41 c42 c127 c128 c129 c130 c131 c132 c133 c134 c135 c136 c137 c138 c139 c140 u11 u12 u13 u14 u15 u43 u44 u45 u46 u47 u48 u49 u50 u51 u52 u53 u54 u55 u56 u57 u58 u59 u60 u61 u62 u63 u64 u65 u66 u67 u68 u69 u70 u71 u72 u73 u74 u75 u76 u77 u78 u79 u80 u81 u82 u83 u84 u85 u86 u87 u88 u89 u90 u91 u92 u93 u94 u95 u96 u97 u98 u99 u100 u101 u102 u103 u104 u105 u106 u107 u108 u109 u110 u111 u112 u113 u114 u115 u116 u117 u118 u119 u120 u121 u122 u123 u124 u125 u126 Q0 O P L M RX RY hs hi D hnp hkx hky
  · exact trM11 K hT g1 g2 w0 w' c0 c1 c2 c3 c4 c5 c6 c16 c17 c18 c19 c20 c21 c22 c23 c24 c25 c26 c27 c28 c29 c30 c31 c32 c33 c34 c35 c36 c37 c38 c39 c40 c41 c42 c127 c128 c129 c130 c131 c132 c133 c134 c135 c136 c137 c138 c139 c140 u11 u12 u13 u14 u15 u43 u44 u45 u46 u47 u48 u49 u50 u51 u52 u53 u54 u55 u56 u57 u58 u59 u60 u61 u62 u63 u64 u65 u66 u67 u68 u69 u70 u71 u72 u73 u74 u75 u76 u77 u78 u79 u80 u81 u82 u83 u84 u85 u86 u87 u88 u89 u90 u91 u92 u93 u94 u95 u96 u97 u98 u99 u100 u101 u102 u103 u104 u105 u106 u107 u108 u109 u110 u111 u112 u113 u114 u115 u116 u117 u118 u119 u120 u121 u122 u123 u124 u125 u126 Q0 O P L M RX RY hs hi D hkx hky
  · exact trM13 K hT g1 g2 w0 w' c0 c1 c2 c3 c4 c5 c6 c16 c17 c18 c19 c20 c21 c22 c23 c24 c25 c26 c27 c28 c29 c30 c31 c32 c33 c34 c35 c36 c37 c38 c39 c40 c41 c42 c127 c128 c129 c130 c131 c132 c133 c134 c135 c136 c137 c138 c139 c140 u11 u12 u13 u14 u15 u43 u44 u45 u46 u47 u48 u49 u50 u51 u52 u53 u54 u55 u56 u57 u58 u59 u60 u61 u62 u63 u64 u65 u66 u67 u68 u69 u70 u71 u72 u73 u74 u75 u76 u77 u78 u79 u80 u81 u82 u83 u84 u85 u86 u87 u88 u89 u90 u91 u92 u93 u94 u95 u96 u97 u98 u99 u100 u101 u102 u103 u104 u105 u106 u107 u108 u109 u110 u111 u112 u113 u114 u115 u116 u117 u118 u119 u120 u121 u122 u123 u124 u125 u126 Q0 O P L M RX RY hs hi D hkx hky
  · exact trM31 K hT g1 g2 w0 w' c0 c1 c2 c3 c4 c5 c6 c16 c17 c18 c19 c20 c21 c22 c23 c24 c25 c26 c27 c28 c29 c30 c31 c32 c33 c34 c35 c36 c37 c38 c39 c40 c41 c42 c127 c128 c129 c130 c131 c132 c133 c134 c135 c136 c137 c138 c139 c140 u11 u12 u13 u14 u15 u43 u44 u45 u46 u47 u48 u49 u50 u51 u52 u53 u54 u55 u56 u57 u58 u59 u60 u61 u62 u63 u64 u65 u66 u67 u68 u69 u70 u71 u72 u73 u74 u75 u76 u77 u78 u79 u80 u81 u82 u83 u84 u85 u86 u87 u88 u89 u90 u91 u92 u93 u94 u95 u96 u97 u98 u99 u100 u101 u102 u103 u104 u105 u106 u107 u108 u109 u110 u111 u112 u113 u114 u115 u116 u117 u118 u119 u120 u121 u122 u123 u124 u125 u126 Q0 O P L M RX RY hs hi D hkx hky
  · exact trM33 K hT g1 g2 w0 w' c0 c1 c2 c3 c4 c5 c6 c16 c17 c18 c19 c20 c21 c22 c23 c24 c25 c26 c27 c28 c29 c30 c31 c32 c33 c34 c35 c36 c37 c38 c39 c40 c41 c42 c127 c128 c129 c130 c131 c132 c133 c134 c135 c136 c137 c138 c139 c140 u11 u12 u13 u14 u15 u43 u44 u45 u46 u47 u48 u49 u50 u51 u52 u53 u54 u55 u56 u57 u58 u59 u60 u61 u62 u63 u64 u65 u66 u67 u68 u69 u70 u71 u72 u73 u74 u75 u76 u77 u78 u79 u80 u81 u82 u83 u84 u85 u86 u87 u88 u89 u90 u91 u92 u93 u94 u95 u96 u97 u98 u99 u100 u101 u102 u103 u104 u105 u106 u107 u108 u109 u110 u111 u112 u113 u114 u115 u116 u117 u118 u119 u120 u121 u122 u123 u124 u125 u126 Q0 O P L M RX RY hs hi D hkx hky
set_option maxRecDepth 1000000 in
set_option maxHeartbeats 1600000 in
theorem trLoop (K : Fx) (hT : K.TC = 77) (g1 g2 : Nat) (w0 : World) (c0 c1 c2 c3 c4 c5 c6 c16 c17 c18 c19 c20 c21 c22 c23 c24 c25 c26 c27 c28 c29 c30 c31 c32 c33 c34 c35 c36 c37 c38 c39 c40 c41 c42 c127 c128 c129 c130 c131 c132 c133 c134 c135 c136 c137 c138 c139 c140 u11 u12 u13 u14 u15 u43 u44 u45 u46 u47 u48 u49 u50 u51 u52 u53 u54 u55 u56 u57 u58 u59 u60 u61 u62 u63 u64 u65 u66 u67 u68 u69 u70 u71 u72 u73 u74 u75 u76 u77 u78 u79 u80 u81 u82 u83 u84 u85 u86 u87 u88 u89 u90 u91 u92 u93 u94 u95 u96 u97 u98 u99 u100 u101 u102 u103 u104 u105 u106 u107 u108 u109 u110 u111 u112 u113 u114 u115 u116 u117 u118 u119 u120 u121 u122 u123 u124 u125 u126 : Value) (Q0 : Exit → Act → World → Prop) (w' : World) (hR : TrR K g1 g2 w0 w') (hexit : ∀ a w, TrE K g1 g2 w0 c0 c1 c2 c3 c4 c5 c6 c16 c17 c18 c19 c20 c21 c22 c23 c24 c25 c26 c27 c28 c29 c30 c31 c32 c33 c34 c35 c36 c37 c38 c39 c40 c41 c42 c127 c128 c129 c130 c131 c132 c133 c134 c135 c136 c137 c138 c139 c140 a w → Q0 (.exit 0) a w) :
    Code.wp Try.prog (Code.loop trBody) Q0 ⟨#[c0, c1, c2, c3, c4, c5, c6, .pointer (some ⟨K.gx, 0, none⟩), .pointer (some ⟨K.gy, 0, none⟩), .pointer (some ⟨g1, 0, none⟩), .pointer (some ⟨g2, 0, none⟩), u11, u12, u13, u14, u15, c16, c17, c18, c19, c20, c21, c22, c23, c24, c25, c26, c27, c28, c29, c30, c31, c32, c33, c34, c35, c36, c37, c38, c39, c40, c41, c42, u43, u44, u45, u46, u47, u48, u49, u50, u51, u52, u53, u54, u55, u56, u57, u58, u59, u60, u61, u62, u63, u64, u65, u66, u67, u68, u69, u70, u71, u72, u73, u74, u75, u76, u77, u78, u79, u80, u81, u82, u83, u84, u85, u86, u87, u88, u89, u90, u91, u92, u93, u94, u95, u96, u97, u98, u99, u100, u101, u102, u103, u104, u105, u106, u107, u108, u109, u110, u111, u112, u113, u114, u115, u116, u117, u118, u119, u120, u121, u122, u123, u124, u125, u126, c127, c128, c129, c130, c131, c132, c133, c134, c135, c136, c137, c138, c139, c140], []⟩ w' := by
  refine wp_loop (TrI K g1 g2 w0 c0 c1 c2 c3 c4 c5 c6 c16 c17 c18 c19 c20 c21 c22 c23 c24 c25 c26 c27 c28 c29 c30 c31 c32 c33 c34 c35 c36 c37 c38 c39 c40 c41 c42 c127 c128 c129 c130 c131 c132 c133 c134 c135 c136 c137 c138 c139 c140) (fun _ w => muC K w) ?_ (fun a w'' hI => trRound K hT g1 g2 w0 c0 c1 c2 c3 c4 c5 c6 c16 c17 c18 c19 c20 c21 c22 c23 c24 c25 c26 c27 c28 c29 c30 c31 c32 c33 c34 c35 c36 c37 c38 c39 c40 c41 c42 c127 c128 c129 c130 c131 c132 c133 c134 c135 c136 c137 c138 c139 c140 Q0 hexit a w'' hI)
  unfold TrI
  iterate 89 apply Exists.intro
  exact ⟨hR, rfl⟩
end Go.Proofs.Ytfpjoncaccbnmaa.low


/-
  The loop of spec.Compose: the cases of a round, each a theorem over the frame; the round; the loop.
-/
namespace Go.Proofs.Ytfpjoncaccbnmaa.low
open Go.RowKit
set_option linter.unusedVariables false

end Go.Proofs.Ytfpjoncaccbnmaa.low


/-
  Contract of spec.Compose.
-/
namespace Go.Proofs.Ytfpjoncaccbnmaa.low
open Go.RowKit
set_option linter.unusedVariables false

theorem heap_old (w : World) (o : Obj) {g : Nat} {x : Obj} (h : w.heap[g]? = some x) : (w.alloc o).heap[g]? = some x := by
  rw [Below.heap_alloc _ _ _ (lt_of_some h)]
  exact h
theorem cur_new {w : World} {g : Nat} {T : TypeId} {A : Option Addr} {c : Nat} {ps : List Pt} (h : w.heap[g]? = some (.cells #[.slice A ps.length c, .int .i64 0, .int .i64 0] T (0, 0))) : ∃ i d, Cur g T w A c ps i d ∧ rem ps i d = units ps ∧ Sett ps i d none :=
  ⟨0, 0, ⟨h, Nat.zero_le _, fun _ _ => Nat.zero_le _, fun _ => rfl⟩, by simp [rem], trivial⟩
/-- two cursors as they are made, at w.heap.size and behind it -/
theorem Cs.new {w w' : World} {A B : Option Addr} {ca cb lo : Nat} {a b : List Pt} {TC : TypeId} (hlo : lo ≤ w.heap.size) (ra : RdC w lo (encPs a) (.slice A a.length ca)) (rb : RdC w lo (encPs b) (.slice B b.length cb)) (sa : ∀ p ∈ a, szP_ p) (sb : ∀ p ∈ b, szP_ p) (na : a.length ≤ 1048576) (nb : b.length ≤ 1048576)
    (hx : w'.heap[w.heap.size]? = some (.cells #[.slice A a.length ca, .int .i64 0, .int .i64 0] TC (0, 0))) (hy : w'.heap[w.heap.size + 1]? = some (.cells #[.slice B b.length cb, .int .i64 0, .int .i64 0] TC (0, 0))) (hb : Below lo w w') : Cs ⟨lo, w.heap.size, w.heap.size + 1, TC, A, ca, a, B, cb, b⟩ w' none none (units a) (units b) :=
  ⟨cur_new hx, cur_new hy, ra.below hb, rb.below hb, by simp, hlo, Nat.le_succ_of_le hlo, sa, sb, na, nb⟩

theorem CB.new {w : World} {A B : Option Addr} {ca cb lo : Nat} {a b : List Pt} {TC TB : TypeId} (hlo : lo ≤ w.heap.size) (ra : RdC w lo (encPs a) (.slice A a.length ca)) (rb : RdC w lo (encPs b) (.slice B b.length cb)) (sa : ∀ p ∈ a, szP_ p) (sb : ∀ p ∈ b, szP_ p) (na : a.length ≤ 1048576) (nb : b.length ≤ 1048576) :
    CB ⟨lo, w.heap.size, w.heap.size + 1, TC, A, ca, a, B, cb, b⟩ (w.heap.size + 1 + 1) TB (fun q => q = w.heap.size + 1 + 1) [] (((w.alloc (.cells #[.slice A a.length ca, .int .i64 0, .int .i64 0] TC)).alloc (.cells #[.slice B b.length cb, .int .i64 0, .int .i64 0] TC)).alloc (.cells #[.slice none 0 0, .slice none 0 0, .int .i64 0] TB)) none none (units a) (units b) ∧
    Below lo w (((w.alloc (.cells #[.slice A a.length ca, .int .i64 0, .int .i64 0] TC)).alloc (.cells #[.slice B b.length cb, .int .i64 0, .int .i64 0] TC)).alloc (.cells #[.slice none 0 0, .slice none 0 0, .int .i64 0] TB)) := by
  have s1 : (w.alloc (.cells #[.slice A a.length ca, .int .i64 0, .int .i64 0] TC)).heap.size = w.heap.size + 1 := Array.size_push ..
  have s2 : ((w.alloc (.cells #[.slice A a.length ca, .int .i64 0, .int .i64 0] TC)).alloc (.cells #[.slice B b.length cb, .int .i64 0, .int .i64 0] TC)).heap.size = w.heap.size + 1 + 1 := by rw [← s1]; exact Array.size_push ..
  have b1 := (((alloc_below w (.cells #[.slice A a.length ca, .int .i64 0, .int .i64 0] TC)).mono hlo).alloc (by rw [s1]; omega) (.cells #[.slice B b.length cb, .int .i64 0, .int .i64 0] TC)).alloc (by rw [s2]; omega) (.cells #[.slice none 0 0, .slice none 0 0, .int .i64 0] TB)
  have hb := Bld.new lo TB ((w.alloc (.cells #[.slice A a.length ca, .int .i64 0, .int .i64 0] TC)).alloc (.cells #[.slice B b.length cb, .int .i64 0, .int .i64 0] TC)) (by rw [s2]; omega)
  rw [s2] at hb
  exact ⟨⟨Cs.new hlo ra rb sa sb na nb (heap_old _ _ (heap_old _ _ (heap_alloc_new w _))) (heap_old _ _ (by rw [← s1]; exact heap_alloc_new _ _)) b1, hb, by show ¬ w.heap.size = _; omega, by show ¬ w.heap.size + 1 = _; omega⟩, b1⟩
theorem cinv0 {a b : List Pt} (hoa : okOp a = true) (hob : okOp b = true) (hbal : sumK a + sumP a = sumK b + sumD b) : CInv a b (units a) (units b) [] := by
  obtain ⟨ua, hsa, _⟩ := okOp_units hoa
  obtain ⟨ub, hsb, _⟩ := okOp_units hob
  refine ⟨by simp [units_nil], ?_, by simp; omega⟩
  have s1 := (src_units hsa).2
  have s2 := (src_units hsb).1
  obtain ⟨t1, t2, t3⟩ := sum_t (okOp_partsB hoa)
  obtain ⟨u1, u2, u3⟩ := sum_t (okOp_partsB hob)
  rw [t1, t2, u1, u3] at hbal
  omega

theorem composeB_f {a b : List Pt} (h : (okOp a && okOp b && (sumK a + sumP a == sumK b + sumD b)) = false) : composeB a b = false ∧ composeT a b = [] := by
  have e : composeB a b = false := by unfold composeB; rw [h]; rfl
  exact ⟨e, by unfold composeT; rw [e]; rfl⟩
theorem compose_small {a b : List Pt} (h0 : SmP a) (h1 : SmP b) : SmP (composeT a b) := by
  unfold composeT
  split
  · rename_i h
    unfold composeB at h
    rw [Bool.and_eq_true] at h
    obtain ⟨_, h2, h3⟩ := okOp_units h.2
    refine ⟨by omega, ?_⟩
    have := signsIn_le h2
    omega
  · exact ⟨by simp, by simp [signsIn]⟩
end Go.Proofs.Ytfpjoncaccbnmaa.low


/-
  Contract of spec.Transform.
-/
namespace Go.Proofs.Ytfpjoncaccbnmaa.low
open Go.RowKit
set_option linter.unusedVariables false

theorem nil2 {w w' : World} (hb : Below w.heap.size w w') : Res2B (encPs []) (encPs []) false w (.returned (.tuple #[.slice none 0 0, .slice none 0 0, .bool false])) w' := by
  obtain ⟨b1, o1⟩ := (nilOwn (encPs []) w' rfl hb.size).blocks
  have e : b1 = [] := by obtain ⟨_, _, ho, hr, he⟩ := o1.ow; obtain ⟨_, hc⟩ := hr; rw [he, hc]; rfl
  subst e
  exact ⟨_, _, [], [], rfl, o1, o1, by simp, hb⟩
theorem xform_f {a b : List Pt} (h : xformOk a b = false) : xformOk a b = false ∧ xformA a b = [] ∧ xformB a b = [] := ⟨h, by unfold xformA; rw [h]; rfl, by unfold xformB; rw [h]; rfl⟩
theorem TT.new {w : World} {A B : Option Addr} {ca cb lo : Nat} {a b : List Pt} {TC TB : TypeId} (hlo : lo ≤ w.heap.size) (ra : RdC w lo (encPs a) (.slice A a.length ca)) (rb : RdC w lo (encPs b) (.slice B b.length cb)) (sa : ∀ p ∈ a, szP_ p) (sb : ∀ p ∈ b, szP_ p) (na : a.length ≤ 1048576) (nb : b.length ≤ 1048576) :
    TT ⟨lo, w.heap.size, w.heap.size + 1, TC, A, ca, a, B, cb, b⟩ (w.heap.size + 1 + 1) (w.heap.size + 1 + 1 + 1) TB (fun q => q = w.heap.size + 1 + 1) (fun q => q = w.heap.size + 1 + 1 + 1) [] [] ((((w.alloc (.cells #[.slice A a.length ca, .int .i64 0, .int .i64 0] TC)).alloc (.cells #[.slice B b.length cb, .int .i64 0, .int .i64 0] TC)).alloc (.cells #[.slice none 0 0, .slice none 0 0, .int .i64 0] TB)).alloc (.cells #[.slice none 0 0, .slice none 0 0, .int .i64 0] TB)) none none (units a) (units b) ∧
    Below lo w ((((w.alloc (.cells #[.slice A a.length ca, .int .i64 0, .int .i64 0] TC)).alloc (.cells #[.slice B b.length cb, .int .i64 0, .int .i64 0] TC)).alloc (.cells #[.slice none 0 0, .slice none 0 0, .int .i64 0] TB)).alloc (.cells #[.slice none 0 0, .slice none 0 0, .int .i64 0] TB)) := by
  obtain ⟨h1, b1⟩ := CB.new (TC := TC) (TB := TB) hlo ra rb sa sb na nb
  have s3 : (((w.alloc (.cells #[.slice A a.length ca, .int .i64 0, .int .i64 0] TC)).alloc (.cells #[.slice B b.length cb, .int .i64 0, .int .i64 0] TC)).alloc (.cells #[.slice none 0 0, .slice none 0 0, .int .i64 0] TB)).heap.size = w.heap.size + 1 + 1 + 1 := by simp
  generalize (((w.alloc (.cells #[.slice A a.length ca, .int .i64 0, .int .i64 0] TC)).alloc (.cells #[.slice B b.length cb, .int .i64 0, .int .i64 0] TC)).alloc (.cells #[.slice none 0 0, .slice none 0 0, .int .i64 0] TB)) = w3 at *
  have hb := Bld.new lo TB w3 (by omega)
  have ba := alloc_below w3 (.cells #[.slice none 0 0, .slice none 0 0, .int .i64 0] TB)
  rw [s3] at hb
  have h2 := h1.past ba
  exact ⟨⟨h2.cs, h2.bd, hb, h2.ox, h2.oy, by show ¬ w.heap.size = _; omega, by show ¬ w.heap.size + 1 = _; omega, fun q e1 e2 => by have e1' : q = w.heap.size + 1 + 1 := e1; have e2' : q = w.heap.size + 1 + 1 + 1 := e2; omega⟩, b1.trans (ba.mono (by omega))⟩

set_option maxRecDepth 1000000 in
set_option maxHeartbeats 6400000 in
theorem specTransform_t (A B : Option Addr) (ca cb : Nat) (a b : List Pt) (w : World) (h : RdC w w.heap.size (encPs a) (.slice A a.length ca)) (h' : RdC w w.heap.size (encPs b) (.slice B b.length cb)) (hs : SmP a) (hs' : SmP b) (hoa : okOp a = true) (hob : okOp b = true) (hbal : sumK a + sumD a = sumK b + sumD b) :
    Calls Try.prog 18 #[.slice A a.length ca, .slice B b.length cb] w (Res2B (encPs (xformA a b)) (encPs (xformB a b)) (xformOk a b) w) := by
  obtain ⟨A_, ca_, eA, hra, _⟩ := parts_rd h
  obtain ⟨rfl, rfl⟩ : A = A_ ∧ ca = ca_ := by injection eA with e1 _ e3; exact ⟨e1, e3⟩
  obtain ⟨B_, cb_, eB, hrb, _⟩ := parts_rd h'
  obtain ⟨rfl, rfl⟩ : B = B_ ∧ cb = cb_ := by injection eB with e1 _ e3; exact ⟨e1, e3⟩
  clear eA eB
  have hlA := hs.1
  have hlB := hs'.1
  have hne : ((sumK a + sumD a) != (sumK b + sumD b)) = false := by simp [hbal]
  have HI := Lib.hid (xinv0 hoa hob hbal)
  have HOA := Lib.hid hoa
  have HOB := Lib.hid hob
  have HBAL := Lib.hid hbal
  clear hbal
  go_enter Try.func18, Try.ntmps18
  go_wp2_with fail
  refine (specOpOk_any A ca a _ hra (by omega) hs.all4).mono ?_
  rintro e w1 ⟨rfl, b1⟩
  rw [hoa]
  go_wp2_with fail
  refine (specOpOk_any B cb b _ (hrb.past b1) (by omega) hs'.all4).mono ?_
  rintro e w2 ⟨rfl, b2⟩
  rw [hob]
  have d2 := b1.trans (b2.mono b1.size)
  go_wp2_with fail
  refine (specOpFrom_any A ca a _ (hra.past d2) (by omega) hs.all4).mono ?_
  rintro e w3 ⟨rfl, b3⟩
  have d3 := d2.trans (b3.mono d2.size)
  go_wp2_with fail
  refine (specOpFrom_any B cb b _ (hrb.past d3) (by omega) hs'.all4).mono ?_
  rintro e w4 ⟨rfl, b4⟩
  have d4 := d3.trans (b4.mono d3.size)
  clear hoa hob b1 b2 d2 b3 d3 b4
  go_wp2
  obtain ⟨htt, bN⟩ := TT.new (TC := 77) (TB := 80) d4.size (h.below d4) (h'.below d4) (okOp_units HOA.out).2.1 (okOp_units HOB.out).2.1 hlA hlB
  have D := d4.trans bN
  have HTT := Lib.hid htt
  clear htt bN hne
  refine trLoop ⟨w.heap.size, w4.heap.size, w4.heap.size + 1, 77, A, ca, a, B, cb, b⟩ rfl (w4.heap.size + 1 + 1) (w4.heap.size + 1 + 1 + 1) w _ _ _ _ _ _ _ _ _ _ _ _ _ _ _ _ _ _ _ _ _ _ _ _ _ _ _ _ _ _ _ _ _ _ _ _ _ _ _ _ _ _ _ _ _ _ _ _ _ _ _ _ _ _ _ _ _ _ _ _ _ _ _ _ _ _ _ _ _ _ _ _ _ _ _ _ _ _ _ _ _ _ _ _ _ _ _ _ _ _ _ _ _ _ _ _ _ _ _ _ _ _ _ _ _ _ _ _ _ _ _ _ _ _ _ _ _ _ _ _ _ _ _ _ _ _ _ _ _ _ _ _ _ _ _ _ _ _ _ ⟨_, _, _, _, _, _, HTT.out, HI.out, D⟩ ?_
  intro act w8 hE
  clear HTT D HI
  unfold TrE at hE
  obtain ⟨u11, hE⟩ := hE
  obtain ⟨u12, hE⟩ := hE
  obtain ⟨u13, hE⟩ := hE
  obtain ⟨u14, hE⟩ := hE
  obtain ⟨u15, hE⟩ := hE
  obtain ⟨u43, hE⟩ := hE
  obtain ⟨u44, hE⟩ := hE
  obtain ⟨u45, hE⟩ := hE
  obtain ⟨u46, hE⟩ := hE
  obtain ⟨u47, hE⟩ := hE
  obtain ⟨u48, hE⟩ := hE
  obtain ⟨u49, hE⟩ := hE
  obtain ⟨u50, hE⟩ := hE
  obtain ⟨u51, hE⟩ := hE
  obtain ⟨u52, hE⟩ := hE
  obtain ⟨u53, hE⟩ := hE
  obtain ⟨u54, hE⟩ := hE
  obtain ⟨u55, hE⟩ := hE
  obtain ⟨u56, hE⟩ := hE
  obtain ⟨u57, hE⟩ := hE
  obtain ⟨u58, hE⟩ := hE
  obtain ⟨u59, hE⟩ := hE
  obtain ⟨u60, hE⟩ := hE
  obtain ⟨u61, hE⟩ := hE
  obtain ⟨u62, hE⟩ := hE
  obtain ⟨u63, hE⟩ := hE
  obtain ⟨u64, hE⟩ := hE
  obtain ⟨u65, hE⟩ := hE
  obtain ⟨u66, hE⟩ := hE
  obtain ⟨u67, hE⟩ := hE
  obtain ⟨u68, hE⟩ := hE
  obtain ⟨u69, hE⟩ := hE
  obtain ⟨u70, hE⟩ := hE
  obtain ⟨u71, hE⟩ := hE
  obtain ⟨u72, hE⟩ := hE
  obtain ⟨u73, hE⟩ := hE
  obtain ⟨u74, hE⟩ := hE
  obtain ⟨u75, hE⟩ := hE
  obtain ⟨u76, hE⟩ := hE
  obtain ⟨u77, hE⟩ := hE
  obtain ⟨u78, hE⟩ := hE
  obtain ⟨u79, hE⟩ := hE
  obtain ⟨u80, hE⟩ := hE
  obtain ⟨u81, hE⟩ := hE
  obtain ⟨u82, hE⟩ := hE
  obtain ⟨u83, hE⟩ := hE
  obtain ⟨u84, hE⟩ := hE
  obtain ⟨u85, hE⟩ := hE
  obtain ⟨u86, hE⟩ := hE
  obtain ⟨u87, hE⟩ := hE
  obtain ⟨u88, hE⟩ := hE
  obtain ⟨u89, hE⟩ := hE
  obtain ⟨u90, hE⟩ := hE
  obtain ⟨u91, hE⟩ := hE
  obtain ⟨u92, hE⟩ := hE
  obtain ⟨u93, hE⟩ := hE
  obtain ⟨u94, hE⟩ := hE
  obtain ⟨u95, hE⟩ := hE
  obtain ⟨u96, hE⟩ := hE
  obtain ⟨u97, hE⟩ := hE
  obtain ⟨u98, hE⟩ := hE
  obtain ⟨u99, hE⟩ := hE
  obtain ⟨u100, hE⟩ := hE
  obtain ⟨u101, hE⟩ := hE
  obtain ⟨u102, hE⟩ := hE
  obtain ⟨u103, hE⟩ := hE
  obtain ⟨u104, hE⟩ := hE
  obtain ⟨u105, hE⟩ := hE
  obtain ⟨u106, hE⟩ := hE
  obtain ⟨u107, hE⟩ := hE
  obtain ⟨u108, hE⟩ := hE
  obtain ⟨u109, hE⟩ := hE
  obtain ⟨u110, hE⟩ := hE
  obtain ⟨u111, hE⟩ := hE
  obtain ⟨u112, hE⟩ := hE
  obtain ⟨u113, hE⟩ := hE
  obtain ⟨u114, hE⟩ := hE
  obtain ⟨u115, hE⟩ := hE
  obtain ⟨u116, hE⟩ := hE
  obtain ⟨u117, hE⟩ := hE
  obtain ⟨u118, hE⟩ := hE
  obtain ⟨u119, hE⟩ := hE
  obtain ⟨u120, hE⟩ := hE
  obtain ⟨u121, hE⟩ := hE
  obtain ⟨u122, hE⟩ := hE
  obtain ⟨u123, hE⟩ := hE
  obtain ⟨u124, hE⟩ := hE
  obtain ⟨u125, hE⟩ := hE
  obtain ⟨u126, hE⟩ := hE
  obtain ⟨⟨O, P, L, M, ht, hi, D⟩, rfl⟩ := hE
  have HT := Lib.hid ht
  have e1 : doneN (foldN L) = xfA a b := by
    have h1 := hi.eq1
    rw [xf_nil, List.append_nil] at h1
    unfold xfA
    rw [foldN_units ht.b1.sz, h1]
  have e2 : doneN (foldN M) = xfB a b := by
    have h1 := hi.eq2
    rw [xf_nil, List.append_nil] at h1
    unfold xfB
    rw [foldN_units ht.b2.sz, h1]
  have hs1 : SmP (xfA a b) := by rw [← e1]; exact built_small ht.b1.sz (by have := hi.len; omega)
  have hs2 : SmP (xfB a b) := by rw [← e2]; exact built_small ht.b2.sz (by have := hi.len; omega)
  have HE1 := Lib.hid e1
  have HE2 := Lib.hid e2
  have HB2 := Lib.hid (show xformOk a b = (okOp (xfA a b) && okOp (xfB a b)) by unfold xformOk; rw [HOA.out, HOB.out, HBAL.out]; simp)
  clear ht hi e1 e2
  go_wp2_with fail
  refine (specDoneB O _ _ L _ HT.out.b1).mono ?_
  rintro e w9 ⟨v9, k9, rfl, o9, _, bl9, gr9⟩
  obtain ⟨b2', ap⟩ := HT.out.b2.apart gr9 (fun q hq ho => HT.out.dis q ho hq)
  rw [HE1.out] at o9
  replace D := D.trans bl9
  have HB9 := Lib.hid b2'
  have HAP := Lib.hid ap
  obtain ⟨A9, c9, rfl⟩ := sliceP o9.read
  have H9 := Lib.hid o9
  clear o9 bl9 gr9 b2' ap HE1
  have l1 := hs1.1
  have l2 := hs2.1
  generalize hUA : xfA a b = UA at *
  generalize hUB : xfB a b = UB at *
  have HUA := Lib.hid hUA
  have HUB := Lib.hid hUB
  clear hUA hUB
  go_wp2_with fail
  refine (specDoneB P _ _ M _ HB9.out).mono ?_
  rintro e w10 ⟨v10, k10, rfl, o10, in10, bl10, gr10⟩
  rw [HE2.out] at o10
  replace D := D.trans bl10
  have H9' := Lib.hid (H9.out.grew2 gr10 (fun x hx hp => HAP.out x hp hx))
  have HDS := Lib.hid (show ∀ x ∈ k9, x ∉ k10 from fun x hx hx' => by
    rcases in10 x hx' with h1 | h1
    · exact HAP.out x h1 hx
    · have := OwC.lt _ _ _ H9.out.ow x hx; omega)
  obtain ⟨A10, c10, rfl, r10, _⟩ := parts_rd o10.read
  have H10 := Lib.hid o10
  have hz10 := gr10.size
  obtain ⟨A9_, c9_, e9, r9, _⟩ := parts_rd H9'.out.read
  obtain ⟨rfl, rfl⟩ : A9 = A9_ ∧ c9 = c9_ := by injection e9 with q1 _ q3; exact ⟨q1, q3⟩
  clear o10 bl10 gr10 in10 H9 HAP HB9 HE2 e9 HT
  go_wp2_with fail
  refine (specOpOk_any A9 c9 UA _ r9 (by omega) hs1.all4).mono ?_
  rintro e w11 ⟨rfl, b11⟩
  replace D := D.trans (b11.mono D.size)
  cases ho1 : okOp UA
  · have HN := Lib.hid (xform_f (a := a) (b := b) (by rw [HB2.out, ho1]; rfl))
    clear HB2
    go_wp2
    go_ret3
    rw [HN.out.1, HN.out.2.1, HN.out.2.2]
    exact nil2 D
  · go_wp2_with fail
    refine (specOpOk_any A10 c10 UB _ (r10.past b11) (by omega) hs2.all4).mono ?_
    rintro e w12 ⟨rfl, b12⟩
    replace D := D.trans (b12.mono D.size)
    have HP9 := Lib.hid ((H9'.out.past b11).past b12)
    have HP10 := Lib.hid ((H10.out.past b11).past b12)
    have hzz := Nat.le_trans b11.size b12.size
    clear H9' H10 r9 r10 b11 b12
    cases ho2 : okOp UB
    · have HN := Lib.hid (xform_f (a := a) (b := b) (by rw [HB2.out, ho1, ho2]; rfl))
      clear HB2
      go_wp2
      go_ret3
      rw [HN.out.1, HN.out.2.1, HN.out.2.2]
      exact nil2 D
    · have HN := Lib.hid (show xformOk a b = true ∧ xformA a b = UA ∧ xformB a b = UB by
        have e : xformOk a b = true := by rw [HB2.out, ho1, ho2]; rfl
        exact ⟨e, by unfold xformA; rw [if_pos e, HUA.out], by unfold xformB; rw [if_pos e, HUB.out]⟩)
      clear HB2
      go_wp2
      go_ret3
      rw [HN.out.1, HN.out.2.1, HN.out.2.2]
      exact ⟨_, _, k9, k10, rfl, HP9.out.upto (Nat.le_trans hz10 hzz) (Nat.le_refl _), HP10.out.upto hzz (Nat.le_refl _), HDS.out, D⟩

set_option maxHeartbeats 1600000 in
theorem specTransform_d (v v' : Value) (a b : List Pt) (w : World) (h : RdC w w.heap.size (encPs a) v) (h' : RdC w w.heap.size (encPs b) v') (hs : SmP a) (hs' : SmP b) : Calls Try.prog 18 #[v, v'] w (Res2B (encPs (xformA a b)) (encPs (xformB a b)) (xformOk a b) w) := by
  obtain ⟨A, ca, rfl, hra, _⟩ := parts_rd h
  obtain ⟨B, cb, rfl, hrb, _⟩ := parts_rd h'
  have hlA := hs.1
  have hlB := hs'.1
  cases hoa : okOp a
  · have HN := Lib.hid (xform_f (a := a) (b := b) (by unfold xformOk; rw [hoa]; rfl))
    go_enter Try.func18, Try.ntmps18
    go_wp2_with fail
    refine (specOpOk_any A ca a _ hra (by omega) hs.all4).mono ?_
    rintro e w1 ⟨rfl, b1⟩
    rw [hoa]
    go_wp2
    go_ret3
    rw [HN.out.1, HN.out.2.1, HN.out.2.2]
    exact nil2 b1
  cases hob : okOp b
  · have HN := Lib.hid (xform_f (a := a) (b := b) (by unfold xformOk; rw [hoa, hob]; rfl))
    go_enter Try.func18, Try.ntmps18
    go_wp2_with fail
    refine (specOpOk_any A ca a _ hra (by omega) hs.all4).mono ?_
    rintro e w1 ⟨rfl, b1⟩
    rw [hoa]
    go_wp2_with fail
    refine (specOpOk_any B cb b _ (hrb.past b1) (by omega) hs'.all4).mono ?_
    rintro e w2 ⟨rfl, b2⟩
    rw [hob]
    have d2 := b1.trans (b2.mono b1.size)
    go_wp2
    go_ret3
    rw [HN.out.1, HN.out.2.1, HN.out.2.2]
    exact nil2 d2
  by_cases hbal : sumK a + sumD a = sumK b + sumD b
  · exact specTransform_t A B ca cb a b w h h' hs hs' hoa hob hbal
  · have hne : ((sumK a + sumD a) != (sumK b + sumD b)) = true := by simp [hbal]
    have HN := Lib.hid (xform_f (a := a) (b := b) (by unfold xformOk; rw [hoa, hob]; simp [hbal]))
    clear hbal
    go_enter Try.func18, Try.ntmps18
    go_wp2_with fail
    refine (specOpOk_any A ca a _ hra (by omega) hs.all4).mono ?_
    rintro e w1 ⟨rfl, b1⟩
    rw [hoa]
    go_wp2_with fail
    refine (specOpOk_any B cb b _ (hrb.past b1) (by omega) hs'.all4).mono ?_
    rintro e w2 ⟨rfl, b2⟩
    rw [hob]
    have d2 := b1.trans (b2.mono b1.size)
    go_wp2_with fail
    refine (specOpFrom_any A ca a _ (hra.past d2) (by omega) hs.all4).mono ?_
    rintro e w3 ⟨rfl, b3⟩
    have d3 := d2.trans (b3.mono d2.size)
    go_wp2_with fail
    refine (specOpFrom_any B cb b _ (hrb.past d3) (by omega) hs'.all4).mono ?_
    rintro e w4 ⟨rfl, b4⟩
    have d4 := d3.trans (b4.mono d3.size)
    go_wp2
    go_ret3
    rw [HN.out.1, HN.out.2.1, HN.out.2.2]
    exact nil2 d4
end Go.Proofs.Ytfpjoncaccbnmaa.low


/-
  Contracts of the program's builder: endRun, drop, put, done, keep.
-/
namespace Go.Proofs.Ytfpjoncaccbnmaa.low
open Go.RowKit
set_option linter.unusedVariables false

set_option maxRecDepth 100000 in
set_option maxHeartbeats 3200000 in
theorem implFlush_f (S : Nat → Prop) (lo g : Nat) (ps : List Pt) (put : List Int) (d : Int) (w : World) (hb : BAtS S lo g 98 w ps put d) (hS : ∀ b, w.heap.size ≤ b → S b) (hl : ps.length ≤ 4294967296) (hp : put.length ≤ 4294967296) :
    Calls Try.prog 92 #[.pointer (some ⟨g, 0, none⟩)] w (FlushedS S lo g 98 w (ps ++ putL put ++ dropL d)) := by
  obtain ⟨i0, hi0, hz0, hz1, hz2⟩ := info_parts part_info
  obtain ⟨v, u, us, hx, ha, hos⟩ := hb
  have HS := Lib.hid hS
  have HOS := Lib.hid hos
  clear hS hos
  have ha0 := ha.init hx.len
  obtain ⟨A, c, rfl⟩ := own_form (ha.last hx.len)
  have c0 := hx.cell0
  have c1 := hx.cell1
  have c2 := hx.cell2
  have f0 := hx.free 0
  have f1 := hx.free 1
  have f2 := hx.free 2
  have HX := Lib.hid hx
  have HA := Lib.hid ha
  have HA0 := Lib.hid ha0
  clear hx ha ha0
  by_cases hput : put.length = 0
  · have e1 : putL put = [] := by simp [putL, hput]
    rw [e1, List.append_nil]
    by_cases hd : 0 < d
    · have e2 : dropL d = [⟨3, d, []⟩] := by simp [dropL, hd]
      rw [e2]
      go_enter Try.func92, Try.ntmps92
      go_wp2_with fail
      have lg := HX.out.lt
      have hlo : lo ≤ w.heap.size := Nat.le_trans HX.out.low (Nat.le_of_lt lg)
      have hne := own_far HX.out.row HX.out.box (by decide)
      go_region_law ((refine step_append_lies _ (by rfl) (.tmp 31) (.tmp 37) 24 (by rfl) lo 66 i0 _ 3 40 Try.underlying24 hi0 hz0 hz1 hz2 rfl (by omega) v ps.length (cellsOf ps us) (by rfl) ((HX.out.row.alloc _).drew) ⟨w.heap.size, 0, none⟩ 1 1 [.int .i64 3, .int .i64 d, .slice none 0 0] (by rfl) (by rfl) (World.news_of_block (cs := #[.int .i64 3, .int .i64 d, .slice none 0 0]) (t := 66) (fr := (0, 0)) (heap_alloc_new w _)) (by simp [Value.oneCell']) (by omega) (by unfold maxLen; omega) (by omega) (by simp; omega) (w.heap.size + 1) (by simp) ?_; intro gg cap w1 hown1 hgrow hat hlt; have hf := free_grown (o := 0) HX.out.box (below_made w _) hgrow hne; have hf1 := free_grown (o := 1) HX.out.box (below_made w _) hgrow hne; have hf2 := free_grown (o := 2) HX.out.box (below_made w _) hgrow hne; have hc : w1.cell? ⟨g, 0, none⟩ = some v := cell_grown 0 HX.out.box (below_made w _) hgrow hne; have hc1 : w1.cell? ⟨g, 1, none⟩ = some (.slice A put.length c) := cell_grown 1 HX.out.box (below_made w _) hgrow hne; have hc2 : w1.cell? ⟨g, 2, none⟩ = some (.int .i64 d) := cell_grown 2 HX.out.box (below_made w _) hgrow hne))
      all_goals
        obtain ⟨hx2, ha2, b2⟩ := Box.push (p := ⟨3, d, []⟩) HX.out (by decide) (by decide) (Apart.bare 3 d HA0.out) (below_made w _) hown1 hgrow
        have HO2 := Lib.hid (HOS.out.init.push (n := ps.length + 1) (cap := cap) nil_own hat (HS.out _ (by omega)))
        have HR2 := Lib.hid (push_fr HOS.out.init (below_made w _) hgrow (.slice (some ⟨gg, 0, none⟩) (ps.length + 1) cap))
        have HX2 := Lib.hid hx2
        have HA2 := Lib.hid ha2
        have HB2 := Lib.hid b2
        clear hx2 ha2 b2
        go_wp2
        go_end0
        obtain ⟨r1, r2, r3⟩ := HX2.out.clearS (by decide) (by decide) HA2.out HO2.out
        exact ⟨rfl, r1, HB2.out.trans r2, HR2.out.trans r3⟩

    · have e2 : dropL d = [] := by simp [dropL]; omega
      rw [e2, List.append_nil]
      go_enter Try.func92, Try.ntmps92
      go_wp2_with fail
      go_end0
      obtain ⟨r1, r2, r3⟩ := HX.out.clearS (by decide) (by decide) HA0.out HOS.out.init
      exact ⟨rfl, r1, r2, r3⟩
  · have hput' : (0 : Int) < (put.length : Int) := by omega
    have e1 : putL put = [⟨2, 0, put⟩] := by simp [putL, hput]
    rw [e1]
    by_cases hd : 0 < d
    · have e2 : dropL d = [⟨3, d, []⟩] := by simp [dropL, hd]
      rw [e2]
      generalize hQ : ps ++ [⟨2, 0, put⟩] ++ [⟨3, d, []⟩] = Q
      have HQ := Lib.hid hQ
      clear hQ
      go_enter Try.func92, Try.ntmps92
      go_wp2_with fail
      have lg := HX.out.lt
      have hlo : lo ≤ w.heap.size := Nat.le_trans HX.out.low (Nat.le_of_lt lg)
      have hne := own_far HX.out.row HX.out.box (by decide)
      go_region_law ((refine step_append_lies _ (by rfl) (.tmp 12) (.tmp 18) 24 (by rfl) lo 66 i0 _ 3 40 Try.underlying24 hi0 hz0 hz1 hz2 rfl (by omega) v ps.length (cellsOf ps us) (by rfl) ((HX.out.row.alloc _).drew) ⟨w.heap.size, 0, none⟩ 1 1 [.int .i64 2, .int .i64 0, .slice A put.length c] (by rfl) (by rfl) (World.news_of_block (cs := #[.int .i64 2, .int .i64 0, .slice A put.length c]) (t := 66) (fr := (0, 0)) (heap_alloc_new w _)) (by simp [Value.oneCell']) (by omega) (by unfold maxLen; omega) (by omega) (by simp; omega) (w.heap.size + 1) (by simp) ?_; intro gg cap w1 hown1 hgrow hat hlt; have hf := free_grown (o := 0) HX.out.box (below_made w _) hgrow hne; have hf1 := free_grown (o := 1) HX.out.box (below_made w _) hgrow hne; have hf2 := free_grown (o := 2) HX.out.box (below_made w _) hgrow hne; have hc : w1.cell? ⟨g, 0, none⟩ = some v := cell_grown 0 HX.out.box (below_made w _) hgrow hne; have hc1 : w1.cell? ⟨g, 1, none⟩ = some (.slice A put.length c) := cell_grown 1 HX.out.box (below_made w _) hgrow hne; have hc2 : w1.cell? ⟨g, 2, none⟩ = some (.int .i64 d) := cell_grown 2 HX.out.box (below_made w _) hgrow hne))
      all_goals

        obtain ⟨hx1, ha1, b1⟩ := Box.push (p := ⟨2, 0, put⟩) HX.out (by decide) (by decide) HA.out (below_made w _) hown1 hgrow
        have HO1 := Lib.hid (HOS.out.init.push (n := ps.length + 1) (cap := cap) HOS.out.last hat (HS.out _ (by omega)))
        have HR1 := Lib.hid (push_fr HOS.out.init (below_made w _) hgrow (.slice (some ⟨gg, 0, none⟩) (ps.length + 1) cap))
        clear hown1 hgrow hat hlt hlo hne lg c0 c1 c2 f0 f1 f2
        have HX1 := Lib.hid hx1
        have HA1 := Lib.hid ha1
        have HB1 := Lib.hid b1
        clear hx1 ha1 b1
        go_wp2_with fail
        clear hf hf1 hf2 hc hc1 hc2
        generalize (Value.slice (some ⟨gg, 0, none⟩) (ps.length + 1) cap) = v1 at *
        generalize w1.setCell ⟨g, 0, none⟩ v1 = W1 at *
        have c0 := HX1.out.cell0
        have c1 := HX1.out.cell1
        have c2 := HX1.out.cell2
        have f0 := HX1.out.free 0
        have f1 := HX1.out.free 1
        have f2 := HX1.out.free 2
        generalize hps : ps ++ [⟨2, 0, put⟩] = ps1 at *
        have hl1 : ps1.length ≤ 4294967297 := by rw [← hps]; simp; omega
        clear hps
        generalize us ++ [Value.slice A put.length c] = us1 at *
        have lg := HX1.out.lt
        have hlo : lo ≤ W1.heap.size := Nat.le_trans HX1.out.low (Nat.le_of_lt lg)
        have hne := own_far HX1.out.row HX1.out.box (by decide)
        go_region_law ((refine step_append_lies _ (by rfl) (.tmp 31) (.tmp 37) 24 (by rfl) lo 66 i0 _ 3 40 Try.underlying24 hi0 hz0 hz1 hz2 rfl (by omega) v1 ps1.length (cellsOf ps1 us1) (by rfl) ((HX1.out.row.alloc _).drew) ⟨W1.heap.size, 0, none⟩ 1 1 [.int .i64 3, .int .i64 d, .slice none 0 0] (by rfl) (by rfl) (World.news_of_block (cs := #[.int .i64 3, .int .i64 d, .slice none 0 0]) (t := 66) (fr := (0, 0)) (heap_alloc_new W1 _)) (by simp [Value.oneCell']) (by omega) (by unfold maxLen; omega) (by omega) (by simp; omega) (W1.heap.size + 1) (by simp) ?_; intro gg cap w1 hown1 hgrow hat hlt; have hf := free_grown (o := 0) HX1.out.box (below_made W1 _) hgrow hne; have hf1 := free_grown (o := 1) HX1.out.box (below_made W1 _) hgrow hne; have hf2 := free_grown (o := 2) HX1.out.box (below_made W1 _) hgrow hne; have hc : w1.cell? ⟨g, 0, none⟩ = some v1 := cell_grown 0 HX1.out.box (below_made W1 _) hgrow hne; have hc1 : w1.cell? ⟨g, 1, none⟩ = some (.slice A put.length c) := cell_grown 1 HX1.out.box (below_made W1 _) hgrow hne; have hc2 : w1.cell? ⟨g, 2, none⟩ = some (.int .i64 d) := cell_grown 2 HX1.out.box (below_made W1 _) hgrow hne))
        all_goals
          obtain ⟨hx2, ha2, b2⟩ := Box.push (p := ⟨3, d, []⟩) HX1.out (by decide) (by decide) (Apart.bare 3 d HA1.out) (below_made W1 _) hown1 hgrow
          have HO2 := Lib.hid (HO1.out.push (n := ps1.length + 1) (cap := cap) nil_own hat (HS.out _ (by have := HR1.out.size; omega)))
          have HR2 := Lib.hid (push_fr HO1.out (below_made W1 _) hgrow (.slice (some ⟨gg, 0, none⟩) (ps1.length + 1) cap))
          have HX2 := Lib.hid hx2
          have HA2 := Lib.hid ha2
          have HB2 := Lib.hid b2
          clear hx2 ha2 b2
          go_wp2
          go_end0
          obtain ⟨r1, r2, r3⟩ := HX2.out.clearS (by decide) (by decide) HA2.out HO2.out
          exact ⟨rfl, by rw [← HQ.out]; exact r1, HB1.out.trans (HB2.out.trans r2), HR1.out.trans (HR2.out.trans r3)⟩

    · have e2 : dropL d = [] := by simp [dropL]; omega
      rw [e2, List.append_nil]
      go_enter Try.func92, Try.ntmps92
      go_wp2_with fail
      have lg := HX.out.lt
      have hlo : lo ≤ w.heap.size := Nat.le_trans HX.out.low (Nat.le_of_lt lg)
      have hne := own_far HX.out.row HX.out.box (by decide)
      go_region_law ((refine step_append_lies _ (by rfl) (.tmp 12) (.tmp 18) 24 (by rfl) lo 66 i0 _ 3 40 Try.underlying24 hi0 hz0 hz1 hz2 rfl (by omega) v ps.length (cellsOf ps us) (by rfl) ((HX.out.row.alloc _).drew) ⟨w.heap.size, 0, none⟩ 1 1 [.int .i64 2, .int .i64 0, .slice A put.length c] (by rfl) (by rfl) (World.news_of_block (cs := #[.int .i64 2, .int .i64 0, .slice A put.length c]) (t := 66) (fr := (0, 0)) (heap_alloc_new w _)) (by simp [Value.oneCell']) (by omega) (by unfold maxLen; omega) (by omega) (by simp; omega) (w.heap.size + 1) (by simp) ?_; intro gg cap w1 hown1 hgrow hat hlt; have hf := free_grown (o := 0) HX.out.box (below_made w _) hgrow hne; have hf1 := free_grown (o := 1) HX.out.box (below_made w _) hgrow hne; have hf2 := free_grown (o := 2) HX.out.box (below_made w _) hgrow hne; have hc : w1.cell? ⟨g, 0, none⟩ = some v := cell_grown 0 HX.out.box (below_made w _) hgrow hne; have hc1 : w1.cell? ⟨g, 1, none⟩ = some (.slice A put.length c) := cell_grown 1 HX.out.box (below_made w _) hgrow hne; have hc2 : w1.cell? ⟨g, 2, none⟩ = some (.int .i64 d) := cell_grown 2 HX.out.box (below_made w _) hgrow hne))
      all_goals

        obtain ⟨hx1, ha1, b1⟩ := Box.push (p := ⟨2, 0, put⟩) HX.out (by decide) (by decide) HA.out (below_made w _) hown1 hgrow
        have HO2 := Lib.hid (HOS.out.init.push (n := ps.length + 1) (cap := cap) HOS.out.last hat (HS.out _ (by omega)))
        have HR2 := Lib.hid (push_fr HOS.out.init (below_made w _) hgrow (.slice (some ⟨gg, 0, none⟩) (ps.length + 1) cap))
        have HX2 := Lib.hid hx1
        have HA2 := Lib.hid ha1
        have HB2 := Lib.hid b1
        clear hx1 ha1 b1
        go_wp2
        go_end0
        obtain ⟨r1, r2, r3⟩ := HX2.out.clearS (by decide) (by decide) HA2.out HO2.out
        exact ⟨rfl, r1, HB2.out.trans r2, HR2.out.trans r3⟩

theorem implFlush_any (lo g : Nat) (ps : List Pt) (put : List Int) (d : Int) (w : World) (hb : BAt lo g 98 w ps put d) (hl : ps.length ≤ 4294967296) (hp : put.length ≤ 4294967296) :
    Calls Try.prog 92 #[.pointer (some ⟨g, 0, none⟩)] w (Flushed lo g 98 w (ps ++ putL put ++ dropL d)) :=
  (implFlush_f (fun _ => True) lo g ps put d w hb.all (fun _ _ => trivial) hl hp).mono fun e w' h => h.any

set_option maxHeartbeats 1600000 in
theorem implDrop_f (S : Nat → Prop) (lo g : Nat) (ps : List Pt) (put : List Int) (d n : Int) (w : World) (hb : BAtS S lo g 98 w ps put d) (hS : ∀ b, w.heap.size ≤ b → S b) (h0 : 0 ≤ d) (h1 : d ≤ 4611686018427387904) (h2 : 0 ≤ n) (h3 : n ≤ 1048576) :
    Calls Try.prog 95 #[.pointer (some ⟨g, 0, none⟩), .int .i64 n] w (BuiltS S lo g 98 w ps put (d + n)) := by
  obtain ⟨v, u, us, hx, ha, hos⟩ := hb
  have HS := Lib.hid hS
  have HOS := Lib.hid hos
  clear hS hos
  have c2 := hx.cell2
  have f2 := hx.free 2
  have HX := Lib.hid hx
  have HA := Lib.hid ha
  clear hx ha
  go_enter Try.func95, Try.ntmps95
  go_wp2
  go_end0
  obtain ⟨r1, r2, r3⟩ := HX.out.dropS (d' := d + n) (by decide) (by decide) HA.out HOS.out
  exact ⟨rfl, r1, r2, r3⟩

set_option maxHeartbeats 1600000 in
theorem implPut_f (S : Nat → Prop) (lo g : Nat) (ps : List Pt) (put : List Int) (d : Int) (A : Option Addr) (c : Nat) (zs : List Int) (w : World) (hb : BAtS S lo g 98 w ps put d) (hS : ∀ b, w.heap.size ≤ b → S b) (hr : Row (Value.int .i64) w w.heap.size A zs) (hp : put.length ≤ 4294967296) (hz : zs.length ≤ 4294967296) :
    Calls Try.prog 94 #[.pointer (some ⟨g, 0, none⟩), .slice A zs.length c] w (BuiltS S lo g 98 w ps (put ++ zs) d) := by
  obtain ⟨i0, hi0, hz0, hz1, hz2⟩ := info_parts ints_info
  obtain ⟨v, u, us, hx, ha, hos⟩ := hb
  have HS := Lib.hid hS
  have HOS := Lib.hid hos
  clear hS hos
  obtain ⟨Au, cu, rfl⟩ := own_form (ha.last hx.len)
  simp only at hx ha
  have c1 := hx.cell1
  have f1 := hx.free 1
  have ho := Lib.hid (ha.last hx.len)
  have hlo : lo ≤ w.heap.size := Nat.le_trans hx.low (Nat.le_of_lt hx.lt)
  have HX := Lib.hid hx
  have HA := Lib.hid ha
  clear hx ha
  by_cases hn : 0 < zs.length
  · obtain ⟨ad, rfl, hbk, hcs⟩ := hr hn
    have hcs' : ∀ j x, (zs.map (Value.int .i64))[j]? = some x → w.cell? (ad.add j) = some x := fun j x hx => by
      rw [List.getElem?_map] at hx
      obtain ⟨z, hz, rfl⟩ := Option.map_eq_some_iff.1 hx
      exact hcs j z hz
    have HC := Lib.hid hcs'
    clear hcs hcs' hr
    have hug := own_far ho.out HX.out.box (by decide)
    go_enter Try.func94, Try.ntmps94
    go_wp2_with (at_builtin; refine wpList_append_lies _ rfl (.tmp 8) (.tmp 9) 23 rfl lo 3 i0 (.int .i64 0) 1 8 Try.underlying23 hi0 hz0 hz1 hz2 rfl (by decide) (.slice Au put.length cu) put.length (put.map (Value.int .i64)) rfl ho.out ad zs.length c (zs.map (Value.int .i64)) rfl (by simp) HC.out (by simp [Value.oneCell']) (by omega) (by unfold maxLen; omega) (by omega) hlo w.heap.size rfl ?_; intro gg cap w1 hown1 hgrow hat hlt; have hf := free_grown (o := 1) HX.out.box (Below.refl _ _) hgrow hug; have hc : w1.cell? ⟨g, 1, none⟩ = some (.slice Au put.length cu) := cell_grown 1 HX.out.box (Below.refl _ _) hgrow hug)
    go_end0
    obtain ⟨r1, r2, r3⟩ := Box.moreS (put' := put ++ zs) HX.out (by decide) (by decide) HA.out (by simpa using hown1) hgrow (hat.elim (fun e => .inl (by rw [e]; rfl)) (fun e => .inr (by rw [← e]; rfl))) HOS.out (HS.out _ (Nat.le_refl _))
    exact ⟨rfl, r1, r2, r3⟩
  · have e0 : zs = [] := List.eq_nil_of_length_eq_zero (by omega)
    subst e0
    rw [List.append_nil]
    go_enter Try.func94, Try.ntmps94
    go_wp2_with (at_builtin; refine wpList_append_zero rfl (.tmp 8) (.tmp 9) 23 rfl lo 3 i0 1 Try.underlying23 hi0 (.slice Au put.length cu) put.length (put.map (Value.int .i64)) rfl ho.out A c rfl ?_)
    go_end0
    obtain ⟨r1, r2, r3⟩ := Box.moreS (put' := put) HX.out (by decide) (by decide) HA.out ho.out ⟨rfl, rfl, rfl, Nat.le_refl _, fun _ _ _ => rfl⟩ (.inl rfl) HOS.out (HS.out _ (Nat.le_refl _))
    exact ⟨rfl, r1, r2, r3⟩

theorem implDrop_any (lo g : Nat) (ps : List Pt) (put : List Int) (d n : Int) (w : World) (hb : BAt lo g 98 w ps put d) (h0 : 0 ≤ d) (h1 : d ≤ 4611686018427387904) (h2 : 0 ≤ n) (h3 : n ≤ 1048576) :
    Calls Try.prog 95 #[.pointer (some ⟨g, 0, none⟩), .int .i64 n] w (Built lo g 98 w ps put (d + n)) :=
  (implDrop_f (fun _ => True) lo g ps put d n w hb.all (fun _ _ => trivial) h0 h1 h2 h3).mono fun e w' h => h.any

theorem implPut_any (lo g : Nat) (ps : List Pt) (put : List Int) (d : Int) (A : Option Addr) (c : Nat) (zs : List Int) (w : World) (hb : BAt lo g 98 w ps put d) (hr : Row (Value.int .i64) w w.heap.size A zs) (hp : put.length ≤ 4294967296) (hz : zs.length ≤ 4294967296) :
    Calls Try.prog 94 #[.pointer (some ⟨g, 0, none⟩), .slice A zs.length c] w (Built lo g 98 w ps (put ++ zs) d) :=
  (implPut_f (fun _ => True) lo g ps put d A c zs w hb.all (fun _ _ => trivial) hr hp hz).mono fun e w' h => h.any

set_option maxHeartbeats 1600000 in
theorem implDone_f (S : Nat → Prop) (lo g : Nat) (ps : List Pt) (put : List Int) (d : Int) (w : World) (hb : BAtS S lo g 98 w ps put d) (hS : ∀ b, w.heap.size ≤ b → S b) (hl : ps.length ≤ 4294967296) (hp : put.length ≤ 4294967296) :
    Calls Try.prog 68 #[.pointer (some ⟨g, 0, none⟩)] w (GoneS S lo (ps ++ putL put ++ dropL d) w) := by
  go_enter Try.func68, Try.ntmps68
  go_wp2_with fail
  refine (implFlush_f S lo g ps put d w hb hS hl hp).mono ?_
  rintro e w1 ⟨rfl, ⟨v, us, hx, ha, hos⟩, b1, fr1⟩
  have HS := Lib.hid hS
  have HOS := Lib.hid hos
  have HR := Lib.hid fr1
  clear hS hos fr1
  obtain ⟨Av, cv, rfl⟩ := own_form hx.row
  have c0 := hx.cell0
  have HX := Lib.hid hx
  have HA := Lib.hid ha
  clear hx ha
  generalize ps ++ putL put ++ dropL d = q at *
  go_wp2
  go_ret
  exact ⟨_, us, rfl, HX.out.parts HA.out, b1, HR.out, HX.out.row, HX.out.len, HOS.out.2.1, HOS.out.2.2⟩

set_option maxRecDepth 100000 in
set_option maxHeartbeats 3200000 in
theorem implKeep_f (S : Nat → Prop) (lo g : Nat) (ps : List Pt) (put : List Int) (d n : Int) (w : World) (hb : BAtS S lo g 98 w ps put d) (hS : ∀ b, w.heap.size ≤ b → S b) (hl : ps.length ≤ 4294967296) (hp : put.length ≤ 4294967296) (hn : ¬ n = 0) (hn0 : 0 ≤ n) (hn1 : n ≤ 1048576)
    (hq : ∀ p ∈ ps ++ putL put ++ dropL d, 0 ≤ p.n ∧ p.n ≤ 4611686018427387904) (hql : (ps ++ putL put ++ dropL d).length ≤ 4294967298) :
    Calls Try.prog 93 #[.pointer (some ⟨g, 0, none⟩), .int .i64 n] w (FlushedS S lo g 98 w (keepTo (ps ++ putL put ++ dropL d) n)) := by
  obtain ⟨i0, hi0, hz0, hz1, hz2⟩ := info_parts part_info
  go_enter Try.func93, Try.ntmps93
  go_wp2_with fail
  refine (implFlush_f S lo g ps put d w hb hS hl hp).mono ?_
  rintro e w1 ⟨rfl, ⟨v, us, hx, ha, hos⟩, b1, fr1⟩
  have HS := Lib.hid hS
  have HOS := Lib.hid hos
  have HR := Lib.hid fr1
  clear hS hos fr1
  generalize ps ++ putL put ++ dropL d = q at *
  have c0 := hx.cell0
  have f0 := hx.free 0
  have hne := own_far hx.row hx.box (by decide)
  have hlo : lo ≤ w1.heap.size := Nat.le_trans hx.low (Nat.le_of_lt hx.lt)
  rcases q.eq_nil_or_concat with rfl | ⟨r, p, rfl⟩
  · obtain ⟨Av, cv, rfl⟩ := own_form hx.row
    have HX := Lib.hid hx
    have HA := Lib.hid ha
    clear hx ha
    go_wp2_with (at_builtin; refine wpList_append_lies _ rfl (.tmp 44) (.tmp 47) 24 rfl lo 66 i0 _ 3 40 Try.underlying24 hi0 hz0 hz1 hz2 rfl (by omega) (.slice Av 0 cv) 0 (cellsOf [] us) rfl (HX.out.row.alloc _) ⟨w1.heap.size, 0, none⟩ 1 1 [.int .i64 1, .int .i64 n, .slice none 0 0] rfl rfl (World.news_of_block (cs := #[.int .i64 1, .int .i64 n, .slice none 0 0]) (t := 66) (fr := (0, 0)) (heap_alloc_new w1 _)) (by simp [Value.oneCell']) (by omega) (by unfold maxLen; omega) (by omega) (by simp; omega) (w1.heap.size + 1) (by simp) ?_; intro gg cap w2 hown1 hgrow hat hlt; have hf := free_grown (o := 0) HX.out.box (below_new w1 _) hgrow hne; have hc : w2.cell? ⟨g, 0, none⟩ = some (.slice Av 0 cv) := cell_grown 0 HX.out.box (below_new w1 _) hgrow hne)
    go_end0
    obtain ⟨hx2, ha2, b2⟩ := Box.push (p := ⟨1, n, []⟩) HX.out (by decide) (by decide) (Apart.bare 1 n HA.out) (below_new w1 _) hown1 hgrow
    refine ⟨rfl, ?_, b1.trans b2, HR.out.trans (push_fr HOS.out (below_new w1 _) hgrow _)⟩
    rw [keepTo_nil]
    exact ⟨_, _, hx2, ha2, HOS.out.push nil_own hat (HS.out _ (by have := HR.out.size; omega))⟩
  · rw [List.concat_eq_append] at *
    have hrl : (r ++ [p]).length = r.length + 1 := by simp
    rw [hrl] at hql
    have hp0 := hq p (by simp)
    clear hq
    rcases hx.row.2 with ⟨_, h0⟩ | ⟨gv, cap0, cur, rfl, hgv, hhv, hcap, hcap2, _, _⟩
    · simp at h0
    rw [hrl] at c0 hne hcap hx
    have hrow : w1.ownsRow lo 66 3 (.slice (some ⟨gv, 0, none⟩) (r.length + 1) cap0) (r.length + 1) (cellsOf (r ++ [p]) us) := by have := hx.row; rwa [hrl] at this
    have k0 : w1.cell? ⟨gv, r.length * 3, none⟩ = some (.int .i64 p.kind) := by
      have := hrow.cellAt (r.length * 3) (by omega)
      obtain ⟨u, hu⟩ := idx_some (l := us) (i := r.length) (by rw [hx.len]; simp)
      rw [this, (cellsOf_at (r ++ [p]) us r.length p u (by simp) hu).1]
    have k1 : w1.cell? ⟨gv, r.length * 3 + 1, none⟩ = some (.int .i64 p.n) := by
      have := hrow.cellAt (r.length * 3 + 1) (by omega)
      obtain ⟨u, hu⟩ := idx_some (l := us) (i := r.length) (by rw [hx.len]; simp)
      rw [this, (cellsOf_at (r ++ [p]) us r.length p u (by simp) hu).2.1]
    have fv := hrow.frozenAt (r.length * 3 + 1)
    have HRW := Lib.hid hrow
    clear hrow
    have HX := Lib.hid hx
    have HA := Lib.hid ha
    clear hx ha hhv
    by_cases hk : p.kind = 1
    · go_wp2
      go_end0
      obtain ⟨hx2, ha2, b2⟩ := Box.setN (b := p.n + n) HX.out (by decide) (by decide) HA.out
      refine ⟨rfl, ?_, b1.trans b2, HR.out.trans (setN_fr HOS.out _)⟩
      rw [keepTo_t n hk]
      exact ⟨_, _, hx2, ha2, HOS.out⟩
    · go_wp2_with (at_builtin; refine wpList_append_lies _ rfl (.tmp 44) (.tmp 47) 24 rfl lo 66 i0 _ 3 40 Try.underlying24 hi0 hz0 hz1 hz2 rfl (by omega) (.slice (some ⟨gv, 0, none⟩) (r.length + 1) cap0) (r.length + 1) (cellsOf (r ++ [p]) us) rfl (HRW.out.alloc _) ⟨w1.heap.size, 0, none⟩ 1 1 [.int .i64 1, .int .i64 n, .slice none 0 0] rfl rfl (World.news_of_block (cs := #[.int .i64 1, .int .i64 n, .slice none 0 0]) (t := 66) (fr := (0, 0)) (heap_alloc_new w1 _)) (by simp [Value.oneCell']) (by omega) (by unfold maxLen; omega) (by omega) (by simp; omega) (w1.heap.size + 1) (by simp) ?_; intro gg cap w2 hown1 hgrow hat hlt; have hf := free_grown (o := 0) HX.out.box (below_new w1 _) hgrow hne; have hc : w2.cell? ⟨g, 0, none⟩ = some (.slice (some ⟨gv, 0, none⟩) (r.length + 1) cap0) := cell_grown 0 HX.out.box (below_new w1 _) hgrow hne)
      go_end0
      obtain ⟨hx2, ha2, b2⟩ := Box.push (p := ⟨1, n, []⟩) HX.out (by decide) (by decide) (Apart.bare 1 n HA.out) (below_new w1 _) (by rw [hrl]; exact hown1) hgrow
      rw [hrl] at hx2 ha2 b2
      refine ⟨rfl, ?_, b1.trans b2, HR.out.trans (push_fr HOS.out (below_new w1 _) hgrow _)⟩
      rw [keepTo_f n hk]
      exact ⟨_, _, hx2, ha2, HOS.out.push nil_own hat (HS.out _ (by have := HR.out.size; omega))⟩

theorem implDone_any (lo g : Nat) (ps : List Pt) (put : List Int) (d : Int) (w : World) (hb : BAt lo g 98 w ps put d) (hl : ps.length ≤ 4294967296) (hp : put.length ≤ 4294967296) :
    Calls Try.prog 68 #[.pointer (some ⟨g, 0, none⟩)] w (Gone lo (ps ++ putL put ++ dropL d) w) :=
  (implDone_f (fun _ => True) lo g ps put d w hb.all (fun _ _ => trivial) hl hp).mono fun e w' h => h.any

theorem implKeep_any (lo g : Nat) (ps : List Pt) (put : List Int) (d n : Int) (w : World) (hb : BAt lo g 98 w ps put d) (hl : ps.length ≤ 4294967296) (hp : put.length ≤ 4294967296) (hn : ¬ n = 0) (hn0 : 0 ≤ n) (hn1 : n ≤ 1048576)
    (hq : ∀ p ∈ ps ++ putL put ++ dropL d, 0 ≤ p.n ∧ p.n ≤ 4611686018427387904) (hql : (ps ++ putL put ++ dropL d).length ≤ 4294967298) :
    Calls Try.prog 93 #[.pointer (some ⟨g, 0, none⟩), .int .i64 n] w (Flushed lo g 98 w (keepTo (ps ++ putL put ++ dropL d) n)) :=
  (implKeep_f (fun _ => True) lo g ps put d n w hb.all (fun _ _ => trivial) hl hp hn hn0 hn1 hq hql).mono fun e w' h => h.any

set_option maxHeartbeats 1600000 in
theorem implKeep_zero (g : Nat) (w : World) : Calls Try.prog 93 #[.pointer (some ⟨g, 0, none⟩), .int .i64 0] w fun e w' => e = .returned (.tuple #[]) ∧ w = w' := by
  go_enter Try.func93, Try.ntmps93
  go_wp2
  first | go_end0 | (refine bodyPost_ret (results_none rfl _ _ _) rfl ?_)
  exact ⟨rfl, rfl⟩
end Go.Proofs.Ytfpjoncaccbnmaa.low


/-
  Contracts of the program's functions on operations that only read: impl.PartOk, partsOk, size, sizeOf, OpFrom, OpTo, OpOk, Puts, Drops.
-/
namespace Go.Proofs.Ytfpjoncaccbnmaa.low
open Go.RowKit
set_option linter.unusedVariables false

set_option maxHeartbeats 1600000 in
theorem implPartOk_any (p : Pt) (A : Option Addr) (c : Nat) (w : World) (hr : Row (Value.int .i64) w w.heap.size A p.signs) (hl : p.signs.length ≤ 4294967296) :
    Calls Try.prog 83 #[.agg #[.int .i64 p.kind, .int .i64 p.n, .slice A p.signs.length c]] w (Tells (okPt p) w) := by
  obtain ⟨k, n, zs⟩ := p
  have hr' : Row (Value.int .i64) w w.heap.size A zs := hr
  have hl' : zs.length ≤ 4294967296 := hl
  clear hr hl
  by_cases hk : k = 1 ∨ k = 3
  · by_cases h0 : 0 ≤ n
    · by_cases h1 : n ≤ 200
      · by_cases hz : zs.length = 0
        all_goals
          have HS := Lib.hid (show okPt ⟨k, n, zs⟩ = decide (zs.length = 0) by
            first
              | (rw [okPt_t (.inl ⟨hk, ⟨h0, h1⟩, hz⟩), decide_eq_true hz])
              | (rw [okPt_f (by simp only; omega), decide_eq_false hz]))
          have hzb : ((zs.length : Int) == 0) = decide (zs.length = 0) := by
            first
              | (rw [decide_eq_true hz, beq_iff_eq]; omega)
              | (rw [decide_eq_false hz, beq_eq_false_iff_ne]; omega)
          generalize decide (zs.length = 0) = bb at HS hzb
          clear hz
          rcases hk with rfl | rfl
          all_goals
            go_enter Try.func83, Try.ntmps83
            go_wp2
            go_ret
            exact ⟨ret_bool (by rw [HS.out]), alloc_below _ _⟩
      · have HS := Lib.hid (show okPt ⟨k, n, zs⟩ = false by rw [okPt_f (by simp only; omega)])
        rcases hk with rfl | rfl
        all_goals
          go_enter Try.func83, Try.ntmps83
          go_wp2
          go_ret
          exact ⟨ret_bool (by rw [HS.out]), alloc_below _ _⟩
    · have HS := Lib.hid (show okPt ⟨k, n, zs⟩ = false by rw [okPt_f (by simp only; omega)])
      rcases hk with rfl | rfl
      all_goals
        go_enter Try.func83, Try.ntmps83
        go_wp2
        go_ret
        exact ⟨ret_bool (by rw [HS.out]), alloc_below _ _⟩
  · have hk1 : (k == 1) = false := by rw [beq_eq_false_iff_ne]; omega
    have hk3 : (k == 3) = false := by rw [beq_eq_false_iff_ne]; omega
    by_cases hk2 : k = 2
    · have hk2' : (k == 2) = true := by rw [beq_iff_eq]; exact hk2
      by_cases hn : n = 0
      · have hn' : (n == 0) = true := by rw [beq_iff_eq]; exact hn
        have HS := Lib.hid (show okPt ⟨k, n, zs⟩ = (allB zs && decide (zs.length ≤ 200)) by
          unfold okPt
          simp [hk2, hn])
        clear hk hk2 hn
        by_cases hlen : zs.length ≤ 200
        · have HL := Lib.hid (decide_eq_true hlen)
          go_enter Try.func83, Try.ntmps83
          go_wp2_with (go_at_call 74; refine (implSignsOk_any A c zs _ (hr'.past_alloc _) hl').mono ?_; rintro e w' ⟨rfl, rfl⟩)
          go_ret
          refine ⟨ret_bool ?_, alloc_below _ _⟩
          rw [HS.out, HL.out, Bool.and_true]
        · have HL := Lib.hid (decide_eq_false hlen)
          go_enter Try.func83, Try.ntmps83
          go_wp2
          go_ret
          refine ⟨ret_bool ?_, alloc_below _ _⟩
          rw [HS.out, HL.out, Bool.and_false]
      · have hn' : (n == 0) = false := by rw [beq_eq_false_iff_ne]; exact hn
        have HS := Lib.hid (show okPt ⟨k, n, zs⟩ = false by rw [okPt_f (by simp only; omega)])
        clear hk hk2 hn
        go_enter Try.func83, Try.ntmps83
        go_wp2
        go_ret
        exact ⟨ret_bool (by rw [HS.out]), alloc_below _ _⟩
    · have hk2' : (k == 2) = false := by rw [beq_eq_false_iff_ne]; exact hk2
      have HS := Lib.hid (show okPt ⟨k, n, zs⟩ = false by rw [okPt_f (by simp only; omega)])
      clear hk hk2
      go_enter Try.func83, Try.ntmps83
      go_wp2
      go_ret
      exact ⟨ret_bool (by rw [HS.out]), alloc_below _ _⟩

set_option maxHeartbeats 1600000 in
theorem implParts_any (A : Option Addr) (c : Nat) (ps : List Pt) (w : World) (hr : PRow w w.heap.size A ps) (hl : ps.length ≤ 4294967296) (hls : ∀ p ∈ ps, p.signs.length ≤ 4294967296) :
    Calls Try.prog 64 #[.slice A ps.length c] w (Tells (partsB ps) w) := by
  by_cases h6 : ps.length ≤ 600
  · go_enter Try.func64, Try.ntmps64
    go_wp2
    go_loopw [10] (fun i wr => ∃ k : Nat, k ≤ ps.length ∧ i = .int .i64 k ∧ okPs (ps.take k) = true ∧ Below w.heap.size w wr) (fun i _ => ps.length - (intOf i).toNat)
    case atStart => exact ⟨0, Nat.zero_le _, rfl, rfl, Below.refl _ _⟩
    case round =>
      obtain ⟨k, hk, rfl, ha, hbel⟩ := hrel
      have HA := Lib.hid ha
      clear ha
      by_cases hlt : k < ps.length
      · obtain ⟨b, off, p, rfl, hb, hp, hc⟩ := hr.at_ hlt
        obtain ⟨x0, x1, A1, e1, x2, r1⟩ := hc.keep (w' := wr) hb (fun _ hq => hbel.cell hq)
        have hsp := hls p (List.mem_of_getElem? hp)
        have HP := Lib.hid hp
        clear hp hc
        cases hs : okPt p
        · go_wp2_with fail
          refine (implPartOk_any p A1 e1 _ ((r1.more hbel.size).past_alloc _) hsp).mono ?_
          rintro e w2 ⟨rfl, b2⟩
          go_wp2
          go_ret
          exact ⟨ret_bool (by unfold partsB; rw [okPs_f HP.out hs]; rfl), (hbel.trans ((alloc_below wr _).mono hbel.size)).trans (b2.mono (Nat.le_trans hbel.size (alloc_below wr _).size))⟩
        · go_wp2_with fail
          refine (implPartOk_any p A1 e1 _ ((r1.more hbel.size).past_alloc _) hsp).mono ?_
          rintro e w2 ⟨rfl, b2⟩
          go_wp2
          go_roundw
          case rel => exact ⟨k + 1, by omega, by go_num, okPs_snoc HP.out HA.out hs, (hbel.trans ((alloc_below wr _).mono hbel.size)).trans (b2.mono (Nat.le_trans hbel.size (alloc_below wr _).size))⟩
          case measure => simp [intOf]; omega
      · have HE := Lib.hid (show partsB ps = true by
          have h1 := HA.out
          rw [List.take_of_length_le (by omega)] at h1
          unfold partsB
          rw [h1, Bool.true_and]
          exact decide_eq_true h6)
        go_wp2
        go_ret
        refine ⟨ret_bool ?_, hbel⟩
        rw [HE.out]
  · have HE := Lib.hid (show partsB ps = false by unfold partsB; rw [decide_eq_false h6, Bool.and_false])
    go_enter Try.func64, Try.ntmps64
    go_wp2
    go_ret
    exact ⟨ret_bool (by rw [HE.out]), Below.refl _ _⟩

/-- the size of a part of the kind -/
def sizeK (kind : Int) (p : Pt) : Int := if p.kind = kind then p.n + (p.signs.length : Int) else 0
theorem sumOf_congr {f g : Pt → Int} : ∀ {ps : List Pt}, (∀ p ∈ ps, f p = g p) → sumOf f ps = sumOf g ps
  | [], _ => rfl
  | p :: ps, h => by
    have h1 := h p (List.mem_cons_self ..)
    have h2 := sumOf_congr (f := f) (g := g) (ps := ps) fun q hq => h q (List.mem_cons_of_mem _ hq)
    have e : ∀ f : Pt → Int, sumOf f (p :: ps) = f p + sumOf f ps := fun f => by simp [sumOf]
    rw [e, e, h1, h2]
theorem okPs_mem {ps : List Pt} (h : okPs ps = true) {p : Pt} (hp : p ∈ ps) : okPt p = true := by unfold okPs at h; exact List.all_eq_true.1 h p hp
theorem sizeK_keep {ps : List Pt} (h : okPs ps = true) : sumOf (sizeK 1) ps = sumOf keepOf ps := sumOf_congr fun p hp => by
  have := of_okPt (okPs_mem h hp)
  unfold sizeK keepOf
  split <;> omega
theorem sizeK_put {ps : List Pt} (h : okPs ps = true) : sumOf (sizeK 2) ps = sumOf putOf ps := sumOf_congr fun p hp => by
  have := of_okPt (okPs_mem h hp)
  unfold sizeK putOf
  split <;> omega
theorem sizeK_drop {ps : List Pt} (h : okPs ps = true) : sumOf (sizeK 3) ps = sumOf dropOf ps := sumOf_congr fun p hp => by
  have := of_okPt (okPs_mem h hp)
  unfold sizeK dropOf
  split <;> omega
theorem sizeK_bd {kind : Int} {ps : List Pt} (h : okPs ps = true) (hl : ps.length ≤ 600) : 0 ≤ sumOf (sizeK kind) ps ∧ sumOf (sizeK kind) ps ≤ 120000 := by
  have := sumOf_bd (f := sizeK kind) ps fun p hq => by
    have := of_okPt (okPs_mem h hq)
    unfold sizeK
    split <;> omega
  omega

set_option maxHeartbeats 400000 in
theorem implSize_any (k n : Int) (A : Option Addr) (len c : Nat) (w : World) (h0 : 0 ≤ n) (h1 : n ≤ 200) (h2 : len ≤ 200) :
    Calls Try.prog 84 #[.agg #[.int .i64 k, .int .i64 n, .slice A len c]] w (Nums1 (n + (len : Int)) w) := by
  go_enter Try.func84, Try.ntmps84
  go_wp2
  go_ret
  exact ⟨rfl, alloc_below _ _⟩

set_option maxRecDepth 100000 in
set_option maxHeartbeats 1600000 in
theorem implSizeOf_any (kind : Int) (A : Option Addr) (c : Nat) (ps : List Pt) (w : World) (hr : PRow w w.heap.size A ps) (hl : ps.length ≤ 600) (hok : okPs ps = true) :
    Calls Try.prog 65 #[.slice A ps.length c, .int .i64 kind] w (Nums1 (sumOf (sizeK kind) ps) w) := by
  have HOK := Lib.hid hok
  clear hok
  go_enter Try.func65, Try.ntmps65
  go_wp2
  go_loopw [5, 10] (fun a i wr => ∃ k : Nat, k ≤ ps.length ∧ i = .int .i64 k ∧ a = .int .i64 (sumOf (sizeK kind) (ps.take k)) ∧ Below w.heap.size w wr) (fun _ i _ => ps.length - (intOf i).toNat)
  case atStart => exact ⟨0, Nat.zero_le _, rfl, rfl, Below.refl _ _⟩
  case round =>
    obtain ⟨k, hk, rfl, rfl, hbel⟩ := hrel
    obtain ⟨s1, s2⟩ := sizeK_bd (kind := kind) (okPs_take HOK.out k) (by rw [List.length_take]; omega)
    by_cases hlt : k < ps.length
    · obtain ⟨b, off, p, rfl, hb, hp, hc⟩ := hr.at_ hlt
      obtain ⟨x0, x1, A1, e1, x2, r1⟩ := hc.keep (w' := wr) hb (fun _ hq => hbel.cell hq)
      have hok := of_okPt (okPs_at hp HOK.out)
      have K1 := Lib.hid (sumOf_snoc (f := sizeK kind) hp)
      clear hp hc
      generalize sumOf (sizeK kind) (ps.take k) = q1 at *
      obtain ⟨pk, pn, pz⟩ := p
      simp only at x0 x1 x2 hok
      have hn1 : 0 ≤ pn := by omega
      have hn2 : pn ≤ 200 := by omega
      have hn3 : pz.length ≤ 200 := by omega
      clear hok
      by_cases hkk : pk = kind
      · have hkb : (pk == kind) = true := by rw [beq_iff_eq]; exact hkk
        have HK := Lib.hid (show sizeK kind ⟨pk, pn, pz⟩ = pn + (pz.length : Int) by unfold sizeK; exact if_pos hkk)
        clear hkk
        go_wp2_with fail
        refine (implSize_any pk pn A1 pz.length e1 _ hn1 hn2 hn3).mono ?_
        rintro e w2 ⟨rfl, b2⟩
        go_wp2
        go_roundw
        case rel => exact ⟨k + 1, by omega, by go_num, by rw [K1.out, HK.out], (hbel.trans ((alloc_below wr _).mono hbel.size)).trans (b2.mono (Nat.le_trans hbel.size (alloc_below wr _).size))⟩
        case measure => simp [intOf]; omega
      · have hkb : (pk == kind) = false := by rw [beq_eq_false_iff_ne]; exact hkk
        have HK := Lib.hid (show sizeK kind ⟨pk, pn, pz⟩ = 0 by unfold sizeK; exact if_neg hkk)
        clear hkk
        go_wp2
        go_roundw
        case rel => exact ⟨k + 1, by omega, by go_num, by rw [K1.out, HK.out, Int.add_zero], hbel.trans ((alloc_below wr _).mono hbel.size)⟩
        case measure => simp [intOf]; omega
    · have hke : ps.take k = ps := List.take_of_length_le (by omega)
      rw [hke] at s1 s2 ⊢
      go_wp2
      go_ret
      exact ⟨rfl, hbel⟩

set_option maxHeartbeats 800000 in
theorem implOpFrom_any (A : Option Addr) (c : Nat) (ps : List Pt) (w : World) (hr : PRow w w.heap.size A ps) (hl : ps.length ≤ 4294967296) (hls : ∀ p ∈ ps, p.signs.length ≤ 4294967296) :
    Calls Try.prog 34 #[.slice A ps.length c] w (Nums1 (sumK ps + sumD ps) w) := by
  cases hpb : partsB ps
  · have HS := Lib.hid (sum_f hpb)
    go_enter Try.func34, Try.ntmps34
    go_wp2_with fail
    refine (implParts_any A c ps _ hr hl hls).mono ?_
    rintro e w1 ⟨rfl, b1⟩
    go_wp2
    go_ret
    rw [HS.out.1, HS.out.2.2]
    exact ⟨rfl, b1⟩
  · obtain ⟨t1, t2, t3⟩ := sum_t hpb
    obtain ⟨p1, p2⟩ := partsB_of hpb
    have HS := Lib.hid (show sumK ps + sumD ps = sumOf (sizeK 1) ps + sumOf (sizeK 3) ps by rw [t1, t3, sizeK_keep p1, sizeK_drop p1])
    obtain ⟨s1, s2⟩ := sizeK_bd (kind := 1) p1 p2
    obtain ⟨s3, s4⟩ := sizeK_bd (kind := 3) p1 p2
    clear t1 t2 t3
    go_enter Try.func34, Try.ntmps34
    go_wp2_with fail
    refine (implParts_any A c ps _ hr hl hls).mono ?_
    rintro e w1 ⟨rfl, b1⟩
    go_wp2_with fail
    refine (implSizeOf_any 1 A c ps _ (hr.past b1) p2 p1).mono ?_
    rintro e w2 ⟨rfl, b2⟩
    have d2 := b1.trans (b2.mono b1.size)
    go_wp2_with fail
    refine (implSizeOf_any 3 A c ps _ (hr.past d2) p2 p1).mono ?_
    rintro e w3 ⟨rfl, b3⟩
    have d3 := d2.trans (b3.mono d2.size)
    generalize sumOf (sizeK 1) ps = q1 at *
    generalize sumOf (sizeK 3) ps = q3 at *
    go_wp2
    go_ret
    rw [HS.out]
    exact ⟨rfl, d3⟩

set_option maxHeartbeats 800000 in
theorem implOpTo_any (A : Option Addr) (c : Nat) (ps : List Pt) (w : World) (hr : PRow w w.heap.size A ps) (hl : ps.length ≤ 4294967296) (hls : ∀ p ∈ ps, p.signs.length ≤ 4294967296) :
    Calls Try.prog 37 #[.slice A ps.length c] w (Nums1 (sumK ps + sumP ps) w) := by
  cases hpb : partsB ps
  · have HS := Lib.hid (sum_f hpb)
    go_enter Try.func37, Try.ntmps37
    go_wp2_with fail
    refine (implParts_any A c ps _ hr hl hls).mono ?_
    rintro e w1 ⟨rfl, b1⟩
    go_wp2
    go_ret
    rw [HS.out.1, HS.out.2.1]
    exact ⟨rfl, b1⟩
  · obtain ⟨t1, t2, t3⟩ := sum_t hpb
    obtain ⟨p1, p2⟩ := partsB_of hpb
    have HS := Lib.hid (show sumK ps + sumP ps = sumOf (sizeK 1) ps + sumOf (sizeK 2) ps by rw [t1, t2, sizeK_keep p1, sizeK_put p1])
    obtain ⟨s1, s2⟩ := sizeK_bd (kind := 1) p1 p2
    obtain ⟨s3, s4⟩ := sizeK_bd (kind := 2) p1 p2
    clear t1 t2 t3
    go_enter Try.func37, Try.ntmps37
    go_wp2_with fail
    refine (implParts_any A c ps _ hr hl hls).mono ?_
    rintro e w1 ⟨rfl, b1⟩
    go_wp2_with fail
    refine (implSizeOf_any 1 A c ps _ (hr.past b1) p2 p1).mono ?_
    rintro e w2 ⟨rfl, b2⟩
    have d2 := b1.trans (b2.mono b1.size)
    go_wp2_with fail
    refine (implSizeOf_any 2 A c ps _ (hr.past d2) p2 p1).mono ?_
    rintro e w3 ⟨rfl, b3⟩
    have d3 := d2.trans (b3.mono d2.size)
    generalize sumOf (sizeK 1) ps = q1 at *
    generalize sumOf (sizeK 2) ps = q3 at *
    go_wp2
    go_ret
    rw [HS.out]
    exact ⟨rfl, d3⟩

set_option maxHeartbeats 1600000 in
theorem implOpOk_any (A : Option Addr) (c : Nat) (ps : List Pt) (w : World) (hr : PRow w w.heap.size A ps) (hl : ps.length ≤ 4294967296) (hls : ∀ p ∈ ps, p.signs.length ≤ 4294967296) :
    Calls Try.prog 33 #[.slice A ps.length c] w (Tells (okOp ps) w) := by
  cases hpb : partsB ps
  · have HS := Lib.hid (show okOp ps = false by unfold okOp; rw [hpb]; rfl)
    go_enter Try.func33, Try.ntmps33
    go_wp2_with fail
    refine (implParts_any A c ps _ hr hl hls).mono ?_
    rintro e w1 ⟨rfl, b1⟩
    go_wp2
    go_ret
    exact ⟨ret_bool (by rw [HS.out]), b1⟩
  · by_cases hf : sumK ps + sumD ps ≤ 200
    · by_cases ht : sumK ps + sumP ps ≤ 200
      all_goals
        have HS := Lib.hid (show okOp ps = decide (sumK ps + sumP ps ≤ 200) by unfold okOp; rw [hpb, decide_eq_true hf]; rfl)
        go_enter Try.func33, Try.ntmps33
        go_wp2_with fail
        refine (implParts_any A c ps _ hr hl hls).mono ?_
        rintro e w1 ⟨rfl, b1⟩
        go_wp2_with fail
        refine (implOpFrom_any A c ps _ (hr.past b1) hl hls).mono ?_
        rintro e w2 ⟨rfl, b2⟩
        have d2 := b1.trans (b2.mono b1.size)
        go_wp2_with fail
        refine (implOpTo_any A c ps _ (hr.past d2) hl hls).mono ?_
        rintro e w3 ⟨rfl, b3⟩
        go_wp2
        go_ret
        refine ⟨ret_bool ?_, d2.trans (b3.mono d2.size)⟩
        rw [HS.out]
        first | done | (rw [decide_eq_true ht]) | (rw [decide_eq_false ht])
    · have HS := Lib.hid (show okOp ps = false by unfold okOp; rw [hpb, decide_eq_false hf]; rfl)
      go_enter Try.func33, Try.ntmps33
      go_wp2_with fail
      refine (implParts_any A c ps _ hr hl hls).mono ?_
      rintro e w1 ⟨rfl, b1⟩
      go_wp2_with fail
      refine (implOpFrom_any A c ps _ (hr.past b1) hl hls).mono ?_
      rintro e w2 ⟨rfl, b2⟩
      go_wp2
      go_ret
      exact ⟨ret_bool (by rw [HS.out]), b1.trans (b2.mono b1.size)⟩

theorem okOp_parts {ps : List Pt} (h : okOp ps = true) : partsB ps = true := by
  unfold okOp at h
  cases hp : partsB ps
  · rw [hp] at h; simp at h
  · rfl

end Go.Proofs.Ytfpjoncaccbnmaa.low


/-
  Contracts of impl.partSame, of the library's slices.EqualFunc at parts with impl.partSame, and of impl.OpSame.
-/
namespace Go.Proofs.Ytfpjoncaccbnmaa.low
open Go.RowKit
set_option linter.unusedVariables false

set_option maxHeartbeats 800000 in
theorem implPartSame_any (p q : Pt) (A A' : Option Addr) (c c' : Nat) (w : World) (hp : Row (Value.int .i64) w w.heap.size A p.signs) (hq : Row (Value.int .i64) w w.heap.size A' q.signs) (h1 : p.signs.length ≤ 4294967296) (h2 : q.signs.length ≤ 4294967296) :
    Calls Try.prog 70 #[.agg #[.int .i64 p.kind, .int .i64 p.n, .slice A p.signs.length c], .agg #[.int .i64 q.kind, .int .i64 q.n, .slice A' q.signs.length c']] w (Tells (samePt p q) w) := by
  obtain ⟨k, n, zs⟩ := p
  obtain ⟨k', n', zs'⟩ := q
  have hbb : ∀ o o' : Obj, Below w.heap.size w ((w.alloc o).alloc o') := fun o o' => ((Below.refl _ _).alloc (Nat.le_refl _) _).alloc (by simp) _
  by_cases hk : k = k'
  · by_cases hn : n = n'
    · have HS := Lib.hid (show samePt ⟨k, n, zs⟩ ⟨k', n', zs'⟩ = sameB zs zs' by unfold samePt; simp [hk, hn])
      have hk1 : (k == k') = true := by simp [hk]
      have hn1 : (n == n') = true := by simp [hn]
      clear hk hn
      go_enter Try.func70, Try.ntmps70
      go_wp2_with fail
      refine (implSignsSame_any A A' c c' zs zs' _ ((hp.past_alloc _).past_alloc _) ((hq.past_alloc _).past_alloc _) h1 h2).mono ?_
      intro e w1 hsay
      obtain ⟨rfl, b1⟩ := says_tells hsay
      go_wp2
      go_ret
      refine ⟨ret_bool (by rw [HS.out]), (hbb _ _).trans (b1.mono (by simp; omega))⟩
    · have HS := Lib.hid (show samePt ⟨k, n, zs⟩ ⟨k', n', zs'⟩ = false by unfold samePt; simp [hn])
      have hk1 : (k == k') = true := by simp [hk]
      have hn1 : (n == n') = false := by simp [hn]
      clear hk hn
      go_enter Try.func70, Try.ntmps70
      go_wp2
      go_ret
      exact ⟨ret_bool (by rw [HS.out]), hbb _ _⟩
  · have HS := Lib.hid (show samePt ⟨k, n, zs⟩ ⟨k', n', zs'⟩ = false by unfold samePt; simp [hk])
    have hk1 : (k == k') = false := by simp [hk]
    clear hk
    go_enter Try.func70, Try.ntmps70
    go_wp2
    go_ret
    exact ⟨ret_bool (by rw [HS.out]), hbb _ _⟩

set_option maxRecDepth 100000 in
set_option maxHeartbeats 1600000 in
theorem equalFunc_any (A B : Option Addr) (c d : Nat) (ps qs : List Pt) (w : World) (hx : PRow w w.heap.size A ps) (hy : PRow w w.heap.size B qs)
    (hl : ps.length ≤ 4294967296) (hl2 : qs.length ≤ 4294967296) (hs : ∀ p ∈ ps, p.signs.length ≤ 4294967296) (hs2 : ∀ p ∈ qs, p.signs.length ≤ 4294967296) :
    Calls Try.prog 69 #[.slice A ps.length c, .slice B qs.length d, .func (.func 70) #[] #[]] w (Tells (samePs ps qs) w) := by
  by_cases hlen : ps.length = qs.length
  · have HL := Lib.hid hlen
    have hb : ((ps.length : Int) != (qs.length : Int)) = false := by simp [hlen]
    clear hlen
    go_enter Try.func69, Try.ntmps69
    go_wp2
    go_loopw [17] (fun i wr => ∃ k : Nat, k ≤ ps.length ∧ i = .int .i64 k ∧ samePs (ps.take k) (qs.take k) = true ∧ Below w.heap.size w wr) (fun i _ => ps.length - (intOf i).toNat)
    case atStart => exact ⟨0, Nat.zero_le _, rfl, rfl, Below.refl _ _⟩
    case round =>
      obtain ⟨k, hk, rfl, ht, hbel⟩ := hrel
      have HT := Lib.hid ht
      clear ht
      by_cases hlt : k < ps.length
      · have hlt2 : k < qs.length := by have := HL.out; omega
        obtain ⟨b1, o1, p, rfl, hb1, hp, hc1⟩ := hx.at_ hlt
        obtain ⟨b2, o2, q, rfl, hb2, hq, hc2⟩ := hy.at_ (k := k) hlt2
        obtain ⟨x0, x1, A1, e1, x2, r1⟩ := hc1.keep (w' := wr) hb1 (fun _ hq => hbel.cell hq)
        have hsp := hs p (List.mem_of_getElem? hp)
        have hsq := hs2 q (List.mem_of_getElem? hq)
        have HP := Lib.hid hp
        have HQ := Lib.hid hq
        clear hp hq hc1
        have bW := alloc_below wr (.cells #[.int .i64 p.kind, .int .i64 p.n, .slice A1 p.signs.length e1] 66)
        have dW := hbel.trans (bW.mono hbel.size)
        obtain ⟨y0, y1, A2, e2, y2, r2⟩ := hc2.keep (w' := wr.alloc (.cells #[.int .i64 p.kind, .int .i64 p.n, .slice A1 p.signs.length e1] 66)) hb2 (fun _ hq => dW.cell hq)
        have dV := dW.trans ((alloc_below (wr.alloc (.cells #[.int .i64 p.kind, .int .i64 p.n, .slice A1 p.signs.length e1] 66)) (.cells #[.int .i64 q.kind, .int .i64 q.n, .slice A2 q.signs.length e2] 66)).mono dW.size)
        have R1 := Lib.hid (Row.past_alloc ((r1.more hbel.size).past bW) (.cells #[.int .i64 q.kind, .int .i64 q.n, .slice A2 q.signs.length e2] 66))
        have R2 := Lib.hid (Row.past_alloc (r2.more dW.size) (.cells #[.int .i64 q.kind, .int .i64 q.n, .slice A2 q.signs.length e2] 66))
        clear hc2 r1 r2
        cases hsame : samePt p q
        · go_wp2_with fail
          refine (implPartSame_any p q A1 A2 e1 e2 _ R1.out R2.out hsp hsq).mono ?_
          rintro e w2 ⟨rfl, b2⟩
          go_wp2
          go_ret
          exact ⟨ret_bool (by rw [samePs_at ps qs k p q HP.out HQ.out hsame]), dV.trans (b2.mono dV.size)⟩
        · go_wp2_with fail
          refine (implPartSame_any p q A1 A2 e1 e2 _ R1.out R2.out hsp hsq).mono ?_
          rintro e w2 ⟨rfl, b2⟩
          go_wp2
          go_roundw
          case rel => exact ⟨k + 1, by omega, by go_num, samePs_snoc ps qs k p q HP.out HQ.out hsame HT.out, dV.trans (b2.mono dV.size)⟩
          case measure => simp [intOf]; omega
      · have H := Lib.hid (show samePs ps qs = true by have := HT.out; rwa [List.take_of_length_le (by omega), List.take_of_length_le (by have := HL.out; omega)] at this)
        go_wp2
        go_ret
        exact ⟨ret_bool (by rw [H.out]), hbel⟩
  · have hb : ((ps.length : Int) != (qs.length : Int)) = true := by simp; omega
    have H := Lib.hid (show samePs ps qs = false by cases h : samePs ps qs; rfl; exact absurd (samePs_len ps qs h) hlen)
    clear hlen
    go_enter Try.func69, Try.ntmps69
    go_wp2
    go_ret
    exact ⟨ret_bool (by rw [H.out]), Below.refl _ _⟩

set_option maxHeartbeats 400000 in
theorem implOpSame_any (A B : Option Addr) (c d : Nat) (ps qs : List Pt) (w : World) (hx : PRow w w.heap.size A ps) (hy : PRow w w.heap.size B qs)
    (hl : ps.length ≤ 4294967296) (hl2 : qs.length ≤ 4294967296) (hs : ∀ p ∈ ps, p.signs.length ≤ 4294967296) (hs2 : ∀ p ∈ qs, p.signs.length ≤ 4294967296) :
    Calls Try.prog 40 #[.slice A ps.length c, .slice B qs.length d] w (Tells (samePs ps qs) w) := by
  go_enter Try.func40, Try.ntmps40
  go_wp2_with fail
  refine (equalFunc_any A B c d ps qs _ hx hy hl hl2 hs hs2).mono ?_
  rintro e w1 ⟨rfl, b1⟩
  go_wp2
  go_ret
  exact ⟨rfl, b1⟩
end Go.Proofs.Ytfpjoncaccbnmaa.low


/-
  Contracts of the program's add, of impl.OpNorm, impl.IsNorm and impl.Keeping.
-/
namespace Go.Proofs.Ytfpjoncaccbnmaa.low
open Go.RowKit
set_option linter.unusedVariables false

theorem sameB_comm (a b : List Int) : sameB a b = sameB b a := by
  by_cases h : a = b
  · subst h; rfl
  · have h' : ¬ b = a := fun e => h e.symm
    unfold sameB
    simp [h, h']
theorem samePt_comm (p q : Pt) : samePt p q = samePt q p := by
  unfold samePt
  rw [sameB_comm p.signs q.signs, Bool.beq_comm (a := p.kind), Bool.beq_comm (a := p.n)]
theorem samePs_comm : ∀ ps qs : List Pt, samePs ps qs = samePs qs ps
  | [], [] => rfl
  | [], _ :: _ => rfl
  | _ :: _, [] => rfl
  | p :: ps, q :: qs => by
    show (samePt p q && samePs ps qs) = (samePt q p && samePs qs ps)
    rw [samePt_comm p q, samePs_comm ps qs]

set_option maxHeartbeats 1600000 in
theorem implAdd_any (lo g : Nat) (qs : List Pt) (put : List Int) (d : Int) (p : Pt) (A : Option Addr) (c : Nat) (w : World) (hb : BAt lo g 98 w qs put d) (hr : Row (Value.int .i64) w w.heap.size A p.signs) (hok : okPt p = true)
    (hl : qs.length ≤ 4294967296) (hp : put.length ≤ 4294967296) (h0 : 0 ≤ d) (h1 : d ≤ 4611686018427387904)
    (hq : ∀ p ∈ qs ++ putL put ++ dropL d, 0 ≤ p.n ∧ p.n ≤ 4611686018427387904) (hql : (qs ++ putL put ++ dropL d).length ≤ 4294967298) :
    Calls Try.prog 71 #[.pointer (some ⟨g, 0, none⟩), .agg #[.int .i64 p.kind, .int .i64 p.n, .slice A p.signs.length c]] w (Built lo g 98 w (stepN (qs, put, d) p).1 (stepN (qs, put, d) p).2.1 (stepN (qs, put, d) p).2.2) := by
  have hlo : lo ≤ w.heap.size := by obtain ⟨v, u, us, hx, _⟩ := hb; exact Nat.le_trans hx.low (Nat.le_of_lt hx.lt)
  have hk := of_okPt hok
  clear hok
  obtain ⟨pk, pn, pz⟩ := p
  simp only at hk hr ⊢
  have hat := hb.past (alloc_below w (.cells #[.int .i64 pk, .int .i64 pn, .slice A pz.length c] 66))
  have bel : Below lo w (w.alloc (.cells #[.int .i64 pk, .int .i64 pn, .slice A pz.length c] 66)) := (alloc_below w _).mono hlo
  rcases (show pk = 1 ∨ pk = 2 ∨ pk = 3 by omega) with rfl | rfl | rfl
  · have hn1 : 0 ≤ pn := by omega
    have hn2 : pn ≤ 200 := by omega
    clear hk
    by_cases hz : pn = 0
    · subst hz
      go_enter Try.func71, Try.ntmps71
      go_wp2_with fail
      refine (implKeep_zero g _).mono ?_
      rintro e w' ⟨rfl, rfl⟩
      go_wp2
      go_end0
      exact ⟨rfl, hat, bel⟩
    · go_enter Try.func71, Try.ntmps71
      go_wp2_with fail
      refine (implKeep_any lo g qs put d pn _ hat hl hp hz hn1 (by omega) hq hql).mono ?_
      rintro e w3 ⟨rfl, hn3, b3⟩
      go_wp2
      go_end0
      refine ⟨rfl, ?_, bel.trans b3⟩
      simp only [stepN, if_neg hz]
      exact hn3.at_
  · have hl2 : pz.length ≤ 200 := by omega
    clear hk
    go_enter Try.func71, Try.ntmps71
    go_wp2_with fail
    refine (implPut_any lo g qs put d A c pz _ hat (hr.past_alloc _) hp (by omega)).mono ?_
    rintro e w3 ⟨rfl, hn3, b3⟩
    go_wp2
    go_end0
    exact ⟨rfl, hn3, bel.trans b3⟩
  · have hn1 : 0 ≤ pn := by omega
    have hn2 : pn ≤ 200 := by omega
    clear hk
    go_enter Try.func71, Try.ntmps71
    go_wp2_with fail
    refine (implDrop_any lo g qs put d pn _ hat h0 h1 hn1 (by omega)).mono ?_
    rintro e w3 ⟨rfl, hn3, b3⟩
    go_wp2
    go_end0
    exact ⟨rfl, hn3, bel.trans b3⟩

set_option maxRecDepth 100000 in
set_option maxHeartbeats 3200000 in
theorem implOpNorm_any (A : Option Addr) (c : Nat) (ps : List Pt) (w : World) (hr : PRow w w.heap.size A ps) (hl : ps.length ≤ 4294967296) (hls : ∀ p ∈ ps, p.signs.length ≤ 4294967296) (hss : signsIn ps ≤ 1048576) :
    Calls Try.prog 41 #[.slice A ps.length c] w (PsPost (normL ps) w) := by
  cases hok : okOp ps
  · have e1 : normL ps = [] := by simp [normL, hok]
    rw [e1]
    go_enter Try.func41, Try.ntmps41
    go_wp2_with fail
    refine (implOpOk_any A c ps _ hr hl hls).mono ?_
    rintro e w1 ⟨rfl, b1⟩
    rw [hok] at *
    go_wp2
    go_ret
    refine ⟨_, rfl, ⟨[], World.ownsRow_nil _ _ _ _, ⟨rfl, fun i p u hp _ => by simp at hp, fun i j k u v hu _ _ _ => by simp at hu⟩, fun k hk => by simp [Value.ownBlock] at hk, Nat.le_refl _, b1.size⟩, b1⟩
  · have e1 : normL ps = doneN (foldN ps) := by simp [normL, hok]
    rw [e1]
    have HPB := Lib.hid (partsB_of (okOp_parts hok))
    go_enter Try.func41, Try.ntmps41
    go_wp2_with fail
    refine (implOpOk_any A c ps _ hr hl hls).mono ?_
    rintro e w1 ⟨rfl, b1⟩
    rw [hok] at *
    clear hok
    go_wp2
    have hnew := BAt.new w.heap.size 98 w1 b1.size
    have hbn := b1.trans ((alloc_below w1 (.cells #[.slice none 0 0, .slice none 0 0, .int .i64 0] 98)).mono b1.size)
    have hgl : w.heap.size ≤ w1.heap.size := b1.size
    generalize w1.alloc (.cells #[.slice none 0 0, .slice none 0 0, .int .i64 0] 98) = w2 at *
    generalize w1.heap.size = g at *
    clear b1
    go_loopw [13] (fun i wr => ∃ k : Nat, k ≤ ps.length ∧ i = .int .i64 k ∧ BAt w.heap.size g 98 wr (foldN (ps.take k)).1 (foldN (ps.take k)).2.1 (foldN (ps.take k)).2.2 ∧ Below w.heap.size w wr) (fun i _ => ps.length - (intOf i).toNat)
    case atStart => exact ⟨0, Nat.zero_le _, rfl, hnew, hbn⟩
    case round =>
      obtain ⟨k, hk, rfl, hat, hbel⟩ := hrel
      clear hnew hbn
      have hfit := foldN_fit HPB.out.1 k hk
      have hpl := HPB.out.2
      by_cases hlt : k < ps.length
      · obtain ⟨b, off, p, rfl, hb, hp, hc⟩ := hr.at_ hlt
        obtain ⟨x0, x1, A1, e1, x2, r1⟩ := hc.keep (w' := wr) hb (fun _ hq => hbel.cell hq)
        have hokp := okPs_at hp HPB.out.1
        have K1 := Lib.hid (foldN_snoc hp)
        have hsg : signsIn (ps.take k) ≤ signsIn ps := signsIn_take ps k
        clear hp hc
        generalize foldN (ps.take k) = st at *
        obtain ⟨qs, put, d⟩ := st
        have hf1 := hfit.len
        have hf2 := hfit.signs
        have hf3 := hfit.d0
        have hf4 := hfit.d1
        have hdn := Lib.hid hfit.done
        simp only at hf1 hf2 hf3 hf4 hat
        go_wp2_with fail
        refine (implAdd_any w.heap.size g qs put d p A1 e1 _ (hat.past (alloc_below wr _)) (Row.past_alloc (r1.more hbel.size) _) hokp (by omega) (by omega) hf3 (by omega) (fun p hp => by have := hdn.out.2.2 p hp; omega) (by have := hdn.out.1; exact Nat.le_trans this (by omega))).mono ?_
        rintro e w3 ⟨rfl, hn3, b3⟩
        go_wp2
        go_roundw
        case rel => exact ⟨k + 1, by omega, by go_num, by rw [K1.out]; exact hn3, hbel.trans (((alloc_below wr _).mono hbel.size).trans b3)⟩
        case measure => simp [intOf]; omega
      · have hke : ps.take k = ps := List.take_of_length_le (by omega)
        rw [hke] at hat hfit
        have hf1 := hfit.len
        have hf2 := hfit.signs
        go_wp2_with fail
        refine (implDone_any w.heap.size g _ _ _ _ hat (by omega) (by omega)).mono ?_
        rintro e w3 ⟨v, rfl, p3, b3⟩
        change PBuf _ _ _ _ (doneN (foldN ps)) at p3
        generalize doneN (foldN ps) = L at *
        obtain ⟨B3, d3, rfl, q3⟩ := p3.slice
        have HP3 := Lib.hid p3
        clear p3
        go_wp2
        go_ret
        exact ⟨_, rfl, HP3.out, hbel.trans b3⟩

set_option maxHeartbeats 1600000 in
theorem implIsNorm_any (A : Option Addr) (c : Nat) (ps : List Pt) (w : World) (hr : PRow w w.heap.size A ps) (hl : ps.length ≤ 4294967296) (hls : ∀ p ∈ ps, p.signs.length ≤ 4294967296) (hss : signsIn ps ≤ 1048576) :
    Calls Try.prog 12 #[.slice A ps.length c] w (Tells (isNormL ps) w) := by
  obtain ⟨n1, n2⟩ := normL_fit hss
  have hls' : ∀ p ∈ normL ps, p.signs.length ≤ 4294967296 := fun p hp => by
    obtain ⟨i, hi⟩ := List.getElem?_of_mem hp
    have := signsIn_at hi
    omega
  cases hok : okOp ps
  · have HS := Lib.hid (show isNormL ps = false by unfold isNormL; rw [hok]; rfl)
    go_enter Try.func12, Try.ntmps12
    go_wp2_with fail
    refine (implOpOk_any A c ps _ hr hl hls).mono ?_
    rintro e w1 ⟨rfl, b1⟩
    rw [hok] at *
    go_wp2
    go_ret
    exact ⟨ret_bool (by rw [HS.out]), b1⟩
  · have HS := Lib.hid (show isNormL ps = samePs ps (normL ps) by unfold isNormL; rw [hok, samePs_comm]; rfl)
    go_enter Try.func12, Try.ntmps12
    go_wp2_with fail
    refine (implOpOk_any A c ps _ hr hl hls).mono ?_
    rintro e w1 ⟨rfl, b1⟩
    rw [hok] at *
    clear hok
    go_wp2_with fail
    refine (implOpNorm_any A c ps _ (hr.past b1) hl hls hss).mono ?_
    rintro e w2 ⟨v2, rfl, p2, b2⟩
    obtain ⟨B2, d2, rfl, q2⟩ := p2.slice
    have d2' := b1.trans (b2.mono b1.size)
    generalize normL ps = L at *
    go_wp2_with fail
    refine (implOpSame_any A B2 c d2 ps L _ (hr.past d2') q2 hl (by omega) hls hls').mono ?_
    rintro e w3 ⟨rfl, b3⟩
    go_wp2
    go_ret
    exact ⟨ret_bool (by rw [HS.out]), d2'.trans (b3.mono d2'.size)⟩

end Go.Proofs.Ytfpjoncaccbnmaa.low


/-
  The program's side of SpecBld.
-/
namespace Go.Proofs.Ytfpjoncaccbnmaa.low
open Go.RowKit
set_option linter.unusedVariables false

theorem implKeepB (O : Nat → Prop) (lo g : Nat) (L : List Pt) (n : Int) (w : World) (hb : Bld O lo g 98 w L) (h0 : 0 ≤ n) (h1 : n ≤ 200) (hl : L.length < 100000) :
    Calls Try.prog 93 #[.pointer (some ⟨g, 0, none⟩), .int .i64 n] w (BldP O lo g 98 (L ++ [⟨1, n, []⟩]) w) := by
  have hz : szP_ ⟨1, n, []⟩ := ⟨.inl rfl, h0, h1, by simp⟩
  by_cases hn : n = 0
  · subst hn
    refine (implKeep_zero g w).mono ?_
    rintro e w' ⟨rfl, rfl⟩
    exact ⟨rfl, hb.add hl hz (Below.refl _ _) (Fr.refl _ _) (hb.at_.mono (fun b h => .inl h))⟩
  · have hf := hb.fit
    have hd := hf.done
    have hsg := signsIn_le hb.sz
    have f1 := hf.len
    have f2 := hf.signs
    have hlen := hb.len
    refine (implKeep_f (fun b => O b ∨ w.heap.size ≤ b) lo g _ _ _ n w (hb.at_.mono (fun b h => .inl h)) (fun b h => .inr h) (by omega) (by omega) hn h0 (by omega) (fun p hp => by have := hd.2.2 p hp; omega) (by have := hd.1; exact Nat.le_trans this (by omega))).mono ?_
    rintro e w' ⟨rfl, hn', b, fr⟩
    refine ⟨rfl, hb.add hl hz b fr ?_⟩
    simp only [stepN, if_neg hn]
    exact hn'.at_
theorem implPutB (O : Nat → Prop) (lo g : Nat) (L : List Pt) (A : Option Addr) (c m : Nat) (zs : List Int) (w : World) (hb : Bld O lo g 98 w L) (hr : Row (Value.int .i64) w w.heap.size A zs) (hm : zs.length = m) (h1 : zs.length ≤ 200) (hl : L.length < 100000) :
    Calls Try.prog 94 #[.pointer (some ⟨g, 0, none⟩), .slice A m c] w (BldP O lo g 98 (L ++ [⟨2, 0, zs⟩]) w) := by
  subst hm
  have hz : szP_ ⟨2, 0, zs⟩ := ⟨.inr (.inl rfl), by simp, by simp, h1⟩
  have hsg := signsIn_le hb.sz
  have f2 := hb.fit.signs
  have hlen := hb.len
  refine (implPut_f (fun b => O b ∨ w.heap.size ≤ b) lo g _ _ _ A c zs w (hb.at_.mono (fun b h => .inl h)) (fun b h => .inr h) hr (by omega) (by omega)).mono ?_
  rintro e w' ⟨rfl, ha, b, fr⟩
  exact ⟨rfl, hb.add hl hz b fr ha⟩
theorem implDropB (O : Nat → Prop) (lo g : Nat) (L : List Pt) (n : Int) (w : World) (hb : Bld O lo g 98 w L) (h0 : 0 ≤ n) (h1 : n ≤ 200) (hl : L.length < 100000) :
    Calls Try.prog 95 #[.pointer (some ⟨g, 0, none⟩), .int .i64 n] w (BldP O lo g 98 (L ++ [⟨3, n, []⟩]) w) := by
  have hz : szP_ ⟨3, n, []⟩ := ⟨.inr (.inr rfl), h0, h1, by simp⟩
  have f3 := hb.fit.d0
  have f4 := hb.fit.d1
  have hlen := hb.len
  refine (implDrop_f (fun b => O b ∨ w.heap.size ≤ b) lo g _ _ _ n w (hb.at_.mono (fun b h => .inl h)) (fun b h => .inr h) f3 (by omega) h0 (by omega)).mono ?_
  rintro e w' ⟨rfl, ha, b, fr⟩
  exact ⟨rfl, hb.add hl hz b fr ha⟩
theorem implDoneB (O : Nat → Prop) (lo g : Nat) (L : List Pt) (w : World) (hb : Bld O lo g 98 w L) :
    Calls Try.prog 68 #[.pointer (some ⟨g, 0, none⟩)] w (DoneP O lo L w) := by
  have f1 := hb.fit.len
  have hlen := hb.len
  have hsg := signsIn_le hb.sz
  have f2 := hb.fit.signs
  refine (implDone_f (fun b => O b ∨ w.heap.size ≤ b) lo g _ _ _ w (hb.at_.mono (fun b h => .inl h)) (fun b h => .inr h) (by omega) (by omega)).mono ?_
  intro e w' h
  exact GoneS.done h
end Go.Proofs.Ytfpjoncaccbnmaa.low


/-
  A builder and a reader inside a larger struct: the block at g holds D; the builder's three cells stand at o, the others are as C says.
-/
namespace Go.Proofs.Ytfpjoncaccbnmaa.low.xb
open Go.RowKit
set_option linter.unusedVariables false

/-- the block at g, of the type T, holds what D says -/
def Blk (g : Nat) (T : TypeId) (w : World) (D : Nat → Option Value) : Prop := ∃ cs, w.heap[g]? = some (.cells cs T (0, 0)) ∧ ∀ i, cs[i]? = D i
/-- D with one cell changed -/
def upd (D : Nat → Option Value) (i : Nat) (v : Value) : Nat → Option Value := fun j => if j = i then some v else D j
theorem upd_at (D : Nat → Option Value) (i : Nat) (v : Value) : upd D i v i = some v := by simp [upd]
theorem upd_ne {D : Nat → Option Value} {i j : Nat} (v : Value) (h : ¬ j = i) : upd D i v j = D j := by simp [upd, h]
section
variable {g i : Nat} {T : TypeId} {w w' : World} {D : Nat → Option Value} {u : Value}
theorem Blk.lt (h : Blk g T w D) : g < w.heap.size := by obtain ⟨cs, h1, _⟩ := h; exact lt_of_some h1
theorem Blk.cell (h : Blk g T w D) (i : Nat) : w.cell? ⟨g, i, none⟩ = D i := by
  obtain ⟨cs, h1, h2⟩ := h
  rw [cell_of_row _ _ i _ _ _ h1]
  exact h2 i
theorem Blk.free (h : Blk g T w D) (i : Nat) : w.frozen? ⟨g, i, none⟩ = false := by
  obtain ⟨cs, h1, h2⟩ := h
  simp [World.frozen?, h1]
theorem Blk.keep (h : Blk g T w D) (hk : w'.heap[g]? = w.heap[g]?) : Blk g T w' D := by
  obtain ⟨cs, h1, h2⟩ := h
  exact ⟨cs, hk.trans h1, h2⟩
theorem Blk.past (h : Blk g T w D) (hb : Below w.heap.size w w') : Blk g T w' D := h.keep (hb.block _ h.lt)
theorem Blk.set (h : Blk g T w D) (hi : D i = some u) (v : Value) : Blk g T (w.setCell ⟨g, i, none⟩ v) (upd D i v) := by
  obtain ⟨cs, h1, h2⟩ := h
  refine ⟨_, heap_setCell_same _ _ _ _ _ _ h1, fun j => ?_⟩
  rw [Array.getElem?_setIfInBounds]
  by_cases e : i = j
  · subst e
    rw [upd_at]
    have := h2 i
    rw [hi] at this
    simp only [if_true]
    rw [if_pos (by rcases Nat.lt_or_ge i cs.size with hl | hg; exact hl; rw [Array.getElem?_eq_none hg] at this; cases this)]
  · rw [if_neg e, upd_ne _ (fun k => e k.symm)]
    exact h2 j
theorem Blk.far {base n size : Nat} {x : Value} {e : TypeId} {xs : List Value} (h : Blk g T w D) (hr : w.ownsRow base e size x n xs) (hT : ¬ T = e) : ¬ x.ownBlock = some g := by
  obtain ⟨cs, h1, _⟩ := h
  exact own_far hr h1 hT
theorem Blk.grown {w0 w1 : World} {r : Option Nat} (h : Blk g T w D) (h0 : Below w.heap.size w w0) (hgrow : w0.grownBy w1 r) (hne : ¬ r = some g) : Blk g T w1 D := by
  refine h.keep ?_
  rw [hgrow.block g (Nat.lt_of_lt_of_le h.lt h0.size) (fun e => hne e.symm), h0.block g h.lt]
end

/-- the builder's three cells at o in the block at g; the block's other cells are as C says -/
structure Box (lo g o : Nat) (C : Nat → Option Value) (T : TypeId) (w : World) (v u : Value) (d : Int) (ps : List Pt) (us : List Value) : Prop where
  box : ∃ D, Blk g T w D ∧ D o = some v ∧ D (o + 1) = some u ∧ D (o + 2) = some (.int .i64 d) ∧ ∀ i, i < o ∨ o + 3 ≤ i → D i = C i
  row : w.ownsRow lo 66 3 v ps.length (cellsOf ps us)
  len : us.length = ps.length
  low : lo ≤ g
section
variable {lo g o : Nat} {C : Nat → Option Value} {T : TypeId} {w w0 w1 : World} {v u : Value} {d : Int} {ps : List Pt} {us : List Value}
theorem Box.cell0 (h : Box lo g o C T w v u d ps us) : w.cell? ⟨g, o, none⟩ = some v := by obtain ⟨D, h1, h2, h3, h4, _⟩ := h.box; rw [h1.cell]; exact h2
theorem Box.cell1 (h : Box lo g o C T w v u d ps us) : w.cell? ⟨g, o + 1, none⟩ = some u := by obtain ⟨D, h1, h2, h3, h4, _⟩ := h.box; rw [h1.cell]; exact h3
theorem Box.cell2 (h : Box lo g o C T w v u d ps us) : w.cell? ⟨g, o + 2, none⟩ = some (.int .i64 d) := by obtain ⟨D, h1, h2, h3, h4, _⟩ := h.box; rw [h1.cell]; exact h4
theorem Box.free (h : Box lo g o C T w v u d ps us) (i : Nat) : w.frozen? ⟨g, i, none⟩ = false := by obtain ⟨D, h1, _⟩ := h.box; exact h1.free i
theorem Box.lt (h : Box lo g o C T w v u d ps us) : g < w.heap.size := by obtain ⟨D, h1, _⟩ := h.box; exact h1.lt
theorem Box.far {base n size : Nat} {x : Value} {e : TypeId} {xs : List Value} (h : Box lo g o C T w v u d ps us) (hr : w.ownsRow base e size x n xs) (hT : ¬ T = e) : ¬ x.ownBlock = some g := by
  obtain ⟨D, h1, _⟩ := h.box
  exact h1.far hr hT
theorem Box.freeG {r : Option Nat} (h : Box lo g o C T w v u d ps us) (i : Nat) (h0 : Below w.heap.size w w0) (hgrow : w0.grownBy w1 r) (hne : ¬ r = some g) : w1.frozen? ⟨g, i, none⟩ = false := by
  obtain ⟨D, h1, _⟩ := h.box
  exact (h1.grown h0 hgrow hne).free i
theorem Box.cellG0 {r : Option Nat} (h : Box lo g o C T w v u d ps us) (h0 : Below w.heap.size w w0) (hgrow : w0.grownBy w1 r) (hne : ¬ r = some g) : w1.cell? ⟨g, o, none⟩ = some v := by
  obtain ⟨D, h1, h2, h3, h4, _⟩ := h.box
  rw [(h1.grown h0 hgrow hne).cell]
  exact h2
theorem Box.cellG1 {r : Option Nat} (h : Box lo g o C T w v u d ps us) (h0 : Below w.heap.size w w0) (hgrow : w0.grownBy w1 r) (hne : ¬ r = some g) : w1.cell? ⟨g, o + 1, none⟩ = some u := by
  obtain ⟨D, h1, h2, h3, h4, _⟩ := h.box
  rw [(h1.grown h0 hgrow hne).cell]
  exact h3
theorem Box.cellG2 {r : Option Nat} (h : Box lo g o C T w v u d ps us) (h0 : Below w.heap.size w w0) (hgrow : w0.grownBy w1 r) (hne : ¬ r = some g) : w1.cell? ⟨g, o + 2, none⟩ = some (.int .i64 d) := by
  obtain ⟨D, h1, h2, h3, h4, _⟩ := h.box
  rw [(h1.grown h0 hgrow hne).cell]
  exact h4
end

/-- a part more: behind the making of a block of one part, the append and the store -/
theorem Box.push {lo g o gg cap : Nat} {C : Nat → Option Value} {T : TypeId} {w w0 w1 : World} {v u : Value} {d : Int} {ps : List Pt} {us : List Value} {p : Pt} {u' : Value} (h : Box lo g o C T w v u d ps us) (hT1 : ¬ T = 3) (hT2 : ¬ T = 66)
    (ha : Apart lo w.heap.size w (ps ++ [p]) (us ++ [u'])) (h0 : Below w.heap.size w w0) 
    (hown : w1.ownsRow lo 66 3 (.slice (some ⟨gg, 0, none⟩) (ps.length + 1) cap) (ps.length + 1) (cellsOf ps us ++ [.int .i64 p.kind, .int .i64 p.n, u']))
    (hgrow : w0.grownBy w1 v.ownBlock) :
    Box lo g o C T (w1.setCell ⟨g, o, none⟩ (.slice (some ⟨gg, 0, none⟩) (ps.length + 1) cap)) (.slice (some ⟨gg, 0, none⟩) (ps.length + 1) cap) u d (ps ++ [p]) (us ++ [u']) ∧
    Apart lo (w1.setCell ⟨g, o, none⟩ (.slice (some ⟨gg, 0, none⟩) (ps.length + 1) cap)).heap.size (w1.setCell ⟨g, o, none⟩ (.slice (some ⟨gg, 0, none⟩) (ps.length + 1) cap)) (ps ++ [p]) (us ++ [u']) ∧
    Below lo w (w1.setCell ⟨g, o, none⟩ (.slice (some ⟨gg, 0, none⟩) (ps.length + 1) cap)) := by
  have hlt := h.lt
  obtain ⟨D, hD, k1, k2, k3, k4⟩ := h.box
  have hsz : w.heap.size ≤ w1.heap.size := Nat.le_trans h0.size hgrow.size
  have hold : ∀ k, k < w.heap.size → ¬ v.ownBlock = some k → w1.heap[k]? = w.heap[k]? := fun k hk hne => by
    rw [hgrow.block k (Nat.lt_of_lt_of_le hk h0.size) (fun e => hne e.symm), h0.block k hk]
  have hg1 := hD.grown h0 hgrow (hD.far h.row hT2)
  have hgg : ¬ (Value.slice (some ⟨gg, 0, none⟩) (ps.length + 1) cap).ownBlock = some g := hg1.far hown hT2
  refine ⟨⟨⟨_, hg1.set k1 _, upd_at _ _ _, by rw [upd_ne _ (by omega)]; exact k2, by rw [upd_ne _ (by omega)]; exact k3, fun i hi => by rw [upd_ne _ (by omega)]; exact k4 i hi⟩, ?_, by simp [h.len], h.low⟩, ?_, ?_⟩
  · rw [cellsOf_snoc _ _ _ _ h.len]
    have := ownsRow_setCell_other hown (a := ⟨g, o, none⟩) hgg (.slice (some ⟨gg, 0, none⟩) (ps.length + 1) cap)
    simpa using this
  · refine ha.keep (by simp; exact hsz) (fun i x k hx hk1 hk2 => ?_)
    obtain ⟨q, hq⟩ := idx_some (l := ps ++ [p]) (i := i) (by rw [← ha.1]; exact idx_lt hx)
    have hox := (ha.2.1 i q x hq hx).1
    have hkg : ¬ k = g := fun e => hD.far hox hT1 (by rw [hk1, e])
    rw [Below.heap_setCell _ _ _ _ hkg, hold k hk2]
    intro hv
    obtain ⟨c1, e1⟩ := own_blk hox hk1
    obtain ⟨c2, e2⟩ := own_blk h.row hv
    rw [e1] at e2
    injection e2 with e2
    injection e2 with _ ht _
    exact absurd ht (by decide)
  · refine Below.setCell ?_ h.low _
    have hb : Below lo w w0 := h0.mono (Nat.le_trans h.low (Nat.le_of_lt hlt))
    exact hb.grown hgrow (Nat.le_trans (Nat.le_trans h.low (Nat.le_of_lt hlt)) h0.size) (fun k hk => own_ge h.row k hk)

theorem push_fr {S : Nat → Prop} {g o : Nat} {v : Value} {us : List Value} {w w0 w1 : World} (h : OwnS S g v us) (h0 : Below w.heap.size w w0) (hg : w0.grownBy w1 v.ownBlock) (x : Value) : Fr S w (w1.setCell ⟨g, o, none⟩ x) :=
  ((Fr.below h0).grown hg (fun k hk => h.2.1 k hk)).setCell h.1 x
/-- the builder: its parts, what is to be put, what is dropped; its blocks lie in S -/
def BAtS (S : Nat → Prop) (lo g o : Nat) (C : Nat → Option Value) (T : TypeId) (w : World) (ps : List Pt) (put : List Int) (d : Int) : Prop :=
  ∃ v u us, Box lo g o C T w v u d ps us ∧ Apart lo w.heap.size w (ps ++ [⟨2, 0, put⟩]) (us ++ [u]) ∧ OwnS S g v (us ++ [u])
def BNilS (S : Nat → Prop) (lo g o : Nat) (C : Nat → Option Value) (T : TypeId) (w : World) (ps : List Pt) : Prop := ∃ v us, Box lo g o C T w v (.slice none 0 0) 0 ps us ∧ Apart lo w.heap.size w ps us ∧ OwnS S g v us
def FlushedS (S : Nat → Prop) (lo g o : Nat) (C : Nat → Option Value) (T : TypeId) (w : World) (ps : List Pt) (e : Ending) (w' : World) : Prop := e = .returned (.tuple #[]) ∧ BNilS S lo g o C T w' ps ∧ Below lo w w' ∧ Fr S w w'
def BuiltS (S : Nat → Prop) (lo g o : Nat) (C : Nat → Option Value) (T : TypeId) (w : World) (ps : List Pt) (put : List Int) (d : Int) (e : Ending) (w' : World) : Prop := e = .returned (.tuple #[]) ∧ BAtS S lo g o C T w' ps put d ∧ Below lo w w' ∧ Fr S w w'
theorem BNilS.at_ {S : Nat → Prop} {lo g o : Nat} {C : Nat → Option Value} {T : TypeId} {w : World} {ps : List Pt} (h : BNilS S lo g o C T w ps) : BAtS S lo g o C T w ps [] 0 := by
  obtain ⟨v, us, hx, ha, ho⟩ := h
  refine ⟨v, _, us, hx, Apart.bare 2 0 ha, ho.1, ho.2.1, fun i k x hxi hk => ?_⟩
  by_cases hi : i < us.length
  · rw [List.getElem?_append_left hi] at hxi
    exact ho.2.2 i k x hxi hk
  · rw [List.getElem?_append_right (by omega)] at hxi
    have hx' : i - us.length = 0 := by
      have := idx_lt hxi
      simp at this
      omega
    rw [hx'] at hxi
    simp at hxi
    subst hxi
    simp [Value.ownBlock] at hk
theorem Box.clearS {S : Nat → Prop} {lo g o : Nat} {C : Nat → Option Value} {T : TypeId} {w : World} {v u : Value} {d : Int} {ps : List Pt} {us : List Value} (h : Box lo g o C T w v u d ps us) (hT1 : ¬ T = 3) (hT2 : ¬ T = 66) (ha : Apart lo w.heap.size w ps us) (ho : OwnS S g v us) :
    BNilS S lo g o C T ((w.setCell ⟨g, o + 1, none⟩ (.slice none 0 0)).setCell ⟨g, o + 2, none⟩ (.int .i64 0)) ps ∧ Below lo w ((w.setCell ⟨g, o + 1, none⟩ (.slice none 0 0)).setCell ⟨g, o + 2, none⟩ (.int .i64 0)) ∧ Fr S w ((w.setCell ⟨g, o + 1, none⟩ (.slice none 0 0)).setCell ⟨g, o + 2, none⟩ (.int .i64 0)) := by
  obtain ⟨D, hD, k1, k2, k3, k4⟩ := h.box
  have k3' : upd D (o + 1) (.slice none 0 0) (o + 2) = some (.int .i64 d) := by rw [upd_ne _ (by omega)]; exact k3
  refine ⟨⟨v, us, ⟨⟨_, (hD.set k2 _).set k3' _, by rw [upd_ne _ (by omega), upd_ne _ (by omega)]; exact k1, by rw [upd_ne _ (by omega), upd_at], upd_at _ _ _, fun i hi => by rw [upd_ne _ (by omega), upd_ne _ (by omega)]; exact k4 i hi⟩, ?_, h.len, h.low⟩, ?_, ho⟩, ((Below.refl _ _).setCell h.low _).setCell h.low _, ((Fr.refl S w).setCell (p := ⟨g, o + 1, none⟩) ho.1 _).setCell (p := ⟨g, o + 2, none⟩) ho.1 _⟩
  · exact ownsRow_setCell_other (ownsRow_setCell_other h.row (hD.far h.row hT2) _) (hD.far h.row hT2) _
  · refine ha.keep (by simp) (fun i x k hx hk1 hk2 => ?_)
    obtain ⟨q, hq⟩ := idx_some (l := ps) (i := i) (by rw [← ha.1]; exact idx_lt hx)
    have hkg : ¬ k = g := fun e => hD.far (ha.2.1 i q x hq hx).1 hT1 (by rw [hk1, e])
    rw [Below.heap_setCell _ _ _ _ hkg, Below.heap_setCell _ _ _ _ hkg]
/-- more characters to be put: behind the append and the store -/
theorem Box.moreS {S : Nat → Prop} {lo g o : Nat} {C : Nat → Option Value} {T : TypeId} {w w1 : World} {v u v' : Value} {d : Int} {ps : List Pt} {us : List Value} {put put' : List Int} (h : Box lo g o C T w v u d ps us) (hT1 : ¬ T = 3) (hT2 : ¬ T = 66)
    (ha : Apart lo w.heap.size w (ps ++ [⟨2, 0, put⟩]) (us ++ [u])) (hown : w1.ownsRow lo 3 1 v' put'.length (put'.map (Value.int .i64))) (hgrow : w.grownBy w1 u.ownBlock) (hat : v'.ownBlock = u.ownBlock ∨ v'.ownBlock = some w.heap.size) (hos : OwnS S g v (us ++ [u])) (hS : S w.heap.size) :
    BAtS S lo g o C T (w1.setCell ⟨g, o + 1, none⟩ v') ps put' d ∧ Below lo w (w1.setCell ⟨g, o + 1, none⟩ v') ∧ Fr S w (w1.setCell ⟨g, o + 1, none⟩ v') := by
  have hlt := h.lt
  obtain ⟨D, hD, k1, k2, k3, k4⟩ := h.box
  have hu := ha.last h.len
  have ha0 := ha.init h.len
  have hold : ∀ k, k < w.heap.size → ¬ u.ownBlock = some k → w1.heap[k]? = w.heap[k]? := fun k hk hne => hgrow.block k hk (fun e => hne e.symm)
  have hg1 := hD.grown (Below.refl _ _) hgrow (hD.far hu hT1)
  have hvg := hg1.far hown hT1
  have hlow : lo ≤ w.heap.size := Nat.le_trans h.low (Nat.le_of_lt hlt)
  have hv' : ∀ k, v'.ownBlock = some k → S k := fun k hk => by
    rcases hat with e | e
    · exact hos.last k (by rw [← e]; exact hk)
    · rw [e] at hk
      injection hk with hk
      rw [← hk]; exact hS
  have hos' : OwnS S g v (us ++ [v']) := ⟨hos.1, hos.2.1, fun i k x hx hk => by
    by_cases hi : i < us.length
    · rw [List.getElem?_append_left hi] at hx
      exact hos.init.2.2 i k x hx hk
    · rw [List.getElem?_append_right (by omega)] at hx
      have hx' : i - us.length = 0 := by
        have := idx_lt hx
        simp at this
        omega
      rw [hx'] at hx
      simp at hx
      subst hx
      exact hv' k hk⟩
  have hfr : Fr S w (w1.setCell ⟨g, o + 1, none⟩ v') := ((Fr.refl S w).grown hgrow (fun k hk => hos.last k hk)).setCell (p := ⟨g, o + 1, none⟩) hos.1 _
  refine ⟨⟨v, v', us, ⟨⟨_, hg1.set k2 _, by rw [upd_ne _ (by omega)]; exact k1, upd_at _ _ _, by rw [upd_ne _ (by omega)]; exact k3, fun i hi => by rw [upd_ne _ (by omega)]; exact k4 i hi⟩, ?_, h.len, h.low⟩, ?_, hos'⟩, ?_, hfr⟩
  · refine own_keep h.row (fun k hk1 hk2 => ?_)
    have hkg : ¬ k = g := fun e => hD.far h.row hT2 (by rw [hk1, e])
    rw [Below.heap_setCell _ _ _ _ hkg]
    refine hold k hk2 (fun hk3 => ?_)
    obtain ⟨c1, e1⟩ := own_blk h.row hk1
    exact own_far hu e1 (by decide) hk3
  · have hkeep : Apart lo (w1.setCell ⟨g, o + 1, none⟩ v').heap.size (w1.setCell ⟨g, o + 1, none⟩ v') ps us := by
      refine ha0.keep (by simp; exact hgrow.size) (fun i x k hx hk1 hk2 => ?_)
      obtain ⟨q, hq⟩ := idx_some (l := ps) (i := i) (by rw [← h.len]; exact idx_lt hx)
      have hkg : ¬ k = g := fun e => hD.far (ha0.2.1 i q x hq hx).1 hT1 (by rw [hk1, e])
      rw [Below.heap_setCell _ _ _ _ hkg]
      exact hold k hk2 (ha.far h.len hx hk1)
    refine hkeep.snoc (ownsRow_setCell_other hown hvg _) (fun k hk => ?_) (fun i x k hx hk1 hk2 => ?_)
    · obtain ⟨c1, e1⟩ := own_blk hown hk
      have := lt_of_some e1
      simpa using this
    · obtain ⟨q, hq⟩ := idx_some (l := ps) (i := i) (by rw [← h.len]; exact idx_lt hx)
      rcases hat with e | e
      · exact ha.far h.len hx hk1 (by rw [← e]; exact hk2)
      · obtain ⟨c1, e1⟩ := own_blk (ha0.2.1 i q x hq hx).1 hk1
        have := lt_of_some e1
        rw [hk2] at e
        injection e with e
        omega
  · refine Below.setCell ?_ h.low _
    exact (Below.refl _ _).grown hgrow hlow (fun k hk => own_ge hu k hk)
theorem Box.dropS {S : Nat → Prop} {lo g o : Nat} {C : Nat → Option Value} {T : TypeId} {w : World} {v u : Value} {d d' : Int} {ps : List Pt} {us : List Value} {put : List Int} (h : Box lo g o C T w v u d ps us) (hT1 : ¬ T = 3) (hT2 : ¬ T = 66)
    (ha : Apart lo w.heap.size w (ps ++ [⟨2, 0, put⟩]) (us ++ [u])) (hos : OwnS S g v (us ++ [u])) :
    BAtS S lo g o C T (w.setCell ⟨g, o + 2, none⟩ (.int .i64 d')) ps put d' ∧ Below lo w (w.setCell ⟨g, o + 2, none⟩ (.int .i64 d')) ∧ Fr S w (w.setCell ⟨g, o + 2, none⟩ (.int .i64 d')) := by
  obtain ⟨D, hD, k1, k2, k3, k4⟩ := h.box
  refine ⟨⟨v, u, us, ⟨⟨_, hD.set k3 _, by rw [upd_ne _ (by omega)]; exact k1, by rw [upd_ne _ (by omega)]; exact k2, upd_at _ _ _, fun i hi => by rw [upd_ne _ (by omega)]; exact k4 i hi⟩, ownsRow_setCell_other h.row (hD.far h.row hT2) _, h.len, h.low⟩, ha.keep (by simp) (fun i x k hx hk1 hk2 => ?_), hos⟩, (Below.refl _ _).setCell h.low _, (Fr.refl S w).setCell (p := ⟨g, o + 2, none⟩) hos.1 _⟩
  obtain ⟨q, hq⟩ := idx_some (l := ps ++ [⟨2, 0, put⟩]) (i := i) (by rw [← ha.1]; exact idx_lt hx)
  have hkg : ¬ k = g := fun e => hD.far (ha.2.1 i q x hq hx).1 hT1 (by rw [hk1, e])
  rw [Below.heap_setCell _ _ _ _ hkg]
/-- the last part's number is changed in place -/
theorem Box.setN {lo g o gv cap : Nat} {C : Nat → Option Value} {T : TypeId} {w : World} {u : Value} {d b : Int} {r : List Pt} {p : Pt} {us : List Value} (h : Box lo g o C T w (.slice (some ⟨gv, 0, none⟩) (r.length + 1) cap) u d (r ++ [p]) us) (hT1 : ¬ T = 3) (hT2 : ¬ T = 66)
    (ha : Apart lo w.heap.size w (r ++ [p]) us) :
    Box lo g o C T (w.setCell ⟨gv, r.length * 3 + 1, none⟩ (.int .i64 b)) (.slice (some ⟨gv, 0, none⟩) (r.length + 1) cap) u d (r ++ [⟨p.kind, b, p.signs⟩]) us ∧
    Apart lo (w.setCell ⟨gv, r.length * 3 + 1, none⟩ (.int .i64 b)).heap.size (w.setCell ⟨gv, r.length * 3 + 1, none⟩ (.int .i64 b)) (r ++ [⟨p.kind, b, p.signs⟩]) us ∧
    Below lo w (w.setCell ⟨gv, r.length * 3 + 1, none⟩ (.int .i64 b)) := by
  obtain ⟨D, hD, k1, k2, k3, k4⟩ := h.box
  have hgv := hD.far h.row hT2
  have hge := own_ge h.row gv rfl
  have hl : us.length = (r ++ [p]).length := h.len
  refine ⟨⟨⟨D, hD.keep (Below.heap_setCell _ _ _ _ (fun e => hgv (by simp [Value.ownBlock]; exact e.symm))), k1, k2, k3, k4⟩, ?_, by simpa using hl, h.low⟩, ?_, (Below.refl _ _).setCell hge _⟩
  · have e1 := cellsOf_setN (r ++ [p]) us r.length p b hl (by simp)
    have e2 : (r ++ [p]).set r.length ⟨p.kind, b, p.signs⟩ = r ++ [⟨p.kind, b, p.signs⟩] := by simp
    rw [e2] at e1
    rw [← e1]
    have := (World.ownsRow.stored (n := r.length + 1) (by simpa using h.row) (r.length * 3 + 1) (.int .i64 b)).1
    simpa using this
  · refine Apart.setN (p := p) (ha.keep (by simp) (fun i x k hx hk1 hk2 => ?_)) rfl
    obtain ⟨q, hq⟩ := idx_some (l := r ++ [p]) (i := i) (by rw [← hl]; exact idx_lt hx)
    obtain ⟨c1, e1⟩ := own_blk (ha.2.1 i q x hq hx).1 hk1
    have hne : ¬ k = gv := fun e => by
      subst e
      exact own_far h.row e1 (by decide) rfl
    rw [Below.heap_setCell _ _ _ _ hne]
theorem Box.parts {lo g o : Nat} {C : Nat → Option Value} {T : TypeId} {w : World} {v u : Value} {d : Int} {ps : List Pt} {us : List Value} (h : Box lo g o C T w v u d ps us) (ha : Apart lo w.heap.size w ps us) : PBuf lo w.heap.size w v ps :=
  ⟨us, h.row, ha, fun k hk => by obtain ⟨c1, e1⟩ := own_blk h.row hk; exact lt_of_some e1, Nat.le_refl _, Nat.le_trans h.low (Nat.le_of_lt h.lt)⟩
end Go.Proofs.Ytfpjoncaccbnmaa.low.xb


/-
  Contracts of the program's builder where it stands inside a larger struct: endRun, drop, put, done, keep.
-/
namespace Go.Proofs.Ytfpjoncaccbnmaa.low.xb
open Go.RowKit
set_option linter.unusedVariables false

/-- the builder's end: the parts, and what became of the block -/
def GoneX (S : Nat → Prop) (lo g o : Nat) (C : Nat → Option Value) (ps : List Pt) (w : World) (e : Ending) (w' : World) : Prop := GoneS S lo ps w e w' ∧ ∃ v u us, Box lo g o C 100 w' v u 0 ps us
set_option maxRecDepth 100000 in
set_option maxHeartbeats 3200000 in
theorem implFlush_f (S : Nat → Prop) (lo g o : Nat) (C : Nat → Option Value) (ps : List Pt) (put : List Int) (d : Int) (w : World) (hb : BAtS S lo g o C 100 w ps put d) (hS : ∀ b, w.heap.size ≤ b → S b) (hl : ps.length ≤ 4294967296) (hp : put.length ≤ 4294967296) :
    Calls Try.prog 92 #[.pointer (some ⟨g, o, none⟩)] w (FlushedS S lo g o C 100 w (ps ++ putL put ++ dropL d)) := by
  obtain ⟨i0, hi0, hz0, hz1, hz2⟩ := info_parts part_info
  obtain ⟨v, u, us, hx, ha, hos⟩ := hb
  have HS := Lib.hid hS
  have HOS := Lib.hid hos
  clear hS hos
  have ha0 := ha.init hx.len
  obtain ⟨A, c, rfl⟩ := own_form (ha.last hx.len)
  have c0 := hx.cell0
  have c1 := hx.cell1
  have c2 := hx.cell2
  have f0 := hx.free o
  have f1 := hx.free (o + 1)
  have f2 := hx.free (o + 2)
  have HX := Lib.hid hx
  have HA := Lib.hid ha
  have HA0 := Lib.hid ha0
  clear hx ha ha0
  by_cases hput : put.length = 0
  · have e1 : putL put = [] := by simp [putL, hput]
    rw [e1, List.append_nil]
    by_cases hd : 0 < d
    · have e2 : dropL d = [⟨3, d, []⟩] := by simp [dropL, hd]
      rw [e2]
      go_enter Try.func92, Try.ntmps92
      go_wp2_with fail
      have lg := HX.out.lt
      have hlo : lo ≤ w.heap.size := Nat.le_trans HX.out.low (Nat.le_of_lt lg)
      have hne := HX.out.far HX.out.row (by decide)
      go_region_law ((refine step_append_lies _ (by rfl) (.tmp 31) (.tmp 37) 24 (by rfl) lo 66 i0 _ 3 40 Try.underlying24 hi0 hz0 hz1 hz2 rfl (by omega) v ps.length (cellsOf ps us) (by rfl) ((HX.out.row.alloc _).drew) ⟨w.heap.size, 0, none⟩ 1 1 [.int .i64 3, .int .i64 d, .slice none 0 0] (by rfl) (by rfl) (World.news_of_block (cs := #[.int .i64 3, .int .i64 d, .slice none 0 0]) (t := 66) (fr := (0, 0)) (heap_alloc_new w _)) (by simp [Value.oneCell']) (by omega) (by unfold maxLen; omega) (by omega) (by simp; omega) (w.heap.size + 1) (by simp) ?_; intro gg cap w1 hown1 hgrow hat hlt; have hf := HX.out.freeG o (below_made w _) hgrow hne; have hf1 := HX.out.freeG (o + 1) (below_made w _) hgrow hne; have hf2 := HX.out.freeG (o + 2) (below_made w _) hgrow hne; have hc : w1.cell? ⟨g, o, none⟩ = some v := HX.out.cellG0 (below_made w _) hgrow hne; have hc1 : w1.cell? ⟨g, o + 1, none⟩ = some (.slice A put.length c) := HX.out.cellG1 (below_made w _) hgrow hne; have hc2 : w1.cell? ⟨g, o + 2, none⟩ = some (.int .i64 d) := HX.out.cellG2 (below_made w _) hgrow hne))
      all_goals
        obtain ⟨hx2, ha2, b2⟩ := Box.push (p := ⟨3, d, []⟩) HX.out (by decide) (by decide) (Apart.bare 3 d HA0.out) (below_made w _) hown1 hgrow
        have HO2 := Lib.hid (HOS.out.init.push (n := ps.length + 1) (cap := cap) nil_own hat (HS.out _ (by omega)))
        have HR2 := Lib.hid (push_fr (o := o) HOS.out.init (below_made w _) hgrow (.slice (some ⟨gg, 0, none⟩) (ps.length + 1) cap))
        have HX2 := Lib.hid hx2
        have HA2 := Lib.hid ha2
        have HB2 := Lib.hid b2
        clear hx2 ha2 b2
        go_wp2
        go_end0
        obtain ⟨r1, r2, r3⟩ := HX2.out.clearS (by decide) (by decide) HA2.out HO2.out
        exact ⟨rfl, r1, HB2.out.trans r2, HR2.out.trans r3⟩

    · have e2 : dropL d = [] := by simp [dropL]; omega
      rw [e2, List.append_nil]
      go_enter Try.func92, Try.ntmps92
      go_wp2_with fail
      go_end0
      obtain ⟨r1, r2, r3⟩ := HX.out.clearS (by decide) (by decide) HA0.out HOS.out.init
      exact ⟨rfl, r1, r2, r3⟩
  · have hput' : (0 : Int) < (put.length : Int) := by omega
    have e1 : putL put = [⟨2, 0, put⟩] := by simp [putL, hput]
    rw [e1]
    by_cases hd : 0 < d
    · have e2 : dropL d = [⟨3, d, []⟩] := by simp [dropL, hd]
      rw [e2]
      generalize hQ : ps ++ [⟨2, 0, put⟩] ++ [⟨3, d, []⟩] = Q
      have HQ := Lib.hid hQ
      clear hQ
      go_enter Try.func92, Try.ntmps92
      go_wp2_with fail
      have lg := HX.out.lt
      have hlo : lo ≤ w.heap.size := Nat.le_trans HX.out.low (Nat.le_of_lt lg)
      have hne := HX.out.far HX.out.row (by decide)
      go_region_law ((refine step_append_lies _ (by rfl) (.tmp 12) (.tmp 18) 24 (by rfl) lo 66 i0 _ 3 40 Try.underlying24 hi0 hz0 hz1 hz2 rfl (by omega) v ps.length (cellsOf ps us) (by rfl) ((HX.out.row.alloc _).drew) ⟨w.heap.size, 0, none⟩ 1 1 [.int .i64 2, .int .i64 0, .slice A put.length c] (by rfl) (by rfl) (World.news_of_block (cs := #[.int .i64 2, .int .i64 0, .slice A put.length c]) (t := 66) (fr := (0, 0)) (heap_alloc_new w _)) (by simp [Value.oneCell']) (by omega) (by unfold maxLen; omega) (by omega) (by simp; omega) (w.heap.size + 1) (by simp) ?_; intro gg cap w1 hown1 hgrow hat hlt; have hf := HX.out.freeG o (below_made w _) hgrow hne; have hf1 := HX.out.freeG (o + 1) (below_made w _) hgrow hne; have hf2 := HX.out.freeG (o + 2) (below_made w _) hgrow hne; have hc : w1.cell? ⟨g, o, none⟩ = some v := HX.out.cellG0 (below_made w _) hgrow hne; have hc1 : w1.cell? ⟨g, o + 1, none⟩ = some (.slice A put.length c) := HX.out.cellG1 (below_made w _) hgrow hne; have hc2 : w1.cell? ⟨g, o + 2, none⟩ = some (.int .i64 d) := HX.out.cellG2 (below_made w _) hgrow hne))
      all_goals

        obtain ⟨hx1, ha1, b1⟩ := Box.push (p := ⟨2, 0, put⟩) HX.out (by decide) (by decide) HA.out (below_made w _) hown1 hgrow
        have HO1 := Lib.hid (HOS.out.init.push (n := ps.length + 1) (cap := cap) HOS.out.last hat (HS.out _ (by omega)))
        have HR1 := Lib.hid (push_fr (o := o) HOS.out.init (below_made w _) hgrow (.slice (some ⟨gg, 0, none⟩) (ps.length + 1) cap))
        clear hown1 hgrow hat hlt hlo hne lg c0 c1 c2 f0 f1 f2
        have HX1 := Lib.hid hx1
        have HA1 := Lib.hid ha1
        have HB1 := Lib.hid b1
        clear hx1 ha1 b1
        go_wp2_with fail
        clear hf hf1 hf2 hc hc1 hc2
        generalize (Value.slice (some ⟨gg, 0, none⟩) (ps.length + 1) cap) = v1 at *
        generalize w1.setCell ⟨g, o, none⟩ v1 = W1 at *
        have c0 := HX1.out.cell0
        have c1 := HX1.out.cell1
        have c2 := HX1.out.cell2
        have f0 := HX1.out.free o
        have f1 := HX1.out.free (o + 1)
        have f2 := HX1.out.free (o + 2)
        generalize hps : ps ++ [⟨2, 0, put⟩] = ps1 at *
        have hl1 : ps1.length ≤ 4294967297 := by rw [← hps]; simp; omega
        clear hps
        generalize us ++ [Value.slice A put.length c] = us1 at *
        have lg := HX1.out.lt
        have hlo : lo ≤ W1.heap.size := Nat.le_trans HX1.out.low (Nat.le_of_lt lg)
        have hne := HX1.out.far HX1.out.row (by decide)
        go_region_law ((refine step_append_lies _ (by rfl) (.tmp 31) (.tmp 37) 24 (by rfl) lo 66 i0 _ 3 40 Try.underlying24 hi0 hz0 hz1 hz2 rfl (by omega) v1 ps1.length (cellsOf ps1 us1) (by rfl) ((HX1.out.row.alloc _).drew) ⟨W1.heap.size, 0, none⟩ 1 1 [.int .i64 3, .int .i64 d, .slice none 0 0] (by rfl) (by rfl) (World.news_of_block (cs := #[.int .i64 3, .int .i64 d, .slice none 0 0]) (t := 66) (fr := (0, 0)) (heap_alloc_new W1 _)) (by simp [Value.oneCell']) (by omega) (by unfold maxLen; omega) (by omega) (by simp; omega) (W1.heap.size + 1) (by simp) ?_; intro gg cap w1 hown1 hgrow hat hlt; have hf := HX1.out.freeG o (below_made W1 _) hgrow hne; have hf1 := HX1.out.freeG (o + 1) (below_made W1 _) hgrow hne; have hf2 := HX1.out.freeG (o + 2) (below_made W1 _) hgrow hne; have hc : w1.cell? ⟨g, o, none⟩ = some v1 := HX1.out.cellG0 (below_made W1 _) hgrow hne; have hc1 : w1.cell? ⟨g, o + 1, none⟩ = some (.slice A put.length c) := HX1.out.cellG1 (below_made W1 _) hgrow hne; have hc2 : w1.cell? ⟨g, o + 2, none⟩ = some (.int .i64 d) := HX1.out.cellG2 (below_made W1 _) hgrow hne))
        all_goals
          obtain ⟨hx2, ha2, b2⟩ := Box.push (p := ⟨3, d, []⟩) HX1.out (by decide) (by decide) (Apart.bare 3 d HA1.out) (below_made W1 _) hown1 hgrow
          have HO2 := Lib.hid (HO1.out.push (n := ps1.length + 1) (cap := cap) nil_own hat (HS.out _ (by have := HR1.out.size; omega)))
          have HR2 := Lib.hid (push_fr (o := o) HO1.out (below_made W1 _) hgrow (.slice (some ⟨gg, 0, none⟩) (ps1.length + 1) cap))
          have HX2 := Lib.hid hx2
          have HA2 := Lib.hid ha2
          have HB2 := Lib.hid b2
          clear hx2 ha2 b2
          go_wp2
          go_end0
          obtain ⟨r1, r2, r3⟩ := HX2.out.clearS (by decide) (by decide) HA2.out HO2.out
          exact ⟨rfl, by rw [← HQ.out]; exact r1, HB1.out.trans (HB2.out.trans r2), HR1.out.trans (HR2.out.trans r3)⟩

    · have e2 : dropL d = [] := by simp [dropL]; omega
      rw [e2, List.append_nil]
      go_enter Try.func92, Try.ntmps92
      go_wp2_with fail
      have lg := HX.out.lt
      have hlo : lo ≤ w.heap.size := Nat.le_trans HX.out.low (Nat.le_of_lt lg)
      have hne := HX.out.far HX.out.row (by decide)
      go_region_law ((refine step_append_lies _ (by rfl) (.tmp 12) (.tmp 18) 24 (by rfl) lo 66 i0 _ 3 40 Try.underlying24 hi0 hz0 hz1 hz2 rfl (by omega) v ps.length (cellsOf ps us) (by rfl) ((HX.out.row.alloc _).drew) ⟨w.heap.size, 0, none⟩ 1 1 [.int .i64 2, .int .i64 0, .slice A put.length c] (by rfl) (by rfl) (World.news_of_block (cs := #[.int .i64 2, .int .i64 0, .slice A put.length c]) (t := 66) (fr := (0, 0)) (heap_alloc_new w _)) (by simp [Value.oneCell']) (by omega) (by unfold maxLen; omega) (by omega) (by simp; omega) (w.heap.size + 1) (by simp) ?_; intro gg cap w1 hown1 hgrow hat hlt; have hf := HX.out.freeG o (below_made w _) hgrow hne; have hf1 := HX.out.freeG (o + 1) (below_made w _) hgrow hne; have hf2 := HX.out.freeG (o + 2) (below_made w _) hgrow hne; have hc : w1.cell? ⟨g, o, none⟩ = some v := HX.out.cellG0 (below_made w _) hgrow hne; have hc1 : w1.cell? ⟨g, o + 1, none⟩ = some (.slice A put.length c) := HX.out.cellG1 (below_made w _) hgrow hne; have hc2 : w1.cell? ⟨g, o + 2, none⟩ = some (.int .i64 d) := HX.out.cellG2 (below_made w _) hgrow hne))
      all_goals

        obtain ⟨hx1, ha1, b1⟩ := Box.push (p := ⟨2, 0, put⟩) HX.out (by decide) (by decide) HA.out (below_made w _) hown1 hgrow
        have HO2 := Lib.hid (HOS.out.init.push (n := ps.length + 1) (cap := cap) HOS.out.last hat (HS.out _ (by omega)))
        have HR2 := Lib.hid (push_fr (o := o) HOS.out.init (below_made w _) hgrow (.slice (some ⟨gg, 0, none⟩) (ps.length + 1) cap))
        have HX2 := Lib.hid hx1
        have HA2 := Lib.hid ha1
        have HB2 := Lib.hid b1
        clear hx1 ha1 b1
        go_wp2
        go_end0
        obtain ⟨r1, r2, r3⟩ := HX2.out.clearS (by decide) (by decide) HA2.out HO2.out
        exact ⟨rfl, r1, HB2.out.trans r2, HR2.out.trans r3⟩

set_option maxHeartbeats 1600000 in
theorem implDrop_f (S : Nat → Prop) (lo g o : Nat) (C : Nat → Option Value) (ps : List Pt) (put : List Int) (d n : Int) (w : World) (hb : BAtS S lo g o C 100 w ps put d) (hS : ∀ b, w.heap.size ≤ b → S b) (h0 : 0 ≤ d) (h1 : d ≤ 4611686018427387904) (h2 : 0 ≤ n) (h3 : n ≤ 1048576) :
    Calls Try.prog 95 #[.pointer (some ⟨g, o, none⟩), .int .i64 n] w (BuiltS S lo g o C 100 w ps put (d + n)) := by
  obtain ⟨v, u, us, hx, ha, hos⟩ := hb
  have HS := Lib.hid hS
  have HOS := Lib.hid hos
  clear hS hos
  have c2 := hx.cell2
  have f2 := hx.free (o + 2)
  have HX := Lib.hid hx
  have HA := Lib.hid ha
  clear hx ha
  go_enter Try.func95, Try.ntmps95
  go_wp2
  go_end0
  obtain ⟨r1, r2, r3⟩ := HX.out.dropS (d' := d + n) (by decide) (by decide) HA.out HOS.out
  exact ⟨rfl, r1, r2, r3⟩

set_option maxHeartbeats 1600000 in
theorem implPut_f (S : Nat → Prop) (lo g o : Nat) (C : Nat → Option Value) (ps : List Pt) (put : List Int) (d : Int) (A : Option Addr) (c : Nat) (zs : List Int) (w : World) (hb : BAtS S lo g o C 100 w ps put d) (hS : ∀ b, w.heap.size ≤ b → S b) (hr : Row (Value.int .i64) w w.heap.size A zs) (hp : put.length ≤ 4294967296) (hz : zs.length ≤ 4294967296) :
    Calls Try.prog 94 #[.pointer (some ⟨g, o, none⟩), .slice A zs.length c] w (BuiltS S lo g o C 100 w ps (put ++ zs) d) := by
  obtain ⟨i0, hi0, hz0, hz1, hz2⟩ := info_parts ints_info
  obtain ⟨v, u, us, hx, ha, hos⟩ := hb
  have HS := Lib.hid hS
  have HOS := Lib.hid hos
  clear hS hos
  obtain ⟨Au, cu, rfl⟩ := own_form (ha.last hx.len)
  simp only at hx ha
  have c1 := hx.cell1
  have f1 := hx.free (o + 1)
  have ho := Lib.hid (ha.last hx.len)
  have hlo : lo ≤ w.heap.size := Nat.le_trans hx.low (Nat.le_of_lt hx.lt)
  have HX := Lib.hid hx
  have HA := Lib.hid ha
  clear hx ha
  by_cases hn : 0 < zs.length
  · obtain ⟨ad, rfl, hbk, hcs⟩ := hr hn
    have hcs' : ∀ j x, (zs.map (Value.int .i64))[j]? = some x → w.cell? (ad.add j) = some x := fun j x hx => by
      rw [List.getElem?_map] at hx
      obtain ⟨z, hz, rfl⟩ := Option.map_eq_some_iff.1 hx
      exact hcs j z hz
    have HC := Lib.hid hcs'
    clear hcs hcs' hr
    have hug := HX.out.far ho.out (by decide)
    go_enter Try.func94, Try.ntmps94
    go_wp2_with (at_builtin; refine wpList_append_lies _ rfl (.tmp 8) (.tmp 9) 23 rfl lo 3 i0 (.int .i64 0) 1 8 Try.underlying23 hi0 hz0 hz1 hz2 rfl (by decide) (.slice Au put.length cu) put.length (put.map (Value.int .i64)) rfl ho.out ad zs.length c (zs.map (Value.int .i64)) rfl (by simp) HC.out (by simp [Value.oneCell']) (by omega) (by unfold maxLen; omega) (by omega) hlo w.heap.size rfl ?_; intro gg cap w1 hown1 hgrow hat hlt; have hf := HX.out.freeG (o + 1) (Below.refl _ _) hgrow hug; have hc : w1.cell? ⟨g, o + 1, none⟩ = some (.slice Au put.length cu) := HX.out.cellG1 (Below.refl _ _) hgrow hug)
    go_end0
    obtain ⟨r1, r2, r3⟩ := Box.moreS (put' := put ++ zs) HX.out (by decide) (by decide) HA.out (by simpa using hown1) hgrow (hat.elim (fun e => .inl (by rw [e]; rfl)) (fun e => .inr (by rw [← e]; rfl))) HOS.out (HS.out _ (Nat.le_refl _))
    exact ⟨rfl, r1, r2, r3⟩
  · have e0 : zs = [] := List.eq_nil_of_length_eq_zero (by omega)
    subst e0
    rw [List.append_nil]
    go_enter Try.func94, Try.ntmps94
    go_wp2_with (at_builtin; refine wpList_append_zero rfl (.tmp 8) (.tmp 9) 23 rfl lo 3 i0 1 Try.underlying23 hi0 (.slice Au put.length cu) put.length (put.map (Value.int .i64)) rfl ho.out A c rfl ?_)
    go_end0
    obtain ⟨r1, r2, r3⟩ := Box.moreS (put' := put) HX.out (by decide) (by decide) HA.out ho.out ⟨rfl, rfl, rfl, Nat.le_refl _, fun _ _ _ => rfl⟩ (.inl rfl) HOS.out (HS.out _ (Nat.le_refl _))
    exact ⟨rfl, r1, r2, r3⟩

set_option maxHeartbeats 1600000 in
theorem implDone_f (S : Nat → Prop) (lo g o : Nat) (C : Nat → Option Value) (ps : List Pt) (put : List Int) (d : Int) (w : World) (hb : BAtS S lo g o C 100 w ps put d) (hS : ∀ b, w.heap.size ≤ b → S b) (hl : ps.length ≤ 4294967296) (hp : put.length ≤ 4294967296) :
    Calls Try.prog 68 #[.pointer (some ⟨g, o, none⟩)] w (GoneX S lo g o C (ps ++ putL put ++ dropL d) w) := by
  go_enter Try.func68, Try.ntmps68
  go_wp2_with fail
  refine (implFlush_f S lo g o C ps put d w hb hS hl hp).mono ?_
  rintro e w1 ⟨rfl, ⟨v, us, hx, ha, hos⟩, b1, fr1⟩
  have HS := Lib.hid hS
  have HOS := Lib.hid hos
  have HR := Lib.hid fr1
  clear hS hos fr1
  obtain ⟨Av, cv, rfl⟩ := own_form hx.row
  have c0 := hx.cell0
  have HX := Lib.hid hx
  have HA := Lib.hid ha
  clear hx ha
  generalize ps ++ putL put ++ dropL d = q at *
  go_wp2
  go_ret
  exact ⟨⟨_, us, rfl, HX.out.parts HA.out, b1, HR.out, HX.out.row, HX.out.len, HOS.out.2.1, HOS.out.2.2⟩, _, _, us, HX.out⟩

set_option maxRecDepth 100000 in
set_option maxHeartbeats 3200000 in
theorem implKeep_f (S : Nat → Prop) (lo g o : Nat) (C : Nat → Option Value) (ps : List Pt) (put : List Int) (d n : Int) (w : World) (hb : BAtS S lo g o C 100 w ps put d) (hS : ∀ b, w.heap.size ≤ b → S b) (hl : ps.length ≤ 4294967296) (hp : put.length ≤ 4294967296) (hn : ¬ n = 0) (hn0 : 0 ≤ n) (hn1 : n ≤ 1048576)
    (hq : ∀ p ∈ ps ++ putL put ++ dropL d, 0 ≤ p.n ∧ p.n ≤ 4611686018427387904) (hql : (ps ++ putL put ++ dropL d).length ≤ 4294967298) :
    Calls Try.prog 93 #[.pointer (some ⟨g, o, none⟩), .int .i64 n] w (FlushedS S lo g o C 100 w (keepTo (ps ++ putL put ++ dropL d) n)) := by
  obtain ⟨i0, hi0, hz0, hz1, hz2⟩ := info_parts part_info
  go_enter Try.func93, Try.ntmps93
  go_wp2_with fail
  refine (implFlush_f S lo g o C ps put d w hb hS hl hp).mono ?_
  rintro e w1 ⟨rfl, ⟨v, us, hx, ha, hos⟩, b1, fr1⟩
  have HS := Lib.hid hS
  have HOS := Lib.hid hos
  have HR := Lib.hid fr1
  clear hS hos fr1
  generalize ps ++ putL put ++ dropL d = q at *
  have c0 := hx.cell0
  have f0 := hx.free o
  have hne := hx.far hx.row (by decide)
  have hlo : lo ≤ w1.heap.size := Nat.le_trans hx.low (Nat.le_of_lt hx.lt)
  rcases q.eq_nil_or_concat with rfl | ⟨r, p, rfl⟩
  · obtain ⟨Av, cv, rfl⟩ := own_form hx.row
    have HX := Lib.hid hx
    have HA := Lib.hid ha
    clear hx ha
    go_wp2_with (at_builtin; refine wpList_append_lies _ rfl (.tmp 44) (.tmp 47) 24 rfl lo 66 i0 _ 3 40 Try.underlying24 hi0 hz0 hz1 hz2 rfl (by omega) (.slice Av 0 cv) 0 (cellsOf [] us) rfl (HX.out.row.alloc _) ⟨w1.heap.size, 0, none⟩ 1 1 [.int .i64 1, .int .i64 n, .slice none 0 0] rfl rfl (World.news_of_block (cs := #[.int .i64 1, .int .i64 n, .slice none 0 0]) (t := 66) (fr := (0, 0)) (heap_alloc_new w1 _)) (by simp [Value.oneCell']) (by omega) (by unfold maxLen; omega) (by omega) (by simp; omega) (w1.heap.size + 1) (by simp) ?_; intro gg cap w2 hown1 hgrow hat hlt; have hf := HX.out.freeG o (below_new w1 _) hgrow hne; have hc : w2.cell? ⟨g, o, none⟩ = some (.slice Av 0 cv) := HX.out.cellG0 (below_new w1 _) hgrow hne)
    go_end0
    obtain ⟨hx2, ha2, b2⟩ := Box.push (p := ⟨1, n, []⟩) HX.out (by decide) (by decide) (Apart.bare 1 n HA.out) (below_new w1 _) hown1 hgrow
    refine ⟨rfl, ?_, b1.trans b2, HR.out.trans (push_fr (o := o) HOS.out (below_new w1 _) hgrow _)⟩
    rw [keepTo_nil]
    exact ⟨_, _, hx2, ha2, HOS.out.push nil_own hat (HS.out _ (by have := HR.out.size; omega))⟩
  · rw [List.concat_eq_append] at *
    have hrl : (r ++ [p]).length = r.length + 1 := by simp
    rw [hrl] at hql
    have hp0 := hq p (by simp)
    clear hq
    rcases hx.row.2 with ⟨_, h0⟩ | ⟨gv, cap0, cur, rfl, hgv, hhv, hcap, hcap2, _, _⟩
    · simp at h0
    rw [hrl] at c0 hne hcap hx
    have hrow : w1.ownsRow lo 66 3 (.slice (some ⟨gv, 0, none⟩) (r.length + 1) cap0) (r.length + 1) (cellsOf (r ++ [p]) us) := by have := hx.row; rwa [hrl] at this
    have k0 : w1.cell? ⟨gv, r.length * 3, none⟩ = some (.int .i64 p.kind) := by
      have := hrow.cellAt (r.length * 3) (by omega)
      obtain ⟨u, hu⟩ := idx_some (l := us) (i := r.length) (by rw [hx.len]; simp)
      rw [this, (cellsOf_at (r ++ [p]) us r.length p u (by simp) hu).1]
    have k1 : w1.cell? ⟨gv, r.length * 3 + 1, none⟩ = some (.int .i64 p.n) := by
      have := hrow.cellAt (r.length * 3 + 1) (by omega)
      obtain ⟨u, hu⟩ := idx_some (l := us) (i := r.length) (by rw [hx.len]; simp)
      rw [this, (cellsOf_at (r ++ [p]) us r.length p u (by simp) hu).2.1]
    have fv := hrow.frozenAt (r.length * 3 + 1)
    have HRW := Lib.hid hrow
    clear hrow
    have HX := Lib.hid hx
    have HA := Lib.hid ha
    clear hx ha hhv
    by_cases hk : p.kind = 1
    · go_wp2
      go_end0
      obtain ⟨hx2, ha2, b2⟩ := Box.setN (b := p.n + n) HX.out (by decide) (by decide) HA.out
      refine ⟨rfl, ?_, b1.trans b2, HR.out.trans (setN_fr HOS.out _)⟩
      rw [keepTo_t n hk]
      exact ⟨_, _, hx2, ha2, HOS.out⟩
    · go_wp2_with (at_builtin; refine wpList_append_lies _ rfl (.tmp 44) (.tmp 47) 24 rfl lo 66 i0 _ 3 40 Try.underlying24 hi0 hz0 hz1 hz2 rfl (by omega) (.slice (some ⟨gv, 0, none⟩) (r.length + 1) cap0) (r.length + 1) (cellsOf (r ++ [p]) us) rfl (HRW.out.alloc _) ⟨w1.heap.size, 0, none⟩ 1 1 [.int .i64 1, .int .i64 n, .slice none 0 0] rfl rfl (World.news_of_block (cs := #[.int .i64 1, .int .i64 n, .slice none 0 0]) (t := 66) (fr := (0, 0)) (heap_alloc_new w1 _)) (by simp [Value.oneCell']) (by omega) (by unfold maxLen; omega) (by omega) (by simp; omega) (w1.heap.size + 1) (by simp) ?_; intro gg cap w2 hown1 hgrow hat hlt; have hf := HX.out.freeG o (below_new w1 _) hgrow hne; have hc : w2.cell? ⟨g, o, none⟩ = some (.slice (some ⟨gv, 0, none⟩) (r.length + 1) cap0) := HX.out.cellG0 (below_new w1 _) hgrow hne)
      go_end0
      obtain ⟨hx2, ha2, b2⟩ := Box.push (p := ⟨1, n, []⟩) HX.out (by decide) (by decide) (Apart.bare 1 n HA.out) (below_new w1 _) (by rw [hrl]; exact hown1) hgrow
      rw [hrl] at hx2 ha2 b2
      refine ⟨rfl, ?_, b1.trans b2, HR.out.trans (push_fr (o := o) HOS.out (below_new w1 _) hgrow _)⟩
      rw [keepTo_f n hk]
      exact ⟨_, _, hx2, ha2, HOS.out.push nil_own hat (HS.out _ (by have := HR.out.size; omega))⟩

set_option maxHeartbeats 1600000 in
theorem implKeep_zero (g o : Nat) (w : World) : Calls Try.prog 93 #[.pointer (some ⟨g, o, none⟩), .int .i64 0] w fun e w' => e = .returned (.tuple #[]) ∧ w = w' := by
  go_enter Try.func93, Try.ntmps93
  go_wp2
  first | go_end0 | (refine bodyPost_ret (results_none rfl _ _ _) rfl ?_)
  exact ⟨rfl, rfl⟩
end Go.Proofs.Ytfpjoncaccbnmaa.low.xb


/-
  Composing several operations, and counting parts: the functions on lists, and the contracts of spec.ComposeAll and spec.PartCount.
-/
namespace Go.Proofs.Ytfpjoncaccbnmaa.low
open Go.RowKit
set_option linter.unusedVariables false

def stepCo (s : Option (List Pt)) (ps : List Pt) : Option (List Pt) := match s with
  | none => none
  | some o => if composeB o ps = true then some (composeT o ps) else none
def foldCo (l : List (List Pt)) (n : Int) : Option (List Pt) := l.foldl stepCo (some (keepL n))
def composeAllB (l : List (List Pt)) (n : Int) : Bool := inB n 0 200 && (foldCo l n).isSome
def composeAllT (l : List (List Pt)) (n : Int) : List Pt := if composeAllB l n = true then (foldCo l n).getD [] else []
theorem foldCo_snoc {l : List (List Pt)} {n : Int} {k : Nat} {ps : List Pt} (h : l[k]? = some ps) : foldCo (l.take (k + 1)) n = stepCo (foldCo (l.take k) n) ps := by
  unfold foldCo
  rw [List.take_add_one, h]
  simp
theorem foldlCo_none (l : List (List Pt)) : l.foldl stepCo none = none := by
  induction l with
  | nil => rfl
  | cons p l ih => exact ih
theorem foldCo_none {l : List (List Pt)} {n : Int} {k : Nat} (h : foldCo (l.take k) n = none) : foldCo l n = none := by
  have e : foldCo l n = (l.drop k).foldl stepCo (foldCo (l.take k) n) := by
    unfold foldCo
    rw [← List.foldl_append, List.take_append_drop]
  rw [e, h, foldlCo_none]
theorem composeT_small (a b : List Pt) : SmP (composeT a b) := by
  unfold composeT
  split
  · rename_i h
    unfold composeB at h
    rw [Bool.and_eq_true] at h
    obtain ⟨_, h2, h3⟩ := okOp_units h.2
    refine ⟨by omega, ?_⟩
    have := signsIn_le h2
    omega
  · exact ⟨by simp, by simp [signsIn]⟩
theorem keepL_small (n : Int) : SmP (keepL n) := ⟨by have := keepL_len n; omega, by rw [keepL_signs]; omega⟩
theorem foldCo_small {l : List (List Pt)} {n : Int} {cur : List Pt} {k : Nat} (hk : k ≤ l.length) (h : foldCo (l.take k) n = some cur) : SmP cur := by
  cases k with
  | zero =>
    have : cur = keepL n := by simpa [foldCo] using h.symm
    rw [this]
    exact keepL_small n
  | succ k =>
    obtain ⟨ps, hp⟩ := idx_some (l := l) (i := k) (by omega)
    rw [foldCo_snoc hp] at h
    cases hq : foldCo (l.take k) n with
    | none => rw [hq] at h; cases h
    | some u =>
      rw [hq] at h
      unfold stepCo at h
      simp only at h
      split at h
      · injection h with h
        rw [← h]
        exact composeT_small _ _
      · cases h
theorem composeAll_small {l : List (List Pt)} {n : Int} (h0 : SmPP l) : SmP (composeAllT l n) := by
  unfold composeAllT
  split
  · cases h : foldCo l n with
    | none => exact ⟨by simp, by simp [signsIn]⟩
    | some cur =>
      simp only [Option.getD_some]
      exact foldCo_small (l := l) (k := l.length) (Nat.le_refl _) (by rw [List.take_length]; exact h)
  · exact ⟨by simp, by simp [signsIn]⟩
theorem composeAll_f {l : List (List Pt)} {n : Int} (h : composeAllB l n = false) : composeAllT l n = [] := by unfold composeAllT; rw [h]; rfl

/-- how many parts are of this kind -/
def countK (ps : List Pt) (k : Int) : Int := ((ps.filter (fun p => p.kind == k)).length : Int)
theorem countK_snoc {ps : List Pt} {k : Int} {i : Nat} {p : Pt} (h : ps[i]? = some p) : countK (ps.take (i + 1)) k = countK (ps.take i) k + (if p.kind = k then 1 else 0) := by
  unfold countK
  rw [List.take_add_one, h]
  by_cases e : p.kind = k <;> simp [List.filter_append, e]
theorem countK_le (ps : List Pt) (k : Int) (i : Nat) : 0 ≤ countK (ps.take i) k ∧ countK (ps.take i) k ≤ ps.length := by
  unfold countK
  have := List.length_filter_le (fun p : Pt => p.kind == k) (ps.take i)
  rw [List.length_take] at this
  omega
end Go.Proofs.Ytfpjoncaccbnmaa.low


/-
  The program's side: contracts of impl.TextOk, impl.applies and of the reader's next.
-/
namespace Go.Proofs.Ytfpjoncaccbnmaa.low
open Go.RowKit
set_option linter.unusedVariables false

set_option maxHeartbeats 800000 in
theorem implTextOk_d (v : Value) (t : List Int) (w : World) (h : RdC w w.heap.size (encInts t) v) (hs : SmI t) : Calls Try.prog 45 #[v] w (Tells (okText t) w) := by
  obtain ⟨A, c, rfl, hr, _⟩ := ints_rd h
  have hl : t.length ≤ 1048576 := hs
  by_cases h2 : t.length ≤ 200
  · have HS := Lib.hid (show okText t = allB t by unfold okText; rw [decide_eq_true h2, Bool.and_true])
    go_enter Try.func45, Try.ntmps45
    go_wp2_with fail
    refine (implSignsOk_any A c t _ hr (by omega)).mono ?_
    rintro e w1 ⟨rfl, rfl⟩
    generalize allB t = q at *
    go_wp2
    go_ret
    exact ⟨ret_bool (by rw [HS.out]), Below.refl _ _⟩
  · have HS := Lib.hid (show okText t = false by unfold okText; rw [decide_eq_false h2, Bool.and_false])
    go_enter Try.func45, Try.ntmps45
    go_wp2
    go_ret
    exact ⟨ret_bool (by rw [HS.out]), Below.refl _ _⟩

set_option maxHeartbeats 1600000 in
theorem implFits_d (v v' : Value) (ps : List Pt) (t : List Int) (w : World) (h : RdC w w.heap.size (encPs ps) v) (h' : RdC w w.heap.size (encInts t) v') (hs : SmP ps) (hs' : SmI t) : Calls Try.prog 36 #[v, v'] w (Tells (fitsB ps t) w) := by
  obtain ⟨A, c, rfl, hr, _⟩ := parts_rd h
  obtain ⟨A', c', rfl, hr', _⟩ := ints_rd h'
  have hl := hs.1
  cases ho : okOp ps
  · have HS := Lib.hid (show fitsB ps t = false by unfold fitsB; rw [ho]; rfl)
    go_enter Try.func36, Try.ntmps36
    go_wp2_with fail
    refine (implOpOk_any A c ps _ hr (by omega) hs.all4).mono ?_
    rintro e w1 ⟨rfl, b1⟩
    rw [ho]
    go_wp2
    go_ret
    exact ⟨ret_bool (by rw [HS.out]), b1⟩
  · cases ht : okText t
    · have HS := Lib.hid (show fitsB ps t = false by unfold fitsB; rw [ho, ht]; rfl)
      go_enter Try.func36, Try.ntmps36
      go_wp2_with fail
      refine (implOpOk_any A c ps _ hr (by omega) hs.all4).mono ?_
      rintro e w1 ⟨rfl, b1⟩
      rw [ho]
      go_wp2_with fail
      refine (implTextOk_d _ t _ (h'.past b1) hs').mono ?_
      rintro e w2 ⟨rfl, b2⟩
      rw [ht]
      go_wp2
      go_ret
      exact ⟨ret_bool (by rw [HS.out]), b1.trans (b2.mono b1.size)⟩
    · have HS := Lib.hid (show fitsB ps t = (sumK ps + sumD ps == (t.length : Int)) by unfold fitsB; rw [ho, ht, Bool.true_and]; cases hq : (sumK ps + sumD ps == (t.length : Int)) <;> simp_all)
      go_enter Try.func36, Try.ntmps36
      go_wp2_with fail
      refine (implOpOk_any A c ps _ hr (by omega) hs.all4).mono ?_
      rintro e w1 ⟨rfl, b1⟩
      rw [ho]
      go_wp2_with fail
      refine (implTextOk_d _ t _ (h'.past b1) hs').mono ?_
      rintro e w2 ⟨rfl, b2⟩
      rw [ht]
      have d2 := b1.trans (b2.mono b1.size)
      go_wp2_with fail
      refine (implOpFrom_any A c ps _ (hr.past d2) (by omega) hs.all4).mono ?_
      rintro e w3 ⟨rfl, b3⟩
      generalize sumK ps + sumD ps = q at *
      go_wp2
      go_ret
      exact ⟨ret_bool (by rw [HS.out]), d2.trans (b3.mono d2.size)⟩

/-- the reader at block g: zs is left of the text, which lies in blocks below B -/
def Rdr (B g : Nat) (w : World) (zs : List Int) : Prop := ∃ A c, w.heap[g]? = some (.cells #[.slice A zs.length c] 64 (0, 0)) ∧ zs.length ≤ c ∧ Row (Value.int .i64) w B A zs ∧ B ≤ g
theorem Rdr.keep {B g : Nat} {w w' : World} {zs : List Int} (h : Rdr B g w zs) (hg : w'.heap[g]? = w.heap[g]?) (hk : ∀ p : Addr, p.block < B → w'.cell? p = w.cell? p) : Rdr B g w' zs := by
  obtain ⟨A, c, h1, h2, h3, h4⟩ := h
  exact ⟨A, c, hg.trans h1, h2, h3.keep hk, h4⟩
theorem Rdr.lt {B g : Nat} {w : World} {zs : List Int} (h : Rdr B g w zs) : g < w.heap.size := by
  obtain ⟨A, c, h1, _⟩ := h
  exact lt_of_some h1
theorem Rdr.past {B g : Nat} {w w' : World} {zs : List Int} (h : Rdr B g w zs) (hb : Below w.heap.size w w') : Rdr B g w' zs := by
  have hlt := h.lt
  have hB : B ≤ g := by obtain ⟨_, _, _, _, _, h4⟩ := h; exact h4
  exact h.keep (hb.block g hlt) (fun p hp => hb.cell (by omega))
theorem Rdr.touch {B g : Nat} {w w' : World} {zs : List Int} {T : Nat → Prop} (h : Rdr B g w zs) (ht : Touch T w w') (hT : ∀ b, T b → B ≤ b ∧ ¬ b = g) : Rdr B g w' zs :=
  h.keep (ht.block g (fun e => (hT g e).2 rfl)) (fun p hp => ht.cell (fun e => by have := (hT _ e).1; omega))
/-- next gives the first n numbers, and the reader goes on behind them -/
def NextP (B g : Nat) (zs : List Int) (n : Nat) (w : World) (e : Ending) (w' : World) : Prop := ∃ A, e = .returned (.slice A n n) ∧ Row (Value.int .i64) w' B A (zs.take n) ∧ Rdr B g w' (zs.drop n) ∧ Touch (fun b => b = g) w w'

theorem addr_add_add (p : Addr) (i j : Nat) : (p.add i).add j = p.add (i + j) := by
  unfold Addr.add
  by_cases hi : i = 0
  · subst hi; simp
  · by_cases hj : j = 0
    · subst hj; simp [hi]
    · simp [hi, hj, Nat.add_assoc]
theorem Row.init {w : World} {B : Nat} {A : Option Addr} {zs : List Int} (h : Row (Value.int .i64) w B A zs) (n : Nat) : Row (Value.int .i64) w B A (zs.take n) := fun hn => by
  have h0 : 0 < zs.length := by rw [List.length_take] at hn; omega
  obtain ⟨ad, e, hb, hc⟩ := h h0
  refine ⟨ad, e, hb, fun k z hz => ?_⟩
  rw [List.getElem?_take] at hz
  split at hz
  · exact hc k z hz
  · cases hz
theorem Row.tail {w : World} {B : Nat} {ad : Addr} {zs : List Int} (h : Row (Value.int .i64) w B (some ad) zs) (n : Nat) : Row (Value.int .i64) w B (some (ad.add n)) (zs.drop n) := fun hn => by
  have h0 : 0 < zs.length := by rw [List.length_drop] at hn; omega
  obtain ⟨ad', e, hb, hc⟩ := h h0
  injection e with e
  subst e
  refine ⟨_, rfl, by rw [block_of_add]; exact hb, fun k z hz => ?_⟩
  rw [List.getElem?_drop] at hz
  rw [addr_add_add]
  exact hc (n + k) z hz
theorem heap_set0 {w : World} {g : Nat} {T : TypeId} {u v : Value} (h : w.heap[g]? = some (.cells #[u] T (0, 0))) : (w.setCell ⟨g, 0, none⟩ v).heap[g]? = some (.cells #[v] T (0, 0)) := by
  rw [heap_setCell_same _ _ _ _ _ _ h]
  rfl

set_option maxHeartbeats 1600000 in
theorem implNext (B g n : Nat) (zs : List Int) (w : World) (h : Rdr B g w zs) (hn : n ≤ zs.length) (hz : zs.length ≤ 1000000) : Calls Try.prog 38 #[.pointer (some ⟨g, 0, none⟩), .int .i64 n] w (NextP B g zs n w) := by
  obtain ⟨A, c, h1, h2, h3, h4⟩ := h
  have hcell : w.cell? ⟨g, 0, none⟩ = some (.slice A zs.length c) := cell_of_row _ _ 0 _ _ _ h1
  have hfree : w.frozen? ⟨g, 0, none⟩ = false := by simp [World.frozen?, h1]
  have H1 := Lib.hid h1
  clear h1
  cases A with
  | none =>
    have h0 : zs = [] := by
      rcases Nat.eq_zero_or_pos zs.length with h | h
      · exact List.eq_nil_of_length_eq_zero h
      · obtain ⟨_, hn, _⟩ := h3 h
        cases hn
    subst h0
    obtain rfl : n = 0 := by simpa using hn
    go_enter Try.func38, Try.ntmps38
    go_wp2
    all_goals
      go_ret
      refine ⟨none, rfl, Row.nil, ⟨none, _, heap_set0 H1.out, ?_, Row.nil, h4⟩, (Touch.refl (fun b => b = g) _).setCell (p := ⟨g, 0, none⟩) rfl _⟩
      simp
  | some ad =>
    by_cases hc : n = c
    · obtain rfl : n = c := hc
      obtain rfl : n = zs.length := by omega
      go_enter Try.func38, Try.ntmps38
      have hd : zs.drop zs.length = [] := List.drop_length
      have HD := Lib.hid hd
      clear hd
      go_wp2
      go_ret
      refine ⟨some ad, rfl, (h3.init _).keep (fun p hp => ?_), ?_, (Touch.refl (fun b => b = g) _).setCell (p := ⟨g, 0, none⟩) rfl _⟩
      · exact ((Touch.refl (fun b => b = g) _).setCell (p := ⟨g, 0, none⟩) rfl _).cell (fun e => by omega)
      · rw [HD.out]
        exact ⟨some ad, 0, heap_set0 H1.out, Nat.le_refl _, Row.nil, h4⟩
    · go_enter Try.func38, Try.ntmps38
      go_wp2
      go_ret
      have hk : ∀ p : Addr, p.block < B → (w.setCell ⟨g, 0, none⟩ (.slice (some (ad.add n)) (zs.length - n) (c - n))).cell? p = w.cell? p := fun p hp => ((Touch.refl (fun b => b = g) w).setCell (p := ⟨g, 0, none⟩) rfl _).cell (fun e => by omega)
      refine ⟨some ad, rfl, (h3.init _).keep hk, ⟨some (ad.add n), c - n, ?_, by rw [List.length_drop]; omega, (h3.tail n).keep hk, h4⟩, (Touch.refl (fun b => b = g) _).setCell (p := ⟨g, 0, none⟩) rfl _⟩
      rw [List.length_drop]
      exact heap_set0 H1.out
end Go.Proofs.Ytfpjoncaccbnmaa.low


/-
  The program's reader of an operation (opReader): the part at hand and the rest; more.
-/
namespace Go.Proofs.Ytfpjoncaccbnmaa.low
open Go.RowKit
set_option linter.unusedVariables false

/-- a part as the reader holds it: valid, or the zero value -/
def Vp (p : Pt) : Prop := ((p.kind = 1 ∨ p.kind = 3) ∧ 0 ≤ p.n ∧ p.n ≤ 200 ∧ p.signs = []) ∨ (p.kind = 2 ∧ p.n = 0 ∧ p.signs.length ≤ 200) ∨ (p.kind = 0 ∧ p.n = 0 ∧ p.signs = [])
theorem Vp.of {p : Pt} (h : okPt p = true) : Vp p := by
  have := of_okPt h
  unfold Vp
  obtain ⟨k, n, zs⟩ := p
  simp only at this ⊢
  have e : zs.length = 0 → zs = [] := List.eq_nil_of_length_eq_zero
  rcases (show k = 1 ∨ k = 2 ∨ k = 3 by omega) with rfl | rfl | rfl
  · exact .inl ⟨.inl rfl, by omega, by omega, e (by omega)⟩
  · exact .inr (.inl ⟨rfl, by omega, by omega⟩)
  · exact .inl ⟨.inr rfl, by omega, by omega, e (by omega)⟩
theorem Vp.size {p : Pt} (h : Vp p) : p.n + (p.signs.length : Int) = (sizeP p : Int) ∧ sizeP p ≤ 200 ∧ 0 ≤ p.n ∧ p.n ≤ 200 ∧ p.signs.length ≤ 200 := by
  obtain ⟨k, n, zs⟩ := p
  unfold sizeP
  rcases h with ⟨h1, h2, h3, h4⟩ | ⟨h1, h2, h3⟩ | ⟨h1, h2, h3⟩ <;> simp only at * <;> subst_vars <;> simp <;> (try omega)
  rcases h1 with rfl | rfl <;> simp <;> omega
theorem Vp.sz {p : Pt} (h : Vp p) (h0 : 0 < sizeP p) : szP_ p := by
  obtain ⟨k, n, zs⟩ := p
  have hs := h.size
  unfold szP_
  rcases h with ⟨h1, h2, h3, h4⟩ | ⟨h1, h2, h3⟩ | ⟨h1, h2, h3⟩ <;> simp only at * <;> subst_vars <;> simp [sizeP] at * <;> omega
/-- the reader at block g: p at hand, ps behind it -/
structure Orr (lo g : Nat) (w : World) (p : Pt) (ps : List Pt) : Prop where
  box : ∃ B cb A c, w.heap[g]? = some (.cells #[.int .i64 p.kind, .int .i64 p.n, .slice B p.signs.length cb, .slice A ps.length c] 96 (0, 0)) ∧ RdC w lo (encInts p.signs) (.slice B p.signs.length cb) ∧ RdC w lo (encPs ps) (.slice A ps.length c)
  ge : lo ≤ g
  vp : Vp p
  vs : ∀ x ∈ ps, okPt x = true
  ln : ps.length ≤ 1048576
section
variable {lo g : Nat} {w w' : World} {p : Pt} {ps : List Pt}
theorem Orr.lt (h : Orr lo g w p ps) : g < w.heap.size := by obtain ⟨B, cb, A, c, h1, _⟩ := h.box; exact lt_of_some h1
theorem Orr.keep (h : Orr lo g w p ps) (hg : w'.heap[g]? = w.heap[g]?) (hb : Below lo w w') : Orr lo g w' p ps := by
  obtain ⟨B, cb, A, c, h1, h2, h3⟩ := h.box
  exact ⟨⟨B, cb, A, c, hg.trans h1, h2.below hb, h3.below hb⟩, h.ge, h.vp, h.vs, h.ln⟩
theorem Orr.past (h : Orr lo g w p ps) (hb : Below w.heap.size w w') : Orr lo g w' p ps :=
  h.keep (hb.block _ h.lt) (hb.mono (Nat.le_trans h.ge (Nat.le_of_lt h.lt)))
end
/-- a part of a slice of parts, with all that is known of its characters -/
theorem parts_hd {w : World} {B : Nat} {A : Option Addr} {n c : Nat} {p : Pt} {ps : List Pt} (h : RdC w B (encPs (p :: ps)) (.slice A n c)) : ∃ b off A' c', A = some ⟨b, off, none⟩ ∧ b < B ∧ ps.length + 1 ≤ c ∧ w.cell? ⟨b, off, none⟩ = some (.int .i64 p.kind) ∧ w.cell? ⟨b, off + 1, none⟩ = some (.int .i64 p.n) ∧ w.cell? ⟨b, off + 2, none⟩ = some (.slice A' p.signs.length c') ∧ RdC w B (encInts p.signs) (.slice A' p.signs.length c') ∧
    (∀ d, ps.length ≤ d → RdC w B (encPs ps) (.slice (some ⟨b, off + 3, none⟩) ps.length d)) := by
  obtain ⟨A0, c0, hv, hc, h⟩ := h
  injection hv with e1 e2 e3
  subst e1 e3
  obtain ⟨ad, hA, hb, hs, hr⟩ := h (by simp)
  obtain ⟨b, off, spot⟩ := ad
  obtain rfl : spot = none := by
    rcases hs with hs | hs
    · cases hs
    · exact hs
  obtain ⟨⟨⟨v0, h0, rfl⟩, ⟨v1, h1, rfl⟩, ⟨v2, h2, r2⟩, _⟩, hr⟩ := hr
  obtain ⟨A', c', rfl, r3, _⟩ := ints_rd r2
  rw [add_at] at h0 h1 h2
  refine ⟨b, off, A', c', hA, hb, by simpa using hc, by simpa using h0, by simpa using h1, by simpa using h2, r2, fun d hd => ⟨some ⟨b, off + 3, none⟩, d, by simp, by simpa using hd, fun _ => ⟨⟨b, off + 3, none⟩, rfl, hb, .inr rfl, ?_⟩⟩⟩
  have key : ∀ (rs : List (List Dat)) (o : Nat), RdR w B 3 ⟨b, off, none⟩ (o + 3) rs → RdR w B 3 ⟨b, off + 3, none⟩ o rs := by
    have keyL : ∀ (ds : List Dat) (o : Nat), RdL w B ⟨b, off, none⟩ (o + 3) ds → RdL w B ⟨b, off + 3, none⟩ o ds := by
      intro ds
      induction ds with
      | nil => intro o _; trivial
      | cons d ds ih =>
        intro o ⟨⟨v, h1, h2⟩, h3⟩
        refine ⟨⟨v, ?_, h2⟩, ih (o + 1) (by rw [show o + 1 + 3 = o + 3 + 1 by omega]; exact h3)⟩
        rw [add_at] at h1 ⊢
        rw [show off + 3 + o = off + (o + 3) by omega]
        exact h1
    intro rs
    induction rs with
    | nil => intro o _; trivial
    | cons r rs ih =>
      intro o ⟨h1, h2⟩
      exact ⟨keyL r o h1, ih (o + 3) (by rw [show o + 3 + 3 = o + 3 + 3 by omega]; exact h2)⟩
  exact key _ 0 hr
theorem parts_none {w : World} {B : Nat} {A : Option Addr} {c : Nat} : RdC w B (encPs []) (.slice A 0 c) := ⟨A, c, by simp, by simp, fun h => by simp at h⟩
def restOf (g : Nat) (w : World) : Nat := match w.cell? ⟨g, 3, none⟩ with
  | some (.slice _ n _) => n
  | _ => 0
theorem orr_rest {lo g : Nat} {w : World} {p : Pt} {ps : List Pt} (h : Orr lo g w p ps) : restOf g w = ps.length := by
  obtain ⟨B, cb, A, c, h1, _⟩ := h.box
  have c3 : w.cell? ⟨g, 3, none⟩ = some (.slice A ps.length c) := cell_of_row _ _ 3 _ _ _ h1
  unfold restOf
  rw [c3]
/-- behind a look for more: the reader stands at a part with something left of it, or at the end -/
def MoreP (lo g : Nat) (p : Pt) (ps : List Pt) (w : World) (e : Ending) (w' : World) : Prop := ∃ p' ps', e = .returned (.bool (decide (0 < sizeP p'))) ∧ Orr lo g w' p' ps' ∧ unitsP p' ++ units ps' = unitsP p ++ units ps ∧ (sizeP p' = 0 → ps' = []) ∧ Below lo w w' ∧ Fr (fun q => q = g) w w'
theorem ret_b {b c : Bool} (h : b = c) : Ending.returned (.bool b) = .returned (.bool c) := by rw [h]
theorem fr_set (g i : Nat) (w : World) (x : Value) : Fr (fun q => q = g) w (w.setCell ⟨g, i, none⟩ x) := (Fr.refl (fun q => q = g) w).setCell (p := ⟨g, i, none⟩) rfl x

/-- the world behind 'r.next, r.rest = r.rest[0], r.rest[1:]' -/
def nextW (g b off c k : Nat) (kind n : Int) (u : Value) (w : World) : World := ((((w.drew.setCell ⟨g, 0, none⟩ (.int .i64 kind)).setCell ⟨g, 1, none⟩ (.int .i64 n)).setCell ⟨g, 2, none⟩ u).setCell ⟨g, 3, none⟩ (.slice (if c = 1 then some ⟨b, off, none⟩ else some ⟨b, off + 3, none⟩) k (c - 1)))
theorem heap_drew (w : World) (g : Nat) : w.drew.heap[g]? = w.heap[g]? := rfl
theorem nextW_fr (g b off c k : Nat) (kind n : Int) (u : Value) (w : World) : Fr (fun q => q = g) w (nextW g b off c k kind n u w) :=
  (((((Fr.refl (fun q => q = g) w).drew).setCell (p := ⟨g, 0, none⟩) rfl _).setCell (p := ⟨g, 1, none⟩) rfl _).setCell (p := ⟨g, 2, none⟩) rfl _).setCell (p := ⟨g, 3, none⟩) rfl _
theorem nextW_below {lo g : Nat} (hg : lo ≤ g) (b off c k : Nat) (kind n : Int) (u : Value) (w : World) : Below lo w (nextW g b off c k kind n u w) :=
  (((((Below.refl lo w).drew).setCell (p := ⟨g, 0, none⟩) hg _).setCell (p := ⟨g, 1, none⟩) hg _).setCell (p := ⟨g, 2, none⟩) hg _).setCell (p := ⟨g, 3, none⟩) hg _
theorem orr_next {lo g b off c c' : Nat} {A' : Option Addr} {w : World} {q : Pt} {qs : List Pt} {v0 v1 v2 v3 : Value} (h1 : w.heap[g]? = some (.cells #[v0, v1, v2, v3] 96 (0, 0))) (hr : RdC w lo (encInts q.signs) (.slice A' q.signs.length c')) (ht : ∀ d, qs.length ≤ d → RdC w lo (encPs qs) (.slice (some ⟨b, off + 3, none⟩) qs.length d)) (hc : qs.length + 1 ≤ c) (hge : lo ≤ g)
    (hv : okPt q = true) (hvs : ∀ x ∈ qs, okPt x = true) (hln : qs.length ≤ 1048576) : Orr lo g (nextW g b off c qs.length q.kind q.n (.slice A' q.signs.length c') w) q qs := by
  have hb := nextW_below hge b off c qs.length q.kind q.n (.slice A' q.signs.length c') w
  refine ⟨⟨A', c', (if c = 1 then some ⟨b, off, none⟩ else some ⟨b, off + 3, none⟩), c - 1, ?_, hr.below hb, ?_⟩, hge, Vp.of hv, hvs, hln⟩
  · unfold nextW
    rw [heap_setCell_same _ _ _ _ _ _ (heap_setCell_same _ _ _ _ _ _ (heap_setCell_same _ _ _ _ _ _ (heap_setCell_same _ _ _ _ _ _ ((heap_drew w g).trans h1))))]
    rfl
  · by_cases e : c = 1
    · rw [if_pos e]
      obtain rfl : qs = [] := List.eq_nil_of_length_eq_zero (by omega)
      exact parts_none
    · rw [if_neg e]
      exact (ht _ (by omega)).below hb

set_option maxRecDepth 100000 in
set_option maxHeartbeats 3200000 in
theorem implMore (lo g : Nat) (p : Pt) (ps : List Pt) (w : World) (h : Orr lo g w p ps) : Calls Try.prog 91 #[.pointer (some ⟨g, 0, none⟩)] w (MoreP lo g p ps w) := by
  have hgw := h.lt
  go_enter Try.func91, Try.ntmps91
  go_wp2
  go_loopw [2] (fun t wr => t = .bool false ∧ ∃ p' ps', Orr lo g wr p' ps' ∧ unitsP p' ++ units ps' = unitsP p ++ units ps ∧ Below lo w wr ∧ Fr (fun q => q = g) w wr) (fun _ wr => restOf g wr)
  case atStart => exact ⟨rfl, p, ps, h, rfl, Below.refl _ _, Fr.refl _ _⟩
  case round =>
    obtain ⟨rfl, p', ps', ho, hu, hbel, hfr⟩ := hrel
    obtain ⟨B, cb, A, c, h1, h2, h3⟩ := ho.box
    have hz := ho.vp.size
    have c0 : wr.cell? ⟨g, 0, none⟩ = some (.int .i64 p'.kind) := cell_of_row _ _ 0 _ _ _ h1
    have c1 : wr.cell? ⟨g, 1, none⟩ = some (.int .i64 p'.n) := cell_of_row _ _ 1 _ _ _ h1
    have c2 : wr.cell? ⟨g, 2, none⟩ = some (.slice B p'.signs.length cb) := cell_of_row _ _ 2 _ _ _ h1
    have c3 : wr.cell? ⟨g, 3, none⟩ = some (.slice A ps'.length c) := cell_of_row _ _ 3 _ _ _ h1
    have hlt := ho.lt
    have HO := Lib.hid ho
    have HU := Lib.hid hu
    have HF := Lib.hid hfr
    have HZ := Lib.hid hz
    have H1 := Lib.hid h1
    have HM := Lib.hid (show restOf g wr = ps'.length by unfold restOf; rw [c3])
    clear ho hu hfr hz h1 h hgw
    go_wp2_with fail
    have hz := HZ.out
    refine (implSize_any p'.kind p'.n B p'.signs.length cb wr (by omega) (by omega) (by omega)).mono ?_
    clear hz c0 c1 c2
    rintro e w1 ⟨rfl, b1⟩
    have HB := Lib.hid b1
    have hlt1 : g < w1.heap.size := Nat.lt_of_lt_of_le hlt b1.size
    have h1' : w1.heap[g]? = some (.cells #[.int .i64 p'.kind, .int .i64 p'.n, .slice B p'.signs.length cb, .slice A ps'.length c] 96 (0, 0)) := (b1.block g hlt).trans H1.out
    have c3' : w1.cell? ⟨g, 3, none⟩ = some (.slice A ps'.length c) := cell_of_row _ _ 3 _ _ _ h1'
    have ho1 := HO.out.past b1
    have hb1 : Below lo w w1 := hbel.trans (b1.mono (Nat.le_trans ho1.ge (by have := HO.out.lt; omega)))
    have hf1 : Fr (fun q => q = g) w w1 := HF.out.trans (Fr.below b1)
    have H1' := Lib.hid h1'
    have HO1 := Lib.hid ho1
    have HF1 := Lib.hid hf1
    clear b1 c3 h1' ho1 hf1 HO HF HB H1 hbel
    rw [HZ.out.1]
    by_cases hs : sizeP p' = 0
    · have g0 : (((sizeP p' : Nat) : Int) == 0) = true := by simp [hs]
      cases ps' with
      | nil =>
        have HS := Lib.hid hs
        clear hs
        go_wp2
        go_ret
        exact ⟨p', [], ret_b (by simp [HS.out]), HO1.out, HU.out, fun _ => rfl, hb1, HF1.out⟩
      | cons q qs =>
        have hql : ((qs.length : Int) + 1 == 0) = false := by simp; omega
        have hRd := HO1.out
        obtain ⟨B2, cb2, A2, c2, k1, k2, k3⟩ := hRd.box
        rw [H1'.out] at k1
        injection k1 with k1
        injection k1 with k1 _ _
        simp at k1
        obtain ⟨⟨rfl, rfl⟩, rfl, rfl⟩ := k1
        obtain ⟨b, off, A', c', rfl, hblt, hc, d0, d1, d2, r2, rt⟩ := parts_hd k3
        have f0 : ∀ o, w1.frozen? ⟨g, o, none⟩ = false := fun o => by simp [World.frozen?, H1'.out]
        have f1 := f0 0
        have f2 := f0 1
        have f3 := f0 2
        have f4 := f0 3
        have HK := Lib.hid (show RdC w1 lo (encInts q.signs) (.slice A' q.signs.length c') ∧ (∀ d, qs.length ≤ d → RdC w1 lo (encPs qs) (.slice (some ⟨b, off + 3, none⟩) qs.length d)) from ⟨r2, rt⟩)
        have c0 : w1.cell? ⟨g, 0, none⟩ = some (.int .i64 p'.kind) := cell_of_row _ _ 0 _ _ _ H1'.out
        have c1 : w1.cell? ⟨g, 1, none⟩ = some (.int .i64 p'.n) := cell_of_row _ _ 1 _ _ _ H1'.out
        have c2 : w1.cell? ⟨g, 2, none⟩ = some (.slice B p'.signs.length cb) := cell_of_row _ _ 2 _ _ _ H1'.out
        have hne : ¬ b = g := by have := HO1.out.ge; omega
        clear f0 r2 rt k2 k3 hRd hs
        have hq1 : (1 : Int) ≤ (qs.length : Int) + 1 := by omega
        go_wp2
        go_region
        all_goals
          go_roundw
          case rel =>
            have hv := HO1.out.vs
            have hln := HO1.out.ln
            have hx := orr_next H1'.out HK.out.1 HK.out.2 hc HO1.out.ge (hv q (by simp)) (fun x hx => hv x (by simp [hx])) (by simp at hln; omega)
            have hu : unitsP q ++ units qs = unitsP p ++ units ps := by
              rw [← HU.out, units_cons]
              have e : unitsP p' = [] := List.eq_nil_of_length_eq_zero (by rw [unitsP_len]; simpa using g0)
              rw [e]
              rfl
            repeat apply Exists.intro
            exact ⟨⟨rfl, q, qs, hx, hu, hb1.trans (nextW_below HO1.out.ge _ _ _ _ _ _ _ _), HF1.out.trans (nextW_fr _ _ _ _ _ _ _ _ _)⟩, rfl⟩
          case measure =>
            have hv := HO1.out.vs
            have hln := HO1.out.ln
            have hx := orr_next H1'.out HK.out.1 HK.out.2 hc HO1.out.ge (hv q (by simp)) (fun x hx => hv x (by simp [hx])) (by simp at hln; omega)
            rw [HM.out]
            refine Nat.lt_of_le_of_lt (Nat.le_of_eq (orr_rest hx)) ?_
            simp
    · have g0 : (((sizeP p' : Nat) : Int) == 0) = false := by simp [hs]
      have HS := Lib.hid hs
      clear hs
      go_wp2
      go_ret
      exact ⟨p', ps', ret_b (by have := HS.out; simp; omega), HO1.out, HU.out, fun h => absurd h HS.out, hb1, HF1.out⟩
end Go.Proofs.Ytfpjoncaccbnmaa.low


/-
  The program's reader of an operation: cut and take; the builder's add and addBoth.
-/
namespace Go.Proofs.Ytfpjoncaccbnmaa.low
open Go.RowKit
set_option linter.unusedVariables false

/-- the first n units of a part, and what is left of it -/
def cutL (p : Pt) (n : Nat) : Pt := if p.kind = 2 then ⟨2, 0, p.signs.take n⟩ else ⟨p.kind, (n : Int), []⟩
def cutR (p : Pt) (n : Nat) : Pt := if p.kind = 2 then ⟨2, 0, p.signs.drop n⟩ else ⟨p.kind, p.n - (n : Int), []⟩
/-- a part as a value -/
def PtV (lo : Nat) (w : World) (p : Pt) (v : Value) : Prop := ∃ A c, v = .agg #[.int .i64 p.kind, .int .i64 p.n, .slice A p.signs.length c] ∧ RdC w lo (encInts p.signs) (.slice A p.signs.length c)
theorem PtV.below {lo : Nat} {w w' : World} {p : Pt} {v : Value} (h : PtV lo w p v) (hb : Below lo w w') : PtV lo w' p v := by
  obtain ⟨A, c, h1, h2⟩ := h
  exact ⟨A, c, h1, h2.below hb⟩
def CutP (lo : Nat) (p : Pt) (n : Nat) (w : World) (e : Ending) (w' : World) : Prop := ∃ v1 v2, e = .returned (.tuple #[v1, v2]) ∧ PtV lo w' (cutL p n) v1 ∧ PtV lo w' (cutR p n) v2 ∧ Below w.heap.size w w'
theorem ints_none {w : World} {B : Nat} {A : Option Addr} {c : Nat} : RdC w B (encInts []) (.slice A 0 c) := ⟨A, c, by simp, by simp, fun h => by simp at h⟩

theorem cut_below {lo : Nat} {w : World} (h : lo ≤ w.heap.size) (o1 o2 o3 : Obj) : Below lo w (((w.alloc o1).alloc o2).alloc o3).drew := (((((Below.refl lo w).alloc h _).alloc (by simp; omega) _).alloc (by simp; omega) _)).drew

set_option maxRecDepth 100000 in
set_option maxHeartbeats 3200000 in
theorem implCut (lo : Nat) (p : Pt) (n : Nat) (B : Option Addr) (cb : Nat) (w : World) (hv : Vp p) (hr : RdC w lo (encInts p.signs) (.slice B p.signs.length cb)) (hlo : lo ≤ w.heap.size) (h0 : 0 < n) (hn : n ≤ sizeP p) :
    Calls Try.prog 102 #[.agg #[.int .i64 p.kind, .int .i64 p.n, .slice B p.signs.length cb], .int .i64 (n : Int)] w (CutP lo p n w) := by
  have hz := hv.size
  by_cases hk : p.kind = 2
  · have e1 : cutL p n = ⟨2, 0, p.signs.take n⟩ := by simp [cutL, hk]
    have e2 : cutR p n = ⟨2, 0, p.signs.drop n⟩ := by simp [cutR, hk]
    have hl : n ≤ p.signs.length := by simpa [sizeP, hk] using hn
    have g0 : (p.kind == 2) = true := by simp [hk]
    obtain ⟨A', c', hv', hrow, hcap⟩ := ints_rd hr
    injection hv' with x1 x2 x3
    subst x1 x3
    obtain ⟨ad, rfl, hb, hcell⟩ := hrow (by omega)
    have i1 : (0 : Int) ≤ (n : Int) := by omega
    have i2 : (n : Int) ≤ (p.signs.length : Int) := by omega
    have i3 : (n : Int) ≤ (cb : Int) := by omega
    have HR := Lib.hid hrow
    have H1 := Lib.hid e1
    have H2 := Lib.hid e2
    clear e1 e2 hrow hk hr hcell
    have hl1 : (p.signs.take n).length = n := by simp; omega
    have hl2 : (p.signs.drop n).length = p.signs.length - n := by simp
    have key : ∀ w', Below lo w w' → PtV lo w' ⟨2, 0, p.signs.take n⟩ (.agg #[.int .i64 2, .int .i64 0, .slice (some ad) n cb]) := fun w' hbw => by
      have := rd_ints (c := cb) (HR.out.init n) (by omega)
      rw [hl1] at this
      exact ⟨some ad, cb, by rw [hl1], by rw [hl1]; exact this.below hbw⟩
    have KEY := Lib.hid key
    clear key
    by_cases hcn : cb = n
    · have e3 : p.signs.drop n = [] := List.drop_eq_nil_of_le (by omega)
      have e4 : p.signs.length = n := by omega
      have HL := Lib.hid e4
      have H3 := Lib.hid e3
      have HC := Lib.hid hcn
      clear e3 e4 hl1 hl2 hl i3 hcap
      subst hcn
      go_enter Try.func102, Try.ntmps102
      go_wp2
      go_region
      all_goals
        go_wp2
        refine bodyPost_ret (v := .tuple #[.agg #[.int .i64 2, .int .i64 0, .slice (some ad) cb cb], .agg #[.int .i64 2, .int .i64 0, .slice (some ad) (p.signs.length - cb) 0]]) (by simp [results, Try.results102, go_sem]) rfl ⟨_, _, rfl, ?_, ?_, ?_⟩
        · rw [H1.out]
          exact KEY.out _ (cut_below hlo _ _ _)
        · rw [H2.out, H3.out, HL.out, Nat.sub_self]
          exact ⟨some ad, 0, rfl, ints_none⟩
        · exact cut_below (Nat.le_refl _) _ _ _
    · have HL2 := Lib.hid hl2
      clear hl1 hl2
      go_enter Try.func102, Try.ntmps102
      go_wp2
      go_region
      all_goals
        go_wp2
        refine bodyPost_ret (v := .tuple #[.agg #[.int .i64 2, .int .i64 0, .slice (some ad) n cb], .agg #[.int .i64 2, .int .i64 0, .slice (some (ad.add n)) (p.signs.length - n) (cb - n)]]) (by simp [results, Try.results102, go_sem]) rfl ⟨_, _, rfl, ?_, ?_, ?_⟩
        · rw [H1.out]
          exact KEY.out _ (cut_below hlo _ _ _)
        · rw [H2.out]
          refine ⟨some (ad.add n), cb - n, by rw [HL2.out], ?_⟩
          rw [HL2.out]
          have := rd_ints (c := cb - n) (HR.out.tail n) (by rw [HL2.out]; omega)
          rw [HL2.out] at this
          exact this.below (cut_below hlo _ _ _)
        · exact cut_below (Nat.le_refl _) _ _ _
  · have e1 : cutL p n = ⟨p.kind, (n : Int), []⟩ := by simp [cutL, hk]
    have e2 : cutR p n = ⟨p.kind, p.n - (n : Int), []⟩ := by simp [cutR, hk]
    have g0 : (p.kind == 2) = false := by simp [hk]
    have hl : (n : Int) ≤ p.n := by have : sizeP p = p.n.toNat := by simp [sizeP, hk]
                                    omega
    have H1 := Lib.hid e1
    have H2 := Lib.hid e2
    clear e1 e2 hk hr
    go_enter Try.func102, Try.ntmps102
    go_wp2
    go_region
    all_goals
      go_wp2
      refine bodyPost_ret (v := .tuple #[.agg #[.int .i64 p.kind, .int .i64 (n : Int), .slice none 0 0], .agg #[.int .i64 p.kind, .int .i64 (p.n - (n : Int)), .slice none 0 0]]) (by simp [results, Try.results102, go_sem]) rfl ⟨_, _, rfl, ?_, ?_, ?_⟩
      · rw [H1.out]
        exact ⟨none, 0, rfl, ints_none⟩
      · rw [H2.out]
        exact ⟨none, 0, rfl, ints_none⟩
      · exact cut_below (Nat.le_refl _) _ _ _
/-- behind a take of n units: the piece, and the reader moved on -/
def TakeQ (lo g : Nat) (p : Pt) (ps : List Pt) (n : Nat) (w : World) (e : Ending) (w' : World) : Prop := ∃ v, e = .returned v ∧ PtV lo w' (cutL p n) v ∧ Orr lo g w' (cutR p n) ps ∧ Below lo w w' ∧ Fr (fun q => q = g) w w'
theorem cutR_vp {p : Pt} {n : Nat} (h : Vp p) (hn : n ≤ sizeP p) : Vp (cutR p n) := by
  obtain ⟨k, m, zs⟩ := p
  unfold cutR
  unfold sizeP at hn
  rcases h with ⟨h1, h2, h3, h4⟩ | ⟨h1, h2, h3⟩ | ⟨h1, h2, h3⟩ <;> simp only at * <;> subst_vars
  · have hk : ¬ k = 2 := by omega
    rw [if_neg hk] at hn ⊢
    exact .inl ⟨h1, by simp; omega, by simp; omega, rfl⟩
  · exact .inr (.inl ⟨rfl, rfl, by simp; omega⟩)
  · simp at hn
    subst hn
    exact .inr (.inr ⟨rfl, rfl, rfl⟩)
theorem cutL_vp {p : Pt} {n : Nat} (h : Vp p) (hn : n ≤ sizeP p) : Vp (cutL p n) := by
  obtain ⟨k, m, zs⟩ := p
  have hz := h.size
  unfold cutL
  unfold sizeP at hn hz
  rcases h with ⟨h1, h2, h3, h4⟩ | ⟨h1, h2, h3⟩ | ⟨h1, h2, h3⟩ <;> simp only at * <;> subst_vars
  · have hk : ¬ k = 2 := by omega
    rw [if_neg hk] at hn hz ⊢
    exact .inl ⟨h1, by simp, by simp; omega, rfl⟩
  · exact .inr (.inl ⟨rfl, rfl, by simp; omega⟩)
  · simp at hn
    subst hn
    exact .inr (.inr ⟨rfl, rfl, rfl⟩)

theorem take_below {lo : Nat} (w : World) (g m : Nat) (x0 x1 x2 y0 y1 y2 : Value) (o1 o2 : Obj) (hg : lo ≤ g) (hm : lo ≤ m) (hs : g < w.heap.size) : Below lo w ((((((((w.setCell ⟨g, 0, none⟩ x0).setCell ⟨g, 1, none⟩ x1).setCell ⟨g, 2, none⟩ x2).setCell ⟨m, 0, none⟩ y0).setCell ⟨m, 1, none⟩ y1).setCell ⟨m, 2, none⟩ y2).alloc o1).alloc o2) :=
  ((((((((Below.refl lo w).setCell (p := ⟨g, 0, none⟩) hg _).setCell (p := ⟨g, 1, none⟩) hg _).setCell (p := ⟨g, 2, none⟩) hg _).setCell (p := ⟨m, 0, none⟩) hm _).setCell (p := ⟨m, 1, none⟩) hm _).setCell (p := ⟨m, 2, none⟩) hm _).alloc (by simp; omega) _).alloc (by simp; omega) _
set_option maxRecDepth 100000 in
set_option maxHeartbeats 3200000 in
theorem implTake (lo g : Nat) (p : Pt) (ps : List Pt) (n : Nat) (w : World) (h : Orr lo g w p ps) (h0 : 0 < n) (hn : n ≤ sizeP p) : Calls Try.prog 98 #[.pointer (some ⟨g, 0, none⟩), .int .i64 (n : Int)] w (TakeQ lo g p ps n w) := by
  obtain ⟨B, cb, A, c, h1, h2, h3⟩ := h.box
  have hlt := h.lt
  have c0 : w.cell? ⟨g, 0, none⟩ = some (.int .i64 p.kind) := cell_of_row _ _ 0 _ _ _ h1
  have c1 : w.cell? ⟨g, 1, none⟩ = some (.int .i64 p.n) := cell_of_row _ _ 1 _ _ _ h1
  have c2 : w.cell? ⟨g, 2, none⟩ = some (.slice B p.signs.length cb) := cell_of_row _ _ 2 _ _ _ h1
  have hge := h.ge
  have HV := Lib.hid h.vp
  have HO := Lib.hid h
  have H1 := Lib.hid h1
  clear h h1
  go_enter Try.func98, Try.ntmps98
  have b0 := alloc_below w (.cells #[.int .i64 0, .int .i64 0, .slice none 0 0] 66)
  go_wp2_with fail
  refine (implCut lo p n B cb _ HV.out (h2.below (b0.mono (by omega))) (by simp; omega) h0 hn).mono ?_
  rintro e w1 ⟨v1, v2, rfl, ⟨A1, c1'', rfl, r1⟩, ⟨A2, c2'', rfl, r2⟩, b1⟩
  have hb1 : Below w.heap.size w w1 := b0.trans (b1.mono b0.size)
  have hgl : g < w1.heap.size := Nat.lt_of_lt_of_le hlt hb1.size
  have h1' := (hb1.block g hlt).trans H1.out
  have f0 : ∀ o, w1.frozen? ⟨g, o, none⟩ = false := fun o => by simp [World.frozen?, h1']
  have f1 := f0 0
  have f2 := f0 1
  have f3 := f0 2
  have c0' : w1.cell? ⟨g, 0, none⟩ = some (.int .i64 p.kind) := cell_of_row _ _ 0 _ _ _ h1'
  have c1' : w1.cell? ⟨g, 1, none⟩ = some (.int .i64 p.n) := cell_of_row _ _ 1 _ _ _ h1'
  have c2' : w1.cell? ⟨g, 2, none⟩ = some (.slice B p.signs.length cb) := cell_of_row _ _ 2 _ _ _ h1'
  have hn4 : w1.heap[w.heap.size]? = some (.cells #[.int .i64 0, .int .i64 0, .slice none 0 0] 66 (0, 0)) := (b1.block _ (by simp)).trans (heap_alloc_new w _)
  have hnf : ∀ o, w1.frozen? ⟨w.heap.size, o, none⟩ = false := fun o => by simp [World.frozen?, hn4]
  have k0 : w1.cell? ⟨w.heap.size, 0, none⟩ = some (.int .i64 0) := cell_of_row _ _ 0 _ _ _ hn4
  have k1 : w1.cell? ⟨w.heap.size, 1, none⟩ = some (.int .i64 0) := cell_of_row _ _ 1 _ _ _ hn4
  have k2 : w1.cell? ⟨w.heap.size, 2, none⟩ = some (.slice none 0 0) := cell_of_row _ _ 2 _ _ _ hn4
  have n0 := hnf 0
  have n1 := hnf 1
  have n2 := hnf 2
  have hwl : w.heap.size < w1.heap.size := lt_of_some hn4
  have hgn : ¬ g = w.heap.size := by omega
  have hgn1 : ¬ g = w1.heap.size := by omega
  have hgn2 : ¬ g = w1.heap.size + 1 := by omega
  have hwn1 : ¬ w.heap.size = w1.heap.size := by omega
  have hwn2 : ¬ w.heap.size = w1.heap.size + 1 := by omega
  have HP := Lib.hid h1'
  have HN := Lib.hid hn4
  have HB := Lib.hid b1
  have HB1 := Lib.hid hb1
  clear h1' hn4 b1 hb1 f0 hnf c0 c1 c2
  go_wp2
  have hge2 : lo ≤ w.heap.size := Nat.le_trans hge (Nat.le_of_lt hlt)
  have bel : Below lo w1 _ := take_below w1 g w.heap.size (.int .i64 (cutR p n).kind) (.int .i64 (cutR p n).n) (.slice A2 (cutR p n).signs.length c2'') (.int .i64 (cutL p n).kind) (.int .i64 (cutL p n).n) (.slice A1 (cutL p n).signs.length c1'') (.cells #[.int .i64 (cutL p n).kind, .int .i64 (cutL p n).n, .slice A1 (cutL p n).signs.length c1''] 66) (.cells #[.int .i64 (cutR p n).kind, .int .i64 (cutR p n).n, .slice A2 (cutR p n).signs.length c2''] 66) hge hge2 hgl
  refine bodyPost_ret (v := .agg #[.int .i64 (cutL p n).kind, .int .i64 (cutL p n).n, .slice A1 (cutL p n).signs.length c1'']) (by simp [results, Try.results98, go_sem, *]) rfl ⟨_, rfl, ⟨A1, c1'', rfl, r1.below bel⟩, ⟨⟨A2, c2'', A, c, ?_, r2.below bel, (h3.below (HB1.out.mono hge2)).below bel⟩, hge, cutR_vp HV.out hn, HO.out.vs, HO.out.ln⟩, (HB1.out.mono hge2).trans bel, ?_⟩
  · refine heap_old _ _ (heap_old _ _ ?_)
    rw [Below.heap_setCell _ _ _ _ hgn, Below.heap_setCell _ _ _ _ hgn, Below.heap_setCell _ _ _ _ hgn, heap_setCell_same _ _ _ _ _ _ (heap_setCell_same _ _ _ _ _ _ (heap_setCell_same _ _ _ _ _ _ HP.out))]
    rfl
  · refine ⟨Nat.le_trans HB1.out.size bel.size, fun b hb hs => ?_⟩
    have hs' : ¬ b = g := hs
    have hbn : ¬ b = w.heap.size := by omega
    have hbl : b < w1.heap.size := by omega
    rw [Below.heap_alloc _ _ _ (by simp; omega), Below.heap_alloc _ _ _ (by simp; omega), Below.heap_setCell _ _ _ _ hbn, Below.heap_setCell _ _ _ _ hbn, Below.heap_setCell _ _ _ _ hbn, Below.heap_setCell _ _ _ _ hs', Below.heap_setCell _ _ _ _ hs', Below.heap_setCell _ _ _ _ hs']
    exact HB1.out.block b hb
end Go.Proofs.Ytfpjoncaccbnmaa.low


/-
  The program's builder as the composition uses it: add and addBoth, in the builder's words.
-/
namespace Go.Proofs.Ytfpjoncaccbnmaa.low
open Go.RowKit
set_option linter.unusedVariables false

theorem BldP.pre {O : Nat → Prop} {lo g : Nat} {T : TypeId} {L : List Pt} {w w1 w' : World} {e : Ending} (hlo : lo ≤ w.heap.size) (hb : Below w.heap.size w w1) (h : BldP O lo g T L w1 e w') : BldP O lo g T L w e w' := by
  obtain ⟨h1, O', h2, h3, h4⟩ := h
  exact ⟨h1, O', h2, (hb.mono hlo).trans h3, Nat.le_trans hb.size h4.size, fun b hlt hn => (h4.block b (Nat.lt_of_lt_of_le hlt hb.size) hn).trans (hb.block b hlt), fun b ho => (h4.more b ho).imp id (fun h => Nat.le_trans hb.size h)⟩
theorem BldP.same {O : Nat → Prop} {lo g : Nat} {T : TypeId} {L : List Pt} {w w' : World} (h : Bld O lo g T w L) (hb : Below w.heap.size w w') : BldP O lo g T L w (.returned (.tuple #[])) w' :=
  ⟨rfl, O, h.past hb, hb.mono h.low, hb.size, fun b hlt _ => hb.block b hlt, fun b ho => .inl ho⟩
theorem rd_row {w : World} {lo : Nat} {A : Option Addr} {c : Nat} {zs : List Int} (h : RdC w lo (encInts zs) (.slice A zs.length c)) : Row (Value.int .i64) w lo A zs := by
  obtain ⟨A', c', e, h1, _⟩ := ints_rd h
  injection e with e1 e2 e3
  rw [e1]
  exact h1
set_option maxRecDepth 100000 in
set_option maxHeartbeats 1600000 in
theorem implAddB (O : Nat → Prop) (lo g : Nat) (L : List Pt) (p : Pt) (v : Value) (w : World) (hb : Bld O lo g 98 w L) (hv : PtV lo w p v) (hp : Vp p) (hk : ¬ p.kind = 0) (hl : L.length < 100000) :
    Calls Try.prog 71 #[.pointer (some ⟨g, 0, none⟩), v] w (BldP O lo g 98 (L ++ [p]) w) := by
  obtain ⟨A, c, rfl, hr⟩ := hv
  have hlo := hb.low
  have hrow := rd_row hr
  obtain ⟨pk, pn, pz⟩ := p
  have hsz := hp.size
  simp only at hk hr hrow hsz ⊢
  have hat := hb.past (alloc_below w (.cells #[.int .i64 pk, .int .i64 pn, .slice A pz.length c] 66))
  have bel := alloc_below w (.cells #[.int .i64 pk, .int .i64 pn, .slice A pz.length c] 66)
  have hrow1 : Row (Value.int .i64) (w.alloc (.cells #[.int .i64 pk, .int .i64 pn, .slice A pz.length c] 66)) (w.alloc (.cells #[.int .i64 pk, .int .i64 pn, .slice A pz.length c] 66)).heap.size A pz := (rd_row (hr.below (bel.mono hlo))).more (by simp; omega)
  have HAT := Lib.hid hat
  have HROW := Lib.hid hrow1
  clear hat hrow hrow1 hr hb
  rcases hp with ⟨h1, h2, h3, h4⟩ | ⟨h1, h2, h3⟩ | ⟨h1, h2, h3⟩
  · simp only at h1 h2 h3 h4
    subst h4
    rcases h1 with rfl | rfl
    · go_enter Try.func71, Try.ntmps71
      go_wp2_with fail
      refine (implKeepB O lo g L pn _ HAT.out h2 h3 hl).mono ?_
      intro e w3 hq
      have HQ := Lib.hid (BldP.pre hlo bel hq)
      have he := hq.1
      clear hq
      subst he
      go_wp2
      go_end0
      exact HQ.out
    · go_enter Try.func71, Try.ntmps71
      go_wp2_with fail
      refine (implDropB O lo g L pn _ HAT.out h2 h3 hl).mono ?_
      intro e w3 hq
      have HQ := Lib.hid (BldP.pre hlo bel hq)
      have he := hq.1
      clear hq
      subst he
      go_wp2
      go_end0
      exact HQ.out
  · simp only at h1 h2 h3
    subst h1 h2
    go_enter Try.func71, Try.ntmps71
    go_wp2_with fail
    refine (implPutB O lo g L A c pz.length pz _ HAT.out HROW.out rfl h3 hl).mono ?_
    intro e w3 hq
    have HQ := Lib.hid (BldP.pre hlo bel hq)
    have he := hq.1
    clear hq
    subst he
    go_wp2
    go_end0
    exact HQ.out
  · exact absurd h1 hk

theorem two_below {w : World} (o1 o2 : Obj) : Below w.heap.size w ((w.alloc o1).alloc o2) := ((Below.refl _ w).alloc (Nat.le_refl _) _).alloc (by simp) _
/-- what two parts that meet leave -/
def bothL (L : List Pt) (p q : Pt) : List Pt := if q.kind = 1 then L ++ [p] else if p.kind = 1 then L ++ [q] else L
end Go.Proofs.Ytfpjoncaccbnmaa.low


/-
  The program's reader inside a larger struct (at o in the block g): more, kind, take.
-/
namespace Go.Proofs.Ytfpjoncaccbnmaa.low.xb
open Go.RowKit
set_option linter.unusedVariables false

/-- the reader's four cells at o of what D says: p at hand, ps behind it -/
def RdV (lo : Nat) (w : World) (D : Nat → Option Value) (o : Nat) (p : Pt) (ps : List Pt) : Prop :=
  (∃ B cb A c, D o = some (.int .i64 p.kind) ∧ D (o + 1) = some (.int .i64 p.n) ∧ D (o + 2) = some (.slice B p.signs.length cb) ∧ D (o + 3) = some (.slice A ps.length c) ∧ RdC w lo (encInts p.signs) (.slice B p.signs.length cb) ∧ RdC w lo (encPs ps) (.slice A ps.length c)) ∧ Vp p ∧ (∀ x ∈ ps, okPt x = true) ∧ ps.length ≤ 1048576
theorem RdV.keep {lo o : Nat} {w w' : World} {D D' : Nat → Option Value} {p : Pt} {ps : List Pt} (h : RdV lo w D o p ps) (hb : Below lo w w') (hD : ∀ i, o ≤ i → i < o + 4 → D' i = D i) : RdV lo w' D' o p ps := by
  obtain ⟨⟨B, cb, A, c, h1, h2, h3, h4, h5, h6⟩, h7⟩ := h
  exact ⟨⟨B, cb, A, c, (hD o (by omega) (by omega)).trans h1, (hD _ (by omega) (by omega)).trans h2, (hD _ (by omega) (by omega)).trans h3, (hD _ (by omega) (by omega)).trans h4, h5.below hb, h6.below hb⟩, h7⟩
/-- the reader at o in the block g; the block's other cells are as C says -/
structure Orr (lo g o : Nat) (C : Nat → Option Value) (w : World) (p : Pt) (ps : List Pt) : Prop where
  box : ∃ D, Blk g 100 w D ∧ RdV lo w D o p ps ∧ ∀ i, i < o ∨ o + 4 ≤ i → D i = C i
  ge : lo ≤ g
section
variable {lo g o : Nat} {C : Nat → Option Value} {w w' : World} {p : Pt} {ps : List Pt}
theorem Orr.lt (h : Orr lo g o C w p ps) : g < w.heap.size := by obtain ⟨D, h1, _⟩ := h.box; exact h1.lt
theorem Orr.vp (h : Orr lo g o C w p ps) : Vp p := by obtain ⟨D, _, h1, _⟩ := h.box; exact h1.2.1
theorem Orr.vs (h : Orr lo g o C w p ps) : ∀ x ∈ ps, okPt x = true := by obtain ⟨D, _, h1, _⟩ := h.box; exact h1.2.2.1
theorem Orr.ln (h : Orr lo g o C w p ps) : ps.length ≤ 1048576 := by obtain ⟨D, _, h1, _⟩ := h.box; exact h1.2.2.2
theorem Orr.past (h : Orr lo g o C w p ps) (hb : Below w.heap.size w w') : Orr lo g o C w' p ps := by
  have hl := h.lt
  have hg := h.ge
  obtain ⟨D, h1, h2, h3⟩ := h.box
  exact ⟨⟨D, h1.past hb, h2.keep (hb.mono (by omega)) (fun _ _ _ => rfl), h3⟩, hg⟩
end
def restOf (g o : Nat) (w : World) : Nat := match w.cell? ⟨g, o + 3, none⟩ with
  | some (.slice _ n _) => n
  | _ => 0
theorem orr_rest {lo g o : Nat} {C : Nat → Option Value} {w : World} {p : Pt} {ps : List Pt} (h : Orr lo g o C w p ps) : restOf g o w = ps.length := by
  obtain ⟨D, h1, ⟨⟨B, cb, A, c, _, _, _, h4, _⟩, _⟩, _⟩ := h.box
  unfold restOf
  rw [h1.cell, h4]
/-- behind a look for more: the reader stands at a part with something left of it, or at the end -/
def MoreP (lo g o : Nat) (C : Nat → Option Value) (p : Pt) (ps : List Pt) (w : World) (e : Ending) (w' : World) : Prop := ∃ p' ps', e = .returned (.bool (decide (0 < sizeP p'))) ∧ Orr lo g o C w' p' ps' ∧ unitsP p' ++ units ps' = unitsP p ++ units ps ∧ (sizeP p' = 0 → ps' = []) ∧ Below lo w w' ∧ Fr (fun q => q = g) w w'

/-- the world behind 'r.next, r.rest = r.rest[0], r.rest[1:]' -/
def nextW (g o b off c k : Nat) (kind n : Int) (u : Value) (w : World) : World := ((((w.drew.setCell ⟨g, o, none⟩ (.int .i64 kind)).setCell ⟨g, o + 1, none⟩ (.int .i64 n)).setCell ⟨g, o + 2, none⟩ u).setCell ⟨g, o + 3, none⟩ (.slice (if c = 1 then some ⟨b, off, none⟩ else some ⟨b, off + 3, none⟩) k (c - 1)))
theorem nextW_fr (g o b off c k : Nat) (kind n : Int) (u : Value) (w : World) : Fr (fun q => q = g) w (nextW g o b off c k kind n u w) :=
  (((((Fr.refl (fun q => q = g) w).drew).setCell (p := ⟨g, o, none⟩) rfl _).setCell (p := ⟨g, o + 1, none⟩) rfl _).setCell (p := ⟨g, o + 2, none⟩) rfl _).setCell (p := ⟨g, o + 3, none⟩) rfl _
theorem nextW_below {lo g : Nat} (hg : lo ≤ g) (o b off c k : Nat) (kind n : Int) (u : Value) (w : World) : Below lo w (nextW g o b off c k kind n u w) :=
  (((((Below.refl lo w).drew).setCell (p := ⟨g, o, none⟩) hg _).setCell (p := ⟨g, o + 1, none⟩) hg _).setCell (p := ⟨g, o + 2, none⟩) hg _).setCell (p := ⟨g, o + 3, none⟩) hg _
theorem blk4 {g o : Nat} {T : TypeId} {w : World} {D : Nat → Option Value} {v0 v1 v2 v3 : Value} (hD : Blk g T w D) (h0 : D o = some v0) (h1 : D (o + 1) = some v1) (h2 : D (o + 2) = some v2) (h3 : D (o + 3) = some v3) (x0 x1 x2 x3 : Value) : ∃ D', Blk g T ((((w.setCell ⟨g, o, none⟩ x0).setCell ⟨g, o + 1, none⟩ x1).setCell ⟨g, o + 2, none⟩ x2).setCell ⟨g, o + 3, none⟩ x3) D' ∧ D' o = some x0 ∧ D' (o + 1) = some x1 ∧ D' (o + 2) = some x2 ∧ D' (o + 3) = some x3 ∧ ∀ i, i < o ∨ o + 4 ≤ i → D' i = D i := by
  have k1 := hD.set h0 x0
  have k2 := k1.set (i := o + 1) (u := v1) (by rw [upd_ne _ (by omega)]; exact h1) x1
  have k3 := k2.set (i := o + 2) (u := v2) (by rw [upd_ne _ (by omega), upd_ne _ (by omega)]; exact h2) x2
  have k4 := k3.set (i := o + 3) (u := v3) (by rw [upd_ne _ (by omega), upd_ne _ (by omega), upd_ne _ (by omega)]; exact h3) x3
  refine ⟨_, k4, ?_, ?_, ?_, upd_at _ _ _, fun i hi => ?_⟩
  · rw [upd_ne _ (by omega), upd_ne _ (by omega), upd_ne _ (by omega), upd_at]
  · rw [upd_ne _ (by omega), upd_ne _ (by omega), upd_at]
  · rw [upd_ne _ (by omega), upd_at]
  · rw [upd_ne _ (by omega), upd_ne _ (by omega), upd_ne _ (by omega), upd_ne _ (by omega)]
theorem blk3 {g o : Nat} {T : TypeId} {w : World} {D : Nat → Option Value} {v0 v1 v2 : Value} (hD : Blk g T w D) (h0 : D o = some v0) (h1 : D (o + 1) = some v1) (h2 : D (o + 2) = some v2) (x0 x1 x2 : Value) : ∃ D', Blk g T (((w.setCell ⟨g, o, none⟩ x0).setCell ⟨g, o + 1, none⟩ x1).setCell ⟨g, o + 2, none⟩ x2) D' ∧ D' o = some x0 ∧ D' (o + 1) = some x1 ∧ D' (o + 2) = some x2 ∧ ∀ i, i < o ∨ o + 3 ≤ i → D' i = D i := by
  have k1 := hD.set h0 x0
  have k2 := k1.set (i := o + 1) (u := v1) (by rw [upd_ne _ (by omega)]; exact h1) x1
  have k3 := k2.set (i := o + 2) (u := v2) (by rw [upd_ne _ (by omega), upd_ne _ (by omega)]; exact h2) x2
  refine ⟨_, k3, ?_, ?_, upd_at _ _ _, fun i hi => ?_⟩
  · rw [upd_ne _ (by omega), upd_ne _ (by omega), upd_at]
  · rw [upd_ne _ (by omega), upd_at]
  · rw [upd_ne _ (by omega), upd_ne _ (by omega), upd_ne _ (by omega)]
theorem orr_next {lo g o b off c c' : Nat} {C D : Nat → Option Value} {A' : Option Addr} {w : World} {q : Pt} {qs : List Pt} {v0 v1 v2 v3 : Value} (hD : Blk g 100 w D) (h0 : D o = some v0) (h1 : D (o + 1) = some v1) (h2 : D (o + 2) = some v2) (h3 : D (o + 3) = some v3) (hC : ∀ i, i < o ∨ o + 4 ≤ i → D i = C i)
    (hr : RdC w lo (encInts q.signs) (.slice A' q.signs.length c')) (ht : ∀ d, qs.length ≤ d → RdC w lo (encPs qs) (.slice (some ⟨b, off + 3, none⟩) qs.length d)) (hc : qs.length + 1 ≤ c) (hge : lo ≤ g)
    (hv : okPt q = true) (hvs : ∀ x ∈ qs, okPt x = true) (hln : qs.length ≤ 1048576) : Orr lo g o C (nextW g o b off c qs.length q.kind q.n (.slice A' q.signs.length c') w) q qs := by
  have hb := nextW_below hge o b off c qs.length q.kind q.n (.slice A' q.signs.length c') w
  obtain ⟨D', k, k0, k1, k2, k3, k4⟩ := blk4 (w := w.drew) (hD.keep (heap_drew w g)) h0 h1 h2 h3 (.int .i64 q.kind) (.int .i64 q.n) (.slice A' q.signs.length c') (.slice (if c = 1 then some ⟨b, off, none⟩ else some ⟨b, off + 3, none⟩) qs.length (c - 1))
  refine ⟨⟨D', k, ⟨⟨A', c', (if c = 1 then some ⟨b, off, none⟩ else some ⟨b, off + 3, none⟩), c - 1, k0, k1, k2, k3, hr.below hb, ?_⟩, Vp.of hv, hvs, hln⟩, fun i hi => (k4 i hi).trans (hC i hi)⟩, hge⟩
  by_cases e : c = 1
  · rw [if_pos e]
    obtain rfl : qs = [] := List.eq_nil_of_length_eq_zero (by omega)
    exact parts_none
  · rw [if_neg e]
    exact (ht _ (by omega)).below hb

set_option maxRecDepth 100000 in
set_option maxHeartbeats 3200000 in
theorem implMore (lo g o : Nat) (C : Nat → Option Value) (p : Pt) (ps : List Pt) (w : World) (h : Orr lo g o C w p ps) : Calls Try.prog 91 #[.pointer (some ⟨g, o, none⟩)] w (MoreP lo g o C p ps w) := by
  have hgw := h.lt
  go_enter Try.func91, Try.ntmps91
  go_wp2
  go_loopw [2] (fun t wr => t = .bool false ∧ ∃ p' ps', Orr lo g o C wr p' ps' ∧ unitsP p' ++ units ps' = unitsP p ++ units ps ∧ Below lo w wr ∧ Fr (fun q => q = g) w wr) (fun _ wr => restOf g o wr)
  case atStart => exact ⟨rfl, p, ps, h, rfl, Below.refl _ _, Fr.refl _ _⟩
  case round =>
    obtain ⟨rfl, p', ps', ho, hu, hbel, hfr⟩ := hrel
    obtain ⟨D, hD, ⟨⟨B, cb, A, c, d0, d1, d2, d3, h2, h3⟩, _⟩, hC⟩ := ho.box
    have hz := ho.vp.size
    have c0 : wr.cell? ⟨g, o, none⟩ = some (.int .i64 p'.kind) := (hD.cell _).trans d0
    have c1 : wr.cell? ⟨g, o + 1, none⟩ = some (.int .i64 p'.n) := (hD.cell _).trans d1
    have c2 : wr.cell? ⟨g, o + 2, none⟩ = some (.slice B p'.signs.length cb) := (hD.cell _).trans d2
    have c3 : wr.cell? ⟨g, o + 3, none⟩ = some (.slice A ps'.length c) := (hD.cell _).trans d3
    have hlt := ho.lt
    have HO := Lib.hid ho
    have HU := Lib.hid hu
    have HF := Lib.hid hfr
    have HZ := Lib.hid hz
    have H1 := Lib.hid hD
    have HD := Lib.hid (And.intro d0 (And.intro d1 (And.intro d2 (And.intro d3 (And.intro hC h3)))))
    have HM := Lib.hid (show restOf g o wr = ps'.length by unfold restOf; rw [c3])
    clear ho hu hfr hz hD h hgw d0 d1 d2 d3 hC h3
    go_wp2_with fail
    have hz := HZ.out
    refine (implSize_any p'.kind p'.n B p'.signs.length cb wr (by omega) (by omega) (by omega)).mono ?_
    clear hz c0 c1 c2
    rintro e w1 ⟨rfl, b1⟩
    have HB := Lib.hid b1
    have hlt1 : g < w1.heap.size := Nat.lt_of_lt_of_le hlt b1.size
    have h1' := H1.out.past b1
    have c3' : w1.cell? ⟨g, o + 3, none⟩ = some (.slice A ps'.length c) := (h1'.cell _).trans HD.out.2.2.2.1
    have ho1 := HO.out.past b1
    have hb1 : Below lo w w1 := hbel.trans (b1.mono (Nat.le_trans ho1.ge (by have := HO.out.lt; omega)))
    have hf1 : Fr (fun q => q = g) w w1 := HF.out.trans (Fr.below b1)
    have H3 := Lib.hid (HD.out.2.2.2.2.2.below (b1.mono (Nat.le_trans ho1.ge (by have := HO.out.lt; omega))))
    have H1' := Lib.hid h1'
    have HO1 := Lib.hid ho1
    have HF1 := Lib.hid hf1
    clear b1 c3 h1' ho1 hf1 HO HF HB H1 hbel
    rw [HZ.out.1]
    by_cases hs : sizeP p' = 0
    · have g0 : (((sizeP p' : Nat) : Int) == 0) = true := by simp [hs]
      cases ps' with
      | nil =>
        have HS := Lib.hid hs
        clear hs
        go_wp2
        go_ret
        exact ⟨p', [], ret_b (by simp [HS.out]), HO1.out, HU.out, fun _ => rfl, hb1, HF1.out⟩
      | cons q qs =>
        have hql : ((qs.length : Int) + 1 == 0) = false := by simp; omega
        have k3 := H3.out
        obtain ⟨b, off, A', c', rfl, hblt, hc, d0, d1, d2, r2, rt⟩ := parts_hd k3
        have f1 := H1'.out.free o
        have f2 := H1'.out.free (o + 1)
        have f3 := H1'.out.free (o + 2)
        have f4 := H1'.out.free (o + 3)
        have HK := Lib.hid (show RdC w1 lo (encInts q.signs) (.slice A' q.signs.length c') ∧ (∀ d, qs.length ≤ d → RdC w1 lo (encPs qs) (.slice (some ⟨b, off + 3, none⟩) qs.length d)) from ⟨r2, rt⟩)
        have c0 : w1.cell? ⟨g, o, none⟩ = some (.int .i64 p'.kind) := (H1'.out.cell _).trans HD.out.1
        have c1 : w1.cell? ⟨g, o + 1, none⟩ = some (.int .i64 p'.n) := (H1'.out.cell _).trans HD.out.2.1
        have c2 : w1.cell? ⟨g, o + 2, none⟩ = some (.slice B p'.signs.length cb) := (H1'.out.cell _).trans HD.out.2.2.1
        have hne : ¬ b = g := by have := HO1.out.ge; omega
        clear r2 rt k3 hs h2 H3
        have hq1 : (1 : Int) ≤ (qs.length : Int) + 1 := by omega
        go_wp2
        go_region
        all_goals
          go_roundw
          case rel =>
            have hv := HO1.out.vs
            have hln := HO1.out.ln
            have hx := orr_next H1'.out HD.out.1 HD.out.2.1 HD.out.2.2.1 HD.out.2.2.2.1 HD.out.2.2.2.2.1 HK.out.1 HK.out.2 hc HO1.out.ge (hv q (by simp)) (fun x hx => hv x (by simp [hx])) (by simp at hln; omega)
            have hu : unitsP q ++ units qs = unitsP p ++ units ps := by
              rw [← HU.out, units_cons]
              have e : unitsP p' = [] := List.eq_nil_of_length_eq_zero (by rw [unitsP_len]; simpa using g0)
              rw [e]
              rfl
            repeat apply Exists.intro
            exact ⟨⟨rfl, q, qs, hx, hu, hb1.trans (nextW_below HO1.out.ge _ _ _ _ _ _ _ _ _), HF1.out.trans (nextW_fr _ _ _ _ _ _ _ _ _ _)⟩, rfl⟩
          case measure =>
            have hv := HO1.out.vs
            have hln := HO1.out.ln
            have hx := orr_next H1'.out HD.out.1 HD.out.2.1 HD.out.2.2.1 HD.out.2.2.2.1 HD.out.2.2.2.2.1 HK.out.1 HK.out.2 hc HO1.out.ge (hv q (by simp)) (fun x hx => hv x (by simp [hx])) (by simp at hln; omega)
            rw [HM.out]
            refine Nat.lt_of_le_of_lt (Nat.le_of_eq (orr_rest hx)) ?_
            simp
    · have g0 : (((sizeP p' : Nat) : Int) == 0) = false := by simp [hs]
      have HS := Lib.hid hs
      clear hs
      go_wp2
      go_ret
      exact ⟨p', ps', ret_b (by have := HS.out; simp; omega), HO1.out, HU.out, fun h => absurd h HS.out, hb1, HF1.out⟩
/-- the kind of the part at hand, 0 at the end -/
def kindP (p : Pt) : Int := if 0 < sizeP p then p.kind else 0
def KindP (lo g o : Nat) (C : Nat → Option Value) (p : Pt) (ps : List Pt) (w : World) (e : Ending) (w' : World) : Prop := ∃ p' ps', e = .returned (.int .i64 (kindP p')) ∧ Orr lo g o C w' p' ps' ∧ unitsP p' ++ units ps' = unitsP p ++ units ps ∧ (sizeP p' = 0 → ps' = []) ∧ Below lo w w' ∧ Fr (fun q => q = g) w w'
theorem ret_i {a b : Int} (h : a = b) : Ending.returned (.int .i64 a) = .returned (.int .i64 b) := by rw [h]
set_option maxRecDepth 100000 in
set_option maxHeartbeats 3200000 in
theorem implKind (lo g o : Nat) (C : Nat → Option Value) (p : Pt) (ps : List Pt) (w : World) (h : Orr lo g o C w p ps) : Calls Try.prog 67 #[.pointer (some ⟨g, o, none⟩)] w (KindP lo g o C p ps w) := by
  go_enter Try.func67, Try.ntmps67
  go_wp2_with fail
  refine (implMore lo g o C p ps w h).mono ?_
  rintro e w1 ⟨p', ps', rfl, ho, hu, hs, hb, hf⟩
  have HU := Lib.hid hu
  have HS := Lib.hid hs
  have HF := Lib.hid hf
  have HO := Lib.hid ho
  obtain ⟨D, hD, ⟨⟨B, cb, A, c, d0, d1, d2, d3, h2, h3⟩, _⟩, hC⟩ := ho.box
  have c0 : w1.cell? ⟨g, o, none⟩ = some (.int .i64 p'.kind) := (hD.cell _).trans d0
  clear hu hs hf ho h hD d0 d1 d2 d3 h2 h3 hC
  by_cases h0 : 0 < sizeP p'
  · have g0 : decide (0 < sizeP p') = true := by simp [h0]
    have HK := Lib.hid (show kindP p' = p'.kind by simp [kindP, h0])
    rw [g0]
    clear h0 g0
    go_wp2
    go_ret
    exact ⟨p', ps', ret_i HK.out.symm, HO.out, HU.out, HS.out, hb, HF.out⟩
  · have g0 : decide (0 < sizeP p') = false := by simp [h0]
    have HK := Lib.hid (show kindP p' = 0 by simp [kindP, h0])
    rw [g0]
    clear h0 g0
    go_wp2
    go_ret
    exact ⟨p', ps', ret_i HK.out.symm, HO.out, HU.out, HS.out, hb, HF.out⟩
/-- behind a take of n units: the piece, and the reader moved on -/
def TakeQ (lo g o : Nat) (C : Nat → Option Value) (p : Pt) (ps : List Pt) (n : Nat) (w : World) (e : Ending) (w' : World) : Prop := ∃ v, e = .returned v ∧ PtV lo w' (cutL p n) v ∧ Orr lo g o C w' (cutR p n) ps ∧ Below lo w w' ∧ Fr (fun q => q = g) w w'
theorem take_below {lo : Nat} (w : World) (g o m : Nat) (x0 x1 x2 y0 y1 y2 : Value) (o1 o2 : Obj) (hg : lo ≤ g) (hm : lo ≤ m) (hs : g < w.heap.size) : Below lo w ((((((((w.setCell ⟨g, o, none⟩ x0).setCell ⟨g, o + 1, none⟩ x1).setCell ⟨g, o + 2, none⟩ x2).setCell ⟨m, 0, none⟩ y0).setCell ⟨m, 1, none⟩ y1).setCell ⟨m, 2, none⟩ y2).alloc o1).alloc o2) :=
  ((((((((Below.refl lo w).setCell (p := ⟨g, o, none⟩) hg _).setCell (p := ⟨g, o + 1, none⟩) hg _).setCell (p := ⟨g, o + 2, none⟩) hg _).setCell (p := ⟨m, 0, none⟩) hm _).setCell (p := ⟨m, 1, none⟩) hm _).setCell (p := ⟨m, 2, none⟩) hm _).alloc (by simp; omega) _).alloc (by simp; omega) _
set_option maxRecDepth 100000 in
set_option maxHeartbeats 3200000 in
theorem implTake (lo g o : Nat) (C : Nat → Option Value) (p : Pt) (ps : List Pt) (n : Nat) (w : World) (h : Orr lo g o C w p ps) (h0 : 0 < n) (hn : n ≤ sizeP p) : Calls Try.prog 98 #[.pointer (some ⟨g, o, none⟩), .int .i64 (n : Int)] w (TakeQ lo g o C p ps n w) := by
  obtain ⟨D, hD, ⟨⟨B, cb, A, c, d0, d1, d2, d3, h2, h3⟩, _⟩, hC⟩ := h.box
  have hlt := h.lt
  have c0 : w.cell? ⟨g, o, none⟩ = some (.int .i64 p.kind) := (hD.cell _).trans d0
  have c1 : w.cell? ⟨g, o + 1, none⟩ = some (.int .i64 p.n) := (hD.cell _).trans d1
  have c2 : w.cell? ⟨g, o + 2, none⟩ = some (.slice B p.signs.length cb) := (hD.cell _).trans d2
  have hge := h.ge
  have HV := Lib.hid h.vp
  have HO := Lib.hid h
  have H1 := Lib.hid hD
  have HD := Lib.hid (And.intro d0 (And.intro d1 (And.intro d2 (And.intro d3 hC))))
  clear h hD d0 d1 d2 d3 hC
  go_enter Try.func98, Try.ntmps98
  have b0 := alloc_below w (.cells #[.int .i64 0, .int .i64 0, .slice none 0 0] 66)
  go_wp2_with fail
  refine (implCut lo p n B cb _ HV.out (h2.below (b0.mono (by omega))) (by simp; omega) h0 hn).mono ?_
  rintro e w1 ⟨v1, v2, rfl, ⟨A1, c1'', rfl, r1⟩, ⟨A2, c2'', rfl, r2⟩, b1⟩
  have hb1 : Below w.heap.size w w1 := b0.trans (b1.mono b0.size)
  have hgl : g < w1.heap.size := Nat.lt_of_lt_of_le hlt hb1.size
  have h1' := H1.out.past hb1
  have f1 := h1'.free o
  have f2 := h1'.free (o + 1)
  have f3 := h1'.free (o + 2)
  have c0' : w1.cell? ⟨g, o, none⟩ = some (.int .i64 p.kind) := (h1'.cell _).trans HD.out.1
  have c1' : w1.cell? ⟨g, o + 1, none⟩ = some (.int .i64 p.n) := (h1'.cell _).trans HD.out.2.1
  have c2' : w1.cell? ⟨g, o + 2, none⟩ = some (.slice B p.signs.length cb) := (h1'.cell _).trans HD.out.2.2.1
  have hn4 : w1.heap[w.heap.size]? = some (.cells #[.int .i64 0, .int .i64 0, .slice none 0 0] 66 (0, 0)) := (b1.block _ (by simp)).trans (heap_alloc_new w _)
  have hnf : ∀ o, w1.frozen? ⟨w.heap.size, o, none⟩ = false := fun o => by simp [World.frozen?, hn4]
  have k0 : w1.cell? ⟨w.heap.size, 0, none⟩ = some (.int .i64 0) := cell_of_row _ _ 0 _ _ _ hn4
  have k1 : w1.cell? ⟨w.heap.size, 1, none⟩ = some (.int .i64 0) := cell_of_row _ _ 1 _ _ _ hn4
  have k2 : w1.cell? ⟨w.heap.size, 2, none⟩ = some (.slice none 0 0) := cell_of_row _ _ 2 _ _ _ hn4
  have n0 := hnf 0
  have n1 := hnf 1
  have n2 := hnf 2
  have hwl : w.heap.size < w1.heap.size := lt_of_some hn4
  have hgn : ¬ g = w.heap.size := by omega
  have hgn1 : ¬ g = w1.heap.size := by omega
  have hgn2 : ¬ g = w1.heap.size + 1 := by omega
  have hwn1 : ¬ w.heap.size = w1.heap.size := by omega
  have hwn2 : ¬ w.heap.size = w1.heap.size + 1 := by omega
  have HP := Lib.hid h1'
  have HN := Lib.hid hn4
  have HB := Lib.hid b1
  have HB1 := Lib.hid hb1
  clear h1' hn4 b1 hb1 hnf c0 c1 c2
  go_wp2
  have hge2 : lo ≤ w.heap.size := Nat.le_trans hge (Nat.le_of_lt hlt)
  have bel : Below lo w1 _ := take_below w1 g o w.heap.size (.int .i64 (cutR p n).kind) (.int .i64 (cutR p n).n) (.slice A2 (cutR p n).signs.length c2'') (.int .i64 (cutL p n).kind) (.int .i64 (cutL p n).n) (.slice A1 (cutL p n).signs.length c1'') (.cells #[.int .i64 (cutL p n).kind, .int .i64 (cutL p n).n, .slice A1 (cutL p n).signs.length c1''] 66) (.cells #[.int .i64 (cutR p n).kind, .int .i64 (cutR p n).n, .slice A2 (cutR p n).signs.length c2''] 66) hge hge2 hgl
  obtain ⟨D', kD, e0, e1, e2, e4⟩ := blk3 HP.out HD.out.1 HD.out.2.1 HD.out.2.2.1 (.int .i64 (cutR p n).kind) (.int .i64 (cutR p n).n) (.slice A2 (cutR p n).signs.length c2'')
  refine bodyPost_ret (v := .agg #[.int .i64 (cutL p n).kind, .int .i64 (cutL p n).n, .slice A1 (cutL p n).signs.length c1'']) (by simp [results, Try.results98, go_sem, *]) rfl ⟨_, rfl, ⟨A1, c1'', rfl, r1.below bel⟩, ⟨⟨D', kD.keep ?_, ⟨⟨A2, c2'', A, c, e0, e1, e2, (e4 _ (by omega)).trans HD.out.2.2.2.1, r2.below bel, (h3.below (HB1.out.mono hge2)).below bel⟩, cutR_vp HV.out hn, HO.out.vs, HO.out.ln⟩, fun i hi => (e4 i (by omega)).trans (HD.out.2.2.2.2 i hi)⟩, hge⟩, (HB1.out.mono hge2).trans bel, ?_⟩
  · rw [Below.heap_alloc _ _ _ (by simp; omega), Below.heap_alloc _ _ _ (by simp; omega), Below.heap_setCell _ _ _ _ hgn, Below.heap_setCell _ _ _ _ hgn, Below.heap_setCell _ _ _ _ hgn]
  · refine ⟨Nat.le_trans HB1.out.size bel.size, fun b hb hs => ?_⟩
    have hs' : ¬ b = g := hs
    have hbn : ¬ b = w.heap.size := by omega
    have hbl : b < w1.heap.size := by omega
    rw [Below.heap_alloc _ _ _ (by simp; omega), Below.heap_alloc _ _ _ (by simp; omega), Below.heap_setCell _ _ _ _ hbn, Below.heap_setCell _ _ _ _ hbn, Below.heap_setCell _ _ _ _ hbn, Below.heap_setCell _ _ _ _ hs', Below.heap_setCell _ _ _ _ hs', Below.heap_setCell _ _ _ _ hs']
    exact HB1.out.block b hb
end Go.Proofs.Ytfpjoncaccbnmaa.low.xb

