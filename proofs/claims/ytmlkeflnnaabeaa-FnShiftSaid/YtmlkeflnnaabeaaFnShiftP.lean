/-
  Proved: for every argument (bytes of a draw), the law FnShift of this seat's translation returns true (positions move with the text, preserve their order, and stay within the text); no conditions.
-/
import Derived.Test.YtmlkeflnnaabeaaRows
import Derived.Test.YtmlkeflnnaabeaaM1
import Derived.WalkKit
import Derived.ProofKit
import Derived.OpenShut
import Derived.ShutString
import Derived.ChangeOld
import Derived.Below
import Derived.Test.YtmlkeflnnaabeaaM3
import Derived.Test.YtmlkeflnnaabeaaM4
import Derived.Test.YtmlkeflnnaabeaaM5
import Derived.Deep.QuietTactic
import Derived.BigQuiet
import Derived.IntWalk
namespace Go.Proofs.Ytmlkeflnnaabeaa.fnShift
open Go.ChangeShapes Go.WideShapes Go.ChangeAt Go.RowKit
open Go.ChangeMaps (open_string shut_string)
open low
set_option linter.unusedVariables false

theorem own : ownKnob Try.prog.godebug = none := by kernel_rfl
/-- the loop's word -/
def ShR (a : List Pt) (N k : Nat) (L : Int) : Prop := 0 ≤ L ∧ ∀ j : Nat, k ≤ j → j ≤ N → L ≤ shiftT a (j : Int) false
theorem int_eq {a b : Int} (h : a = b) : Value.int .i64 a = .int .i64 b := by rw [h]
set_option maxRecDepth 100000 in
set_option maxHeartbeats 1600000 in
theorem walk (A0 : Option Addr) (c0 : Nat) (zs0 : List Int) (w : World) (w0 : Row (Value.int .u8) w w.heap.size A0 zs0) (l0 : zs0.length ≤ maxLen) (b0 : ∀ z ∈ zs0, 0 ≤ z ∧ z < 256) :
    Calls Try.prog 4 #[.slice A0 zs0.length c0] w fun e w' => e = .returned (.bool true) ∧ Below w.heap.size w w' := by
  by_cases hl : zs0.length ≤ 1048576
  · have hc : Code8 w (.slice A0 zs0.length c0) := ⟨A0, c0, zs0, rfl, hl, w0, b0⟩
    go_enter Try.func4, Try.ntmps4
    go_wp2_with fail
    refine (specMakeOps_d _ w hc).mono ?_
    rintro e w1 ⟨t, a, b, v1, v2, v3, rfl, ht, tl, ha, hb, sa, sb, sa2, sb2, pa, pb, sma, smb, r1, r2, r3, D⟩
    obtain ⟨A1, c1, rfl⟩ := sliceI r1
    obtain ⟨A2, c2, rfl, hra, _⟩ := parts_rd r2
    obtain ⟨A3, c3, rfl⟩ := sliceP r3
    have hal := sma.1
    have HA := Lib.hid ha
    have HSA := Lib.hid sa
    have R2 := Lib.hid r2
    have HRA := Lib.hid hra
    have h200 := (shl_norm ha sa).2.2.2.2.1
    have HR0 := Lib.hid (show ShR a t.length 0 0 from ⟨by omega, fun j _ hj => (shl_bd ha sa hj).1⟩)
    clear r1 r3 r2 hra ht hb sb sb2 pb smb pa sa2 ha sa hc
    go_wp2
    go_loopw [6, 7] (fun lv av wr => ∃ (k : Nat) (L : Int), k ≤ t.length + 1 ∧ av = .int .i64 k ∧ lv = .int .i64 L ∧ ShR a t.length k L ∧ Below w1.heap.size w1 wr) (fun _ av _ => t.length + 1 - (intOf av).toNat)
    case atStart => exact ⟨0, 0, Nat.zero_le _, rfl, rfl, HR0.out, Below.refl _ _⟩
    case round =>
      obtain ⟨k, L, hk, rfl, rfl, hR, hbel⟩ := hrel
      clear HR0
      by_cases hlt : k ≤ t.length
      · have fB := (shl_a HA.out HSA.out hlt false).1
        obtain ⟨x1, x2, x3⟩ := shl_bd HA.out HSA.out hlt
        obtain ⟨k1, q, k2, k3, k4, k5⟩ := shl_back HA.out HSA.out hlt
        have fQ := (shl_a HA.out HSA.out k4 false).1
        have hLx : L ≤ shiftT a (k : Int) false := hR.2 k (Nat.le_refl _) hlt
        have hL0 := hR.1
        have HR' := Lib.hid (show ShR a t.length (k + 1) (shiftT a (k : Int) false) from ⟨x1, fun j h1 h2 => shl_mono HA.out HSA.out (by omega) h2⟩)
        clear hR
        obtain ⟨x, hx⟩ : ∃ x, shiftT a (k : Int) false = x := ⟨_, rfl⟩
        obtain ⟨y, hy⟩ : ∃ y, shiftT a (k : Int) true = y := ⟨_, rfl⟩
        obtain ⟨z, hz⟩ : ∃ z, shiftT a (q : Int) false = z := ⟨_, rfl⟩
        rw [hx] at x1 x2 k1 k2 k5 hLx HR'
        rw [hy] at x2 x3
        rw [hz] at k5
        have HX := Lib.hid hx
        have HY := Lib.hid hy
        have HZ := Lib.hid hz
        have FB := Lib.hid fB
        have FQ := Lib.hid fQ
        have K1 := Lib.hid k1
        have K2 := Lib.hid k2
        clear hx hy hz fB fQ k1 k2
        go_wp2_with fail
        refine (implShift_d _ a (k : Int) false _ (R2.out.past hbel) sma).mono ?_
        rw [FB.out, HX.out]
        rintro e w2 ⟨rfl, b2⟩
        replace hbel := hbel.trans (b2.mono hbel.size)
        clear b2
        go_wp2_with fail
        refine (implShift_d _ a (k : Int) true _ (R2.out.past hbel) sma).mono ?_
        rw [FB.out, HY.out]
        rintro e w3 ⟨rfl, b3⟩
        replace hbel := hbel.trans (b3.mono hbel.size)
        clear b3
        go_wp2_with fail
        refine (implOpTo_any A2 c2 a _ (HRA.out.past hbel) (by omega) sma.all4).mono ?_
        rintro e w4 ⟨rfl, b4⟩
        replace hbel := hbel.trans (b4.mono hbel.size)
        clear b4
        go_wp2_with fail
        refine (implBack_d _ a x _ (R2.out.past hbel) sma).mono ?_
        rw [K1.out, K2.out]
        rintro e w5 ⟨rfl, b5⟩
        replace hbel := hbel.trans (b5.mono hbel.size)
        clear b5
        go_wp2_with fail
        refine (implShift_d _ a (q : Int) false _ (R2.out.past hbel) sma).mono ?_
        rw [FQ.out, HZ.out]
        rintro e w6 ⟨rfl, b6⟩
        replace hbel := hbel.trans (b6.mono hbel.size)
        clear b6
        go_wp2
        go_roundw
        case rel => exact ⟨k + 1, x, by omega, by go_num, rfl, HR'.out, hbel⟩
        case measure => simp [intOf]; omega
      · clear hR
        have fE := (shl_a HA.out HSA.out (Nat.le_refl t.length) true).1
        have hE := shl_end HA.out HSA.out
        obtain ⟨g1, g2⟩ := shl_keep (N := t.length) (by omega)
        obtain ⟨s1, s2, s3⟩ := shl_spans HA.out HSA.out
        obtain ⟨s, hsv⟩ : ∃ s, spansT a = s := ⟨_, rfl⟩
        rw [hsv] at s1 s2 s3
        have FE := Lib.hid fE
        have HE := Lib.hid hE
        have G1 := Lib.hid g1
        have G2 := Lib.hid g2
        have S1 := Lib.hid s1
        have S2 := Lib.hid s2
        have HSV := Lib.hid hsv
        clear fE hE g1 g2 s1 s2 hsv
        go_wp2_with fail
        refine (implShift_d _ a (t.length : Int) true _ (R2.out.past hbel) sma).mono ?_
        rw [FE.out, HE.out]
        rintro e w2 ⟨rfl, b2⟩
        replace hbel := hbel.trans (b2.mono hbel.size)
        clear b2
        go_wp2_with fail
        refine (implKeeping_any (t.length : Int) _).mono ?_
        rintro e w3 ⟨v3, rfl, p3, b3⟩
        have o3 := (own_parts p3).read
        obtain ⟨A3, c3, rfl⟩ := sliceP o3
        replace hbel := hbel.trans (b3.mono hbel.size)
        clear p3 b3
        go_wp2_with fail
        refine (implShift_d _ (keepL (t.length : Int)) ((t.length : Int) / 2) false _ o3 (keepL_small _)).mono ?_
        rw [G1.out, G2.out]
        rintro e w4 ⟨rfl, b4⟩
        replace hbel := hbel.trans (b4.mono hbel.size)
        clear b4 o3
        go_wp2_with fail
        refine (implSpans_d _ a _ (R2.out.past hbel) sma).mono ?_
        rw [HSV.out]
        rintro e w5 ⟨v5, rfl, o5, b5⟩
        replace hbel := hbel.trans (b5.mono hbel.size)
        obtain ⟨A5, c5, rfl, hrow, _⟩ := ints_rd o5.read
        have HROW := Lib.hid hrow
        clear b5 o5 hrow
        have e0 : pairSum (s.take (2 * 0)) = 0 := by simp [pairSum]
        have E0 := Lib.hid e0
        clear e0
        go_wp2
        go_loopw [21, 22] (fun mv iv wr => ∃ (j : Nat), 2 * j ≤ s.length + 1 ∧ iv = .int .i64 ((2 * j : Nat) : Int) ∧ mv = .int .i64 (pairSum (s.take (2 * j))) ∧ Below w5.heap.size w5 wr) (fun _ iv _ => s.length + 2 - (intOf iv).toNat)
        case atStart => exact ⟨0, by omega, rfl, by rw [E0.out], Below.refl _ _⟩
        case round =>
          obtain ⟨j, hj, rfl, rfl, hb5⟩ := hrel
          clear E0
          have pb := pair_bd (s.take (2 * j)) (fun z hz => S2.out z (List.mem_of_mem_take hz))
          have pl : ((s.take (2 * j)).length : Int) ≤ 1201 := by rw [List.length_take]; omega
          by_cases hlt2 : 2 * j + 1 < s.length
          · obtain ⟨ad, rfl, hbk, hcs⟩ := HROW.out (by omega)
            obtain ⟨x, hx⟩ : ∃ x, s[2 * j]? = some x := ⟨s[2 * j], List.getElem?_eq_getElem (by omega)⟩
            obtain ⟨y, hy⟩ : ∃ y, s[2 * j + 1]? = some y := ⟨s[2 * j + 1], List.getElem?_eq_getElem hlt2⟩
            obtain ⟨z0, hz0⟩ : ∃ z, s[0]? = some z := ⟨s[0], List.getElem?_eq_getElem (by omega)⟩
            have hsp : ad.spot = none := World.cell?_spot (show _ = some (Value.int .i64 z0) from hcs 0 z0 hz0)
            have q0 := hcs (2 * j) x hx
            have q1 := hcs (2 * j + 1) y hy
            have M := Lib.hid (pair_step s j x y hx hy)
            have bx := S2.out x (List.mem_of_getElem? hx)
            have by_ := S2.out y (List.mem_of_getElem? hy)
            obtain ⟨bk, off, spot⟩ := ad
            simp only at hsp
            subst hsp
            rw [add_at] at q0 q1
            replace q0 := (hb5.cell (p := ⟨bk, off + 2 * j, none⟩) hbk).trans q0
            replace q1 := (hb5.cell (p := ⟨bk, off + (2 * j + 1), none⟩) hbk).trans q1
            clear hz0 hcs hx hy
            generalize hm : pairSum (s.take (2 * j)) = m at *
            clear hm
            have HJ := Lib.hid hj
            generalize hi : 2 * j = i at *
            have HIJ := Lib.hid hi
            clear hi
            have i0 : (0 : Int) ≤ (i : Int) := by omega
            have i1 : (i : Int) < (s.length : Int) := by omega
            have i2 : (0 : Int) ≤ (i : Int) + 1 := by omega
            have i3 : (i : Int) + 1 < (s.length : Int) := by omega
            have i4 : i < s.length := by omega
            have v1 : IntKind.i64.wrap ((i : Int) + 1) = (i : Int) + 1 := IntWalk.i64_in _ (by omega)
            have v2 : IntKind.i64.wrap (m + y) = m + y := IntWalk.i64_in _ (by omega)
            have v3 : IntKind.i64.wrap (m + y - x) = m + y - x := IntWalk.i64_in _ (by omega)
            have v4 : ((i : Int) + 1).toNat = i + 1 := by omega
            go_wp2
            go_quiet (fail)
            clear v1 v2 v3 v4
            go_wp2
            refine ⟨⟨j + 1, by have := HIJ.out; omega, int_eq (by have := HIJ.out; omega), int_eq M.out.symm, ⟨hb5.os, hb5.tape, hb5.output, hb5.size, hb5.block⟩⟩, ?_⟩
            simp [intOf]
            omega
          · have hps : pairSum (s.take (2 * j)) = pairSum s := by
              rcases Nat.lt_or_ge s.length (2 * j + 1) with h | h
              · rw [List.take_of_length_le (by omega)]
              · have e : 2 * j = s.length - 1 := by omega
                rw [e]
                exact pair_odd s (by omega)
            rw [hps, S1.out] at pb ⊢
            have HBL := hbel.trans (hb5.mono hbel.size)
            have hne1 : (sumK a + sumP a == sumK a + sumP a) = true := by simp
            have hne2 : (((t.length : Int) / 2) == ((t.length : Int) / 2)) = true := by simp
            have hne3 : (putsN a == putsN a) = true := by simp
            have i1 : (s.length : Int) ≤ ((2 * j : Nat) : Int) + 1 := by omega
            clear hps hb5 hbel S1
            generalize hi : 2 * j = i at *
            clear hi
            go_wp2_with fail
            refine (implOpTo_any A2 c2 a _ (HRA.out.past HBL) (by omega) sma.all4).mono ?_
            rintro e w6 ⟨rfl, b6⟩
            replace HBL := HBL.trans (b6.mono HBL.size)
            clear b6
            go_wp2_with fail
            refine (implPuts_any A2 c2 a _ (HRA.out.past HBL) (by omega) sma.all4).mono ?_
            rintro e w7 ⟨rfl, b7⟩
            replace HBL := HBL.trans (b7.mono HBL.size)
            clear b7
            go_wp2
            go_ret
            exact ⟨rfl, D.trans (HBL.mono D.size)⟩
  · go_enter Try.func4, Try.ntmps4
    go_wp2
    go_ret
    exact ⟨rfl, Below.refl _ _⟩

set_option maxRecDepth 100000 in
theorem lifted (os : Os) (started : os.Started) (H : Type) (enc : TypeId × Value → H) :
    ReturnsInHanded {} Try.checked os 4 .any (Rows.fnShiftSpec.pre6 enc Try.prog Try.f4 Rows.fnShiftRow.domain false) (Rows.fnShiftSpec.post enc Try.prog Try.f4 false true false false) := by
  refine returnsInHanded_of_change (C := Try.checked) own started (by kernel_rfl) Try.func4
    (ChangeSpec.witness6 (enc := enc) (C := Try.checked) false ⟨#[], #[.slice none 0 0], []⟩ 8 (by kernel_rfl) (by kernel_rfl) (by kernel_rfl) (by kernel_rfl)) ?_
  intro W base args ds gs before hval0 hW hcnd _
  have hval : ∀ (j : Nat) t v, Try.f4.params[j]? = some t → args[j]? = some v → Value.okWide Try.prog W .any base t v := hval0
  have hW' := hW
  obtain ⟨p, q, hA0, hV, rfl, hfz, hnd⟩ := hW
  have hA : DataW.TrodAll enc Try.prog W 0 (fun _ => true) true Try.f4.params.toList args.toList ds p := hA0
  rw [Try.params4] at hA hval
  obtain ⟨v0, vs0, x0, xs0, q0, r0, hargs, rfl, rfl, h0, t0⟩ := trodAll_cons hA
  obtain ⟨rfl, rfl, rfl⟩ := trodAll_nil t0
  obtain rfl : args = #[v0] := by cases args; simp_all
  obtain ⟨rfl, rfl⟩ := trodVars_none hV
  have k0 := h0
  have lt0 : ∀ x ∈ q0, x.block < W.heap.size := by obtain ⟨m, hm⟩ := k0; exact DataW.trod_lt m _ _ _ hm
  obtain ⟨B0, n0, d0, rfl⟩ := okWide_slice Try.underlying22 (hval 0 22 v0 rfl rfl)
  obtain ⟨f0, hf0⟩ := h0
  obtain ⟨A0, c0, zs0, e0, w0, l0, b0⟩ := read_bytes hf0
  obtain ⟨rfl, rfl, rfl⟩ : B0 = A0 ∧ n0 = zs0.length ∧ d0 = c0 := by simpa [Value.cells] using e0
  clear hA0 hval0
  refine (walk B0 d0 zs0 W w0 l0 b0).mono fun e W' ⟨he, bel⟩ => ?_
  subst he
  exact ⟨_, rfl, _, _, _, [], _, [], hW', trodAll_mk1 (shut_bool Try.underlying4 _), (trodAll_cons_mk (Below.trod laidOut (by kernel_rfl) (of_decide_eq_true (by kernel_rfl)) k0 bel lt0) trodAll_mk0), rfl, bel.frame _, fun h => by cases h⟩

theorem over : Rows.fnShiftRow.holds Try.pinned (OpenSpec.ofChange Rows.fnShiftSpec) :=
  OpenClaim.holds_of_wide 4 Try.f4 rfl rfl rfl rfl rfl rfl rfl ⟨rfl, rfl, rfl, rfl, rfl⟩ rfl rfl rfl rfl rfl (by kernel_rfl) Try.func4 (by kernel_rfl)
    (of_decide_eq_true (by kernel_rfl)) (by unfold Func.isWrapper; first | (rw [if_pos (by decide +kernel)]; kernel_rfl) | (rw [if_neg (by decide +kernel)]; exact ⟨rfl, rfl⟩))
    (fun os started H enc _ => lifted os started H enc)

theorem proved : Rows.FnShiftSaid := over
end Go.Proofs.Ytmlkeflnnaabeaa.fnShift
