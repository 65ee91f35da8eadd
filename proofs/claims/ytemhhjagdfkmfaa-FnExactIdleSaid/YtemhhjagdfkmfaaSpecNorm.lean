
/-
  Contracts of spec.OpNorm and spec.IsNorm.
-/
import Derived.Test.YtemhhjagdfkmfaaNorm
import Derived.Test.YtemhhjagdfkmfaaOpSame
namespace Go.Proofs.Ytemhhjagdfkmfaa.low
open Go.RowKit
set_option linter.unusedVariables false

theorem BAt.past {lo g : Nat} {T : TypeId} {w w' : World} {ps : List Pt} {put : List Int} {d : Int} (h : BAt lo g T w ps put d) (hb : Below w.heap.size w w') : BAt lo g T w' ps put d := by
  obtain ⟨v, u, us, hx, ha⟩ := h
  exact ⟨v, u, us, ⟨(hb.block g hx.lt).trans hx.box, own_keep hx.row (fun k _ hk2 => hb.block k hk2), hx.len, hx.low⟩, ha.keep hb.size (fun i x k _ _ hk2 => hb.block k hk2)⟩
theorem BAt.new (lo : Nat) (T : TypeId) (w : World) (h : lo ≤ w.heap.size) : BAt lo w.heap.size T (w.alloc (.cells #[.slice none 0 0, .slice none 0 0, .int .i64 0] T)) [] [] 0 :=
  ⟨.slice none 0 0, .slice none 0 0, [], ⟨heap_alloc_new w _, World.ownsRow_nil _ _ _ _, rfl, h⟩, Apart.bare 2 0 ⟨rfl, fun i p u hp _ => by simp at hp, fun i j k u v hu _ _ _ => by simp at hu⟩⟩

set_option maxHeartbeats 1600000 in
theorem specKeep_zero (g : Nat) (w : World) : Calls Try.prog 44 #[.pointer (some ⟨g, 0, none⟩), .int .i64 0] w fun e w' => e = .returned (.tuple #[]) ∧ w = w' := by
  go_enter Try.func44, Try.ntmps44
  go_wp2
  first | go_end0 | (refine bodyPost_ret (results_none rfl _ _ _) rfl ?_)
  exact ⟨rfl, rfl⟩

set_option maxRecDepth 100000 in
set_option maxHeartbeats 3200000 in
theorem specOpNorm_any (A : Option Addr) (c : Nat) (ps : List Pt) (w : World) (hr : PRow w w.heap.size A ps) (hl : ps.length ≤ 4294967296) (hls : ∀ p ∈ ps, p.signs.length ≤ 4294967296) (hss : signsIn ps ≤ 1048576) :
    Calls Try.prog 43 #[.slice A ps.length c] w (PsPost (normL ps) w) := by
  cases hok : okOp ps
  · have e1 : normL ps = [] := by simp [normL, hok]
    rw [e1]
    go_enter Try.func43, Try.ntmps43
    go_wp2_with fail
    refine (specOpOk_any A c ps _ hr hl hls).mono ?_
    rintro e w1 ⟨rfl, b1⟩
    rw [hok] at *
    go_wp2
    go_ret
    refine ⟨_, rfl, ⟨[], World.ownsRow_nil _ _ _ _, ⟨rfl, fun i p u hp _ => by simp at hp, fun i j k u v hu _ _ _ => by simp at hu⟩, fun k hk => by simp [Value.ownBlock] at hk, Nat.le_refl _, b1.size⟩, b1⟩
  · have e1 : normL ps = doneN (foldN ps) := by simp [normL, hok]
    rw [e1]
    have hpb : partsB ps = true := by
      unfold okOp at hok
      cases h : partsB ps
      · rw [h] at hok; simp at hok
      · rfl
    have HPB := Lib.hid (partsB_of hpb)
    clear hpb
    go_enter Try.func43, Try.ntmps43
    go_wp2_with fail
    refine (specOpOk_any A c ps _ hr hl hls).mono ?_
    rintro e w1 ⟨rfl, b1⟩
    rw [hok] at *
    clear hok
    go_wp2
    have hnew := BAt.new w.heap.size 63 w1 b1.size
    have hbn := b1.trans ((alloc_below w1 (.cells #[.slice none 0 0, .slice none 0 0, .int .i64 0] 63)).mono b1.size)
    have hgl : w.heap.size ≤ w1.heap.size := b1.size
    generalize w1.alloc (.cells #[.slice none 0 0, .slice none 0 0, .int .i64 0] 63) = w2 at *
    generalize w1.heap.size = g at *
    clear b1
    go_loopw [13] (fun i wr => ∃ k : Nat, k ≤ ps.length ∧ i = .int .i64 k ∧ BAt w.heap.size g 63 wr (foldN (ps.take k)).1 (foldN (ps.take k)).2.1 (foldN (ps.take k)).2.2 ∧ Below w.heap.size w wr) (fun i _ => ps.length - (intOf i).toNat)
    case atStart => exact ⟨0, Nat.zero_le _, rfl, hnew, hbn⟩
    case round =>
      obtain ⟨k, hk, rfl, hat, hbel⟩ := hrel
      clear hnew hbn
      have hfit := foldN_fit HPB.out.1 k hk
      have hpl := HPB.out.2
      by_cases hlt : k < ps.length
      · obtain ⟨b, off, p, rfl, hb, hp, hc⟩ := hr.at_ hlt
        obtain ⟨x0, x1, A1, e1, x2, r1⟩ := hc.keep (w' := wr) hb (fun _ hq => hbel.cell hq)
        have hokp := okPs_at hp HPB.out.1
        have hok := of_okPt hokp
        have hsl := hls p (List.mem_of_getElem? hp)
        have K1 := Lib.hid (foldN_snoc hp)
        have hsg : signsIn (ps.take k) ≤ signsIn ps := signsIn_take ps k
        clear hp hc
        generalize foldN (ps.take k) = st at *
        obtain ⟨qs, put, d⟩ := st
        have hf1 := hfit.len
        have hf2 := hfit.signs
        have hf3 := hfit.d0
        have hf4 := hfit.d1
        have hdn := Lib.hid hfit.done
        simp only at hf1 hf2 hf3 hf4 hat
        obtain ⟨pk, pn, pz⟩ := p
        simp only at x0 x1 x2 hok r1 hsl
        rcases (show pk = 1 ∨ pk = 2 ∨ pk = 3 by omega) with rfl | rfl | rfl
        · have hn1 : 0 ≤ pn := by omega
          have hn2 : pn ≤ 200 := by omega
          clear hok
          by_cases hz : pn = 0
          · subst hz
            go_wp2_with fail
            refine (specKeep_zero g _).mono ?_
            rintro e w' ⟨rfl, rfl⟩
            go_wp2
            go_roundw
            case rel => exact ⟨k + 1, by omega, by go_num, by rw [K1.out]; exact hat.past (alloc_below wr _), hbel.trans ((alloc_below wr _).mono hbel.size)⟩
            case measure => simp [intOf]; omega
          · go_wp2_with fail
            refine (specKeep_any w.heap.size g qs put d pn _ (hat.past (alloc_below wr _)) (by omega) (by omega) hz hn1 (by omega) (fun p hp => by have := hdn.out.2.2 p hp; omega) (by have := hdn.out.1; exact Nat.le_trans this (by omega))).mono ?_
            rintro e w3 ⟨rfl, hn3, b3⟩
            go_wp2
            go_roundw
            case rel => exact ⟨k + 1, by omega, by go_num, by rw [K1.out]; simp only [stepN, if_neg hz]; exact hn3.at_, hbel.trans (((alloc_below wr _).mono hbel.size).trans b3)⟩
            case measure => simp [intOf]; omega
        · clear hok
          go_wp2_with fail
          refine (specPut_any w.heap.size g qs put d A1 e1 pz _ (hat.past (alloc_below wr _)) (Row.past_alloc (r1.more hbel.size) _) (by omega) (by omega)).mono ?_
          rintro e w3 ⟨rfl, hn3, b3⟩
          go_wp2
          go_roundw
          case rel => exact ⟨k + 1, by omega, by go_num, by rw [K1.out]; exact hn3, hbel.trans (((alloc_below wr _).mono hbel.size).trans b3)⟩
          case measure => simp [intOf]; omega
        · have hn1 : 0 ≤ pn := by omega
          have hn2 : pn ≤ 200 := by omega
          clear hok
          go_wp2_with fail
          refine (specDrop_any w.heap.size g qs put d pn _ (hat.past (alloc_below wr _)) (by omega) (by omega) (by omega) (by omega)).mono ?_
          rintro e w3 ⟨rfl, hn3, b3⟩
          go_wp2
          go_roundw
          case rel => exact ⟨k + 1, by omega, by go_num, by rw [K1.out]; exact hn3, hbel.trans (((alloc_below wr _).mono hbel.size).trans b3)⟩
          case measure => simp [intOf]; omega
      · have hke : ps.take k = ps := List.take_of_length_le (by omega)
        rw [hke] at hat hfit
        have hf1 := hfit.len
        have hf2 := hfit.signs
        go_wp2_with fail
        refine (specDone_any w.heap.size g _ _ _ _ hat (by omega) (by omega)).mono ?_
        rintro e w3 ⟨v, rfl, p3, b3⟩
        change PBuf _ _ _ _ (doneN (foldN ps)) at p3
        generalize doneN (foldN ps) = L at *
        obtain ⟨B3, d3, rfl, q3⟩ := p3.slice
        have HP3 := Lib.hid p3
        clear p3
        go_wp2
        go_ret
        exact ⟨_, rfl, HP3.out, hbel.trans b3⟩
theorem normL_fit {ps : List Pt} (hs : signsIn ps ≤ 1048576) : (normL ps).length ≤ 1802 ∧ signsIn (normL ps) ≤ 1048576 := by
  unfold normL
  split
  · rename_i hok
    have hpb : partsB ps = true := by
      unfold okOp at hok
      cases h : partsB ps
      · rw [h] at hok; simp at hok
      · rfl
    obtain ⟨h1, h2⟩ := partsB_of hpb
    have hf := (foldN_fit h1 ps.length (Nat.le_refl _)).done
    rw [List.take_length] at hf
    exact ⟨by have := hf.1; omega, Nat.le_trans hf.2.1 hs⟩
  · simp [signsIn]

/-- a normal operation -/
def isNormL (ps : List Pt) : Bool := okOp ps && samePs (normL ps) ps
end Go.Proofs.Ytemhhjagdfkmfaa.low
