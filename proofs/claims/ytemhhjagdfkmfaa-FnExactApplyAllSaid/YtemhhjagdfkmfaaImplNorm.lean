
/-
  Contracts of the program's add, of impl.OpNorm, impl.IsNorm and impl.Keeping.
-/
import Derived.Test.YtemhhjagdfkmfaaImplBuild
import Derived.Test.YtemhhjagdfkmfaaImplOpSame
namespace Go.Proofs.Ytemhhjagdfkmfaa.low
open Go.RowKit
set_option linter.unusedVariables false

theorem sameB_comm (a b : List Int) : sameB a b = sameB b a := by
  by_cases h : a = b
  · subst h; rfl
  · have h' : ¬ b = a := fun e => h e.symm
    unfold sameB
    simp [h, h']
theorem samePt_comm (p q : Pt) : samePt p q = samePt q p := by
  unfold samePt
  rw [sameB_comm p.signs q.signs, Bool.beq_comm (a := p.kind), Bool.beq_comm (a := p.n)]
theorem samePs_comm : ∀ ps qs : List Pt, samePs ps qs = samePs qs ps
  | [], [] => rfl
  | [], _ :: _ => rfl
  | _ :: _, [] => rfl
  | p :: ps, q :: qs => by
    show (samePt p q && samePs ps qs) = (samePt q p && samePs qs ps)
    rw [samePt_comm p q, samePs_comm ps qs]

set_option maxHeartbeats 1600000 in
theorem implAdd_any (lo g : Nat) (qs : List Pt) (put : List Int) (d : Int) (p : Pt) (A : Option Addr) (c : Nat) (w : World) (hb : BAt lo g 70 w qs put d) (hr : Row (Value.int .i64) w w.heap.size A p.signs) (hok : okPt p = true)
    (hl : qs.length ≤ 4294967296) (hp : put.length ≤ 4294967296) (h0 : 0 ≤ d) (h1 : d ≤ 4611686018427387904)
    (hq : ∀ p ∈ qs ++ putL put ++ dropL d, 0 ≤ p.n ∧ p.n ≤ 4611686018427387904) (hql : (qs ++ putL put ++ dropL d).length ≤ 4294967298) :
    Calls Try.prog 69 #[.pointer (some ⟨g, 0, none⟩), .agg #[.int .i64 p.kind, .int .i64 p.n, .slice A p.signs.length c]] w (Built lo g 70 w (stepN (qs, put, d) p).1 (stepN (qs, put, d) p).2.1 (stepN (qs, put, d) p).2.2) := by
  have hlo : lo ≤ w.heap.size := by obtain ⟨v, u, us, hx, _⟩ := hb; exact Nat.le_trans hx.low (Nat.le_of_lt hx.lt)
  have hk := of_okPt hok
  clear hok
  obtain ⟨pk, pn, pz⟩ := p
  simp only at hk hr ⊢
  have hat := hb.past (alloc_below w (.cells #[.int .i64 pk, .int .i64 pn, .slice A pz.length c] 53))
  have bel : Below lo w (w.alloc (.cells #[.int .i64 pk, .int .i64 pn, .slice A pz.length c] 53)) := (alloc_below w _).mono hlo
  rcases (show pk = 1 ∨ pk = 2 ∨ pk = 3 by omega) with rfl | rfl | rfl
  · have hn1 : 0 ≤ pn := by omega
    have hn2 : pn ≤ 200 := by omega
    clear hk
    by_cases hz : pn = 0
    · subst hz
      go_enter Try.func69, Try.ntmps69
      go_wp2_with fail
      refine (implKeep_zero g _).mono ?_
      rintro e w' ⟨rfl, rfl⟩
      go_wp2
      go_end0
      exact ⟨rfl, hat, bel⟩
    · go_enter Try.func69, Try.ntmps69
      go_wp2_with fail
      refine (implKeep_any lo g qs put d pn _ hat hl hp hz hn1 (by omega) hq hql).mono ?_
      rintro e w3 ⟨rfl, hn3, b3⟩
      go_wp2
      go_end0
      refine ⟨rfl, ?_, bel.trans b3⟩
      simp only [stepN, if_neg hz]
      exact hn3.at_
  · have hl2 : pz.length ≤ 200 := by omega
    clear hk
    go_enter Try.func69, Try.ntmps69
    go_wp2_with fail
    refine (implPut_any lo g qs put d A c pz _ hat (hr.past_alloc _) hp (by omega)).mono ?_
    rintro e w3 ⟨rfl, hn3, b3⟩
    go_wp2
    go_end0
    exact ⟨rfl, hn3, bel.trans b3⟩
  · have hn1 : 0 ≤ pn := by omega
    have hn2 : pn ≤ 200 := by omega
    clear hk
    go_enter Try.func69, Try.ntmps69
    go_wp2_with fail
    refine (implDrop_any lo g qs put d pn _ hat h0 h1 hn1 (by omega)).mono ?_
    rintro e w3 ⟨rfl, hn3, b3⟩
    go_wp2
    go_end0
    exact ⟨rfl, hn3, bel.trans b3⟩

set_option maxRecDepth 100000 in
set_option maxHeartbeats 3200000 in
theorem implOpNorm_any (A : Option Addr) (c : Nat) (ps : List Pt) (w : World) (hr : PRow w w.heap.size A ps) (hl : ps.length ≤ 4294967296) (hls : ∀ p ∈ ps, p.signs.length ≤ 4294967296) (hss : signsIn ps ≤ 1048576) :
    Calls Try.prog 48 #[.slice A ps.length c] w (PsPost (normL ps) w) := by
  cases hok : okOp ps
  · have e1 : normL ps = [] := by simp [normL, hok]
    rw [e1]
    go_enter Try.func48, Try.ntmps48
    go_wp2_with fail
    refine (implOpOk_any A c ps _ hr hl hls).mono ?_
    rintro e w1 ⟨rfl, b1⟩
    rw [hok] at *
    go_wp2
    go_ret
    refine ⟨_, rfl, ⟨[], World.ownsRow_nil _ _ _ _, ⟨rfl, fun i p u hp _ => by simp at hp, fun i j k u v hu _ _ _ => by simp at hu⟩, fun k hk => by simp [Value.ownBlock] at hk, Nat.le_refl _, b1.size⟩, b1⟩
  · have e1 : normL ps = doneN (foldN ps) := by simp [normL, hok]
    rw [e1]
    have HPB := Lib.hid (partsB_of (okOp_parts hok))
    go_enter Try.func48, Try.ntmps48
    go_wp2_with fail
    refine (implOpOk_any A c ps _ hr hl hls).mono ?_
    rintro e w1 ⟨rfl, b1⟩
    rw [hok] at *
    clear hok
    go_wp2
    have hnew := BAt.new w.heap.size 70 w1 b1.size
    have hbn := b1.trans ((alloc_below w1 (.cells #[.slice none 0 0, .slice none 0 0, .int .i64 0] 70)).mono b1.size)
    have hgl : w.heap.size ≤ w1.heap.size := b1.size
    generalize w1.alloc (.cells #[.slice none 0 0, .slice none 0 0, .int .i64 0] 70) = w2 at *
    generalize w1.heap.size = g at *
    clear b1
    go_loopw [13] (fun i wr => ∃ k : Nat, k ≤ ps.length ∧ i = .int .i64 k ∧ BAt w.heap.size g 70 wr (foldN (ps.take k)).1 (foldN (ps.take k)).2.1 (foldN (ps.take k)).2.2 ∧ Below w.heap.size w wr) (fun i _ => ps.length - (intOf i).toNat)
    case atStart => exact ⟨0, Nat.zero_le _, rfl, hnew, hbn⟩
    case round =>
      obtain ⟨k, hk, rfl, hat, hbel⟩ := hrel
      clear hnew hbn
      have hfit := foldN_fit HPB.out.1 k hk
      have hpl := HPB.out.2
      by_cases hlt : k < ps.length
      · obtain ⟨b, off, p, rfl, hb, hp, hc⟩ := hr.at_ hlt
        obtain ⟨x0, x1, A1, e1, x2, r1⟩ := hc.keep (w' := wr) hb (fun _ hq => hbel.cell hq)
        have hokp := okPs_at hp HPB.out.1
        have K1 := Lib.hid (foldN_snoc hp)
        have hsg : signsIn (ps.take k) ≤ signsIn ps := signsIn_take ps k
        clear hp hc
        generalize foldN (ps.take k) = st at *
        obtain ⟨qs, put, d⟩ := st
        have hf1 := hfit.len
        have hf2 := hfit.signs
        have hf3 := hfit.d0
        have hf4 := hfit.d1
        have hdn := Lib.hid hfit.done
        simp only at hf1 hf2 hf3 hf4 hat
        go_wp2_with fail
        refine (implAdd_any w.heap.size g qs put d p A1 e1 _ (hat.past (alloc_below wr _)) (Row.past_alloc (r1.more hbel.size) _) hokp (by omega) (by omega) hf3 (by omega) (fun p hp => by have := hdn.out.2.2 p hp; omega) (by have := hdn.out.1; exact Nat.le_trans this (by omega))).mono ?_
        rintro e w3 ⟨rfl, hn3, b3⟩
        go_wp2
        go_roundw
        case rel => exact ⟨k + 1, by omega, by go_num, by rw [K1.out]; exact hn3, hbel.trans (((alloc_below wr _).mono hbel.size).trans b3)⟩
        case measure => simp [intOf]; omega
      · have hke : ps.take k = ps := List.take_of_length_le (by omega)
        rw [hke] at hat hfit
        have hf1 := hfit.len
        have hf2 := hfit.signs
        go_wp2_with fail
        refine (implDone_any w.heap.size g _ _ _ _ hat (by omega) (by omega)).mono ?_
        rintro e w3 ⟨v, rfl, p3, b3⟩
        change PBuf _ _ _ _ (doneN (foldN ps)) at p3
        generalize doneN (foldN ps) = L at *
        obtain ⟨B3, d3, rfl, q3⟩ := p3.slice
        have HP3 := Lib.hid p3
        clear p3
        go_wp2
        go_ret
        exact ⟨_, rfl, HP3.out, hbel.trans b3⟩

end Go.Proofs.Ytemhhjagdfkmfaa.low
