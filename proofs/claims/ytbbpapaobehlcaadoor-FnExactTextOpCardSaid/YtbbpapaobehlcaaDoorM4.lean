/-
  Texts that the proofs over this seat rest on, one behind the other (4 of 5).
-/
import Derived.Test.YtbbpapaobehlcaaDoorM3
import Derived.Test.YtbbpapaobehlcaaDoorM2
import Derived.Laws.CopyOwn
import Derived.IntWalk
import Derived.Deep.QuietTactic
import Derived.BigQuiet
import Derived.Test.YtbbpapaobehlcaaDoorRows
import Derived.Lib.LaidTab
import Derived.LaidSub
import Derived.LaidMore
import Derived.MakeChecks
import Derived.Deep.DeepHandedRow
import Derived.OpenShut
import Derived.Test.YtbbpapaobehlcaaDoorM1
import Derived.StillTailTactics
import Derived.RangeFuncNested
import Derived.RangeFuncBound
import Derived.OrdersHeld
import Derived.OrdersIn
import Derived.TacticsIn
import Derived.RangeFuncLeaves
import Derived.OwnWalkIn
import Derived.TacticsInMore
import Derived.LoopNIn
import Derived.LoopIn

/-
  Contracts of the program's add, of impl.OpNorm, impl.IsNorm and impl.Keeping.
-/
namespace Go.Proofs.YtbbpapaobehlcaaDoor.low
open Go.RowKit
set_option linter.unusedVariables false

theorem sameB_comm (a b : List Int) : sameB a b = sameB b a := by
  by_cases h : a = b
  · subst h; rfl
  · have h' : ¬ b = a := fun e => h e.symm
    unfold sameB
    simp [h, h']
theorem samePt_comm (p q : Pt) : samePt p q = samePt q p := by
  unfold samePt
  rw [sameB_comm p.signs q.signs, Bool.beq_comm (a := p.kind), Bool.beq_comm (a := p.n)]
theorem samePs_comm : ∀ ps qs : List Pt, samePs ps qs = samePs qs ps
  | [], [] => rfl
  | [], _ :: _ => rfl
  | _ :: _, [] => rfl
  | p :: ps, q :: qs => by
    show (samePt p q && samePs ps qs) = (samePt q p && samePs qs ps)
    rw [samePt_comm p q, samePs_comm ps qs]

set_option maxHeartbeats 1600000 in
theorem implAdd_any (lo g : Nat) (qs : List Pt) (put : List Int) (d : Int) (p : Pt) (A : Option Addr) (c : Nat) (w : World) (hb : BAt lo g 62 w qs put d) (hr : Row (Value.int .i64) w w.heap.size A p.signs) (hok : okPt p = true)
    (hl : qs.length ≤ 4294967296) (hp : put.length ≤ 4294967296) (h0 : 0 ≤ d) (h1 : d ≤ 4611686018427387904)
    (hq : ∀ p ∈ qs ++ putL put ++ dropL d, 0 ≤ p.n ∧ p.n ≤ 4611686018427387904) (hql : (qs ++ putL put ++ dropL d).length ≤ 4294967298) :
    Calls Tryd.prog 51 #[.pointer (some ⟨g, 0, none⟩), .agg #[.int .i64 p.kind, .int .i64 p.n, .slice A p.signs.length c]] w (Built lo g 62 w (stepN (qs, put, d) p).1 (stepN (qs, put, d) p).2.1 (stepN (qs, put, d) p).2.2) := by
  have hlo : lo ≤ w.heap.size := by obtain ⟨v, u, us, hx, _⟩ := hb; exact Nat.le_trans hx.low (Nat.le_of_lt hx.lt)
  have hk := of_okPt hok
  clear hok
  obtain ⟨pk, pn, pz⟩ := p
  simp only at hk hr ⊢
  have hat := hb.past (alloc_below w (.cells #[.int .i64 pk, .int .i64 pn, .slice A pz.length c] 64))
  have bel : Below lo w (w.alloc (.cells #[.int .i64 pk, .int .i64 pn, .slice A pz.length c] 64)) := (alloc_below w _).mono hlo
  rcases (show pk = 1 ∨ pk = 2 ∨ pk = 3 by omega) with rfl | rfl | rfl
  · have hn1 : 0 ≤ pn := by omega
    have hn2 : pn ≤ 200 := by omega
    clear hk
    by_cases hz : pn = 0
    · subst hz
      go_enter Tryd.func51, Tryd.ntmps51
      go_wp2_with fail
      refine (implKeep_zero g _).mono ?_
      rintro e w' ⟨rfl, rfl⟩
      go_wp2
      go_end0
      exact ⟨rfl, hat, bel⟩
    · go_enter Tryd.func51, Tryd.ntmps51
      go_wp2_with fail
      refine (implKeep_any lo g qs put d pn _ hat hl hp hz hn1 (by omega) hq hql).mono ?_
      rintro e w3 ⟨rfl, hn3, b3⟩
      go_wp2
      go_end0
      refine ⟨rfl, ?_, bel.trans b3⟩
      simp only [stepN, if_neg hz]
      exact hn3.at_
  · have hl2 : pz.length ≤ 200 := by omega
    clear hk
    go_enter Tryd.func51, Tryd.ntmps51
    go_wp2_with fail
    refine (implPut_any lo g qs put d A c pz _ hat (hr.past_alloc _) hp (by omega)).mono ?_
    rintro e w3 ⟨rfl, hn3, b3⟩
    go_wp2
    go_end0
    exact ⟨rfl, hn3, bel.trans b3⟩
  · have hn1 : 0 ≤ pn := by omega
    have hn2 : pn ≤ 200 := by omega
    clear hk
    go_enter Tryd.func51, Tryd.ntmps51
    go_wp2_with fail
    refine (implDrop_any lo g qs put d pn _ hat h0 h1 hn1 (by omega)).mono ?_
    rintro e w3 ⟨rfl, hn3, b3⟩
    go_wp2
    go_end0
    exact ⟨rfl, hn3, bel.trans b3⟩

set_option maxRecDepth 100000 in
set_option maxHeartbeats 3200000 in
theorem implOpNorm_any (A : Option Addr) (c : Nat) (ps : List Pt) (w : World) (hr : PRow w w.heap.size A ps) (hl : ps.length ≤ 4294967296) (hls : ∀ p ∈ ps, p.signs.length ≤ 4294967296) (hss : signsIn ps ≤ 1048576) :
    Calls Tryd.prog 10 #[.slice A ps.length c] w (PsPost (normL ps) w) := by
  cases hok : okOp ps
  · have e1 : normL ps = [] := by simp [normL, hok]
    rw [e1]
    go_enter Tryd.func10, Tryd.ntmps10
    go_wp2_with fail
    refine (implOpOk_any A c ps _ hr hl hls).mono ?_
    rintro e w1 ⟨rfl, b1⟩
    rw [hok] at *
    go_wp2
    go_ret
    refine ⟨_, rfl, ⟨[], World.ownsRow_nil _ _ _ _, ⟨rfl, fun i p u hp _ => by simp at hp, fun i j k u v hu _ _ _ => by simp at hu⟩, fun k hk => by simp [Value.ownBlock] at hk, Nat.le_refl _, b1.size⟩, b1⟩
  · have e1 : normL ps = doneN (foldN ps) := by simp [normL, hok]
    rw [e1]
    have HPB := Lib.hid (partsB_of (okOp_parts hok))
    go_enter Tryd.func10, Tryd.ntmps10
    go_wp2_with fail
    refine (implOpOk_any A c ps _ hr hl hls).mono ?_
    rintro e w1 ⟨rfl, b1⟩
    rw [hok] at *
    clear hok
    go_wp2
    have hnew := BAt.new w.heap.size 62 w1 b1.size
    have hbn := b1.trans ((alloc_below w1 (.cells #[.slice none 0 0, .slice none 0 0, .int .i64 0] 62)).mono b1.size)
    have hgl : w.heap.size ≤ w1.heap.size := b1.size
    generalize w1.alloc (.cells #[.slice none 0 0, .slice none 0 0, .int .i64 0] 62) = w2 at *
    generalize w1.heap.size = g at *
    clear b1
    go_loopw [13] (fun i wr => ∃ k : Nat, k ≤ ps.length ∧ i = .int .i64 k ∧ BAt w.heap.size g 62 wr (foldN (ps.take k)).1 (foldN (ps.take k)).2.1 (foldN (ps.take k)).2.2 ∧ Below w.heap.size w wr) (fun i _ => ps.length - (intOf i).toNat)
    case atStart => exact ⟨0, Nat.zero_le _, rfl, hnew, hbn⟩
    case round =>
      obtain ⟨k, hk, rfl, hat, hbel⟩ := hrel
      clear hnew hbn
      have hfit := foldN_fit HPB.out.1 k hk
      have hpl := HPB.out.2
      by_cases hlt : k < ps.length
      · obtain ⟨b, off, p, rfl, hb, hp, hc⟩ := hr.at_ hlt
        obtain ⟨x0, x1, A1, e1, x2, r1⟩ := hc.keep (w' := wr) hb (fun _ hq => hbel.cell hq)
        have hokp := okPs_at hp HPB.out.1
        have K1 := Lib.hid (foldN_snoc hp)
        have hsg : signsIn (ps.take k) ≤ signsIn ps := signsIn_take ps k
        clear hp hc
        generalize foldN (ps.take k) = st at *
        obtain ⟨qs, put, d⟩ := st
        have hf1 := hfit.len
        have hf2 := hfit.signs
        have hf3 := hfit.d0
        have hf4 := hfit.d1
        have hdn := Lib.hid hfit.done
        simp only at hf1 hf2 hf3 hf4 hat
        go_wp2_with fail
        refine (implAdd_any w.heap.size g qs put d p A1 e1 _ (hat.past (alloc_below wr _)) (Row.past_alloc (r1.more hbel.size) _) hokp (by omega) (by omega) hf3 (by omega) (fun p hp => by have := hdn.out.2.2 p hp; omega) (by have := hdn.out.1; exact Nat.le_trans this (by omega))).mono ?_
        rintro e w3 ⟨rfl, hn3, b3⟩
        go_wp2
        go_roundw
        case rel => exact ⟨k + 1, by omega, by go_num, by rw [K1.out]; exact hn3, hbel.trans (((alloc_below wr _).mono hbel.size).trans b3)⟩
        case measure => simp [intOf]; omega
      · have hke : ps.take k = ps := List.take_of_length_le (by omega)
        rw [hke] at hat hfit
        have hf1 := hfit.len
        have hf2 := hfit.signs
        go_wp2_with fail
        refine (implDone_any w.heap.size g _ _ _ _ hat (by omega) (by omega)).mono ?_
        rintro e w3 ⟨v, rfl, p3, b3⟩
        change PBuf _ _ _ _ (doneN (foldN ps)) at p3
        generalize doneN (foldN ps) = L at *
        obtain ⟨B3, d3, rfl, q3⟩ := p3.slice
        have HP3 := Lib.hid p3
        clear p3
        go_wp2
        go_ret
        exact ⟨_, rfl, HP3.out, hbel.trans b3⟩

set_option maxHeartbeats 1600000 in
theorem implIsNorm_any (A : Option Addr) (c : Nat) (ps : List Pt) (w : World) (hr : PRow w w.heap.size A ps) (hl : ps.length ≤ 4294967296) (hls : ∀ p ∈ ps, p.signs.length ≤ 4294967296) (hss : signsIn ps ≤ 1048576) :
    Calls Tryd.prog 17 #[.slice A ps.length c] w (Tells (isNormL ps) w) := by
  obtain ⟨n1, n2⟩ := normL_fit hss
  have hls' : ∀ p ∈ normL ps, p.signs.length ≤ 4294967296 := fun p hp => by
    obtain ⟨i, hi⟩ := List.getElem?_of_mem hp
    have := signsIn_at hi
    omega
  cases hok : okOp ps
  · have HS := Lib.hid (show isNormL ps = false by unfold isNormL; rw [hok]; rfl)
    go_enter Tryd.func17, Tryd.ntmps17
    go_wp2_with fail
    refine (implOpOk_any A c ps _ hr hl hls).mono ?_
    rintro e w1 ⟨rfl, b1⟩
    rw [hok] at *
    go_wp2
    go_ret
    exact ⟨ret_bool (by rw [HS.out]), b1⟩
  · have HS := Lib.hid (show isNormL ps = samePs ps (normL ps) by unfold isNormL; rw [hok, samePs_comm]; rfl)
    go_enter Tryd.func17, Tryd.ntmps17
    go_wp2_with fail
    refine (implOpOk_any A c ps _ hr hl hls).mono ?_
    rintro e w1 ⟨rfl, b1⟩
    rw [hok] at *
    clear hok
    go_wp2_with fail
    refine (implOpNorm_any A c ps _ (hr.past b1) hl hls hss).mono ?_
    rintro e w2 ⟨v2, rfl, p2, b2⟩
    obtain ⟨B2, d2, rfl, q2⟩ := p2.slice
    have d2' := b1.trans (b2.mono b1.size)
    generalize normL ps = L at *
    go_wp2_with fail
    refine (implOpSame_any A B2 c d2 ps L _ (hr.past d2') q2 hl (by omega) hls hls').mono ?_
    rintro e w3 ⟨rfl, b3⟩
    go_wp2
    go_ret
    exact ⟨ret_bool (by rw [HS.out]), d2'.trans (b3.mono d2'.size)⟩

set_option maxHeartbeats 1600000 in
theorem implKeeping_any (n : Int) (w : World) : Calls Tryd.prog 15 #[.int .i64 n] w (PsPost (keepL n) w) := by
  have hnew := BAt.new w.heap.size 62 w (Nat.le_refl _)
  have hbn := alloc_below w (.cells #[.slice none 0 0, .slice none 0 0, .int .i64 0] 62)
  by_cases h0 : 0 ≤ n
  · by_cases h2 : n ≤ 200
    · by_cases h1 : n = 0
      · subst h1
        go_enter Tryd.func15, Tryd.ntmps15
        go_wp2_with fail
        refine (implKeep_zero w.heap.size _).mono ?_
        rintro e w' ⟨rfl, rfl⟩
        go_wp2_with fail
        refine (implDone_any w.heap.size w.heap.size [] [] 0 _ hnew (by simp) (by simp)).mono ?_
        rintro e w3 ⟨v, rfl, p3, b3⟩
        change PBuf _ _ _ _ [] at p3
        obtain ⟨B3, d3, rfl, q3⟩ := p3.slice
        have HP3 := Lib.hid p3
        clear p3
        go_wp2
        go_ret
        exact ⟨_, rfl, HP3.out, hbn.trans b3⟩
      · have e1 : keepL n = [⟨1, n, []⟩] := by unfold keepL; exact if_pos ⟨by omega, h2⟩
        rw [e1]
        go_enter Tryd.func15, Tryd.ntmps15
        go_wp2_with fail
        refine (implKeep_any w.heap.size w.heap.size [] [] 0 n _ hnew (by simp) (by simp) h1 h0 (by omega) (fun p hp => by simp [putL, dropL] at hp) (by simp [putL, dropL])).mono ?_
        rintro e w2 ⟨rfl, hn2, b2⟩
        have hn2' : BNil w.heap.size w.heap.size 62 w2 [⟨1, n, []⟩] := by simpa [putL, dropL, keepTo_nil] using hn2
        go_wp2_with fail
        refine (implDone_any w.heap.size w.heap.size [⟨1, n, []⟩] [] 0 _ hn2'.at_ (by simp) (by simp)).mono ?_
        rintro e w3 ⟨v, rfl, p3, b3⟩
        change PBuf _ _ _ _ [⟨1, n, []⟩] at p3
        obtain ⟨B3, d3, rfl, q3⟩ := p3.slice
        have HP3 := Lib.hid p3
        clear p3
        go_wp2
        go_ret
        exact ⟨_, rfl, HP3.out, hbn.trans (b2.trans b3)⟩
    · have e1 : keepL n = [] := by unfold keepL; exact if_neg (fun h => h2 h.2)
      rw [e1]
      go_enter Tryd.func15, Tryd.ntmps15
      go_wp2
      go_ret
      exact ⟨_, rfl, PBuf.nil w, Below.refl _ _⟩
  · have e1 : keepL n = [] := by unfold keepL; exact if_neg (fun h => by omega)
    rw [e1]
    go_enter Tryd.func15, Tryd.ntmps15
    go_wp2
    go_ret
    exact ⟨_, rfl, PBuf.nil w, Below.refl _ _⟩
end Go.Proofs.YtbbpapaobehlcaaDoor.low


/-
  Applying: the lengths; a row that is filled from the front by copies.
-/
namespace Go.Proofs.YtbbpapaobehlcaaDoor.low
open Go.RowKit
set_option linter.unusedVariables false

theorem foldA_len {t : List Int} {ps : List Pt} (h : fitsB ps t = true) : ∀ k, k ≤ ps.length → ((foldA t (ps.take k)).2.length : Int) = sumOf keepOf (ps.take k) + sumOf putOf (ps.take k)
  | 0, _ => by simp [foldA, sumOf]
  | k + 1, hk => by
    obtain ⟨p, hp⟩ := idx_some (l := ps) (i := k) (by omega)
    have i2 := foldA_len h k (by omega)
    have hok := (fits_of h).1
    have hp' := of_okPt (okPs_at hp hok)
    have hin := foldA_in h hp
    rw [foldA_snoc hp, sumOf_snoc hp, sumOf_snoc hp]
    generalize foldA t (ps.take k) = s at *
    generalize sumOf keepOf (ps.take k) = q1 at *
    generalize sumOf putOf (ps.take k) = q2 at *
    unfold stepA keepOf putOf
    rcases (show p.kind = 1 ∨ p.kind = 2 ∨ p.kind = 3 by omega) with e | e | e
    · have hin := hin (.inl e)
      simp only [e, if_true]
      rw [List.length_append, List.length_take, List.length_drop]
      simp
      omega
    · simp only [e]
      simp
      omega
    · simp only [e]
      simp
      omega
theorem foldA_upto {t : List Int} {ps : List Pt} {n : Nat} (h : fitsB ps t = true) (hn : sumK ps + sumP ps = (n : Int)) (k : Nat) (hk : k ≤ ps.length) : (foldA t (ps.take k)).2.length ≤ n := by
  have h1 := foldA_len h k hk
  obtain ⟨hok, _, _, _, _, _, ho⟩ := fits_of h
  have hp : partsB ps = true := by unfold okOp at ho; rw [Bool.and_eq_true, Bool.and_eq_true] at ho; exact ho.1.1
  obtain ⟨t1, t2, t3⟩ := sum_t hp
  rw [t1, t2] at hn
  have a1 := sumOf_take (f := keepOf) (ps := ps) (fun q hq => (ok_bd (okPs_mem' hok hq)).1.1) k
  have a2 := sumOf_take (f := putOf) (ps := ps) (fun q hq => (ok_bd (okPs_mem' hok hq)).2.1.1) k
  omega
theorem foldA_all {t : List Int} {ps : List Pt} {n : Nat} (h : fitsB ps t = true) (hn : sumK ps + sumP ps = (n : Int)) : (foldA t ps).2.length = n := by
  have h1 := foldA_len h ps.length (Nat.le_refl _)
  rw [List.take_length] at h1
  obtain ⟨hok, _, _, _, _, _, ho⟩ := fits_of h
  have hp : partsB ps = true := by unfold okOp at ho; rw [Bool.and_eq_true, Bool.and_eq_true] at ho; exact ho.1.1
  obtain ⟨t1, t2, t3⟩ := sum_t hp
  rw [t1, t2] at hn
  omega
theorem fits_n {t : List Int} {ps : List Pt} (h : fitsB ps t = true) : ∃ n : Nat, sumK ps + sumP ps = (n : Int) ∧ n ≤ 200 := by
  obtain ⟨hok, _, _, h4, _, _, ho⟩ := fits_of h
  have hp : partsB ps = true := by unfold okOp at ho; rw [Bool.and_eq_true, Bool.and_eq_true] at ho; exact ho.1.1
  obtain ⟨t1, t2, t3⟩ := sum_t hp
  have h1 := foldA_len h ps.length (Nat.le_refl _)
  rw [List.take_length] at h1
  exact ⟨(foldA t ps).2.length, by rw [t1, t2]; omega, by omega⟩
/-- a row of n cells of which the first are filled -/
def fillR (n : Nat) (out : List Int) : List Value := out.map (Value.int .i64) ++ List.replicate (n - out.length) (Value.int .i64 0)
theorem fill_len (n : Nat) (out : List Int) (h : out.length ≤ n) : (fillR n out).length = n := by unfold fillR; simp; omega
theorem fill_splice (n : Nat) (out ys : List Int) (h : out.length + ys.length ≤ n) : splice (fillR n out) out.length (ys.map (Value.int .i64)) = fillR n (out ++ ys) := by
  unfold splice fillR
  have e1 : (out.map (Value.int .i64) ++ List.replicate (n - out.length) (Value.int .i64 0)).take out.length = out.map (Value.int .i64) := by
    rw [List.take_append_of_le_length (by simp), List.take_of_length_le (by simp)]
  have e2 : (out.map (Value.int .i64) ++ List.replicate (n - out.length) (Value.int .i64 0)).drop (out.length + (ys.map (Value.int .i64)).length) = List.replicate (n - (out ++ ys).length) (Value.int .i64 0) := by
    rw [List.drop_append, List.drop_eq_nil_of_le (by simp), List.nil_append, List.drop_replicate]
    congr 1
    simp
    omega
  rw [e1, e2, List.map_append, List.append_assoc]
theorem fill_all (n : Nat) (out : List Int) (h : out.length = n) : fillR n out = out.map (Value.int .i64) := by
  unfold fillR
  rw [h]
  simp
theorem own_full {w : World} {base r n : Nat} {e : TypeId} {xs : List Value} (h : w.ownsRow base e 1 (.slice (some ⟨r, 0, none⟩) n n) n xs) : w.heap[r]? = some (.cells xs.toArray e (0, 0)) ∧ base ≤ r ∧ xs.length = n := by
  have hl := h.1
  rcases h.2 with ⟨h1, _⟩ | ⟨g, cap, cur, hv, hge, hh, h4, h5, h6, h7⟩
  · cases h1
  · injection hv with q1 q2 q3
    injection q1 with q1
    injection q1 with q1
    subst q1
    subst q3
    have : cur = xs.toArray := by
      rw [← h7, List.take_of_length_le (by simp; omega)]
    subst this
    exact ⟨hh, hge, by simpa using hl⟩
theorem full_own {w : World} {base r n : Nat} {e : TypeId} {xs : List Value} (h : w.heap[r]? = some (.cells xs.toArray e (0, 0))) (hb : base ≤ r) (hl : xs.length = n) (hn : n ≤ 4294967296) : w.ownsRow base e 1 (.slice (some ⟨r, 0, none⟩) n n) n xs := by
  refine ⟨by simpa using hl, .inr ⟨r, n, xs.toArray, rfl, hb, h, Nat.le_refl _, by unfold maxLen; omega, by simp [hl], ?_⟩⟩
  rw [List.take_of_length_le (by simp [hl])]
end Go.Proofs.YtbbpapaobehlcaaDoor.low


/-
  The program's side: contracts of impl.TextOk, impl.applies and of the reader's next.
-/
namespace Go.Proofs.YtbbpapaobehlcaaDoor.low
open Go.RowKit
set_option linter.unusedVariables false

set_option maxHeartbeats 800000 in
theorem implTextOk_d (v : Value) (t : List Int) (w : World) (h : RdC w w.heap.size (encInts t) v) (hs : SmI t) : Calls Tryd.prog 33 #[v] w (Tells (okText t) w) := by
  obtain ⟨A, c, rfl, hr, _⟩ := ints_rd h
  have hl : t.length ≤ 1048576 := hs
  by_cases h2 : t.length ≤ 200
  · have HS := Lib.hid (show okText t = allB t by unfold okText; rw [decide_eq_true h2, Bool.and_true])
    go_enter Tryd.func33, Tryd.ntmps33
    go_wp2_with fail
    refine (implSignsOk_any A c t _ hr (by omega)).mono ?_
    rintro e w1 ⟨rfl, rfl⟩
    generalize allB t = q at *
    go_wp2
    go_ret
    exact ⟨ret_bool (by rw [HS.out]), Below.refl _ _⟩
  · have HS := Lib.hid (show okText t = false by unfold okText; rw [decide_eq_false h2, Bool.and_false])
    go_enter Tryd.func33, Tryd.ntmps33
    go_wp2
    go_ret
    exact ⟨ret_bool (by rw [HS.out]), Below.refl _ _⟩

set_option maxHeartbeats 1600000 in
theorem implFits_d (v v' : Value) (ps : List Pt) (t : List Int) (w : World) (h : RdC w w.heap.size (encPs ps) v) (h' : RdC w w.heap.size (encInts t) v') (hs : SmP ps) (hs' : SmI t) : Calls Tryd.prog 53 #[v, v'] w (Tells (fitsB ps t) w) := by
  obtain ⟨A, c, rfl, hr, _⟩ := parts_rd h
  obtain ⟨A', c', rfl, hr', _⟩ := ints_rd h'
  have hl := hs.1
  cases ho : okOp ps
  · have HS := Lib.hid (show fitsB ps t = false by unfold fitsB; rw [ho]; rfl)
    go_enter Tryd.func53, Tryd.ntmps53
    go_wp2_with fail
    refine (implOpOk_any A c ps _ hr (by omega) hs.all4).mono ?_
    rintro e w1 ⟨rfl, b1⟩
    rw [ho]
    go_wp2
    go_ret
    exact ⟨ret_bool (by rw [HS.out]), b1⟩
  · cases ht : okText t
    · have HS := Lib.hid (show fitsB ps t = false by unfold fitsB; rw [ho, ht]; rfl)
      go_enter Tryd.func53, Tryd.ntmps53
      go_wp2_with fail
      refine (implOpOk_any A c ps _ hr (by omega) hs.all4).mono ?_
      rintro e w1 ⟨rfl, b1⟩
      rw [ho]
      go_wp2_with fail
      refine (implTextOk_d _ t _ (h'.past b1) hs').mono ?_
      rintro e w2 ⟨rfl, b2⟩
      rw [ht]
      go_wp2
      go_ret
      exact ⟨ret_bool (by rw [HS.out]), b1.trans (b2.mono b1.size)⟩
    · have HS := Lib.hid (show fitsB ps t = (sumK ps + sumD ps == (t.length : Int)) by unfold fitsB; rw [ho, ht, Bool.true_and]; cases hq : (sumK ps + sumD ps == (t.length : Int)) <;> simp_all)
      go_enter Tryd.func53, Tryd.ntmps53
      go_wp2_with fail
      refine (implOpOk_any A c ps _ hr (by omega) hs.all4).mono ?_
      rintro e w1 ⟨rfl, b1⟩
      rw [ho]
      go_wp2_with fail
      refine (implTextOk_d _ t _ (h'.past b1) hs').mono ?_
      rintro e w2 ⟨rfl, b2⟩
      rw [ht]
      have d2 := b1.trans (b2.mono b1.size)
      go_wp2_with fail
      refine (implOpFrom_any A c ps _ (hr.past d2) (by omega) hs.all4).mono ?_
      rintro e w3 ⟨rfl, b3⟩
      generalize sumK ps + sumD ps = q at *
      go_wp2
      go_ret
      exact ⟨ret_bool (by rw [HS.out]), d2.trans (b3.mono d2.size)⟩

/-- the reader at block g: zs is left of the text, which lies in blocks below B -/
def Rdr (B g : Nat) (w : World) (zs : List Int) : Prop := ∃ A c, w.heap[g]? = some (.cells #[.slice A zs.length c] 70 (0, 0)) ∧ zs.length ≤ c ∧ Row (Value.int .i64) w B A zs ∧ B ≤ g
theorem Rdr.keep {B g : Nat} {w w' : World} {zs : List Int} (h : Rdr B g w zs) (hg : w'.heap[g]? = w.heap[g]?) (hk : ∀ p : Addr, p.block < B → w'.cell? p = w.cell? p) : Rdr B g w' zs := by
  obtain ⟨A, c, h1, h2, h3, h4⟩ := h
  exact ⟨A, c, hg.trans h1, h2, h3.keep hk, h4⟩
theorem Rdr.lt {B g : Nat} {w : World} {zs : List Int} (h : Rdr B g w zs) : g < w.heap.size := by
  obtain ⟨A, c, h1, _⟩ := h
  exact lt_of_some h1
theorem Rdr.past {B g : Nat} {w w' : World} {zs : List Int} (h : Rdr B g w zs) (hb : Below w.heap.size w w') : Rdr B g w' zs := by
  have hlt := h.lt
  have hB : B ≤ g := by obtain ⟨_, _, _, _, _, h4⟩ := h; exact h4
  exact h.keep (hb.block g hlt) (fun p hp => hb.cell (by omega))
theorem Rdr.touch {B g : Nat} {w w' : World} {zs : List Int} {T : Nat → Prop} (h : Rdr B g w zs) (ht : Touch T w w') (hT : ∀ b, T b → B ≤ b ∧ ¬ b = g) : Rdr B g w' zs :=
  h.keep (ht.block g (fun e => (hT g e).2 rfl)) (fun p hp => ht.cell (fun e => by have := (hT _ e).1; omega))
/-- next gives the first n numbers, and the reader goes on behind them -/
def NextP (B g : Nat) (zs : List Int) (n : Nat) (w : World) (e : Ending) (w' : World) : Prop := ∃ A, e = .returned (.slice A n n) ∧ Row (Value.int .i64) w' B A (zs.take n) ∧ Rdr B g w' (zs.drop n) ∧ Touch (fun b => b = g) w w'

theorem addr_add_add (p : Addr) (i j : Nat) : (p.add i).add j = p.add (i + j) := by
  unfold Addr.add
  by_cases hi : i = 0
  · subst hi; simp
  · by_cases hj : j = 0
    · subst hj; simp [hi]
    · simp [hi, hj, Nat.add_assoc]
theorem Row.init {w : World} {B : Nat} {A : Option Addr} {zs : List Int} (h : Row (Value.int .i64) w B A zs) (n : Nat) : Row (Value.int .i64) w B A (zs.take n) := fun hn => by
  have h0 : 0 < zs.length := by rw [List.length_take] at hn; omega
  obtain ⟨ad, e, hb, hc⟩ := h h0
  refine ⟨ad, e, hb, fun k z hz => ?_⟩
  rw [List.getElem?_take] at hz
  split at hz
  · exact hc k z hz
  · cases hz
theorem Row.tail {w : World} {B : Nat} {ad : Addr} {zs : List Int} (h : Row (Value.int .i64) w B (some ad) zs) (n : Nat) : Row (Value.int .i64) w B (some (ad.add n)) (zs.drop n) := fun hn => by
  have h0 : 0 < zs.length := by rw [List.length_drop] at hn; omega
  obtain ⟨ad', e, hb, hc⟩ := h h0
  injection e with e
  subst e
  refine ⟨_, rfl, by rw [block_of_add]; exact hb, fun k z hz => ?_⟩
  rw [List.getElem?_drop] at hz
  rw [addr_add_add]
  exact hc (n + k) z hz
theorem heap_set0 {w : World} {g : Nat} {T : TypeId} {u v : Value} (h : w.heap[g]? = some (.cells #[u] T (0, 0))) : (w.setCell ⟨g, 0, none⟩ v).heap[g]? = some (.cells #[v] T (0, 0)) := by
  rw [heap_setCell_same _ _ _ _ _ _ h]
  rfl

set_option maxHeartbeats 1600000 in
theorem implNext (B g n : Nat) (zs : List Int) (w : World) (h : Rdr B g w zs) (hn : n ≤ zs.length) (hz : zs.length ≤ 1000000) : Calls Tryd.prog 54 #[.pointer (some ⟨g, 0, none⟩), .int .i64 n] w (NextP B g zs n w) := by
  obtain ⟨A, c, h1, h2, h3, h4⟩ := h
  have hcell : w.cell? ⟨g, 0, none⟩ = some (.slice A zs.length c) := cell_of_row _ _ 0 _ _ _ h1
  have hfree : w.frozen? ⟨g, 0, none⟩ = false := by simp [World.frozen?, h1]
  have H1 := Lib.hid h1
  clear h1
  cases A with
  | none =>
    have h0 : zs = [] := by
      rcases Nat.eq_zero_or_pos zs.length with h | h
      · exact List.eq_nil_of_length_eq_zero h
      · obtain ⟨_, hn, _⟩ := h3 h
        cases hn
    subst h0
    obtain rfl : n = 0 := by simpa using hn
    go_enter Tryd.func54, Tryd.ntmps54
    go_wp2
    all_goals
      go_ret
      refine ⟨none, rfl, Row.nil, ⟨none, _, heap_set0 H1.out, ?_, Row.nil, h4⟩, (Touch.refl (fun b => b = g) _).setCell (p := ⟨g, 0, none⟩) rfl _⟩
      simp
  | some ad =>
    by_cases hc : n = c
    · obtain rfl : n = c := hc
      obtain rfl : n = zs.length := by omega
      go_enter Tryd.func54, Tryd.ntmps54
      have hd : zs.drop zs.length = [] := List.drop_length
      have HD := Lib.hid hd
      clear hd
      go_wp2
      go_ret
      refine ⟨some ad, rfl, (h3.init _).keep (fun p hp => ?_), ?_, (Touch.refl (fun b => b = g) _).setCell (p := ⟨g, 0, none⟩) rfl _⟩
      · exact ((Touch.refl (fun b => b = g) _).setCell (p := ⟨g, 0, none⟩) rfl _).cell (fun e => by omega)
      · rw [HD.out]
        exact ⟨some ad, 0, heap_set0 H1.out, Nat.le_refl _, Row.nil, h4⟩
    · go_enter Tryd.func54, Tryd.ntmps54
      go_wp2
      go_ret
      have hk : ∀ p : Addr, p.block < B → (w.setCell ⟨g, 0, none⟩ (.slice (some (ad.add n)) (zs.length - n) (c - n))).cell? p = w.cell? p := fun p hp => ((Touch.refl (fun b => b = g) w).setCell (p := ⟨g, 0, none⟩) rfl _).cell (fun e => by omega)
      refine ⟨some ad, rfl, (h3.init _).keep hk, ⟨some (ad.add n), c - n, ?_, by rw [List.length_drop]; omega, (h3.tail n).keep hk, h4⟩, (Touch.refl (fun b => b = g) _).setCell (p := ⟨g, 0, none⟩) rfl _⟩
      rw [List.length_drop]
      exact heap_set0 H1.out
end Go.Proofs.YtbbpapaobehlcaaDoor.low


/-
  The program's side: contract of impl.Apply.
-/
namespace Go.Proofs.YtbbpapaobehlcaaDoor.low
open Go.RowKit
set_option linter.unusedVariables false

theorem Rdr.drew {B g : Nat} {w : World} {zs : List Int} (h : Rdr B g w zs) : Rdr B g w.drew zs := h.keep rfl (fun _ _ => rfl)
theorem int_size : (Tryd.prog.info? 3).map (·.size) = some 1 := by kernel_rfl
theorem made_zero (n : Nat) : (madeCells (Value.cells (Value.int .i64 0)) (n * 1)).toList = fillR n [] := by
  unfold fillR
  simp [madeCells, Value.cells, Nat.mod_one, List.map_const']
theorem Row.src {w : World} {B : Nat} {A : Option Addr} {ys : List Int} (h : Row (Value.int .i64) w B A ys) (hp : 0 < (ys.map (Value.int .i64)).length) : ∃ ad, A = some ad ∧ ∀ j v, (ys.map (Value.int .i64))[j]? = some v → w.cell? (ad.add j) = some v := by
  obtain ⟨ad, e, _, hc⟩ := h (by simpa using hp)
  refine ⟨ad, e, fun j v hv => ?_⟩
  rw [List.getElem?_map] at hv
  obtain ⟨z, hz, rfl⟩ := Option.map_eq_some_iff.1 hv
  exact hc j z hz
theorem ints_one (ys : List Int) : ∀ v ∈ ys.map (Value.int .i64), v.oneCell' = true := by
  intro v hv
  obtain ⟨z, _, rfl⟩ := List.mem_map.1 hv
  rfl

set_option maxRecDepth 100000 in
set_option maxHeartbeats 3200000 in
theorem implApply_d (v v' : Value) (ps : List Pt) (t : List Int) (w : World) (h : RdC w w.heap.size (encPs ps) v) (h' : RdC w w.heap.size (encInts t) v') (hs : SmP ps) (hs' : SmI t) : Calls Tryd.prog 11 #[v, v'] w (ResB (encInts (applyT ps t)) (fitsB ps t) w) := by
  obtain ⟨A, c, rfl, hr, _⟩ := parts_rd h
  obtain ⟨A', c', rfl, hr', hcap⟩ := ints_rd h'
  obtain ⟨i0, hi0, hz0, hz1, hz2⟩ := info_parts ints_info
  cases hf : fitsB ps t
  · have e1 : applyT ps t = [] := by simp [applyT, hf]
    rw [e1]
    go_enter Tryd.func11, Tryd.ntmps11
    go_wp2_with fail
    refine (implFits_d _ _ ps t _ h h' hs hs').mono ?_
    rintro e w1 ⟨rfl, b1⟩
    rw [hf]
    go_wp2
    go_ret2
    exact ⟨_, rfl, ⟨[], ⟨[], [], World.ownsRow_nil _ _ _ _, ⟨rfl, rfl⟩, rfl⟩, by simp, fun b hb => by simp at hb, Nat.le_refl _, b1.size⟩, b1⟩
  · have e1 : applyT ps t = (foldA t ps).2 := by simp [applyT, hf]
    rw [e1]
    have HF := Lib.hid hf
    have HFO := Lib.hid (fits_of hf)
    have hl := HFO.out.2.1
    have ht := HFO.out.2.2.2.2.2.1
    obtain ⟨n, hn, hn2⟩ := fits_n hf
    have HN := Lib.hid hn
    clear hn
    have hl1 := hs.1
    go_enter Tryd.func11, Tryd.ntmps11
    go_wp2_with fail
    refine (implFits_d _ _ ps t _ h h' hs hs').mono ?_
    rintro e w1 ⟨rfl, b1⟩
    rw [hf]
    clear hf e1
    go_wp2_with fail
    have hrd : Rdr w.heap.size w1.heap.size (w1.alloc (.cells #[.slice A' t.length c'] 70)) t := ⟨A', c', heap_alloc_new w1 _, hcap, (hr'.below b1).keep (fun p hp => (alloc_below w1 _).cell (Nat.lt_of_lt_of_le hp b1.size)), b1.size⟩
    have hb2 := b1.trans ((alloc_below w1 (.cells #[.slice A' t.length c'] 70)).mono b1.size)
    generalize w1.alloc (.cells #[.slice A' t.length c'] 70) = w2 at *
    have hwg := b1.size
    generalize w1.heap.size = g at *
    clear b1
    refine (implOpTo_any A c ps w2 (hr.past hb2) (by omega) hs.all4).mono ?_
    rintro e w3 ⟨rfl, b3⟩
    rw [HN.out]
    have hrd3 := hrd.past b3
    have hb3 := hb2.trans (b3.mono hb2.size)
    clear hrd hb2 b3
    go_wp2_with (at_make; refine wpList_make_full _ rfl _ _ 23 rfl w3.heap.size 3 i0 (.int .i64 0) 1 Tryd.underlying23 hi0 hz0 hz1 _ _ _ _ n rfl rfl (by omega) (by omega) (by rw [hz2]; omega) (by unfold maxLen; omega) (Nat.le_refl _) ?_; intro w4 hown hg4)
    have hb4 := (Below.refl w3.heap.size w3).grown hg4 (Nat.le_refl _) (fun _ h => by cases h)
    rw [made_zero] at hown
    have hrow := (own_full hown).1
    have hrd4 := hrd3.past hb4
    have hgr := hrd3.lt
    have hbw := hb3.trans (hb4.mono hb3.size)
    have hwr := hb3.size
    generalize w3.heap.size = r at *
    have HRW := Lib.hid hrow
    have HRD := Lib.hid hrd4
    clear hown hg4 hb4 hrow hrd4 hrd3 hb3
    go_loopw [8, 23] (fun a i wr => ∃ k : Nat, k ≤ ps.length ∧ i = .int .i64 k ∧ a = .int .i64 ((foldA t (ps.take k)).2.length : Int) ∧ wr.heap[r]? = some (.cells (fillR n (foldA t (ps.take k)).2).toArray 3 (0, 0)) ∧ Rdr w.heap.size g wr (t.drop (foldA t (ps.take k)).1) ∧ Below w.heap.size w wr) (fun _ i _ => ps.length - (intOf i).toNat)
    case atStart => exact ⟨0, Nat.zero_le _, rfl, rfl, HRW.out, HRD.out, hbw⟩
    case round =>
      obtain ⟨k, hk, rfl, rfl, hrow, hrd, hbel⟩ := hrel
      clear HRW HRD hbw
      have hout := foldA_upto HF.out HN.out k hk
      have hfit := Lib.hid (foldA_fit (t := t) HFO.out.1 k hk)
      by_cases hlt : k < ps.length
      · obtain ⟨b, off, p, rfl, hb, hp, hc⟩ := hr.at_ hlt
        obtain ⟨x0, x1, A1, e1, x2, r1⟩ := hc.keep (w' := wr) hb (fun _ hq => hbel.cell hq)
        have hokp := okPs_at hp HFO.out.1
        have hok := of_okPt hokp
        have hout1 := foldA_upto HF.out HN.out (k + 1) hlt
        have hin := foldA_in HF.out hp
        rw [foldA_snoc (t := t) hp] at hout1
        have K1 := Lib.hid (foldA_snoc (t := t) hp)
        have hsl := hs.all p (List.mem_of_getElem? hp)
        clear hp hc
        have hat : (foldA t (ps.take k)).1 ≤ 200 := by
          have f := hfit.out
          have a1 := sumOf_take (f := keepOf) (ps := ps) (fun q hq => (ok_bd (okPs_mem' HFO.out.1 hq)).1.1) k
          have a3 := sumOf_take (f := dropOf) (ps := ps) (fun q hq => (ok_bd (okPs_mem' HFO.out.1 hq)).2.2.1) k
          have g1 := HFO.out.2.2.1
          omega
        generalize foldA t (ps.take k) = st at *
        obtain ⟨at_, out⟩ := st
        obtain ⟨pk, pn, pz⟩ := p
        simp only at x0 x1 x2 hok r1 hin hrow hrd hat hout
        rcases (show pk = 1 ∨ pk = 2 ∨ pk = 3 by omega) with rfl | rfl | rfl
        · have hn1 : 0 ≤ pn := by omega
          have hn2 : pn ≤ 200 := by omega
          have hin' := hin (.inl rfl)
          obtain ⟨m, rfl⟩ := Int.eq_ofNat_of_zero_le hn1
          have hlen : ((t.drop at_).take m).length = m := piece_len (by omega)
          have K2 := Lib.hid (show stepA t (at_, out) ⟨1, (m : Int), pz⟩ = (at_ + m, out ++ (t.drop at_).take m) by simp [stepA])
          rw [K2.out] at hout1
          have HY := Lib.hid (show (t.drop at_).take ((t.drop at_).take m).length = (t.drop at_).take m by rw [hlen])
          generalize (t.drop at_).take m = ys at *
          obtain rfl : ys.length = m := hlen
          have hn3 : out.length + ys.length ≤ n := by simpa using hout1
          clear hok hin hout1
          have bA := alloc_below wr (.cells #[.int .i64 1, .int .i64 (ys.length : Int), .slice A1 pz.length e1] 64)
          have HRD := Lib.hid (hrd.past bA)
          have hrl := lt_of_some hrow
          have HRW := Lib.hid ((bA.block r hrl).trans hrow)
          clear hrd hrow r1
          have hb0 := hbel.trans (bA.mono hbel.size)
          clear bA
          have hfl : (ys.map (Value.int .i64)).length = Nat.min ys.length (n - out.length) := by rw [List.length_map]; exact (Nat.min_eq_left (by omega)).symm
          have HFL := Lib.hid hfl
          clear hfl
          have hdst : 0 < (ys.map (Value.int .i64)).length → (if n = out.length then some (⟨r, 0, none⟩ : Addr) else some ⟨r, out.length, none⟩) = some ⟨r, out.length, none⟩ := fun hp => if_neg (by rw [List.length_map] at hp; omega)
          have HDST := Lib.hid hdst
          clear hdst
          have hz1 : ys.length ≤ (t.drop at_).length := by rw [List.length_drop]; omega
          have hz2' : (t.drop at_).length ≤ 1000000 := by rw [List.length_drop]; omega
          have HZ1 := Lib.hid hz1
          have HZ2 := Lib.hid hz2'
          clear hz1 hz2'
          have hw1 : IntKind.i64.wrap ((out.length : Int) + (ys.length : Int)) = (out.length : Int) + (ys.length : Int) := IntWalk.i64_in _ (by omega)
          go_wp2
          go_region_law (first | (refine step_copy_splice rfl (.tmp 34) (.tmp 38) 23 23 rfl 3 Tryd.underlying23 int_size (if n = out.length then some (⟨r, 0, none⟩ : Addr) else some ⟨r, out.length, none⟩) A4 (n - out.length) (n - out.length) ys.length ys.length rfl rfl r out.length (fillR n out) 3 (by exact hrw4.out) (ys.map (Value.int .i64)) (by exact HFL.out) (fun hp => ⟨HDST.out hp, r4.out.src hp⟩) (by rw [fill_len _ _ hout]; simpa using hn3) (ints_one _) r _ (Below.refl _ _) (Nat.le_refl _) ?_; intro w5 hg5 hb5) | (go_simp; go_at_call 54; refine (implNext w.heap.size g ys.length (t.drop at_) _ (by exact HRD.out.drew) (by exact HZ1.out) (by exact HZ2.out)).mono ?_; rintro e w4 ⟨A4, rfl, r4, rd4, t4⟩; rw [HY.out] at r4; replace r4 := Lib.hid r4; have HR4 := Lib.hid rd4; have hrw4 := Lib.hid ((t4.block r (by omega)).trans HRW.out); clear rd4))
          have hb4' : Below w.heap.size w w4 := hb0.drew.trans (t4.below (fun b hb => by have hb' : b = g := hb; omega))
          have hb5' : Below w.heap.size w w5 := hb4'.trans (hb5.mono hwr)
          have HR5 := Lib.hid (show w5.heap[r]? = some (.cells (fillR n (out ++ ys)).toArray 3 (0, 0)) by rw [hg5.out, fill_splice _ _ _ hn3])
          have HD5 := Lib.hid (HR4.out.keep (hb5.block g hgr) (fun p hp => hb5.cell (by omega)))
          clear hg5 hb5 HDST HFL hb4' t4
          go_wp2
          go_roundw
          case rel => exact ⟨k + 1, by omega, by go_num, by rw [K1.out, K2.out]; simp, by rw [K1.out, K2.out]; exact HR5.out, by rw [K1.out, K2.out]; have := HD5.out; rw [List.drop_drop] at this; exact this, hb5'⟩
          case measure => simp [intOf]; omega
        · have hn3 : out.length + pz.length ≤ n := by
            have := hout1
            simp [stepA] at this
            exact this
          clear hok hin hout1
          have bA := alloc_below wr (.cells #[.int .i64 2, .int .i64 pn, .slice A1 pz.length e1] 64)
          have HRD := Lib.hid (hrd.past bA)
          have hrl := lt_of_some hrow
          have HRW := Lib.hid ((bA.block r hrl).trans hrow)
          have hpc := Lib.hid (Row.past_alloc (r1.more hbel.size) (.cells #[.int .i64 2, .int .i64 pn, .slice A1 pz.length e1] 64))
          clear hrd hrow r1
          have hb0 := hbel.trans (bA.mono hbel.size)
          clear bA
          have hfl : (pz.map (Value.int .i64)).length = Nat.min pz.length (n - out.length) := by rw [List.length_map]; exact (Nat.min_eq_left (by omega)).symm
          have HFL := Lib.hid hfl
          clear hfl
          have hw1 : IntKind.i64.wrap ((out.length : Int) + (pz.length : Int)) = (out.length : Int) + (pz.length : Int) := IntWalk.i64_in _ (by omega)
          have hdst : 0 < (pz.map (Value.int .i64)).length → (if n = out.length then some (⟨r, 0, none⟩ : Addr) else some ⟨r, out.length, none⟩) = some ⟨r, out.length, none⟩ := fun hp => if_neg (by rw [List.length_map] at hp; omega)
          have HDST := Lib.hid hdst
          clear hdst
          go_wp2
          go_region_law (refine step_copy_splice rfl (.tmp 46) (.tmp 48) 23 23 rfl 3 Tryd.underlying23 int_size (if n = out.length then some (⟨r, 0, none⟩ : Addr) else some ⟨r, out.length, none⟩) A1 (n - out.length) (n - out.length) pz.length e1 rfl rfl r out.length (fillR n out) 3 (by exact HRW.out) (pz.map (Value.int .i64)) (by exact HFL.out) (fun hp => ⟨HDST.out hp, hpc.out.src hp⟩) (by rw [fill_len _ _ hout]; simpa using hn3) (ints_one _) r _ (Below.refl _ _) (Nat.le_refl _) ?_; intro w5 hg5 hb5)
          have hb5' : Below w.heap.size w w5 := hb0.drew.trans (hb5.mono hwr)
          have HR5 := Lib.hid (show w5.heap[r]? = some (.cells (fillR n (out ++ pz)).toArray 3 (0, 0)) by rw [hg5.out, fill_splice _ _ _ hn3])
          have HD5 := Lib.hid (HRD.out.drew.keep (hb5.block g hgr) (fun p hp => hb5.cell (by omega)))
          clear hg5 hb5 HDST HFL
          go_wp2
          go_roundw
          case rel => exact ⟨k + 1, by omega, by go_num, by rw [K1.out]; simp [stepA], by rw [K1.out]; exact HR5.out, by rw [K1.out]; exact HD5.out, hb5'⟩
          case measure => simp [intOf]; omega
        · have hn1 : 0 ≤ pn := by omega
          have hn2 : pn ≤ 200 := by omega
          have hin' := hin (.inr rfl)
          clear hok hin hout1
          obtain ⟨m, rfl⟩ := Int.eq_ofNat_of_zero_le hn1
          have bA := alloc_below wr (.cells #[.int .i64 3, .int .i64 (m : Int), .slice A1 pz.length e1] 64)
          have HRD := Lib.hid (hrd.past bA)
          have hrl := lt_of_some hrow
          have HRW := Lib.hid ((bA.block r hrl).trans hrow)
          clear hrd hrow
          have hb0 := hbel.trans (bA.mono hbel.size)
          clear bA
          go_wp2_with fail
          refine (implNext w.heap.size g m (t.drop at_) _ HRD.out (by rw [List.length_drop]; omega) (by rw [List.length_drop]; omega)).mono ?_
          rintro e w4 ⟨A4, rfl, r4, rd4, t4⟩
          have HR4 := Lib.hid rd4
          have hrw4 := Lib.hid ((t4.block r (by omega)).trans HRW.out)
          have hb4 := hb0.trans (t4.below (fun b hb => by have := hb; omega))
          clear r4 rd4 t4
          go_wp2
          go_roundw
          case rel => exact ⟨k + 1, by omega, by go_num, by rw [K1.out]; rfl, by rw [K1.out]; exact hrw4.out, by rw [K1.out]; have := HR4.out; rw [List.drop_drop] at this; simpa [stepA] using this, hb4⟩
          case measure => simp [intOf]; omega
      · have hke : ps.take k = ps := List.take_of_length_le (by omega)
        rw [hke] at hrow hrd ⊢
        have hall := foldA_all HF.out HN.out
        rw [fill_all _ _ hall] at hrow
        have HO := Lib.hid (full_own (base := w.heap.size) hrow hwr (by simpa using hall) (by omega))
        have HL := Lib.hid hall
        clear hrow hrd hall hke hout
        generalize (foldA t ps).2 = out at *
        go_wp2
        go_ret2
        have HO2 := HO.out
        rw [← HL.out] at HO2 ⊢
        exact ⟨_, rfl, ⟨_, ow_ints HO2, by simp [Value.ownBlock], fun b hb => by
          have hb' : b = r := by simpa [Value.ownBlock] using hb
          subst hb'
          exact ⟨hwr, own_in HO2 rfl⟩, Nat.le_refl _, hbel.size⟩, hbel⟩
end Go.Proofs.YtbbpapaobehlcaaDoor.low


/-
  The program's side: contracts of impl.ApplyAll and impl.Idle.
-/
namespace Go.Proofs.YtbbpapaobehlcaaDoor.low
open Go.RowKit
set_option linter.unusedVariables false

end Go.Proofs.YtbbpapaobehlcaaDoor.low


/-
  The program's side of SpecBld.
-/
namespace Go.Proofs.YtbbpapaobehlcaaDoor.low
open Go.RowKit
set_option linter.unusedVariables false

theorem implKeepB (O : Nat → Prop) (lo g : Nat) (L : List Pt) (n : Int) (w : World) (hb : Bld O lo g 62 w L) (h0 : 0 ≤ n) (h1 : n ≤ 200) (hl : L.length < 100000) :
    Calls Tryd.prog 61 #[.pointer (some ⟨g, 0, none⟩), .int .i64 n] w (BldP O lo g 62 (L ++ [⟨1, n, []⟩]) w) := by
  have hz : szP_ ⟨1, n, []⟩ := ⟨.inl rfl, h0, h1, by simp⟩
  by_cases hn : n = 0
  · subst hn
    refine (implKeep_zero g w).mono ?_
    rintro e w' ⟨rfl, rfl⟩
    exact ⟨rfl, hb.add hl hz (Below.refl _ _) (Fr.refl _ _) (hb.at_.mono (fun b h => .inl h))⟩
  · have hf := hb.fit
    have hd := hf.done
    have hsg := signsIn_le hb.sz
    have f1 := hf.len
    have f2 := hf.signs
    have hlen := hb.len
    refine (implKeep_f (fun b => O b ∨ w.heap.size ≤ b) lo g _ _ _ n w (hb.at_.mono (fun b h => .inl h)) (fun b h => .inr h) (by omega) (by omega) hn h0 (by omega) (fun p hp => by have := hd.2.2 p hp; omega) (by have := hd.1; exact Nat.le_trans this (by omega))).mono ?_
    rintro e w' ⟨rfl, hn', b, fr⟩
    refine ⟨rfl, hb.add hl hz b fr ?_⟩
    simp only [stepN, if_neg hn]
    exact hn'.at_
theorem implPutB (O : Nat → Prop) (lo g : Nat) (L : List Pt) (A : Option Addr) (c m : Nat) (zs : List Int) (w : World) (hb : Bld O lo g 62 w L) (hr : Row (Value.int .i64) w w.heap.size A zs) (hm : zs.length = m) (h1 : zs.length ≤ 200) (hl : L.length < 100000) :
    Calls Tryd.prog 89 #[.pointer (some ⟨g, 0, none⟩), .slice A m c] w (BldP O lo g 62 (L ++ [⟨2, 0, zs⟩]) w) := by
  subst hm
  have hz : szP_ ⟨2, 0, zs⟩ := ⟨.inr (.inl rfl), by simp, by simp, h1⟩
  have hsg := signsIn_le hb.sz
  have f2 := hb.fit.signs
  have hlen := hb.len
  refine (implPut_f (fun b => O b ∨ w.heap.size ≤ b) lo g _ _ _ A c zs w (hb.at_.mono (fun b h => .inl h)) (fun b h => .inr h) hr (by omega) (by omega)).mono ?_
  rintro e w' ⟨rfl, ha, b, fr⟩
  exact ⟨rfl, hb.add hl hz b fr ha⟩
theorem implDropB (O : Nat → Prop) (lo g : Nat) (L : List Pt) (n : Int) (w : World) (hb : Bld O lo g 62 w L) (h0 : 0 ≤ n) (h1 : n ≤ 200) (hl : L.length < 100000) :
    Calls Tryd.prog 90 #[.pointer (some ⟨g, 0, none⟩), .int .i64 n] w (BldP O lo g 62 (L ++ [⟨3, n, []⟩]) w) := by
  have hz : szP_ ⟨3, n, []⟩ := ⟨.inr (.inr rfl), h0, h1, by simp⟩
  have f3 := hb.fit.d0
  have f4 := hb.fit.d1
  have hlen := hb.len
  refine (implDrop_f (fun b => O b ∨ w.heap.size ≤ b) lo g _ _ _ n w (hb.at_.mono (fun b h => .inl h)) (fun b h => .inr h) f3 (by omega) h0 (by omega)).mono ?_
  rintro e w' ⟨rfl, ha, b, fr⟩
  exact ⟨rfl, hb.add hl hz b fr ha⟩
theorem implDoneB (O : Nat → Prop) (lo g : Nat) (L : List Pt) (w : World) (hb : Bld O lo g 62 w L) :
    Calls Tryd.prog 52 #[.pointer (some ⟨g, 0, none⟩)] w (DoneP O lo L w) := by
  have f1 := hb.fit.len
  have hlen := hb.len
  have hsg := signsIn_le hb.sz
  have f2 := hb.fit.signs
  refine (implDone_f (fun b => O b ∨ w.heap.size ≤ b) lo g _ _ _ w (hb.at_.mono (fun b h => .inl h)) (fun b h => .inr h) (by omega) (by omega)).mono ?_
  intro e w' h
  exact GoneS.done h
end Go.Proofs.YtbbpapaobehlcaaDoor.low


/-
  The program's side: contract of impl.Invert.
-/
namespace Go.Proofs.YtbbpapaobehlcaaDoor.low
open Go.RowKit
set_option linter.unusedVariables false

theorem implOpNorm_d (v : Value) (ps : List Pt) (w : World) (h : RdC w w.heap.size (encPs ps) v) (hs : SmP ps) : Calls Tryd.prog 10 #[v] w (OwnPost (encPs (normL ps)) w) := by
  obtain ⟨A, c, rfl, hr, _⟩ := parts_rd h
  have hl := hs.1
  refine (implOpNorm_any A c ps w hr (by omega) hs.all4 hs.2).mono ?_
  rintro e w1 ⟨v1, rfl, p1, b1⟩
  exact ⟨v1, rfl, own_parts p1, b1⟩

/-- the state of Invert's loop: the reader at gr, the builder at g with its blocks O, the normal form in blocks from z2 to z3 -/
structure InvS (B gr g z2 z3 : Nat) (t : List Int) (qs : List Pt) (Qv : Value) (bq : List Nat) (O : Nat → Prop) (at_ : Nat) (L : List Pt) (w0 wr : World) : Prop where
  rd : Rdr B gr wr (t.drop at_)
  bd : Bld O B g 62 wr L
  far : ∀ x, O x → (x < z2 ∨ z3 ≤ x) ∧ ¬ x = gr
  ow : OwB z2 z3 wr (encPs qs) Qv bq
  low : gr < z2
  bel : Below B w0 wr
theorem InvS.base {B gr g z2 z3 : Nat} {t : List Int} {qs : List Pt} {Qv : Value} {bq : List Nat} {O : Nat → Prop} {at_ : Nat} {L : List Pt} {w0 wr : World} (h : InvS B gr g z2 z3 t qs Qv bq O at_ L w0 wr) : B ≤ gr := by
  obtain ⟨_, _, _, _, _, h4⟩ := h.rd
  exact h4
theorem InvS.past {B gr g z2 z3 : Nat} {t : List Int} {qs : List Pt} {Qv : Value} {bq : List Nat} {O : Nat → Prop} {at_ : Nat} {L : List Pt} {w0 wr w' : World} (h : InvS B gr g z2 z3 t qs Qv bq O at_ L w0 wr) (hb : Below wr.heap.size wr w') (hB : B ≤ wr.heap.size) : InvS B gr g z2 z3 t qs Qv bq O at_ L w0 w' :=
  ⟨h.rd.past hb, h.bd.past hb, h.far, h.ow.past hb, h.low, h.bel.trans (hb.mono hB)⟩
/-- the reader goes on -/
theorem InvS.next {B gr g z2 z3 : Nat} {t : List Int} {qs : List Pt} {Qv : Value} {bq : List Nat} {O : Nat → Prop} {at_ m : Nat} {L : List Pt} {w0 wr w' : World} (h : InvS B gr g z2 z3 t qs Qv bq O at_ L w0 wr) (hr : Rdr B gr w' ((t.drop at_).drop m)) (ht : Touch (fun b => b = gr) wr w') : InvS B gr g z2 z3 t qs Qv bq O (at_ + m) L w0 w' := by
  have hB := h.base
  have hl := h.low
  exact ⟨by rw [List.drop_drop] at hr; exact hr, h.bd.keep (by rw [ht.size]; exact Nat.le_refl _) (fun b _ hO => ht.block b (h.far b hO).2), h.far, h.ow.touch ht (fun x hx e => by have := h.ow.rng x hx; have e' : x = gr := e; omega), h.low, h.bel.trans (ht.below (fun b hb => by have e' : b = gr := hb; omega))⟩
/-- the builder has grown -/
theorem InvS.grow {B gr g z2 z3 : Nat} {t : List Int} {qs : List Pt} {Qv : Value} {bq : List Nat} {O O' : Nat → Prop} {at_ : Nat} {L L' : List Pt} {w0 wr w' : World} (h : InvS B gr g z2 z3 t qs Qv bq O at_ L w0 wr) (hb : Bld O' B g 62 w' L') (b : Below B wr w') (hg : Grew O O' wr w') : InvS B gr g z2 z3 t qs Qv bq O' at_ L' w0 w' := by
  have hlt := h.rd.lt
  refine ⟨h.rd.keep (hg.block gr hlt (fun ho => (h.far gr ho).2 rfl)) (fun p hp => b.cell hp), hb, fun x hx => ?_, h.ow.grew hg (fun x hx => (h.far x hx).1), h.low, h.bel.trans b⟩
  rcases hg.more x hx with h1 | h1
  · exact h.far x h1
  · exact ⟨.inr (Nat.le_trans h.ow.top h1), by omega⟩

end Go.Proofs.YtbbpapaobehlcaaDoor.low


/-
  The program's side: contracts of impl.partText and OpText.
-/
namespace Go.Proofs.YtbbpapaobehlcaaDoor.low
open Go.RowKit
set_option linter.unusedVariables false

theorem partL_mk (c : UInt8) (r : List UInt8) : (⟨#[c]⟩ : ByteArray) ++ mkB r = mkB (c :: r) := by rw [show (⟨#[c]⟩ : ByteArray) = mkB [c] from rfl, mkB_app]; rfl
set_option maxRecDepth 100000 in
set_option maxHeartbeats 1600000 in
theorem implPartText_any (p : Pt) (A : Option Addr) (c : Nat) (w : World) (hr : Row (Value.int .i64) w w.heap.size A p.signs) (hp : Spoken p) (ht : nt.Tab w) :
    Calls Tryd.prog 58 #[.agg #[.int .i64 p.kind, .int .i64 p.n, .slice A p.signs.length c]] w (Strs (mkB (partL p)) w) := by
  obtain ⟨pk, pn, pz⟩ := p
  have hok := of_okPt hp.1
  have hne := hp.2
  simp only at hok hr hne
  have HT := Lib.hid ht
  have HNE := Lib.hid hne
  clear ht hp hne
  have bA := alloc_below w (.cells #[.int .i64 pk, .int .i64 pn, .slice A pz.length c] 64)
  have HROW := Lib.hid (Row.past hr bA)
  have HBA := Lib.hid bA
  clear bA
  rcases (show pk = 1 ∨ pk = 2 ∨ pk = 3 by omega) with rfl | rfl | rfl
  · have hn1 : 0 ≤ pn := by omega
    have hn2 : pn ≤ 200 := by omega
    have HS := Lib.hid (show (⟨#[107]⟩ : ByteArray) ++ nt.numT pn = mkB (partL ⟨1, pn, pz⟩) by rw [numT_mk hn1 (by omega), partL_mk]; rfl)
    have hT2 : (nt.numT pn).size ≤ 10 := by rw [numT_mk hn1 (by omega), mkB_size]; exact (numL_len (by omega)).2
    have hs1 : (⟨#[107]⟩ : ByteArray).size + (nt.numT pn).size ≤ 9223372036854775807 := by rw [size1]; omega
    clear hok
    go_enter Tryd.func58, Tryd.ntmps58
    go_wp2_with fail
    refine (nt.implNumText_any pn _ (HT.out.past HBA.out) (by omega)).mono ?_
    rintro e w5 ⟨rfl, b5⟩
    go_wp2
    go_ret
    rw [HS.out]
    exact ⟨rfl, HBA.out.trans (b5.mono HBA.out.size)⟩
  · have hall : allB pz = true := by rcases hok with h | h; omega; exact h.2.2.1
    have hn3 : pz.length ≤ 200 := by omega
    have HAL := Lib.hid hall
    have HS := Lib.hid (show (⟨#[112]⟩ : ByteArray) ++ mkB (signJ pz) = mkB (partL ⟨2, pn, pz⟩) by rw [partL_mk, ← signL_J (HNE.out rfl)]; rfl)
    have hT2 : (mkB (signJ pz)).size ≤ 2200 := by rw [mkB_size]; have := signJ_len hall; omega
    have hs1 : (⟨#[112]⟩ : ByteArray).size + (mkB (signJ pz)).size ≤ 9223372036854775807 := by rw [size1]; omega
    clear hok hall
    go_enter Tryd.func58, Tryd.ntmps58
    go_wp2_with fail
    refine (implDotted_any A c pz _ HROW.out (by omega) HAL.out (HT.out.past HBA.out)).mono ?_
    rintro e w5 ⟨rfl, b5⟩
    generalize mkB (signJ pz) = o at *
    go_wp2
    go_ret
    rw [HS.out]
    exact ⟨rfl, HBA.out.trans (b5.mono HBA.out.size)⟩
  · have hn1 : 0 ≤ pn := by omega
    have hn2 : pn ≤ 200 := by omega
    have HS := Lib.hid (show (⟨#[100]⟩ : ByteArray) ++ nt.numT pn = mkB (partL ⟨3, pn, pz⟩) by rw [numT_mk hn1 (by omega), partL_mk]; rfl)
    have hT2 : (nt.numT pn).size ≤ 10 := by rw [numT_mk hn1 (by omega), mkB_size]; exact (numL_len (by omega)).2
    have hs1 : (⟨#[100]⟩ : ByteArray).size + (nt.numT pn).size ≤ 9223372036854775807 := by rw [size1]; omega
    clear hok
    go_enter Tryd.func58, Tryd.ntmps58
    go_wp2_with fail
    refine (nt.implNumText_any pn _ (HT.out.past HBA.out) (by omega)).mono ?_
    rintro e w5 ⟨rfl, b5⟩
    go_wp2
    go_ret
    rw [HS.out]
    exact ⟨rfl, HBA.out.trans (b5.mono HBA.out.size)⟩
theorem row_up {w : World} {B B' : Nat} {A : Option Addr} {zs : List Int} (h : Row (Value.int .i64) w B A zs) (hB : B ≤ B') : Row (Value.int .i64) w B' A zs := fun hz => by
  obtain ⟨ad, e, hb, hc⟩ := h hz
  exact ⟨ad, e, Nat.lt_of_lt_of_le hb hB, hc⟩
/-- the words of parts -/
def wordsOf (qs : List Pt) : List ByteArray := qs.map (fun p => mkB (partL p))
theorem words_snoc {qs : List Pt} {k : Nat} {p : Pt} (h : qs[k]? = some p) : wordsOf (qs.take k) ++ [mkB (partL p)] = wordsOf (qs.take (k + 1)) := by unfold wordsOf; rw [List.take_add_one, h]; simp
theorem words_list (qs : List Pt) : (wordsOf qs).map (·.data.toList) = qs.map partL := by unfold wordsOf; rw [List.map_map]; apply List.map_congr_left; intro p _; exact mkB_list _
theorem words_len (qs : List Pt) : (wordsOf qs).length = qs.length := by simp [wordsOf]
set_option maxRecDepth 100000 in
set_option maxHeartbeats 1600000 in
theorem implOpText_d (v : Value) (ps : List Pt) (w : World) (h : RdC w w.heap.size (encPs ps) v) (hs : SmP ps) (ht : nt.Tab w) : Calls Tryd.prog 13 #[v] w (Strs (opT ps) w) := by
  obtain ⟨A, c, rfl, hra, _⟩ := parts_rd h
  obtain ⟨i0, hi0, hz0, hz1, hz2⟩ := info_parts str_info
  have hl := hs.1
  have HTB := Lib.hid ht
  clear ht
  cases hok : okOp ps
  · have HT := Lib.hid (opT_f hok)
    go_enter Tryd.func13, Tryd.ntmps13
    go_wp2_with fail
    refine (implOpOk_any A c ps _ hra (by omega) hs.all4).mono ?_
    rintro e w1 ⟨rfl, b1⟩
    rw [hok]
    go_wp2
    go_ret
    rw [HT.out]
    exact ⟨rfl, b1⟩
  · have HT := Lib.hid (opT_t hok)
    have HOK := Lib.hid (norm_parts hok)
    have HSP := Lib.hid (norm_says hok)
    go_enter Tryd.func13, Tryd.ntmps13
    go_wp2_with fail
    refine (implOpOk_any A c ps _ hra (by omega) hs.all4).mono ?_
    rintro e w1 ⟨rfl, b1⟩
    rw [hok]
    clear hok
    go_wp2_with fail
    refine (implOpNorm_d _ ps _ (h.past b1) hs).mono ?_
    rintro e w3 ⟨v3, rfl, o3, b3⟩
    have d3 := b1.trans (b3.mono b1.size)
    obtain ⟨bq, oq⟩ := o3.blocks
    clear o3
    generalize normL ps = qs at *
    obtain ⟨Q, cq, rfl⟩ := sliceP oq.read
    have hql : qs.length ≤ 600 := HOK.out.2
    obtain ⟨Q', cq', eQ, hq, _⟩ := parts_rd oq.read
    obtain ⟨rfl, rfl⟩ : Q' = Q ∧ cq' = cq := by injection eQ with e1 _ e3; exact ⟨e1.symm, e3.symm⟩
    clear b1 b3 oq hra h eQ
    have HD3 := Lib.hid d3
    have hd3 := d3.size
    have HS0 := Lib.hid (SBuf.nil w3.heap.size w3 (Nat.le_refl _))
    clear d3
    go_wp2
    go_loopw [3, 12] (fun o i wr => ∃ k : Nat, k ≤ qs.length ∧ i = .int .i64 k ∧ SBuf w3.heap.size wr o (wordsOf (qs.take k)) ∧ Below w3.heap.size w3 wr) (fun _ i _ => qs.length - (intOf i).toNat)
    case atStart => exact ⟨0, Nat.zero_le _, rfl, HS0.out, Below.refl _ _⟩
    case round =>
      obtain ⟨k, hk, rfl, sb, hbel⟩ := hrel
      clear HS0
      have hwl : (wordsOf (qs.take k)).length = k := by rw [words_len, List.length_take]; omega
      obtain ⟨A1, c1, rfl, _⟩ := sb.slice
      have HWL := Lib.hid hwl
      have HSB := Lib.hid sb
      have HD := Lib.hid (HD3.out.trans (hbel.mono HD3.out.size))
      clear hwl sb
      by_cases hlt : k < qs.length
      · obtain ⟨b, off, p, rfl, hb, hp, hc⟩ := hq.at_ hlt
        obtain ⟨x0, x1, A3, e1, x2, r1⟩ := hc.keep (w' := wr) hb (fun _ hq => hbel.cell hq)
        have hsp := HSP.out p (List.mem_of_getElem? hp)
        have HP := Lib.hid (words_snoc hp)
        have HSPP := Lib.hid hsp
        have hszl : (mkB (partL p)).size ≤ 2202 := by rw [mkB_size]; exact partL_len hsp.1
        have bA := alloc_below wr (.cells #[.int .i64 p.kind, .int .i64 p.n, .slice A3 p.signs.length e1] 64)
        have HROW := Lib.hid (Row.past (row_up r1 hbel.size) bA)
        have HBA := Lib.hid bA
        have HDA := Lib.hid (HD.out.trans (bA.mono HD.out.size))
        clear hp hc hsp bA r1
        go_wp2_with fail
        refine (implPartText_any p A3 e1 _ HROW.out HSPP.out (HTB.out.past HDA.out)).mono ?_
        rintro e w5 ⟨rfl, b5⟩
        have hb5 := HBA.out.trans (b5.mono HBA.out.size)
        have sb5 := HSB.out.past hb5
        have HB5 := Lib.hid hb5
        have hwl : (wordsOf (qs.take k)).length ≤ 600 := by rw [HWL.out]; omega
        clear b5 hb5
        generalize mkB (partL p) = pt at *
        generalize wordsOf (qs.take k) = acc at *
        go_wp2_with (at_builtin; refine wpList_append_own _ rfl (.tmp 16) (.tmp 19) 72 rfl w3.heap.size 9 i0 (.string ByteArray.empty) 1 16 Tryd.underlying72 hi0 hz0 hz1 hz2 rfl (by decide) _ acc.length (acc.map Value.string) rfl (sb5.alloc _).1 ⟨w5.heap.size, 0, none⟩ 1 1 ([pt].map Value.string) rfl rfl (new_cells _ _ _) (strs_oneCell _) (by unfold maxLen; omega) (by omega) (sb5.alloc _).2 ?_; intro v' w6 ho hg _)
        have HS6 := Lib.hid (sbuf_of rfl ho hg (sb5.alloc _))
        have HB6 := Lib.hid (below_append hbel HB5.out hg hbel.size (fun k e => sb5.own k e))
        clear ho hg sb5
        go_wp2
        go_roundw
        case rel => exact ⟨k + 1, by omega, by go_num, by rw [← HP.out]; exact HS6.out, HB6.out⟩
        case measure => simp [intOf]; omega
      · have hke : qs.take k = qs := List.take_of_length_le (by omega)
        rw [hke] at HSB HWL ⊢
        clear hke hq
        by_cases hz : qs.length = 0
        · obtain rfl : qs = [] := List.eq_nil_of_length_eq_zero hz
          have hw0 : (wordsOf ([] : List Pt)).length = 0 := rfl
          rw [hw0]
          clear hz hw0
          go_wp2
          go_ret
          rw [HT.out]
          exact ⟨rfl, HD.out⟩
        · have hz' : ((qs.length : Int) == 0) = false := by rw [beq_eq_false_iff_ne]; omega
          have hwq : (wordsOf qs).length = qs.length := words_len qs
          rw [hwq]
          have hOJ : opL qs = opJ qs := by unfold opL; rw [if_neg (by intro e; rw [e] at hz; exact hz rfl)]
          have HJ := Lib.hid (show Lib.join ((wordsOf qs).map (·.data.toList)) (⟨#[32]⟩ : ByteArray).data.toList = opJ qs by rw [words_list, list32, join_joinL]; rfl)
          have hlen := opJ_len HOK.out.1
          obtain ⟨g, cap, x0, hv, hge, hgl, _, _⟩ := sbuf_at HSB.out (k := 0) (by rw [hwq]; omega)
          obtain ⟨rfl, rfl⟩ : A1 = some ⟨g, 0, none⟩ ∧ c1 = cap := by injection hv with q1 _ q3; exact ⟨q1, q3⟩
          have hcap : (wordsOf qs).length ≤ c1 := by
            rcases HSB.out.1.2 with ⟨hv, h0⟩ | ⟨g, cap, cur, hv, hge, hh, hnc, hcm, hx, _⟩
            · cases hv
            · injection hv with _ _ q3
              subst q3
              exact hnc
          have hcells : ∀ (j : Nat) x, (wordsOf qs)[j]? = some x → wr.cell? ⟨g, 0 + j, none⟩ = some (.string x) := fun j x hx => by
            obtain ⟨g', cap', x', hv', _, _, hx', hc'⟩ := sbuf_at HSB.out (idx_lt hx)
            obtain rfl : g = g' := by injection hv' with q1; injection q1 with q1; injection q1
            rw [Nat.zero_add, hc']
            rw [hx] at hx'
            rw [Option.some.inj hx']
          have hq := Tryd.strings_Join g 0 c1 (wordsOf qs) ⟨#[32]⟩ wr hcells hgl (by rw [hwq]; omega) hcap (by rw [HJ.out]; omega)
          rw [HJ.out, hwq] at hq
          have HQ := Lib.hid hq
          have HT2 := Lib.hid (show opT ps = mkB (opJ qs) by rw [HT.out, hOJ])
          clear hq hcells hcap hlen hz hwq hv hOJ
          go_wp2_with fail
          refine HQ.out.mono ?_
          rintro e w6 ⟨rfl, b6⟩
          go_wp2
          go_ret
          rw [HT2.out]
          exact ⟨rfl, HD.out.trans (b6.mono HD.out.size)⟩
end Go.Proofs.YtbbpapaobehlcaaDoor.low


/-
  The program's side: contracts of impl.tokenOf and impl.partOf.
-/
namespace Go.Proofs.YtbbpapaobehlcaaDoor.low
open Go.RowKit
set_option linter.unusedVariables false

/-- what a token says: nothing, or a part (whose characters, if it inserts, lie in [lo, hi)) -/
def Tok (lo hi : Nat) (w : World) (q : Option Pt) (v : Value) : Prop :=
  (q = none ∧ v = .nilIface) ∨ (∃ n, q = some ⟨1, n, []⟩ ∧ v = .iface 102 (.int .i64 n)) ∨ (∃ n, q = some ⟨3, n, []⟩ ∧ v = .iface 104 (.int .i64 n))
    ∨ (∃ zs A c, q = some ⟨2, 0, zs⟩ ∧ v = .iface 103 (.slice A zs.length c) ∧ Own lo hi w (encInts zs) (.slice A zs.length c))
def TokPost (q : Option Pt) (w : World) (e : Ending) (w' : World) : Prop := ∃ v, e = .returned v ∧ Tok w.heap.size w'.heap.size w' q v ∧ Below w.heap.size w w'
theorem readQ_empty {x : ByteArray} (h : x.size = 0) : readQ x = none := by unfold readQ; rw [if_pos h]
theorem readQ_p {x : ByteArray} (h : ¬ x.size = 0) (hc : bAt x 0 = 112) : readQ x = (readAll (cuts (x.extract 1 x.size) 46)).map (fun zs => ⟨2, 0, zs⟩) := by unfold readQ; rw [if_neg h, if_pos hc]
theorem readQ_k {x : ByteArray} (h : ¬ x.size = 0) (hc : bAt x 0 = 107) : readQ x = (numQ (x.extract 1 x.size)).map (fun n => ⟨1, n, []⟩) := by unfold readQ; rw [if_neg h, if_neg (by omega), if_pos hc]
theorem readQ_d {x : ByteArray} (h : ¬ x.size = 0) (hc : bAt x 0 = 100) : readQ x = (numQ (x.extract 1 x.size)).map (fun n => ⟨3, n, []⟩) := by unfold readQ; rw [if_neg h, if_neg (by omega), if_neg (by omega), if_pos hc]
theorem readQ_o {x : ByteArray} (h : ¬ x.size = 0) (h1 : ¬ bAt x 0 = 112) (h2 : ¬ bAt x 0 = 107) (h3 : ¬ bAt x 0 = 100) : readQ x = none := by unfold readQ; rw [if_neg h, if_neg h1, if_neg h2, if_neg h3]
theorem str_none {x : ByteArray} (h : x.size = 0) : (x.toList == []) = true := by
  have : x = mkB [] := by rw [← mkB_of x]; congr 1; exact List.eq_nil_of_length_eq_zero h
  subst this
  exact empty_l rfl
set_option maxRecDepth 100000 in
set_option maxHeartbeats 1600000 in
theorem implTokenOf_any (x : ByteArray) (w : World) (hs : x.size ≤ 1048576) (ht : nt.Tab w) (he : nt.Errs w) : Calls Tryd.prog 57 #[.string x] w (TokPost (readQ x) w) := by
  have HT := Lib.hid ht
  have HE := Lib.hid he
  clear ht he
  by_cases h0 : x.size = 0
  · have HQ := Lib.hid (readQ_empty h0)
    have e1 := str_none h0
    clear h0
    go_enter Tryd.func57, Tryd.ntmps57
    go_wp2
    go_ret
    exact ⟨_, rfl, .inl ⟨HQ.out, rfl⟩, Below.refl _ _⟩
  · have e1 : (x.toList == []) = false := str_full h0
    have h3 : 0 < x.size := by omega
    have h4 : 1 ≤ x.size := by omega
    have hxr : (x.extract 1 x.size).size ≤ 1048576 := Nat.le_trans (extract_le _ _ _) hs
    have H0 := Lib.hid h0
    clear h0
    have bd : Below w.heap.size w w.drew := drewN_below w 1
    have HT1 := Lib.hid (HT.out.past bd)
    have HE1 := Lib.hid (HE.out.past bd)
    have HBD := Lib.hid bd
    clear bd
    by_cases hc1 : bAt x 0 = 112
    · have t112 := byte_t (x := x) h3 (n := 112) (by omega)
      have HQ := Lib.hid (readQ_p H0.out hc1)
      clear hc1
      go_enter Tryd.func57, Tryd.ntmps57
      go_wp2
      go_region
      go_wp2_with fail
      refine (implUndotted_d (x.extract 1 x.size) _ hxr HT1.out HE1.out).mono ?_
      rintro e w1 ⟨v1, rfl, o1, b1⟩
      have D1 := HBD.out.trans b1
      have o1' : Own w.heap.size w1.heap.size w1 (encInts (rdL (x.extract 1 x.size))) v1 := o1
      have HO := Lib.hid o1'
      clear o1 o1' b1
      cases hra : readAll (cuts (x.extract 1 x.size) 46) with
      | none =>
        rw [(rd_f hra).2]
        have HN := Lib.hid (show readQ x = none by rw [HQ.out, hra]; rfl)
        clear hra
        go_wp2
        go_ret
        exact ⟨_, rfl, .inl ⟨HN.out, rfl⟩, D1⟩
      | some zs =>
        rw [(rd_t hra).2]
        rw [(rd_t hra).1] at HO
        have HN := Lib.hid (show readQ x = some ⟨2, 0, zs⟩ by rw [HQ.out, hra]; rfl)
        clear hra
        obtain ⟨b1, ob1⟩ := HO.out.blocks
        obtain ⟨A1, c1, rfl⟩ := sliceI ob1.read
        clear ob1
        go_wp2
        go_ret
        exact ⟨_, rfl, .inr (.inr (.inr ⟨zs, A1, c1, HN.out, rfl, HO.out⟩)), D1⟩
    · by_cases hc2 : bAt x 0 = 107
      · have t107 := byte_t (x := x) h3 (n := 107) (by omega)
        have t100 := byte_f (x := x) h3 (n := 100) (by omega)
        have t112 := byte_f (x := x) h3 (n := 112) (by omega)
        have HQ := Lib.hid (readQ_k H0.out hc2)
        clear hc1 hc2
        by_cases hn : nt.Num (x.extract 1 x.size)
        · have HN := Lib.hid (show readQ x = some ⟨1, ((nt.parse (x.extract 1 x.size).data.toList : Nat) : Int), []⟩ by rw [HQ.out, numQ_t hn]; rfl)
          have HNN := Lib.hid hn
          clear hn
          generalize hpz : ((nt.parse (x.extract 1 x.size).data.toList : Nat) : Int) = z at *
          have HPZ := Lib.hid hpz
          clear hpz
          go_enter Tryd.func57, Tryd.ntmps57
          go_wp2
          go_region
          go_wp2_with fail
          refine (nt.implTextNum_any (x.extract 1 x.size) _ hxr HT1.out HE1.out).mono ?_
          rintro e w1 ⟨⟨h5, _⟩, b1⟩
          obtain rfl := h5 HNN.out
          rw [HPZ.out]
          clear h5
          have D1 := HBD.out.trans b1
          go_wp2
          go_ret
          exact ⟨_, rfl, .inr (.inl ⟨_, HN.out, rfl⟩), D1⟩
        · have HN := Lib.hid (show readQ x = none by rw [HQ.out, numQ_f hn]; rfl)
          have HNN := Lib.hid hn
          clear hn
          go_enter Tryd.func57, Tryd.ntmps57
          go_wp2
          go_region
          go_wp2_with fail
          refine (nt.implTextNum_any (x.extract 1 x.size) _ hxr HT1.out HE1.out).mono ?_
          rintro e w1 ⟨⟨_, h5⟩, b1⟩
          obtain rfl := h5 HNN.out
          clear h5
          have D1 := HBD.out.trans b1
          go_wp2
          go_ret
          exact ⟨_, rfl, .inl ⟨HN.out, rfl⟩, D1⟩
      · by_cases hc3 : bAt x 0 = 100
        · have t107 := byte_f (x := x) h3 (n := 107) (by omega)
          have t100 := byte_t (x := x) h3 (n := 100) (by omega)
          have t112 := byte_f (x := x) h3 (n := 112) (by omega)
          have HQ := Lib.hid (readQ_d H0.out hc3)
          clear hc1 hc3 hc2
          by_cases hn : nt.Num (x.extract 1 x.size)
          · have HN := Lib.hid (show readQ x = some ⟨3, ((nt.parse (x.extract 1 x.size).data.toList : Nat) : Int), []⟩ by rw [HQ.out, numQ_t hn]; rfl)
            have HNN := Lib.hid hn
            clear hn
            generalize hpz : ((nt.parse (x.extract 1 x.size).data.toList : Nat) : Int) = z at *
            have HPZ := Lib.hid hpz
            clear hpz
            go_enter Tryd.func57, Tryd.ntmps57
            go_wp2
            go_region
            go_wp2_with fail
            refine (nt.implTextNum_any (x.extract 1 x.size) _ hxr HT1.out HE1.out).mono ?_
            rintro e w1 ⟨⟨h5, _⟩, b1⟩
            obtain rfl := h5 HNN.out
            rw [HPZ.out]
            clear h5
            have D1 := HBD.out.trans b1
            go_wp2
            go_ret
            exact ⟨_, rfl, .inr (.inr (.inl ⟨_, HN.out, rfl⟩)), D1⟩
          · have HN := Lib.hid (show readQ x = none by rw [HQ.out, numQ_f hn]; rfl)
            have HNN := Lib.hid hn
            clear hn
            go_enter Tryd.func57, Tryd.ntmps57
            go_wp2
            go_region
            go_wp2_with fail
            refine (nt.implTextNum_any (x.extract 1 x.size) _ hxr HT1.out HE1.out).mono ?_
            rintro e w1 ⟨⟨_, h5⟩, b1⟩
            obtain rfl := h5 HNN.out
            clear h5
            have D1 := HBD.out.trans b1
            go_wp2
            go_ret
            exact ⟨_, rfl, .inl ⟨HN.out, rfl⟩, D1⟩
        · have t107 := byte_f (x := x) h3 (n := 107) (by omega)
          have t100 := byte_f (x := x) h3 (n := 100) (by omega)
          have t112 := byte_f (x := x) h3 (n := 112) (by omega)
          have HN := Lib.hid (readQ_o H0.out hc1 hc2 hc3)
          clear hc1 hc2 hc3
          by_cases hn : nt.Num (x.extract 1 x.size)
          · have HNN := Lib.hid hn
            clear hn
            go_enter Tryd.func57, Tryd.ntmps57
            go_wp2
            go_region
            go_wp2_with fail
            refine (nt.implTextNum_any (x.extract 1 x.size) _ hxr HT1.out HE1.out).mono ?_
            rintro e w1 ⟨⟨h5, _⟩, b1⟩
            obtain rfl := h5 HNN.out
            clear h5
            have D1 := HBD.out.trans b1
            go_wp2
            go_ret
            exact ⟨_, rfl, .inl ⟨HN.out, rfl⟩, D1⟩
          · have HNN := Lib.hid hn
            clear hn
            go_enter Tryd.func57, Tryd.ntmps57
            go_wp2
            go_region
            go_wp2_with fail
            refine (nt.implTextNum_any (x.extract 1 x.size) _ hxr HT1.out HE1.out).mono ?_
            rintro e w1 ⟨⟨_, h5⟩, b1⟩
            obtain rfl := h5 HNN.out
            clear h5
            have D1 := HBD.out.trans b1
            go_wp2
            go_ret
            exact ⟨_, rfl, .inl ⟨HN.out, rfl⟩, D1⟩

/-- the part that a token says, by value, and that it says one -/
def PartPost (lo hi : Nat) (q : Option Pt) (w : World) (e : Ending) (w' : World) : Prop := Below w.heap.size w w' ∧
  ((q = none ∧ e = .returned (.tuple #[.agg #[.int .i64 0, .int .i64 0, .slice none 0 0], .bool false]))
    ∨ ∃ p A c, q = some p ∧ e = .returned (.tuple #[.agg #[.int .i64 p.kind, .int .i64 p.n, .slice A p.signs.length c], .bool true]) ∧ Own lo hi w (encInts p.signs) (.slice A p.signs.length c))
theorem ta_nil_k (w : World) : (Instr.typeAssert .nilIface 76 102 true).run Tryd.prog w = .ok (.tuple #[.int .i64 0, .bool false]) w := by kernel_rfl
theorem ta_k_k (v : Value) (w : World) : (Instr.typeAssert (.iface 102 v) 76 102 true).run Tryd.prog w = .ok (.tuple #[v, .bool true]) w := by kernel_rfl
theorem ta_p_k (v : Value) (w : World) : (Instr.typeAssert (.iface 103 v) 76 102 true).run Tryd.prog w = .ok (.tuple #[.int .i64 0, .bool false]) w := by kernel_rfl
theorem ta_d_k (v : Value) (w : World) : (Instr.typeAssert (.iface 104 v) 76 102 true).run Tryd.prog w = .ok (.tuple #[.int .i64 0, .bool false]) w := by kernel_rfl
theorem ta_nil_p (w : World) : (Instr.typeAssert .nilIface 76 103 true).run Tryd.prog w = .ok (.tuple #[.slice none 0 0, .bool false]) w := by kernel_rfl
theorem ta_k_p (v : Value) (w : World) : (Instr.typeAssert (.iface 102 v) 76 103 true).run Tryd.prog w = .ok (.tuple #[.slice none 0 0, .bool false]) w := by kernel_rfl
theorem ta_p_p (v : Value) (w : World) : (Instr.typeAssert (.iface 103 v) 76 103 true).run Tryd.prog w = .ok (.tuple #[v, .bool true]) w := by kernel_rfl
theorem ta_d_p (v : Value) (w : World) : (Instr.typeAssert (.iface 104 v) 76 103 true).run Tryd.prog w = .ok (.tuple #[.slice none 0 0, .bool false]) w := by kernel_rfl
theorem ta_nil_d (w : World) : (Instr.typeAssert .nilIface 76 104 true).run Tryd.prog w = .ok (.tuple #[.int .i64 0, .bool false]) w := by kernel_rfl
theorem ta_k_d (v : Value) (w : World) : (Instr.typeAssert (.iface 102 v) 76 104 true).run Tryd.prog w = .ok (.tuple #[.int .i64 0, .bool false]) w := by kernel_rfl
theorem ta_p_d (v : Value) (w : World) : (Instr.typeAssert (.iface 103 v) 76 104 true).run Tryd.prog w = .ok (.tuple #[.int .i64 0, .bool false]) w := by kernel_rfl
theorem ta_d_d (v : Value) (w : World) : (Instr.typeAssert (.iface 104 v) 76 104 true).run Tryd.prog w = .ok (.tuple #[v, .bool true]) w := by kernel_rfl
theorem own_nil {lo hi : Nat} {w : World} (h1 : lo ≤ hi) (h2 : hi ≤ w.heap.size) : Own lo hi w (encInts []) (.slice none 0 0) := ⟨[], nil_owI w, by simp, fun q hq => by simp at hq, h2, h1⟩
set_option maxRecDepth 100000 in
set_option maxHeartbeats 1600000 in
theorem implPartOf_any (lo hi : Nat) (q : Option Pt) (v : Value) (w : World) (h : Tok lo hi w q v) (h1 : lo ≤ hi) (h2 : hi ≤ w.heap.size) : Calls Tryd.prog 56 #[v] w (PartPost lo hi q w) := by
  rcases h with ⟨rfl, rfl⟩ | ⟨n, rfl, rfl⟩ | ⟨n, rfl, rfl⟩ | ⟨zs, A, c, rfl, rfl, ho⟩
  · have tk := ta_nil_k
    have tp := ta_nil_p
    have td := ta_nil_d
    go_enter Tryd.func56, Tryd.ntmps56
    go_wp2
    exact bodyPost_ret (v := .tuple #[.agg #[.int .i64 0, .int .i64 0, .slice none 0 0], .bool false]) (by simp [results, Tryd.results56, go_sem]) rfl ⟨alloc_below _ _, .inl ⟨rfl, rfl⟩⟩
  · have tk := ta_k_k (.int .i64 n)
    go_enter Tryd.func56, Tryd.ntmps56
    go_wp2
    exact bodyPost_ret (v := .tuple #[.agg #[.int .i64 1, .int .i64 n, .slice none 0 0], .bool true]) (by simp [results, Tryd.results56, go_sem]) rfl ⟨alloc_below _ _, .inr ⟨_, none, 0, rfl, rfl, own_nil h1 h2⟩⟩
  · have tk := ta_d_k (.int .i64 n)
    have tp := ta_d_p (.int .i64 n)
    have td := ta_d_d (.int .i64 n)
    go_enter Tryd.func56, Tryd.ntmps56
    go_wp2
    exact bodyPost_ret (v := .tuple #[.agg #[.int .i64 3, .int .i64 n, .slice none 0 0], .bool true]) (by simp [results, Tryd.results56, go_sem]) rfl ⟨alloc_below _ _, .inr ⟨_, none, 0, rfl, rfl, own_nil h1 h2⟩⟩
  · have tk := ta_p_k (.slice A zs.length c)
    have tp := ta_p_p (.slice A zs.length c)
    have HO := Lib.hid ho
    clear ho
    go_enter Tryd.func56, Tryd.ntmps56
    go_wp2
    exact bodyPost_ret (v := .tuple #[.agg #[.int .i64 2, .int .i64 0, .slice A zs.length c], .bool true]) (by simp [results, Tryd.results56, go_sem]) rfl ⟨alloc_below _ _, .inr ⟨_, A, c, rfl, rfl, HO.out⟩⟩
end Go.Proofs.YtbbpapaobehlcaaDoor.low


/-
  A text with what cannot be seen hidden: the function behind Show.
-/
namespace Go.Proofs.YtbbpapaobehlcaaDoor.low
open Go.RowKit
set_option linter.unusedVariables false

def hideZ (z : Int) : Int := if z < 32 ∨ z = 127 then 63 else z
def showT (zs : List Int) : ByteArray := if allB zs = true then bytesOf (zs.map hideZ) else ByteArray.empty
theorem showT_t {zs : List Int} (h : allB zs = true) : showT zs = bytesOf (zs.map hideZ) := by unfold showT; rw [if_pos h]
theorem showT_f {zs : List Int} (h : allB zs = false) : showT zs = ByteArray.empty := by unfold showT; rw [if_neg (by simp [h])]
theorem hideZ_ok {z : Int} (h : signB z = true) : signB (hideZ z) = true := by
  unfold hideZ
  split
  · decide
  · exact h
theorem hide_all {zs : List Int} (h : allB zs = true) : allB (zs.map hideZ) = true := by
  unfold allB at h ⊢
  rw [List.all_eq_true] at h ⊢
  intro x hx
  obtain ⟨z, hz, rfl⟩ := List.mem_map.1 hx
  exact hideZ_ok (h z hz)
theorem hide_len (z : Int) : (encI (hideZ z)).length = (encI z).length := by
  unfold hideZ
  split
  · rename_i h
    rw [encI_1 (by omega), encI_1 (by omega)]
    rfl
  · rfl
theorem encL_hide : ∀ zs : List Int, (encL (zs.map hideZ)).length = (encL zs).length
  | [] => rfl
  | z :: zs => by rw [List.map_cons, encL_cons, encL_cons, List.length_append, List.length_append, hide_len, encL_hide zs]
theorem show_size {zs : List Int} (h : allB zs = true) : (showT zs).size = (bytesOf zs).size := by
  rw [showT_t h, bytesOf_t (hide_all h), bytesOf_t h, strOfNums_size, strOfNums_size, encL_hide]
/-- how far it has come -/
def hideK (zs : List Int) (k : Nat) : List Int := (zs.take k).map hideZ ++ zs.drop k
theorem hideK_0 (zs : List Int) : hideK zs 0 = zs := by simp [hideK]
theorem hideK_len (zs : List Int) (k : Nat) : (hideK zs k).length = zs.length := by simp [hideK]; omega
theorem hideK_all {zs : List Int} {k : Nat} (h : zs.length ≤ k) : hideK zs k = zs.map hideZ := by
  unfold hideK
  rw [List.take_of_length_le h, List.drop_eq_nil_of_le h, List.append_nil]
theorem hideK_at {zs : List Int} {k : Nat} {z : Int} (h : zs[k]? = some z) : (hideK zs k)[k]? = some z := by
  have hk : k < zs.length := by rcases Nat.lt_or_ge k zs.length with hlt | hge; exact hlt; rw [List.getElem?_eq_none hge] at h; cases h
  unfold hideK
  rw [List.getElem?_append_right (by simp; omega)]
  simp only [List.length_map, List.length_take, Nat.min_eq_left (Nat.le_of_lt hk), Nat.sub_self]
  rw [List.getElem?_drop]
  simpa using h
theorem hideK_step {zs : List Int} {k : Nat} {z : Int} (h : zs[k]? = some z) : hideK zs (k + 1) = (hideK zs k).set k (hideZ z) := by
  have hk : k < zs.length := by rcases Nat.lt_or_ge k zs.length with hlt | hge; exact hlt; rw [List.getElem?_eq_none hge] at h; cases h
  unfold hideK
  rw [List.set_append_right _ _ (by simp; omega)]
  simp only [List.length_map, List.length_take, Nat.min_eq_left (Nat.le_of_lt hk), Nat.sub_self]
  have e : zs.drop k = z :: zs.drop (k + 1) := by
    rw [List.drop_eq_getElem_cons hk]
    congr 1
    rw [List.getElem?_eq_getElem hk] at h
    exact Option.some.inj h
  rw [e, List.take_add_one, h]
  simp
theorem set_sameZ {l : List Int} {k : Nat} {z : Int} (h : l[k]? = some z) : l.set k z = l := by
  apply List.ext_getElem?
  intro i
  rw [List.getElem?_set]
  split
  · rename_i e
    subst e
    have hk : k < l.length := by rcases Nat.lt_or_ge k l.length with hlt | hge; exact hlt; rw [List.getElem?_eq_none hge] at h; cases h
    rw [if_pos hk, h]
  · rfl
end Go.Proofs.YtbbpapaobehlcaaDoor.low


/-
  The program's side: contracts of impl.shown and impl.Show.
-/
namespace Go.Proofs.YtbbpapaobehlcaaDoor.low
open Go.RowKit
set_option linter.unusedVariables false

set_option maxHeartbeats 400000 in
theorem implShown_any (z : Int) (w : World) : Calls Tryd.prog 74 #[.int .i64 z] w fun e w' => e = .returned (.int .i64 (hideZ z)) ∧ w = w' := by
  by_cases h1 : z < 32
  · have HZ := Lib.hid (show hideZ z = 63 by unfold hideZ; rw [if_pos (.inl h1)])
    go_enter Tryd.func74, Tryd.ntmps74
    go_wp2
    go_ret
    rw [HZ.out]
    exact ⟨rfl, rfl⟩
  · by_cases h2 : z = 127
    · have HZ := Lib.hid (show hideZ z = 63 by unfold hideZ; rw [if_pos (.inr h2)])
      have h3 : (z == 127) = true := by simp [h2]
      clear h2
      go_enter Tryd.func74, Tryd.ntmps74
      go_wp2
      go_ret
      rw [HZ.out]
      exact ⟨rfl, rfl⟩
    · have HZ := Lib.hid (show hideZ z = z by unfold hideZ; rw [if_neg (by omega)])
      have h3 : (z == 127) = false := by simp [h2]
      clear h2
      go_enter Tryd.func74, Tryd.ntmps74
      go_wp2
      go_ret
      rw [HZ.out]
      exact ⟨rfl, rfl⟩
theorem hide_snoc {zs : List Int} {k : Nat} {z : Int} (h : zs[k]? = some z) : (zs.take k).map hideZ ++ [hideZ z] = (zs.take (k + 1)).map hideZ := by rw [List.take_add_one, h]; simp
set_option maxRecDepth 100000 in
set_option maxHeartbeats 1600000 in
theorem implShow_d (v : Value) (zs : List Int) (w : World) (h : RdC w w.heap.size (encInts zs) v) (hs : SmI zs) : Calls Tryd.prog 34 #[v] w (Strs (showT zs) w) := by
  obtain ⟨A, c, rfl, hr, _⟩ := ints_rd h
  obtain ⟨i0, hi0, hz0, hz1, hz2⟩ := info_parts ints_info
  have hl : zs.length ≤ 1048576 := hs
  cases hab : allB zs
  · have HB := Lib.hid (showT_f hab)
    go_enter Tryd.func34, Tryd.ntmps34
    go_wp2_with fail
    refine (implSignsOk_any A c zs _ hr (by omega)).mono ?_
    rintro e w' ⟨rfl, rfl⟩
    rw [hab]
    go_wp2
    go_ret
    rw [HB.out]
    exact ⟨rfl, Below.refl _ _⟩
  · have HB := Lib.hid (showT_t hab)
    go_enter Tryd.func34, Tryd.ntmps34
    go_wp2_with fail
    refine (implSignsOk_any A c zs _ hr (by omega)).mono ?_
    rintro e w' ⟨rfl, rfl⟩
    rw [hab]
    clear hab h
    go_wp2_with (at_make; refine wpList_make_full _ rfl _ _ 23 rfl w.heap.size 3 i0 (.int .i64 0) 1 Tryd.underlying23 hi0 hz0 hz1 _ _ _ _ zs.length rfl rfl (by omega) (by omega) (by rw [hz2]; omega) (by unfold maxLen; omega) (Nat.le_refl _) ?_; intro w2 hown hg2)
    have hb2 := (Below.refl w.heap.size w).grown hg2 (Nat.le_refl _) (fun _ h => by cases h)
    rw [made_ints] at hown
    have HOW := Lib.hid hown
    clear hown hg2
    go_loopw [14] (fun i wr => ∃ k : Nat, k ≤ zs.length ∧ i = .int .i64 k ∧ wr.ownsRow w.heap.size 3 1 (.slice (some ⟨w.heap.size, 0, none⟩) zs.length zs.length) zs.length (fillV (Value.int .i64) (.int .i64 0) zs.length ((zs.take k).map hideZ)) ∧ Below w.heap.size w wr) (fun i _ => zs.length - (intOf i).toNat)
    case atStart => exact ⟨0, Nat.zero_le _, rfl, HOW.out, hb2⟩
    case round =>
      obtain ⟨k, hk, rfl, ho, hbel⟩ := hrel
      clear HOW hb2
      by_cases hlt : k < zs.length
      · obtain ⟨ad, z, rfl, hbl, hz, hc⟩ := hr.at_ hlt
        have hc' : wr.cell? (ad.add k) = some (.int .i64 z) := by rw [hbel.cell (by rw [block_of_add]; exact hbl)]; exact hc
        have fz := ho.frozenAt k
        have hlk : ((zs.take k).map hideZ).length = k := by simp; omega
        obtain ⟨y, hy⟩ := idx_some (l := fillV (Value.int .i64) (.int .i64 0) zs.length ((zs.take k).map hideZ)) (i := k) (by rw [fillV_len (by omega)]; exact hlt)
        have hcy : wr.cell? ⟨w.heap.size, k, none⟩ = some y := by rw [ho.cellAt k (by omega), hy]
        have HW := Lib.hid (show (wr.setCell ⟨w.heap.size, k, none⟩ (.int .i64 (hideZ z))).ownsRow w.heap.size 3 1 (.slice (some ⟨w.heap.size, 0, none⟩) zs.length zs.length) zs.length (fillV (Value.int .i64) (.int .i64 0) zs.length ((zs.take (k + 1)).map hideZ)) by
          have := (World.ownsRow.stored ho k (.int .i64 (hideZ z))).1
          rw [fillV_set (f := Value.int .i64) hlk hlt, hide_snoc hz] at this
          exact this)
        have HB2 := Lib.hid (hbel.setCell (p := ⟨w.heap.size, k, none⟩) (Nat.le_refl _) (.int .i64 (hideZ z)))
        clear hc hz hy hlk ho
        go_wp2_with fail
        refine (implShown_any z _).mono ?_
        rintro e w3 ⟨rfl, rfl⟩
        generalize hideZ z = z2 at *
        go_wp2
        go_roundw
        case rel => exact ⟨k + 1, by omega, by go_num, HW.out, HB2.out⟩
        case measure => simp [intOf]; omega
      · have hke : zs.take k = zs := List.take_of_length_le (by omega)
        rw [hke, fillV_full (by simp)] at ho
        have HRR := Lib.hid (show Row (Value.int .i64) wr wr.heap.size (some ⟨w.heap.size, 0, none⟩) (zs.map hideZ) by
          obtain ⟨A', c', e, hrr⟩ := IBuf.slice (zs := zs.map hideZ) ⟨by simpa using ho, hbel.size⟩
          injection e with e1
          rw [e1]
          exact hrr)
        have hlm : (zs.map hideZ).length = zs.length := by simp
        have HLM := Lib.hid hlm
        clear ho hlm hke
        go_wp2_with fail
        have hq := implBytes_any (some ⟨w.heap.size, 0, none⟩) zs.length (zs.map hideZ) wr HRR.out (by rw [HLM.out]; omega)
        rw [HLM.out] at hq
        refine hq.mono ?_
        rintro e w3 ⟨rfl, b3⟩
        clear hq
        go_wp2
        go_ret
        rw [HB.out]
        exact ⟨rfl, hbel.trans (b3.mono hbel.size)⟩
end Go.Proofs.YtbbpapaobehlcaaDoor.low


/-
  What a door seat's list of laid variables gives: the table of powers of ten, the two error variables.
-/
namespace Go.Proofs.YtbbpapaobehlcaaDoor.low.nt
open Go.ChangeShapes Go.WideShapes Go.ChangeAt Go.RowKit
set_option linter.unusedVariables false

theorem gTab : Tryd.prog.globalNamed "internal/strconv.uint64pow10" = some 3 := by kernel_rfl
theorem gTabType : (Tryd.prog.globals[3]?).map (·.type) = some 162 := by kernel_rfl
theorem cellsTab : Tryd.prog.cellsOf 162 = 20 := by kernel_rfl
theorem cellsElem : Tryd.prog.cellsOf 146 = 1 := by kernel_rfl

/-- a listed error variable holds an interface value -/
theorem err_cell {W : World} {n nm : String} {d : DataW Unit} {g : Nat} {t : TypeId} {ms : Array (String × TypeId)} (h : laidMet Tryd.prog [(n, .iface nm d)] W) (hg : Tryd.prog.globalNamed n = some g)
    (hty : (Tryd.prog.globals[g]?).map (·.type) = some t) (ht : Tryd.prog.underlying t = some (.interface ms)) : ∃ te pe, W.cell? ⟨g, 0, none⟩ = some (.iface te pe) := by
  obtain ⟨ps, ⟨g0, t0, cs0, f0, p0, q0, hg0, ht0, hv0, hd0, _, _⟩, _⟩ := h
  obtain rfl := Option.some.inj (hg.symm.trans hg0)
  obtain rfl := Option.some.inj (hty.symm.trans ht0)
  obtain ⟨f1, u, v, hcs, _⟩ := iface_of_trod ht hd0
  refine ⟨u, v, ?_⟩
  obtain ⟨l0⟩ := cs0
  have hcs' : l0 = [.iface u v] := hcs
  subst hcs'
  simpa using World.var?_cell hg0 hv0 0

theorem tab_of {W : World} (h : laidMetH Tryd.prog [("internal/strconv.uint64pow10", Rows.laid_internal_strconv_uint64pow10)] W) : Tab W :=
  Lib.tabIs_of_head (rest := []) gTab gTabType Tryd.underlying162 Tryd.underlying146 cellsElem cellsTab h
end Go.Proofs.YtbbpapaobehlcaaDoor.low.nt


/-
  The program's side: contract of impl.TextOp.
-/
namespace Go.Proofs.YtbbpapaobehlcaaDoor.low
open Go.RowKit
set_option linter.unusedVariables false

theorem implIsNorm_a (A : Option Addr) (c : Nat) (ps : List Pt) (w : World) (hr : PRow w w.heap.size A ps) (hs : SmP ps) : Calls Tryd.prog 17 #[.slice A ps.length c] w (Tells (isNormL ps) w) :=
  implIsNorm_any A c ps w hr (by have := hs.1; omega) hs.all4 hs.2
set_option maxRecDepth 100000 in
set_option maxHeartbeats 1600000 in
theorem implTextOp_d (s : ByteArray) (w : World) (hs : s.size ≤ 1048576) (ht : nt.Tab w) (he : nt.Errs w) : Calls Tryd.prog 12 #[.string s] w (ResB (encPs (toL s)) (toB s) w) := by
  have HT := Lib.hid ht
  have HE := Lib.hid he
  clear ht he
  by_cases hd : s = mkB [45]
  · subst hd
    have e1 := dash_t
    have HN := Lib.hid (to_t textOp_dash)
    go_enter Tryd.func12, Tryd.ntmps12
    go_wp2
    go_ret2
    rw [HN.out.1, HN.out.2]
    exact ⟨_, rfl, nilOwn _ w rfl (Nat.le_refl _), Below.refl _ _⟩
  · have e1 := not_dash hd
    have HD := Lib.hid hd
    clear hd
    go_enter Tryd.func12, Tryd.ntmps12
    go_wp2_with fail
    refine (implCut_any s w hs).mono ?_
    rintro e w2 ⟨v2, rfl, sb, b2⟩
    have hcl := cuts_len s 32 hs
    obtain ⟨A2, c2, rfl, _⟩ := sb.slice
    have HSB := Lib.hid sb
    have HLE := Lib.hid (show ∀ x ∈ cuts s 32, x.size ≤ 1048576 from fun x hx => Nat.le_trans (cuts_le hx) hs)
    generalize hxs : cuts s 32 = xs at *
    have HXS := Lib.hid hxs
    have HR0 := Lib.hid (show OwB w2.heap.size w2.heap.size w2 (encPs []) (.slice none 0 0) [] from ⟨⟨[], [], World.ownsRow_nil _ _ _ _, ⟨rfl, rfl⟩, rfl⟩, by simp, fun q hq => by simp at hq, Nat.le_refl _, Nat.le_refl _⟩)
    clear sb hxs
    go_wp2
    go_loopw [4, 14] (fun o i wr => ∃ (k : Nat) (acc : List Pt) (b : List Nat), k ≤ xs.length ∧ i = .int .i64 k ∧ readAllQ (xs.take k) = some acc ∧ OwB w2.heap.size wr.heap.size wr (encPs acc) o b ∧ Below w2.heap.size w2 wr) (fun _ i _ => xs.length - (intOf i).toNat)
    case atStart => exact ⟨0, [], _, Nat.zero_le _, rfl, rfl, HR0.out, Below.refl _ _⟩
    case round =>
      obtain ⟨k, acc, b, hk, rfl, hf, ow, hbel⟩ := hrel
      obtain ⟨A1, c1, rfl⟩ := sliceP ow.read
      have hal : acc.length ≤ 1048577 := by rw [readAllQ_len hf, List.length_take]; omega
      have HF := Lib.hid hf
      have HOW := Lib.hid ow
      have D := b2.trans (hbel.mono b2.size)
      clear hf ow HR0
      by_cases hlt : k < xs.length
      · obtain ⟨g, cap, x, hv, hge, hgl, hx, hc⟩ := sbuf_at HSB.out hlt
        obtain ⟨rfl, rfl⟩ : A2 = some ⟨g, 0, none⟩ ∧ c2 = cap := by injection hv with q1 _ q3; exact ⟨q1, q3⟩
        have hc' : wr.cell? ⟨g, k, none⟩ = some (.string x) := (hbel.cell (p := ⟨g, k, none⟩) hgl).trans hc
        have hxs := HLE.out x (List.mem_of_getElem? hx)
        have K1 := Lib.hid (show readAllQ (xs.take (k + 1)) = (readQ x).map (fun p => acc ++ [p]) by rw [List.take_add_one, hx]; simp only [Option.toList_some]; rw [readAllQ_snoc, HF.out])
        have HBAD := Lib.hid (show readQ x = none → toL s = [] ∧ toB s = false from fun h => to_f ((textOp_q HD.out).1 (by rw [HXS.out]; exact readAllQ_none (k := k + 1) (by rw [K1.out, h]; rfl))))
        clear hc hx hv
        go_wp2_with fail
        refine (implTokenOf_any x _ hxs (HT.out.past D) (HE.out.past D)).mono ?_
        rintro e w3 ⟨v3, rfl, tok, b3⟩
        go_wp2_with fail
        refine (implPartOf_any _ _ (readQ x) v3 _ tok b3.size (Nat.le_refl _)).mono ?_
        rintro e w4 ⟨b4, hres⟩
        have b34 := b3.trans (b4.mono b3.size)
        have hz34 := b4.size
        have hz3 := b3.size
        clear tok
        rcases hres with ⟨hq, rfl⟩ | ⟨p, A4, c4, hq, rfl, o4⟩
        · have HN := Lib.hid (HBAD.out hq)
          have HB34 := Lib.hid b34
          clear hq b3 b4 b34
          go_wp2
          go_ret2
          rw [HN.out.1, HN.out.2]
          exact resP_nil ((D.trans (HB34.out.mono D.size)).alloc (Nat.le_trans D.size HB34.out.size) _)
        · have K2 := Lib.hid (show readAllQ (xs.take (k + 1)) = some (acc ++ [p]) by rw [K1.out, hq]; rfl)
          obtain ⟨cl, ol⟩ := o4.blocks
          obtain ⟨pk, pn, zs⟩ := p
          simp only at ol
          have b5 := alloc_below w4 (.cells #[.int .i64 pk, .int .i64 pn, .slice A4 zs.length c4] 64)
          have z5 : (w4.alloc (.cells #[.int .i64 pk, .int .i64 pn, .slice A4 zs.length c4] 64)).heap.size = w4.heap.size + 1 := World.size_alloc _ _
          have b6 := alloc_below (w4.alloc (.cells #[.int .i64 pk, .int .i64 pn, .slice A4 zs.length c4] 64)) (.cells #[.int .i64 pk, .int .i64 pn, .slice A4 zs.length c4] 64)
          have n6 := heap_alloc_new (w4.alloc (.cells #[.int .i64 pk, .int .i64 pn, .slice A4 zs.length c4] 64)) (.cells #[.int .i64 pk, .int .i64 pn, .slice A4 zs.length c4] 64)
          rw [z5] at n6 b6
          have b46 : Below w4.heap.size w4 _ := b5.trans (b6.mono (by omega))
          have b36 : Below wr.heap.size wr _ := b34.trans (b46.mono b34.size)
          have HOW6 := Lib.hid (HOW.out.past b36)
          have HN6 := Lib.hid n6
          have HU6 := Lib.hid (show OwC _ (encInts zs) (.slice A4 zs.length c4) cl from OwC.keep _ _ _ ol.ow (fun q hq => (b4.trans (b46.mono b4.size)).block q (OwC.lt _ _ _ ol.ow q hq)))
          have HLR := Lib.hid (show cl.Nodup ∧ ∀ q ∈ cl, wr.heap.size ≤ q from ⟨ol.nd, fun q hq => (ol.rng q hq).1⟩)
          have HB36 := Lib.hid b36
          have hlo := hbel.size
          clear hq b3 b4 b34 b5 b6 b46 b36 n6 z5 o4 ol K1 HBAD
          go_wp2_with (at_builtin; refine wpList_append_part rfl (.tmp 26) (.tmp 28) rfl w2.heap.size _ (.slice A1 acc.length c1) acc b HOW6.out rfl (by omega) (w4.heap.size + 1) _ (⟨pk, pn, zs⟩ : Pt) (.slice A4 zs.length c4) cl rfl HN6.out HU6.out HLR.out.1 (fun q hq hq' => by have h1 := (HOW.out.rng q hq).2; have h2 := HLR.out.2 q hq'; omega) (fun q hq => by have h2 := HLR.out.2 q hq; omega) ?_; intro A7 c7 w7 b7 o7 in7 g7 bl7)
          have HO7 := Lib.hid o7
          have D7 := (hbel.trans (HB36.out.mono hbel.size)).trans bl7
          clear o7 in7 g7 bl7
          go_wp2
          go_roundw
          case rel => exact ⟨k + 1, _, _, by omega, by go_num, K2.out, by simpa using HO7.out, D7⟩
          case measure => simp [intOf]; omega
      · have hke : xs.take k = xs := List.take_of_length_le (by omega)
        have hrd : readAllQ (cuts s 32) = some acc := by rw [HXS.out, ← hke]; exact HF.out
        have K1 := Lib.hid ((textOp_q HD.out).2 acc hrd)
        have HSMP := Lib.hid (readAllQ_sm hs hrd)
        obtain ⟨A_, c_, eA, hra, _⟩ := parts_rd HOW.out.read
        obtain ⟨rfl, rfl⟩ : A1 = A_ ∧ c1 = c_ := by injection eA with q1 _ q3; exact ⟨q1, q3⟩
        clear eA hrd hke
        go_wp2_with fail
        refine (implIsNorm_a A1 c1 acc _ hra HSMP.out).mono ?_
        rintro e w3 ⟨rfl, b3⟩
        have HO3 := Lib.hid ((HOW.out.past b3).upto b3.size (Nat.le_refl _))
        have D3 := D.trans (b3.mono D.size)
        have hb2 := b2.size
        clear b3 hra
        cases hn : isNormL acc
        · have HN := Lib.hid (to_f (by rw [K1.out, if_neg (by rw [hn]; simp)]))
          go_wp2
          go_ret2
          rw [HN.out.1, HN.out.2]
          exact resP_nil D3
        · have HN := Lib.hid (to_t (by rw [K1.out, if_pos hn]))
          go_wp2
          go_ret2
          rw [HN.out.1, HN.out.2]
          exact ⟨_, rfl, ⟨b, HO3.out.ow, HO3.out.nd, fun q hq => ⟨Nat.le_trans hb2 (HO3.out.rng q hq).1, (HO3.out.rng q hq).2⟩, HO3.out.top, D3.size⟩, D3⟩
end Go.Proofs.YtbbpapaobehlcaaDoor.low


/-
  The loop of spec.Compose: its body, taken out of the translation; its invariant over the frame.
-/
namespace Go.Proofs.YtbbpapaobehlcaaDoor.low
open Go.RowKit
set_option linter.unusedVariables false

/-- the bodies of the loops in a piece of code, those inside a loop left out -/
def loopsOf : Code → List Code
  | .loop c => [c]
  | .seq a b => loopsOf a ++ loopsOf b
  | .cond _ a b => loopsOf a ++ loopsOf b
  | .block _ c => loopsOf c
  | .scope c => loopsOf c
  | _ => []
/-- the loop's invariant -/
def CoR (K : Fx) (go : Nat) (w0 w' : World) : Prop := ∃ O L RX RY, CB K go 122 O L w' none none RX RY ∧ CInv K.a K.b RX RY L ∧ Below K.lo w0 w'
theorem CoR.mk {K : Fx} {go : Nat} {w0 w' : World} {O : Nat → Prop} {L : List Pt} {RX RY : List U} (h : CB K go 122 O L w' none none RX RY) (hi : CInv K.a K.b RX RY L) (D : Below K.lo w0 w') : CoR K go w0 w' := ⟨O, L, RX, RY, h, hi, D⟩
set_option maxRecDepth 1000000 in
def CoI (K : Fx) (go : Nat) (w0 : World) (c0 c1 c2 c3 c4 c5 c13 c14 c15 c16 c17 c18 c19 c20 c21 c22 c23 c24 c25 c26 c27 c28 c29 c30 c31 c32 c33 c34 c35 c36 c138 c139 c140 c141 c142 c143 : Value) (a : Act) (w' : World) : Prop := ∃ u9 u10 u11 u12 u37 u38 u39 u40 u41 u42 u43 u44 u45 u46 u47 u48 u49 u50 u51 u52 u53 u54 u55 u56 u57 u58 u59 u60 u61 u62 u63 u64 u65 u66 u67 u68 u69 u70 u71 u72 u73 u74 u75 u76 u77 u78 u79 u80 u81 u82 u83 u84 u85 u86 u87 u88 u89 u90 u91 u92 u93 u94 u95 u96 u97 u98 u99 u100 u101 u102 u103 u104 u105 u106 u107 u108 u109 u110 u111 u112 u113 u114 u115 u116 u117 u118 u119 u120 u121 u122 u123 u124 u125 u126 u127 u128 u129 u130 u131 u132 u133 u134 u135 u136 u137 : Value, CoR K go w0 w' ∧ a = ⟨#[c0, c1, c2, c3, c4, c5, .pointer (some ⟨K.gx, 0, none⟩), .pointer (some ⟨K.gy, 0, none⟩), .pointer (some ⟨go, 0, none⟩), u9, u10, u11, u12, c13, c14, c15, c16, c17, c18, c19, c20, c21, c22, c23, c24, c25, c26, c27, c28, c29, c30, c31, c32, c33, c34, c35, c36, u37, u38, u39, u40, u41, u42, u43, u44, u45, u46, u47, u48, u49, u50, u51, u52, u53, u54, u55, u56, u57, u58, u59, u60, u61, u62, u63, u64, u65, u66, u67, u68, u69, u70, u71, u72, u73, u74, u75, u76, u77, u78, u79, u80, u81, u82, u83, u84, u85, u86, u87, u88, u89, u90, u91, u92, u93, u94, u95, u96, u97, u98, u99, u100, u101, u102, u103, u104, u105, u106, u107, u108, u109, u110, u111, u112, u113, u114, u115, u116, u117, u118, u119, u120, u121, u122, u123, u124, u125, u126, u127, u128, u129, u130, u131, u132, u133, u134, u135, u136, u137, c138, c139, c140, c141, c142, c143], []⟩
/-- behind the loop -/
def CoX (K : Fx) (go : Nat) (w0 w' : World) : Prop := ∃ O L, CB K go 122 O L w' none none [] [] ∧ CInv K.a K.b [] [] L ∧ Below K.lo w0 w'
set_option maxRecDepth 1000000 in
def CoE (K : Fx) (go : Nat) (w0 : World) (c0 c1 c2 c3 c4 c5 c13 c14 c15 c16 c17 c18 c19 c20 c21 c22 c23 c24 c25 c26 c27 c28 c29 c30 c31 c32 c33 c34 c35 c36 c138 c139 c140 c141 c142 c143 : Value) (a : Act) (w' : World) : Prop := ∃ u9 u10 u11 u12 u37 u38 u39 u40 u41 u42 u43 u44 u45 u46 u47 u48 u49 u50 u51 u52 u53 u54 u55 u56 u57 u58 u59 u60 u61 u62 u63 u64 u65 u66 u67 u68 u69 u70 u71 u72 u73 u74 u75 u76 u77 u78 u79 u80 u81 u82 u83 u84 u85 u86 u87 u88 u89 u90 u91 u92 u93 u94 u95 u96 u97 u98 u99 u100 u101 u102 u103 u104 u105 u106 u107 u108 u109 u110 u111 u112 u113 u114 u115 u116 u117 u118 u119 u120 u121 u122 u123 u124 u125 u126 u127 u128 u129 u130 u131 u132 u133 u134 u135 u136 u137 : Value, CoX K go w0 w' ∧ a = ⟨#[c0, c1, c2, c3, c4, c5, .pointer (some ⟨K.gx, 0, none⟩), .pointer (some ⟨K.gy, 0, none⟩), .pointer (some ⟨go, 0, none⟩), u9, u10, u11, u12, c13, c14, c15, c16, c17, c18, c19, c20, c21, c22, c23, c24, c25, c26, c27, c28, c29, c30, c31, c32, c33, c34, c35, c36, u37, u38, u39, u40, u41, u42, u43, u44, u45, u46, u47, u48, u49, u50, u51, u52, u53, u54, u55, u56, u57, u58, u59, u60, u61, u62, u63, u64, u65, u66, u67, u68, u69, u70, u71, u72, u73, u74, u75, u76, u77, u78, u79, u80, u81, u82, u83, u84, u85, u86, u87, u88, u89, u90, u91, u92, u93, u94, u95, u96, u97, u98, u99, u100, u101, u102, u103, u104, u105, u106, u107, u108, u109, u110, u111, u112, u113, u114, u115, u116, u117, u118, u119, u120, u121, u122, u123, u124, u125, u126, u127, u128, u129, u130, u131, u132, u133, u134, u135, u136, u137, c138, c139, c140, c141, c142, c143], []⟩
end Go.Proofs.YtbbpapaobehlcaaDoor.low


/-
  The loop of spec.Compose: the cases of a round, each a theorem over the frame; the round; the loop.
-/
namespace Go.Proofs.YtbbpapaobehlcaaDoor.low
open Go.RowKit
set_option linter.unusedVariables false

end Go.Proofs.YtbbpapaobehlcaaDoor.low


/-
  Contract of spec.Compose.
-/
namespace Go.Proofs.YtbbpapaobehlcaaDoor.low
open Go.RowKit
set_option linter.unusedVariables false

theorem heap_old (w : World) (o : Obj) {g : Nat} {x : Obj} (h : w.heap[g]? = some x) : (w.alloc o).heap[g]? = some x := by
  rw [Below.heap_alloc _ _ _ (lt_of_some h)]
  exact h
theorem cur_new {w : World} {g : Nat} {T : TypeId} {A : Option Addr} {c : Nat} {ps : List Pt} (h : w.heap[g]? = some (.cells #[.slice A ps.length c, .int .i64 0, .int .i64 0] T (0, 0))) : ∃ i d, Cur g T w A c ps i d ∧ rem ps i d = units ps ∧ Sett ps i d none :=
  ⟨0, 0, ⟨h, Nat.zero_le _, fun _ _ => Nat.zero_le _, fun _ => rfl⟩, by simp [rem], trivial⟩
/-- two cursors as they are made, at w.heap.size and behind it -/
theorem Cs.new {w w' : World} {A B : Option Addr} {ca cb lo : Nat} {a b : List Pt} {TC : TypeId} (hlo : lo ≤ w.heap.size) (ra : RdC w lo (encPs a) (.slice A a.length ca)) (rb : RdC w lo (encPs b) (.slice B b.length cb)) (sa : ∀ p ∈ a, szP_ p) (sb : ∀ p ∈ b, szP_ p) (na : a.length ≤ 1048576) (nb : b.length ≤ 1048576)
    (hx : w'.heap[w.heap.size]? = some (.cells #[.slice A a.length ca, .int .i64 0, .int .i64 0] TC (0, 0))) (hy : w'.heap[w.heap.size + 1]? = some (.cells #[.slice B b.length cb, .int .i64 0, .int .i64 0] TC (0, 0))) (hb : Below lo w w') : Cs ⟨lo, w.heap.size, w.heap.size + 1, TC, A, ca, a, B, cb, b⟩ w' none none (units a) (units b) :=
  ⟨cur_new hx, cur_new hy, ra.below hb, rb.below hb, by simp, hlo, Nat.le_succ_of_le hlo, sa, sb, na, nb⟩

theorem CB.new {w : World} {A B : Option Addr} {ca cb lo : Nat} {a b : List Pt} {TC TB : TypeId} (hlo : lo ≤ w.heap.size) (ra : RdC w lo (encPs a) (.slice A a.length ca)) (rb : RdC w lo (encPs b) (.slice B b.length cb)) (sa : ∀ p ∈ a, szP_ p) (sb : ∀ p ∈ b, szP_ p) (na : a.length ≤ 1048576) (nb : b.length ≤ 1048576) :
    CB ⟨lo, w.heap.size, w.heap.size + 1, TC, A, ca, a, B, cb, b⟩ (w.heap.size + 1 + 1) TB (fun q => q = w.heap.size + 1 + 1) [] (((w.alloc (.cells #[.slice A a.length ca, .int .i64 0, .int .i64 0] TC)).alloc (.cells #[.slice B b.length cb, .int .i64 0, .int .i64 0] TC)).alloc (.cells #[.slice none 0 0, .slice none 0 0, .int .i64 0] TB)) none none (units a) (units b) ∧
    Below lo w (((w.alloc (.cells #[.slice A a.length ca, .int .i64 0, .int .i64 0] TC)).alloc (.cells #[.slice B b.length cb, .int .i64 0, .int .i64 0] TC)).alloc (.cells #[.slice none 0 0, .slice none 0 0, .int .i64 0] TB)) := by
  have s1 : (w.alloc (.cells #[.slice A a.length ca, .int .i64 0, .int .i64 0] TC)).heap.size = w.heap.size + 1 := Array.size_push ..
  have s2 : ((w.alloc (.cells #[.slice A a.length ca, .int .i64 0, .int .i64 0] TC)).alloc (.cells #[.slice B b.length cb, .int .i64 0, .int .i64 0] TC)).heap.size = w.heap.size + 1 + 1 := by rw [← s1]; exact Array.size_push ..
  have b1 := (((alloc_below w (.cells #[.slice A a.length ca, .int .i64 0, .int .i64 0] TC)).mono hlo).alloc (by rw [s1]; omega) (.cells #[.slice B b.length cb, .int .i64 0, .int .i64 0] TC)).alloc (by rw [s2]; omega) (.cells #[.slice none 0 0, .slice none 0 0, .int .i64 0] TB)
  have hb := Bld.new lo TB ((w.alloc (.cells #[.slice A a.length ca, .int .i64 0, .int .i64 0] TC)).alloc (.cells #[.slice B b.length cb, .int .i64 0, .int .i64 0] TC)) (by rw [s2]; omega)
  rw [s2] at hb
  exact ⟨⟨Cs.new hlo ra rb sa sb na nb (heap_old _ _ (heap_old _ _ (heap_alloc_new w _))) (heap_old _ _ (by rw [← s1]; exact heap_alloc_new _ _)) b1, hb, by show ¬ w.heap.size = _; omega, by show ¬ w.heap.size + 1 = _; omega⟩, b1⟩
theorem cinv0 {a b : List Pt} (hoa : okOp a = true) (hob : okOp b = true) (hbal : sumK a + sumP a = sumK b + sumD b) : CInv a b (units a) (units b) [] := by
  obtain ⟨ua, hsa, _⟩ := okOp_units hoa
  obtain ⟨ub, hsb, _⟩ := okOp_units hob
  refine ⟨by simp [units_nil], ?_, by simp; omega⟩
  have s1 := (src_units hsa).2
  have s2 := (src_units hsb).1
  obtain ⟨t1, t2, t3⟩ := sum_t (okOp_partsB hoa)
  obtain ⟨u1, u2, u3⟩ := sum_t (okOp_partsB hob)
  rw [t1, t2, u1, u3] at hbal
  omega

theorem composeB_f {a b : List Pt} (h : (okOp a && okOp b && (sumK a + sumP a == sumK b + sumD b)) = false) : composeB a b = false ∧ composeT a b = [] := by
  have e : composeB a b = false := by unfold composeB; rw [h]; rfl
  exact ⟨e, by unfold composeT; rw [e]; rfl⟩
theorem compose_small {a b : List Pt} (h0 : SmP a) (h1 : SmP b) : SmP (composeT a b) := by
  unfold composeT
  split
  · rename_i h
    unfold composeB at h
    rw [Bool.and_eq_true] at h
    obtain ⟨_, h2, h3⟩ := okOp_units h.2
    refine ⟨by omega, ?_⟩
    have := signsIn_le h2
    omega
  · exact ⟨by simp, by simp [signsIn]⟩
end Go.Proofs.YtbbpapaobehlcaaDoor.low


/-
  Composing several operations, and counting parts: the functions on lists, and the contracts of spec.ComposeAll and spec.PartCount.
-/
namespace Go.Proofs.YtbbpapaobehlcaaDoor.low
open Go.RowKit
set_option linter.unusedVariables false

def stepCo (s : Option (List Pt)) (ps : List Pt) : Option (List Pt) := match s with
  | none => none
  | some o => if composeB o ps = true then some (composeT o ps) else none
def foldCo (l : List (List Pt)) (n : Int) : Option (List Pt) := l.foldl stepCo (some (keepL n))
def composeAllB (l : List (List Pt)) (n : Int) : Bool := inB n 0 200 && (foldCo l n).isSome
def composeAllT (l : List (List Pt)) (n : Int) : List Pt := if composeAllB l n = true then (foldCo l n).getD [] else []
theorem foldCo_snoc {l : List (List Pt)} {n : Int} {k : Nat} {ps : List Pt} (h : l[k]? = some ps) : foldCo (l.take (k + 1)) n = stepCo (foldCo (l.take k) n) ps := by
  unfold foldCo
  rw [List.take_add_one, h]
  simp
theorem foldlCo_none (l : List (List Pt)) : l.foldl stepCo none = none := by
  induction l with
  | nil => rfl
  | cons p l ih => exact ih
theorem foldCo_none {l : List (List Pt)} {n : Int} {k : Nat} (h : foldCo (l.take k) n = none) : foldCo l n = none := by
  have e : foldCo l n = (l.drop k).foldl stepCo (foldCo (l.take k) n) := by
    unfold foldCo
    rw [← List.foldl_append, List.take_append_drop]
  rw [e, h, foldlCo_none]
theorem composeT_small (a b : List Pt) : SmP (composeT a b) := by
  unfold composeT
  split
  · rename_i h
    unfold composeB at h
    rw [Bool.and_eq_true] at h
    obtain ⟨_, h2, h3⟩ := okOp_units h.2
    refine ⟨by omega, ?_⟩
    have := signsIn_le h2
    omega
  · exact ⟨by simp, by simp [signsIn]⟩
theorem keepL_small (n : Int) : SmP (keepL n) := ⟨by have := keepL_len n; omega, by rw [keepL_signs]; omega⟩
theorem foldCo_small {l : List (List Pt)} {n : Int} {cur : List Pt} {k : Nat} (hk : k ≤ l.length) (h : foldCo (l.take k) n = some cur) : SmP cur := by
  cases k with
  | zero =>
    have : cur = keepL n := by simpa [foldCo] using h.symm
    rw [this]
    exact keepL_small n
  | succ k =>
    obtain ⟨ps, hp⟩ := idx_some (l := l) (i := k) (by omega)
    rw [foldCo_snoc hp] at h
    cases hq : foldCo (l.take k) n with
    | none => rw [hq] at h; cases h
    | some u =>
      rw [hq] at h
      unfold stepCo at h
      simp only at h
      split at h
      · injection h with h
        rw [← h]
        exact composeT_small _ _
      · cases h
theorem composeAll_small {l : List (List Pt)} {n : Int} (h0 : SmPP l) : SmP (composeAllT l n) := by
  unfold composeAllT
  split
  · cases h : foldCo l n with
    | none => exact ⟨by simp, by simp [signsIn]⟩
    | some cur =>
      simp only [Option.getD_some]
      exact foldCo_small (l := l) (k := l.length) (Nat.le_refl _) (by rw [List.take_length]; exact h)
  · exact ⟨by simp, by simp [signsIn]⟩
theorem composeAll_f {l : List (List Pt)} {n : Int} (h : composeAllB l n = false) : composeAllT l n = [] := by unfold composeAllT; rw [h]; rfl

/-- how many parts are of this kind -/
def countK (ps : List Pt) (k : Int) : Int := ((ps.filter (fun p => p.kind == k)).length : Int)
theorem countK_snoc {ps : List Pt} {k : Int} {i : Nat} {p : Pt} (h : ps[i]? = some p) : countK (ps.take (i + 1)) k = countK (ps.take i) k + (if p.kind = k then 1 else 0) := by
  unfold countK
  rw [List.take_add_one, h]
  by_cases e : p.kind = k <;> simp [List.filter_append, e]
theorem countK_le (ps : List Pt) (k : Int) (i : Nat) : 0 ≤ countK (ps.take i) k ∧ countK (ps.take i) k ≤ ps.length := by
  unfold countK
  have := List.length_filter_le (fun p : Pt => p.kind == k) (ps.take i)
  rw [List.length_take] at this
  omega
end Go.Proofs.YtbbpapaobehlcaaDoor.low


/-
  The algebra of operations: what is made of units is valid and normal; applying, composing, inverting and transforming valid operations, in the words of the contracts.
-/
namespace Go.Proofs.YtbbpapaobehlcaaDoor.low
open Go.RowKit
set_option linter.unusedVariables false

/-- all that is inserted are characters -/
def goodU (us : List U) : Prop := ∀ x, U.p x ∈ us → signB x = true
def part1 : U → Pt
  | .k => ⟨1, 1, []⟩
  | .p x => ⟨2, 0, [x]⟩
  | .d => ⟨3, 1, []⟩
def made (us : List U) : List Pt := doneN (foldU us)
theorem units_part1 : ∀ us : List U, units (us.map part1) = us
  | [] => rfl
  | u :: us => by
    rw [List.map_cons, units_cons, units_part1 us]
    cases u <;> rfl
theorem part1_sz (us : List U) : ∀ p ∈ us.map part1, szP_ p := fun p hp => by
  obtain ⟨u, _, rfl⟩ := List.mem_map.1 hp
  cases u
  · exact ⟨.inl rfl, by simp [part1], by simp [part1], by simp [part1]⟩
  · exact ⟨.inr (.inl rfl), by simp [part1], by simp [part1], by simp [part1]⟩
  · exact ⟨.inr (.inr rfl), by simp [part1], by simp [part1], by simp [part1]⟩
theorem made_eq (us : List U) : made us = doneN (foldN (us.map part1)) := by unfold made; rw [foldN_units (part1_sz us), units_part1]
theorem units_made (us : List U) : units (made us) = nfU us := units_norm us
theorem len_st : ∀ us : List U, us.length ≤ src us + tgt us
  | [] => by simp
  | u :: us => by
    have := len_st us
    cases u <;> simp [src, tgt] <;> omega
/-- what is made of few good units is valid and normal -/
theorem made_ok {us : List U} (hs : src us ≤ 200) (ht : tgt us ≤ 200) (hz : goodU us) : okOp (made us) = true ∧ normal (made us) ∧ sumK (made us) + sumD (made us) = (src us : Int) ∧ sumK (made us) + sumP (made us) = (tgt us : Int) := by
  have hsz := part1_sz us
  have hn : normal (made us) := by rw [made_eq]; exact normal_fold hsz
  obtain ⟨s1, s2, s3⟩ := sum_norm hsz
  rw [← made_eq] at s1 s2 s3
  obtain ⟨u1, u2⟩ := src_units hsz
  rw [units_part1] at u1 u2
  have hall : ∀ p ∈ made us, allB p.signs = true := by
    rw [made_eq]
    refine norm_allB (fun p hp => ?_)
    obtain ⟨u, hu, rfl⟩ := List.mem_map.1 hp
    cases u
    · rfl
    · rename_i x
      simp [part1, allB, hz x hu]
    · rfl
  have n1 : ∀ f : Pt → Int, (∀ p, tidy p → 0 ≤ f p) → 0 ≤ sumOf f (made us) := fun f hf => by
    unfold sumOf
    have : ∀ (L : List Pt), (∀ p ∈ L, tidy p) → 0 ≤ (L.map f).sum := by
      intro L
      induction L with
      | nil => simp
      | cons p L ih =>
        intro h
        have a := hf p (h p (by simp))
        have b := ih (fun q hq => h q (by simp [hq]))
        simp
        omega
    exact this _ hn.1
  have k1 := n1 keepOf (fun p h => (tidy_nonneg h).1)
  have k2 := n1 putOf (fun p h => (tidy_nonneg h).2.1)
  have k3 := n1 dropOf (fun p h => (tidy_nonneg h).2.2)
  have hok : okPs (made us) = true := tidy_ok hn.1 hall (by omega) (by omega) (by omega)
  have hlen : (made us).length ≤ 600 := by
    have h1 := norm_length hsz
    rw [← made_eq, List.length_map] at h1
    have := len_st us
    omega
  have hop : okOp (made us) = true := of_okOp hok hlen (by omega) (by omega)
  obtain ⟨t1, t2, t3⟩ := sum_t (okOp_partsB hop)
  exact ⟨hop, hn, by rw [t1, t3]; omega, by rw [t1, t2]; omega⟩
theorem nf_of_fold (us : List U) : doneN (foldU (nfU us)) = doneN (foldU us) := by
  have key : ∀ (us : List U) (q : List Pt) (ps : List Int) (n : Nat) (qs : List Pt × List Int × Int), qs = (q, [], 0) → doneN ((nfGo us ps n).foldl stepU qs) = doneN (us.foldl stepU (q, ps, (n : Int))) := by
    intro us
    induction us with
    | nil =>
      intro q ps n qs e
      subst e
      rw [nfGo, List.foldl_append, fold_p, fold_d]
      simp
    | cons u us ih =>
      intro q ps n qs e
      subst e
      cases u with
      | k =>
        rw [nfGo, List.foldl_append, fold_p, List.foldl_append, fold_d, List.foldl_cons]
        have := ih (stepU (q, ps, (n : Int)) .k).1 [] 0 (stepU (q, ps, (n : Int)) .k) (by simp [stepU])
        simpa [stepU] using this
      | p x => rw [nfGo]; have := ih q (ps ++ [x]) n (q, [], 0) rfl; simpa [stepU] using this
      | d => rw [nfGo]; have := ih q ps (n + 1) (q, [], 0) rfl; simpa [stepU] using this
  have := key us [] [] 0 ([], [], 0) rfl
  simpa [foldU, nfU] using this
theorem made_nf (us : List U) : made (nfU us) = made us := nf_of_fold us
theorem made_ext {us vs : List U} (h : nfU us = nfU vs) : made us = made vs := by rw [← made_nf us, h, made_nf]
theorem norm_made {a : List Pt} (h : okOp a = true) : normL a = made (units a) := by
  unfold normL made
  rw [if_pos h, foldN_units (okOp_units h).2.1]
theorem normal_same {us : List U} (hs : src us ≤ 200) (ht : tgt us ≤ 200) (hz : goodU us) : normL (made us) = made us := by
  obtain ⟨h1, h2, _⟩ := made_ok hs ht hz
  exact norm_normal h2 h1
/-- a valid operation's units -/
theorem op_units {a : List Pt} (h : okOp a = true) : (src (units a) : Int) = sumK a + sumD a ∧ (tgt (units a) : Int) = sumK a + sumP a ∧ src (units a) ≤ 200 ∧ tgt (units a) ≤ 200 ∧ goodU (units a) := by
  obtain ⟨h1, h2, h3, h4, h5, h6, h7⟩ := okOp_of h
  obtain ⟨t1, t2, t3⟩ := sum_t (okOp_partsB h)
  obtain ⟨s1, s2⟩ := src_units (okPs_sz h1)
  refine ⟨by rw [t1, t3]; exact s1, by rw [t1, t2]; exact s2, by omega, by omega, fun x hx => ?_⟩
  unfold units at hx
  obtain ⟨p, hp, hx⟩ := List.mem_flatMap.1 hx
  have ha := okPs_allB h1 p hp
  unfold unitsP at hx
  split at hx
  · have := List.eq_of_mem_replicate hx; cases this
  · split at hx
    · obtain ⟨z, hz, e⟩ := List.mem_map.1 hx
      injection e with e
      subst e
      unfold allB at ha
      exact List.all_eq_true.1 ha z hz
    · have := List.eq_of_mem_replicate hx; cases this
theorem apply_mem : ∀ (us : List U) (t : List Int) (x : Int), x ∈ applyU us t → x ∈ t ∨ U.p x ∈ us
  | [], t, x, h => by simp [applyU] at h
  | .k :: us, t, x, h => by
    rw [applyU] at h
    rcases List.mem_append.1 h with h | h
    · exact .inl (List.mem_of_mem_take h)
    · rcases apply_mem us _ x h with h | h
      · exact .inl (List.mem_of_mem_drop h)
      · exact .inr (by simp [h])
  | .p y :: us, t, x, h => by
    rw [applyU] at h
    rcases List.mem_cons.1 h with rfl | h
    · exact .inr (by simp)
    · rcases apply_mem us _ x h with h | h
      · exact .inl h
      · exact .inr (by simp [h])
  | .d :: us, t, x, h => by
    rw [applyU] at h
    rcases apply_mem us _ x h with h | h
    · exact .inl (List.mem_of_mem_drop h)
    · exact .inr (by simp [h])
theorem okText_mem {t : List Int} (h : okText t = true) : ∀ x ∈ t, signB x = true := fun x hx => by
  unfold okText at h
  rw [Bool.and_eq_true] at h
  exact List.all_eq_true.1 h.1 x hx
theorem okText_mk {t : List Int} (h : ∀ x ∈ t, signB x = true) (hl : t.length ≤ 200) : okText t = true := by
  unfold okText allB
  rw [decide_eq_true hl, List.all_eq_true.2 h]
  rfl
theorem okText_len' {t : List Int} (h : okText t = true) : t.length ≤ 200 := by
  unfold okText at h
  rw [Bool.and_eq_true] at h
  exact of_decide_eq_true h.2
theorem fits_mk {a : List Pt} {t : List Int} (ha : okOp a = true) (ht : okText t = true) (hs : sumK a + sumD a = (t.length : Int)) : fitsB a t = true := by
  unfold fitsB
  rw [ha, ht, decide_eq_true hs]
  rfl
/-- applying a valid operation to a text that fits -/
theorem apply_ok {a : List Pt} {t : List Int} (ha : okOp a = true) (ht : okText t = true) (hs : sumK a + sumD a = (t.length : Int)) : fitsB a t = true ∧ applyT a t = applyU (units a) t ∧ okText (applyT a t) = true ∧ ((applyT a t).length : Int) = sumK a + sumP a ∧ src (units a) = t.length := by
  have hf := fits_mk ha ht hs
  obtain ⟨u1, u2, u3, u4, u5⟩ := op_units ha
  have hsrc : src (units a) = t.length := by omega
  have he := applyT_units hf
  have hl := apply_len_u (units a) t hsrc
  refine ⟨hf, he, ?_, by rw [he, hl]; exact u2, hsrc⟩
  rw [he]
  refine okText_mk (fun x hx => ?_) (by omega)
  rcases apply_mem _ _ _ hx with h | h
  · exact okText_mem ht x h
  · exact u5 x h
theorem comp_mem (a b : List U) : ∀ x, U.p x ∈ comp a b → U.p x ∈ a ∨ U.p x ∈ b := by
  induction a, b using comp.induct with
  | case1 => intro x h; simp [comp] at h
  | case2 y b ih => intro x h; rw [comp] at h; rcases List.mem_cons.1 h with h | h; exact .inr (by rw [h]; simp); rcases ih x h with h | h; exact .inl h; exact .inr (by simp [h])
  | case3 b => intro x h; simp [comp] at h
  | case4 b => intro x h; simp [comp] at h
  | case5 a b ih => intro x h; rw [comp] at h; rcases List.mem_cons.1 h with h | h; cases h; rcases ih x h with h | h; exact .inl (by simp [h]); exact .inr h
  | case6 a => intro x h; simp [comp] at h
  | case7 a y b ih => intro x h; rw [comp] at h; rcases List.mem_cons.1 h with h | h; exact .inr (by rw [h]; simp); rcases ih x h with h | h; exact .inl h; exact .inr (by simp [h])
  | case8 a b ih => intro x h; rw [comp] at h; rcases List.mem_cons.1 h with h | h; cases h; rcases ih x h with h | h; exact .inl (by simp [h]); exact .inr (by simp [h])
  | case9 a b ih => intro x h; rw [comp] at h; rcases List.mem_cons.1 h with h | h; cases h; rcases ih x h with h | h; exact .inl (by simp [h]); exact .inr (by simp [h])
  | case10 y a => intro x h; simp [comp] at h
  | case11 y a z b ih => intro x h; rw [comp] at h; rcases List.mem_cons.1 h with h | h; exact .inr (by rw [h]; simp); rcases ih x h with h | h; exact .inl h; exact .inr (by simp [h])
  | case12 y a b ih => intro x h; rw [comp] at h; rcases List.mem_cons.1 h with h | h; exact .inl (by rw [h]; simp); rcases ih x h with h | h; exact .inl (by simp [h]); exact .inr (by simp [h])
  | case13 y a b ih => intro x h; rw [comp] at h; rcases ih x h with h | h; exact .inl (by simp [h]); exact .inr (by simp [h])
/-- composing valid operations that fit one another -/
theorem compose_ok {a b : List Pt} (ha : okOp a = true) (hb : okOp b = true) (hs : sumK a + sumP a = sumK b + sumD b) : composeB a b = true ∧ composeT a b = made (comp (units a) (units b)) ∧ okOp (composeT a b) = true ∧ normL (composeT a b) = composeT a b ∧ units (composeT a b) = nfU (comp (units a) (units b)) ∧ sumK (composeT a b) + sumD (composeT a b) = sumK a + sumD a ∧ sumK (composeT a b) + sumP (composeT a b) = sumK b + sumP b ∧ tgt (units a) = src (units b) := by
  obtain ⟨u1, u2, u3, u4, u5⟩ := op_units ha
  obtain ⟨v1, v2, v3, v4, v5⟩ := op_units hb
  have hbal : tgt (units a) = src (units b) := by omega
  obtain ⟨e1, e2⟩ := comp_ends hbal
  have hg : goodU (comp (units a) (units b)) := fun x hx => by
    rcases comp_mem _ _ x hx with h | h
    · exact u5 x h
    · exact v5 x h
  obtain ⟨m1, m2, m3, m4⟩ := made_ok (us := comp (units a) (units b)) (by omega) (by omega) hg
  have hB : composeB a b = true := by
    unfold composeB
    rw [ha, hb]
    have : okOp (compL a b) = true := m1
    rw [this]
    simp [hs]
  have hT : composeT a b = made (comp (units a) (units b)) := by unfold composeT; rw [if_pos hB]; rfl
  rw [hT]
  exact ⟨hB, rfl, m1, norm_normal m2 m1, units_made _, by rw [m3, e1]; exact u1, by rw [m4, e2]; exact v2, hbal⟩
theorem compose_apply {a b : List Pt} {t : List Int} (ha : okOp a = true) (hb : okOp b = true) (hs : sumK a + sumP a = sumK b + sumD b) (ht : okText t = true) (hf : sumK a + sumD a = (t.length : Int)) : applyT (composeT a b) t = applyT b (applyT a t) := by
  obtain ⟨c1, c2, c3, c4, c5, c6, c7, c8⟩ := compose_ok ha hb hs
  obtain ⟨a1, a2, a3, a4, a5⟩ := apply_ok ha ht hf
  obtain ⟨b1, b2, _⟩ := apply_ok hb a3 (by omega)
  obtain ⟨k1, k2, _⟩ := apply_ok c3 ht (by omega)
  rw [k2, c5, apply_nf, b2, a2]
  exact (apply_comp (units a) (units b) t a5 c8).1
/-- associativity -/
theorem compose_assoc {a b c : List Pt} (ha : okOp a = true) (hb : okOp b = true) (hc : okOp c = true) (h1 : sumK a + sumP a = sumK b + sumD b) (h2 : sumK b + sumP b = sumK c + sumD c) : composeT (composeT a b) c = composeT a (composeT b c) := by
  obtain ⟨p1, p2, p3, p4, p5, p6, p7, p8⟩ := compose_ok ha hb h1
  obtain ⟨q1, q2, q3, q4, q5, q6, q7, q8⟩ := compose_ok hb hc h2
  obtain ⟨r1, r2, r3, r4, r5, r6, r7, r8⟩ := compose_ok p3 hc (by omega)
  obtain ⟨s1, s2, s3, s4, s5, s6, s7, s8⟩ := compose_ok ha q3 (by omega)
  rw [r2, s2]
  apply made_ext
  rw [p5, q5]
  have e1 : nfU (comp (nfU (comp (units a) (units b))) (units c)) = nfU (comp (comp (units a) (units b)) (units c)) := by
    have hb' : tgt (comp (units a) (units b)) = src (units c) := by rw [(comp_ends p8).2]; exact q8
    have hb'' : tgt (nfU (comp (units a) (units b))) = src (units c) := by rw [(nf_ends _).2]; exact hb'
    have x1 := comp_nf hb'
    have x2 := comp_nf hb''
    rw [nf_idem] at x2
    rw [← x2, x1]
  have e2 : nfU (comp (units a) (nfU (comp (units b) (units c)))) = nfU (comp (units a) (comp (units b) (units c))) := by
    have hb' : tgt (units a) = src (comp (units b) (units c)) := by rw [(comp_ends q8).1]; exact p8
    have hb'' : tgt (units a) = src (nfU (comp (units b) (units c))) := by rw [(nf_ends _).1]; exact hb'
    have x1 := comp_nf hb'
    have x2 := comp_nf hb''
    rw [nf_idem] at x2
    rw [← x2, x1]
  rw [e1, e2]
  exact comp_assoc p8 q8

theorem nf_ds : ∀ {n : Nat} {us : List U} {qs : List Int} {m : Nat}, nfGo (List.replicate n U.d ++ us) qs m = nfGo us qs (m + n)
  | 0, us, qs, m => by simp
  | n + 1, us, qs, m => by rw [List.replicate_succ, List.cons_append, nfGo, nf_ds]; congr 1; omega
theorem nf_ps : ∀ {zs : List Int} {us : List U} {qs : List Int} {m : Nat}, nfGo (zs.map U.p ++ us) qs m = nfGo us (qs ++ zs) m
  | [], us, qs, m => by simp
  | z :: zs, us, qs, m => by rw [List.map_cons, List.cons_append, nfGo, nf_ps]; simp
theorem inv_ps : ∀ (ps : List Int) (us : List U) (t : List Int), invU (ps.map U.p ++ us) t = List.replicate ps.length U.d ++ invU us t
  | [], us, t => by simp
  | p :: ps, us, t => by rw [List.map_cons, List.cons_append, invU, inv_ps ps us t]; simp [List.replicate_succ]
theorem inv_ds : ∀ (n : Nat) (us : List U) (t : List Int), invU (List.replicate n U.d ++ us) t = (t.take n).map U.p ++ invU us (t.drop n)
  | 0, us, t => by simp
  | n + 1, us, t => by
    rw [List.replicate_succ, List.cons_append, invU, inv_ds n us (t.drop 1), List.drop_drop, ← List.append_assoc, ← List.map_append]
    congr 2
    · rw [show n + 1 = 1 + n by omega, List.take_add]
    · rw [Nat.add_comm]
theorem inv_pd (ps : List Int) (n : Nat) (t : List Int) : invU (ps.map U.p ++ List.replicate n U.d) t = List.replicate ps.length U.d ++ (t.take n).map U.p := by
  have := inv_ds n [] t
  rw [List.append_nil] at this
  rw [inv_ps, this]
  simp [invU]
theorem inv_app_pd {ps : List Int} {n : Nat} {us : List U} {t : List Int} : invU ((ps.map U.p ++ List.replicate n U.d) ++ us) t = List.replicate ps.length U.d ++ ((t.take n).map U.p ++ invU us (t.drop n)) := by
  rw [List.append_assoc, inv_ps, inv_ds]
/-- the inverse on units: of the normal form, up to the normal form -/
theorem inv_go : ∀ (us : List U) (ps : List Int) (n : Nat) (t : List Int) (qs : List Int) (m : Nat), src us + n = t.length → nfGo (invU (nfGo us ps n) t) qs m = nfGo (invU us (t.drop n)) (qs ++ t.take n) (m + ps.length)
  | [], ps, n, t, qs, m, h => by
    have e : invU (ps.map U.p ++ List.replicate n U.d) t = List.replicate ps.length U.d ++ (t.take n).map U.p := inv_pd ps n t
    have e2 := nf_ps (zs := t.take n) (us := []) (qs := qs) (m := m + ps.length)
    rw [List.append_nil] at e2
    rw [nfGo, e, nf_ds, e2]
    simp [invU]
  | .k :: us, ps, n, t, qs, m, h => by
    have hl : src us + 0 = (t.drop (n + 1)).length := by simp [src] at h ⊢; omega
    rw [nfGo, ← List.append_assoc, inv_app_pd, nf_ds, nf_ps]
    simp only [invU]
    rw [nfGo, List.drop_drop, inv_go us [] 0 (t.drop (n + 1)) [] 0 hl]
    simp [nfGo]
  | .p x :: us, ps, n, t, qs, m, h => by
    rw [nfGo, inv_go us (ps ++ [x]) n t qs m (by simpa [src] using h)]
    simp only [invU, nfGo]
    simp [Nat.add_assoc]
  | .d :: us, ps, n, t, qs, m, h => by
    have hlt : n < t.length := by simp [src] at h; omega
    rw [nfGo, inv_go us ps (n + 1) t qs m (by simp [src] at h ⊢; omega)]
    simp only [invU]
    rw [List.drop_drop, nf_ps]
    congr 1
    rw [List.append_assoc]
    congr 1
    rw [List.take_add_one, List.take_one, List.head?_drop]
theorem inv_nf {us : List U} {t : List Int} (h : src us = t.length) : nfU (invU (nfU us) t) = nfU (invU us t) := by
  have := inv_go us [] 0 t [] 0 (by omega)
  simpa [nfU] using this
theorem inv_ks : ∀ (n : Nat) (us : List U) (t : List Int), invU (List.replicate n U.k ++ us) t = List.replicate n U.k ++ invU us (t.drop n)
  | 0, us, t => by simp
  | n + 1, us, t => by rw [List.replicate_succ, List.cons_append, invU, inv_ks n us (t.drop 1), List.drop_drop, List.cons_append, Nat.add_comm 1 n]
theorem foldI_units (t : List Int) : ∀ (L : List Pt) (s : Nat × List Pt), (∀ p ∈ L, szP_ p) → units (L.foldl (stepI t) s).2 = units s.2 ++ invU (units L) (t.drop s.1)
  | [], s, _ => by simp [units_nil, invU]
  | p :: L, s, h => by
    rw [List.foldl_cons, foldI_units t L (stepI t s p) (fun q hq => h q (by simp [hq])), units_cons]
    obtain ⟨hk, h0, h1, h2⟩ := h p (by simp)
    have e1 : (stepI t s p).2 = s.2 ++ [invP t s.1 p] := rfl
    rw [e1, units_app, List.append_assoc]
    congr 1
    have e3 : units [invP t s.1 p] = unitsP (invP t s.1 p) := by simp [units]
    rw [e3]
    obtain ⟨pk, pn, pz⟩ := p
    simp only at hk h0
    rcases hk with rfl | rfl | rfl
    · have u1 : unitsP ⟨1, pn, pz⟩ = List.replicate pn.toNat .k := by simp [unitsP]
      have u2 : unitsP (invP t s.1 ⟨1, pn, pz⟩) = List.replicate pn.toNat .k := by simp [unitsP, invP]
      rw [u1, u2, inv_ks, List.drop_drop]
      simp [stepI]
    · have u1 : unitsP ⟨2, pn, pz⟩ = pz.map .p := by simp [unitsP]
      have u2 : unitsP (invP t s.1 ⟨2, pn, pz⟩) = List.replicate pz.length .d := by simp [unitsP, invP]
      rw [u1, u2, inv_ps]
      simp [stepI]
    · have u1 : unitsP ⟨3, pn, pz⟩ = List.replicate pn.toNat .d := by simp [unitsP]
      have u2 : unitsP (invP t s.1 ⟨3, pn, pz⟩) = ((t.drop s.1).take pn.toNat).map .p := by simp [unitsP, invP]
      rw [u1, u2, inv_ds, List.drop_drop]
      simp [stepI]
theorem inv_mem : ∀ (us : List U) (t : List Int) (x : Int), U.p x ∈ invU us t → x ∈ t
  | [], t, x, h => by simp [invU] at h
  | .k :: us, t, x, h => by
    rw [invU] at h
    rcases List.mem_cons.1 h with h | h
    · cases h
    · exact List.mem_of_mem_drop (inv_mem us _ x h)
  | .p y :: us, t, x, h => by
    rw [invU] at h
    rcases List.mem_cons.1 h with h | h
    · cases h
    · exact inv_mem us _ x h
  | .d :: us, t, x, h => by
    rw [invU] at h
    rcases List.mem_append.1 h with h | h
    · obtain ⟨z, hz, e⟩ := List.mem_map.1 h
      injection e with e
      subst e
      exact List.mem_of_mem_take hz
    · exact List.mem_of_mem_drop (inv_mem us _ x h)
/-- the inverse of a valid operation -/
theorem invert_eq {a : List Pt} {t : List Int} (ha : okOp a = true) (ht : okText t = true) (hs : sumK a + sumD a = (t.length : Int)) : invertT a t = made (invU (units a) t) ∧ okOp (invertT a t) = true ∧ normL (invertT a t) = invertT a t ∧ sumK (invertT a t) + sumD (invertT a t) = sumK a + sumP a ∧ sumK (invertT a t) + sumP (invertT a t) = sumK a + sumD a := by
  obtain ⟨a1, a2, a3, a4, a5⟩ := apply_ok ha ht hs
  obtain ⟨u1, u2, u3, u4, u5⟩ := op_units ha
  obtain ⟨n1, n2, n3⟩ := fits_norm a1
  have hsz := okPs_sz n1
  have hf := foldI_fit (t := t) n1 (normL a).length (Nat.le_refl _)
  rw [List.take_length] at hf
  have hu := foldI_units t (normL a) (0, []) hsz
  have e1 : invertT a t = made (invU (nfU (units a)) t) := by
    unfold invertT
    rw [if_pos a1, foldN_units hf.2.2]
    unfold made
    congr 2
    have : units (foldI t (normL a)).2 = invU (units (normL a)) t := by simpa [foldI, units_nil] using hu
    rw [this, norm_made ha, units_made]
  have e2 : invertT a t = made (invU (units a) t) := by rw [e1]; exact made_ext (inv_nf a5)
  obtain ⟨i1, i2, i3⟩ := inv_back (units a) t a5
  obtain ⟨m1, m2, m3, m4⟩ := made_ok (us := invU (units a) t) (by omega) (by omega) (fun x hx => okText_mem ht x (inv_mem _ _ x hx))
  rw [e2]
  exact ⟨rfl, m1, norm_normal m2 m1, by rw [m3, i2]; exact u2, by rw [m4, i3]; exact u1⟩
theorem invert_ok {a : List Pt} {t : List Int} (ha : okOp a = true) (ht : okText t = true) (hs : sumK a + sumD a = (t.length : Int)) : applyT (invertT a t) (applyT a t) = t ∧ invertT (invertT a t) (applyT a t) = normL a := by
  obtain ⟨a1, a2, a3, a4, a5⟩ := apply_ok ha ht hs
  obtain ⟨x1, x2, x3, x4, x5⟩ := invert_eq ha ht hs
  obtain ⟨b1, b2, b3, b4, b5⟩ := apply_ok x2 a3 (by omega)
  obtain ⟨y1, _⟩ := invert_eq x2 a3 (by omega)
  obtain ⟨i1, i2, i3⟩ := inv_back (units a) t a5
  have hu : units (invertT a t) = nfU (invU (units a) t) := by rw [x1, units_made]
  constructor
  · rw [b2, hu, apply_nf, a2, i1]
  · rw [y1, norm_made ha]
    apply made_ext
    have hsrc : src (invU (units a) t) = (applyT a t).length := by
      have : ((applyT a t).length : Int) = (tgt (units a) : Int) := by rw [a4]; exact (op_units ha).2.1.symm
      omega
    rw [hu, inv_nf hsrc, a2, inv_inv (units a) t a5]
/-- how many characters are inserted -/
def np : List U → Nat
  | [] => 0
  | .p _ :: us => np us + 1
  | _ :: us => np us
theorem np_app : ∀ a b : List U, np (a ++ b) = np a + np b
  | [], b => by simp [np]
  | u :: a, b => by
    have := np_app a b
    cases u <;> simp [np, this] <;> omega
theorem np_rk : ∀ n : Nat, np (List.replicate n U.k) = 0
  | 0 => rfl
  | n + 1 => by rw [List.replicate_succ]; simp [np, np_rk n]
theorem np_rd : ∀ n : Nat, np (List.replicate n U.d) = 0
  | 0 => rfl
  | n + 1 => by rw [List.replicate_succ]; simp [np, np_rd n]
theorem np_mp : ∀ zs : List Int, np (zs.map U.p) = zs.length
  | [] => rfl
  | z :: zs => by rw [List.map_cons]; simp [np, np_mp zs]
theorem np_units {L : List Pt} (h : ∀ p ∈ L, szP_ p) : (np (units L) : Int) = sumOf putOf L := by
  induction L with
  | nil => simp [units_nil, np, sumOf]
  | cons p L ih =>
    have i := ih (fun q hq => h q (by simp [hq]))
    obtain ⟨hk, _⟩ := h p (by simp)
    rw [units_cons, np_app, sumOf_cons]
    have : (np (unitsP p) : Int) = putOf p := by
      obtain ⟨pk, pn, pz⟩ := p
      simp only at hk
      rcases hk with rfl | rfl | rfl
      · simp [unitsP, putOf, np_rk]
      · simp [unitsP, putOf, np_mp]
      · simp [unitsP, putOf, np_rd]
    omega
theorem np_op {a : List Pt} (h : okOp a = true) : (np (units a) : Int) = sumP a := by
  obtain ⟨t1, t2, t3⟩ := sum_t (okOp_partsB h)
  rw [np_units (okPs_sz (okOp_of h).1), t2]
theorem np_go : ∀ (us : List U) (ps : List Int) (n : Nat), np (nfGo us ps n) = np us + ps.length
  | [], ps, n => by rw [nfGo, np_app, np_mp, np_rd]; simp [np]
  | .k :: us, ps, n => by rw [nfGo, np_app, np_mp, np_app, np_rd]; simp [np, np_go us [] 0]; omega
  | .p x :: us, ps, n => by rw [nfGo, np_go us (ps ++ [x]) n]; simp [np]; omega
  | .d :: us, ps, n => by rw [nfGo, np_go us ps (n + 1)]; simp [np]
theorem np_nf (us : List U) : np (nfU us) = np us := by unfold nfU; rw [np_go]; simp
theorem xf_np (a b : List U) : src a = src b → np (xf a b).1 = np a ∧ np (xf a b).2 = np b ∧ tgt (xf a b).1 ≤ tgt b + np a ∧ (∀ x, U.p x ∈ (xf a b).1 → U.p x ∈ a) ∧ (∀ x, U.p x ∈ (xf a b).2 → U.p x ∈ b) := by
  induction a, b using xf.induct with
  | case1 => intro h; simp [xf, np, tgt]
  | case2 x a b ih =>
    intro h
    obtain ⟨i1, i2, i3, i4, i5⟩ := ih (by simpa [src] using h)
    rw [xf]
    refine ⟨by simp [np, i1], by simp [np, i2], by simp [np, tgt]; omega, fun y hy => ?_, fun y hy => ?_⟩
    · rcases List.mem_cons.1 hy with e | hy
      · rw [e]; simp
      · simp [i4 y hy]
    · rcases List.mem_cons.1 hy with e | hy
      · cases e
      · exact i5 y hy
  | case3 x b ih =>
    intro h
    obtain ⟨i1, i2, i3, i4, i5⟩ := ih (by simpa [src] using h)
    rw [xf]
    refine ⟨by simp [np, i1], by simp [np, i2], by simp [np, tgt] at i3 ⊢; omega, fun y hy => ?_, fun y hy => ?_⟩
    · rcases List.mem_cons.1 hy with e | hy
      · cases e
      · exact i4 y hy
    · rcases List.mem_cons.1 hy with e | hy
      · rw [e]; simp
      · simp [i5 y hy]
  | case4 b => intro h; simp [src] at h
  | case5 b => intro h; simp [src] at h
  | case6 a => intro h; simp [src] at h
  | case7 a x b ih =>
    intro h
    obtain ⟨i1, i2, i3, i4, i5⟩ := ih (by simpa [src] using h)
    rw [xf]
    refine ⟨by simp [np, i1], by simp [np, i2], by simp [np, tgt] at i3 ⊢; omega, fun y hy => ?_, fun y hy => ?_⟩
    · rcases List.mem_cons.1 hy with e | hy
      · cases e
      · exact i4 y hy
    · rcases List.mem_cons.1 hy with e | hy
      · rw [e]; simp
      · simp [i5 y hy]
  | case8 a b ih =>
    intro h
    obtain ⟨i1, i2, i3, i4, i5⟩ := ih (by simpa [src] using h)
    rw [xf]
    refine ⟨by simp [np, i1], by simp [np, i2], by simp [np, tgt] at i3 ⊢; omega, fun y hy => ?_, fun y hy => ?_⟩
    · rcases List.mem_cons.1 hy with e | hy
      · cases e
      · simp [i4 y hy]
    · rcases List.mem_cons.1 hy with e | hy
      · cases e
      · simp [i5 y hy]
  | case9 a b ih =>
    intro h
    obtain ⟨i1, i2, i3, i4, i5⟩ := ih (by simpa [src] using h)
    rw [xf]
    refine ⟨by simp [np, i1], by simp [np, i2], by simp [np, tgt] at i3 ⊢; omega, fun y hy => by simp [i4 y hy], fun y hy => ?_⟩
    rcases List.mem_cons.1 hy with e | hy
    · cases e
    · simp [i5 y hy]
  | case10 a => intro h; simp [src] at h
  | case11 a x b ih =>
    intro h
    obtain ⟨i1, i2, i3, i4, i5⟩ := ih (by simpa [src] using h)
    rw [xf]
    refine ⟨by simp [np, i1], by simp [np, i2], by simp [np, tgt] at i3 ⊢; omega, fun y hy => ?_, fun y hy => ?_⟩
    · rcases List.mem_cons.1 hy with e | hy
      · cases e
      · exact i4 y hy
    · rcases List.mem_cons.1 hy with e | hy
      · rw [e]; simp
      · simp [i5 y hy]
  | case12 a b ih =>
    intro h
    obtain ⟨i1, i2, i3, i4, i5⟩ := ih (by simpa [src] using h)
    rw [xf]
    refine ⟨by simp [np, i1], by simp [np, i2], by simp [np, tgt] at i3 ⊢; omega, fun y hy => ?_, fun y hy => by simp [i5 y hy]⟩
    rcases List.mem_cons.1 hy with e | hy
    · cases e
    · simp [i4 y hy]
  | case13 a b ih =>
    intro h
    obtain ⟨i1, i2, i3, i4, i5⟩ := ih (by simpa [src] using h)
    rw [xf]
    exact ⟨by simp [np, i1], by simp [np, i2], by simp [np, tgt] at i3 ⊢; omega, fun y hy => by simp [i4 y hy], fun y hy => by simp [i5 y hy]⟩
/-- transforming valid operations on one text -/
theorem xform_ok {a b : List Pt} {t : List Int} (ha : okOp a = true) (hb : okOp b = true) (ht : okText t = true) (h1 : sumK a + sumD a = (t.length : Int)) (h2 : sumK b + sumD b = (t.length : Int)) (hp : sumK b + sumP b + sumP a ≤ 200) :
    xformOk a b = true ∧ okOp (xformA a b) = true ∧ okOp (xformB a b) = true ∧ normL (xformA a b) = xformA a b ∧ normL (xformB a b) = xformB a b ∧ sumK (xformA a b) + sumD (xformA a b) = sumK b + sumP b ∧ sumK (xformB a b) + sumD (xformB a b) = sumK a + sumP a ∧ sumP (xformA a b) = sumP a ∧ sumP (xformB a b) = sumP b ∧ sumK (xformA a b) + sumP (xformA a b) = sumK (xformB a b) + sumP (xformB a b) ∧ sumK (xformA a b) + sumP (xformA a b) ≤ sumK b + sumP b + sumP a ∧ applyT (xformB a b) (applyT a t) = applyT (xformA a b) (applyT b t) := by
  obtain ⟨u1, u2, u3, u4, u5⟩ := op_units ha
  obtain ⟨v1, v2, v3, v4, v5⟩ := op_units hb
  obtain ⟨a1, a2, a3, a4, a5⟩ := apply_ok ha ht h1
  obtain ⟨b1, b2, b3, b4, b5⟩ := apply_ok hb ht h2
  obtain ⟨m1, m2, m3, m4⟩ := xf_meet (units a) (units b) t a5 b5
  obtain ⟨n1, n2, n3, n4, n5⟩ := xf_np (units a) (units b) (by omega)
  have pa := np_op ha
  have pb := np_op hb
  obtain ⟨p1, p2, p3, p4⟩ := made_ok (us := (xf (units a) (units b)).1) (by omega) (by omega) (fun x hx => u5 x (n4 x hx))
  obtain ⟨q1, q2, q3, q4⟩ := made_ok (us := (xf (units a) (units b)).2) (by omega) (by omega) (fun x hx => v5 x (n5 x hx))
  have hO : xformOk a b = true := by
    unfold xformOk
    have e1 : okOp (xfA a b) = true := p1
    have e2 : okOp (xfB a b) = true := q1
    rw [ha, hb, e1, e2]
    simp
    omega
  have eA : xformA a b = made (xf (units a) (units b)).1 := by unfold xformA; rw [if_pos hO]; rfl
  have eB : xformB a b = made (xf (units a) (units b)).2 := by unfold xformB; rw [if_pos hO]; rfl
  have sA := np_op p1
  have sB := np_op q1
  rw [units_made, np_nf] at sA sB
  rw [eA, eB]
  obtain ⟨c1, c2, _⟩ := apply_ok q1 a3 (by rw [q3, m3]; omega)
  obtain ⟨d1, d2, _⟩ := apply_ok p1 b3 (by rw [p3, m2]; omega)
  refine ⟨hO, p1, q1, norm_normal p2 p1, norm_normal q2 q1, by rw [p3, m2]; exact v2, by rw [q3, m3]; exact u2, by omega, by omega, by rw [p4, q4, m4], by rw [p4]; omega, ?_⟩
  rw [c2, d2, units_made, units_made, apply_nf, apply_nf, a2, b2, m1]
end Go.Proofs.YtbbpapaobehlcaaDoor.low


/-
  For laws over several calls: a law's bytes opened; calls whose answer is true.
-/
namespace Go.Proofs.YtbbpapaobehlcaaDoor.low
open Go.RowKit Go.ChangeShapes Go.WideShapes Go.Deep
set_option linter.unusedVariables false

theorem cellsU8 : Tryd.prog.cellsOf 5 = 1 := by kernel_rfl
section
variable {H : Type} {enc : TypeId × Value → H} {w : World} {base : Nat} {spare : Nat → Bool} {held : Bool}
theorem read_bytes {fuel : Nat} {cs : List Value} {x : DataW H × List MemPlace} (h : DataW.trod enc Tryd.prog w base spare held fuel 22 cs = some x) :
    ∃ A c, ∃ zs : List Int, cs = [.slice A zs.length c] ∧ Row (Value.int .u8) w w.heap.size A zs ∧ zs.length ≤ maxLen ∧ ∀ z ∈ zs, 0 ≤ z ∧ z < 256 := by
  rcases open_ints Tryd.underlying22 Tryd.underlying5 cellsU8 h with ⟨hcs, _⟩ | ⟨a, len, cap, zs, hcs, _, hl, hm, hz, _, hc, hw⟩
  · exact ⟨none, 0, [], hcs, Row.nil, Nat.zero_le _, by simp⟩
  · have hzl : len ≤ zs.length := by rw [hz]; split <;> omega
    refine ⟨some a, cap, zs.take len, by rw [hcs, List.length_take, Nat.min_eq_left hzl], fun hn => ?_, by rw [List.length_take]; omega, fun z hz' => ?_⟩
    · have h0 := cell_lt (hc 0 (by simp at hn; omega))
      rw [block_of_add] at h0
      refine ⟨a, rfl, h0, fun k z hk => ?_⟩
      have hk' : k < zs.length := by
        rcases Nat.lt_or_ge k zs.length with h | h
        · exact h
        · rw [List.getElem?_eq_none (by simp; omega)] at hk; cases hk
      have hk2 : zs[k]? = some z := by
        rw [List.getElem?_take] at hk
        split at hk
        · exact hk
        · cases hk
      rw [hc k hk']
      simp [List.getD, hk2]
    · have := hw z (List.mem_of_mem_take hz')
      simp [Lit.wf, IntKind.min, IntKind.max, IntKind.signed, IntKind.bits] at this
      omega
end
theorem signsSame_t (v v' : Value) (t t' : List Int) (w : World) (h : RdC w w.heap.size (encInts t) v) (h' : RdC w w.heap.size (encInts t') v') (hs : SmI t) (e : t = t') : Calls Tryd.prog 16 #[v, v'] w (Tells true w) := by
  subst e
  obtain ⟨A, c, rfl, hr, _⟩ := ints_rd h
  obtain ⟨B, d, rfl, hr', _⟩ := ints_rd h'
  unfold SmI at hs
  refine (implSignsSame_any A B c d t t w hr hr' (by omega) (by omega)).mono ?_
  intro e w1 h1
  rw [sameB_self] at h1
  exact says_tells h1
theorem opSame_t (v v' : Value) (a b : List Pt) (w : World) (h : RdC w w.heap.size (encPs a) v) (h' : RdC w w.heap.size (encPs b) v') (hs : SmP a) (e : a = b) : Calls Tryd.prog 18 #[v, v'] w (Tells true w) := by
  subst e
  obtain ⟨A, c, rfl, hr, _⟩ := parts_rd h
  obtain ⟨B, d, rfl, hr', _⟩ := parts_rd h'
  have hl := hs.1
  refine (implOpSame_any A B c d a a w hr hr' (by omega) (by omega) hs.all4 hs.all4).mono ?_
  intro e w1 h1
  rw [samePs_self] at h1
  exact h1
theorem isNorm_t (v : Value) (a : List Pt) (w : World) (h : RdC w w.heap.size (encPs a) v) (hs : SmP a) (ho : okOp a = true) (hn : normL a = a) : Calls Tryd.prog 17 #[v] w (Tells true w) := by
  obtain ⟨A, c, rfl, hr, _⟩ := parts_rd h
  have hl := hs.1
  refine (implIsNorm_any A c a w hr (by omega) hs.all4 hs.2).mono ?_
  intro e w1 h1
  have : isNormL a = true := by unfold isNormL; rw [ho, hn, samePs_self]; rfl
  rw [this] at h1
  exact h1
theorem smI_text {t : List Int} (h : okText t = true) : SmI t := by have := okText_len' h; unfold SmI; omega
theorem smP_op {a : List Pt} (h : okOp a = true) : SmP a := by
  obtain ⟨_, h1, h2⟩ := okOp_units h
  have := signsIn_le h1
  exact ⟨by omega, by omega⟩
end Go.Proofs.YtbbpapaobehlcaaDoor.low


/-
  The specification's draws: an operation (spec.l02Draw).
-/
namespace Go.Proofs.YtbbpapaobehlcaaDoor.low
open Go.RowKit
set_option linter.unusedVariables false

theorem nil_ow (w : World) : OwC w (encInts []) (.slice none 0 0) [] := ⟨[], [], World.ownsRow_nil _ _ _ _, ⟨rfl, rfl⟩, rfl⟩
theorem sumOf_nonneg {L : List Pt} (h : okPs L = true) : 0 ≤ sumOf keepOf L ∧ 0 ≤ sumOf dropOf L ∧ 0 ≤ sumOf putOf L := by
  have a1 := sumOf_take (f := keepOf) (ps := L) (fun q hq => (ok_bd (okPs_mem' h hq)).1.1) 0
  have a2 := sumOf_take (f := dropOf) (ps := L) (fun q hq => (ok_bd (okPs_mem' h hq)).2.2.1) 0
  have a3 := sumOf_take (f := putOf) (ps := L) (fun q hq => (ok_bd (okPs_mem' h hq)).2.1.1) 0
  simp [sumOf] at a1 a2 a3
  exact ⟨a1, a2, a3⟩
noncomputable def drBody : Code := (((Tryd.f50.body.map loopsOf).getD []).headD .skip)
def slen : Value → Nat
  | .slice _ n _ => n
  | _ => 0
/-- the state of the loop -/
structure DS (B g : Nat) (w0 : World) (n : Nat) (o : Value) (left room : Nat) (L : List Pt) (b : List Nat) (w : World) : Prop where
  ow : OwB w0.heap.size w.heap.size w (encPs L) o b
  ok : okPs L = true
  sum : sumOf keepOf L + sumOf dropOf L + (left : Int) = (n : Int)
  puts : sumOf putOf L + (room : Int) = 12
  dc : DC B g w
  fr : Fr (fun q => q = g) w0 w
  bl : Below B w0 w
  lt : g < w0.heap.size
theorem sumOf_add (f : Pt → Int) (L : List Pt) (p : Pt) : sumOf f (L ++ [p]) = sumOf f L + f p := by simp [sumOf]
section
variable {B g n : Nat} {w0 w w' : World} {o : Value} {left room : Nat} {L : List Pt} {b : List Nat}
theorem DS.draw (h : DS B g w0 n o left room L b w) (dc : DC B g w') (fr : Fr (fun q => q = g) w w') (bl : Below B w w') : DS B g w0 n o left room L b w' :=
  ⟨(h.ow.fr fr h.lt).upto fr.size (Nat.le_refl _), h.ok, h.sum, h.puts, dc, h.fr.trans fr, h.bl.trans bl, h.lt⟩
theorem DS.past (h : DS B g w0 n o left room L b w) (hb : Below w.heap.size w w') : DS B g w0 n o left room L b w' :=
  h.draw (h.dc.past hb) (Fr.below hb) (hb.mono (by have := h.dc.lt; have := h.dc.low; omega))
theorem DS.app {p : Pt} {o' : Value} {b' : List Nat} {O' : Nat → Prop} {left' room' : Nat} (h : DS B g w0 n o left room L b w) (ow : OwB w0.heap.size w'.heap.size w' (encPs (L ++ [p])) o' b') (hg : Grew (fun q => q ∈ b) O' w w') (bl : Below w0.heap.size w w') (hp : okPt p = true) (h1 : keepOf p + dropOf p + (left' : Int) = (left : Int)) (h2 : putOf p + (room' : Int) = (room : Int)) : DS B g w0 n o' left' room' (L ++ [p]) b' w' := by
  have hlt := h.lt
  have hB := h.dc.low
  have q1 := h.sum
  have q2 := h.puts
  have bB := bl.mono (show B ≤ w0.heap.size by omega)
  exact ⟨ow, by have := h.ok; unfold okPs at *; rw [List.all_append, this]; simp [hp], by rw [sumOf_add, sumOf_add]; omega, by rw [sumOf_add]; omega, h.dc.grew hg bB (fun hq => by have := (h.ow.rng g hq).1; omega), h.fr.old hg (fun q hq => (h.ow.rng q hq).1), h.bl.trans bB, h.lt⟩
end
theorem okPt_keep {n : Int} (h0 : 0 ≤ n) (h : n ≤ 200) : okPt ⟨1, n, []⟩ = true := by simp [okPt]; omega
theorem okPt_drop {n : Int} (h0 : 0 ≤ n) (h : n ≤ 200) : okPt ⟨3, n, []⟩ = true := by simp [okPt]; omega
theorem okPt_put {t : List Int} (h : t.length ≤ 200) (ha : allB t = true) : okPt ⟨2, 0, t⟩ = true := by simp [okPt, ha]; omega
def DrR (B g : Nat) (w0 : World) (n : Nat) (o l r : Value) (w : World) : Prop := ∃ left room L b, DS B g w0 n o left room L b w ∧ L.length ≤ 40 ∧ l = .int .i64 (left : Int) ∧ r = .int .i64 (room : Int)
def DrX (B g : Nat) (w0 : World) (n : Nat) (o : Value) (w : World) : Prop := ∃ room L b, DS B g w0 n o 0 room L b w ∧ L.length ≤ 42
set_option maxRecDepth 1000000 in
def DrI (B g : Nat) (w0 : World) (n : Nat) (c1 c2 c3 c4 c11 c12 c74 : Value) (a : Act) (w : World) : Prop := ∃ u5 u6 u7 u8 u9 u10 u13 u14 u15 u16 u17 u18 u19 u20 u21 u22 u23 u24 u25 u26 u27 u28 u29 u30 u31 u32 u33 u34 u35 u36 u37 u38 u39 u40 u41 u42 u43 u44 u45 u46 u47 u48 u49 u50 u51 u52 u53 u54 u55 u56 u57 u58 u59 u60 u61 u62 u63 u64 u65 u66 u67 u68 u69 u70 u71 u72 u73 : Value, DrR B g w0 n u5 u6 u7 w ∧ a = ⟨#[.pointer (some ⟨g, 0, none⟩), c1, c2, c3, c4, u5, u6, u7, u8, u9, u10, c11, c12, u13, u14, u15, u16, u17, u18, u19, u20, u21, u22, u23, u24, u25, u26, u27, u28, u29, u30, u31, u32, u33, u34, u35, u36, u37, u38, u39, u40, u41, u42, u43, u44, u45, u46, u47, u48, u49, u50, u51, u52, u53, u54, u55, u56, u57, u58, u59, u60, u61, u62, u63, u64, u65, u66, u67, u68, u69, u70, u71, u72, u73, c74], []⟩
set_option maxRecDepth 1000000 in
def DrE (B g : Nat) (w0 : World) (n : Nat) (c1 c2 c3 c4 c11 c12 c74 : Value) (a : Act) (w : World) : Prop := ∃ u5 u6 u7 u8 u9 u10 u13 u14 u15 u16 u17 u18 u19 u20 u21 u22 u23 u24 u25 u26 u27 u28 u29 u30 u31 u32 u33 u34 u35 u36 u37 u38 u39 u40 u41 u42 u43 u44 u45 u46 u47 u48 u49 u50 u51 u52 u53 u54 u55 u56 u57 u58 u59 u60 u61 u62 u63 u64 u65 u66 u67 u68 u69 u70 u71 u72 u73 : Value, DrX B g w0 n u5 w ∧ a = ⟨#[.pointer (some ⟨g, 0, none⟩), c1, c2, c3, c4, u5, u6, u7, u8, u9, u10, c11, c12, u13, u14, u15, u16, u17, u18, u19, u20, u21, u22, u23, u24, u25, u26, u27, u28, u29, u30, u31, u32, u33, u34, u35, u36, u37, u38, u39, u40, u41, u42, u43, u44, u45, u46, u47, u48, u49, u50, u51, u52, u53, u54, u55, u56, u57, u58, u59, u60, u61, u62, u63, u64, u65, u66, u67, u68, u69, u70, u71, u72, u73, c74], []⟩
set_option maxRecDepth 1000000 in
set_option maxHeartbeats 6400000 in
theorem drP (B g : Nat) (w0 wr : World) (n : Nat) (hn : n ≤ 150) (A : Option Addr) (c left room : Nat) (L : List Pt) (b : List Nat) (c1 c2 c3 c4 c11 c12 c74 u8 u9 u10 u13 u14 u15 u16 u17 u18 u19 u20 u21 u22 u23 u24 u25 u26 u27 u28 u29 u30 u31 u32 u33 u34 u35 u36 u37 u38 u39 u40 u41 u42 u43 u44 u45 u46 u47 u48 u49 u50 u51 u52 u53 u54 u55 u56 u57 u58 u59 u60 u61 u62 u63 u64 u65 u66 u67 u68 u69 u70 u71 u72 u73 : Value) (Q0 : Exit → Act → World → Prop) (hs : DS B g w0 n (.slice A L.length c) left room L b wr) (hL : L.length ≤ 40) (hl0 : 0 < left) (hexit : ∀ a w, DrE B g w0 n c1 c2 c3 c4 c11 c12 c74 a w → Q0 (.exit 0) a w) :
    Code.wp Tryd.prog drBody (Exit.then (fun a' w'' => DrI B g w0 n c1 c2 c3 c4 c11 c12 c74 a' w'' ∧ 41 - slen (a'.tmps.getD 5 undef) < 41 - L.length) Q0) ⟨#[.pointer (some ⟨g, 0, none⟩), c1, c2, c3, c4, .slice A L.length c, .int .i64 (left : Int), .int .i64 (room : Int), u8, u9, u10, c11, c12, u13, u14, u15, u16, u17, u18, u19, u20, u21, u22, u23, u24, u25, u26, u27, u28, u29, u30, u31, u32, u33, u34, u35, u36, u37, u38, u39, u40, u41, u42, u43, u44, u45, u46, u47, u48, u49, u50, u51, u52, u53, u54, u55, u56, u57, u58, u59, u60, u61, u62, u63, u64, u65, u66, u67, u68, u69, u70, u71, u72, u73, c74], []⟩ wr := by
  have hb1 : (left : Int) ≤ n := by have := hs.sum; have q1 := sumOf_nonneg hs.ok; omega
  have hb2 : (room : Int) ≤ 12 := by have := hs.puts; have q1 := sumOf_nonneg hs.ok; omega
  have HS := Lib.hid hs
  clear hs
  conv => arg 2; whnf
  go_wp2_with fail
  refine (specBelow_d B g 4 _ HS.out.dc (by omega)).mono ?_
  rintro e w1 ⟨x1, rfl, ⟨xa1, xb1, _⟩, dc1, fr1, bl1⟩
  replace HS := Lib.hid (HS.out.draw dc1 fr1 bl1)
  clear dc1 fr1 bl1
  have xb1 := xb1 (by omega)
  by_cases hx0 : x1 = 0
  · subst hx0
    go_wp2_with fail
    refine (specSigns_d B g 3 _ HS.out.dc (by omega)).mono ?_
    rintro e w2 ⟨t2, v2, s2, rfl, tl2, ta2, to2, dc2, fr2, bl2⟩
    have HOLD := HS.out.ow
    have HSZ := HS.out.fr.size
    replace HS := Lib.hid (HS.out.draw dc2 fr2 bl2)
    have HT2 := Lib.hid to2
    have HTA2 := Lib.hid ta2
    obtain ⟨At2, ct2, rfl⟩ := sliceI to2.read
    have HSR2 := Lib.hid (show ∀ q ∈ b, q ∉ s2 from fun q hq hq' => by have q1 := (HOLD.rng q hq).2; have q2 := (to2.rng q hq').1; omega)
    clear HOLD to2 ta2
    clear dc2 fr2 bl2
    by_cases hr : t2.length ≤ room
    · have hr2 : ¬ room < t2.length := by omega
      by_cases hm : L.length + 1 ≤ 40
      · have hm2 : ¬ 40 < L.length + 1 := by omega
        have bA3 := alloc_below w2 (.cells #[.int .i64 2, .int .i64 0, .slice At2 t2.length ct2] 64)
        have HN3 := Lib.hid (heap_alloc_new w2 (.cells #[.int .i64 2, .int .i64 0, .slice At2 t2.length ct2] 64))
        replace HS := Lib.hid (HS.out.past bA3)
        have HU3 := Lib.hid ((HT2.out.past bA3).ow)
        have hll3 : (L).length ≤ 2000000 := (by omega)
        go_wp2_with (at_builtin; refine wpList_append_part rfl (.tmp 45) (.tmp 48) rfl w0.heap.size _ (.slice A L.length c) (L) b HS.out.ow rfl hll3 w2.heap.size _ ⟨2, 0, t2⟩ (.slice At2 t2.length ct2) s2 rfl HN3.out HU3.out HT2.out.nd HSR2.out (fun q hq => by have q1 := (HT2.out.rng q hq).1; omega) ?_; intro Ap3 cp3 w3 b3 o3 in3 g3 bl3)
        replace HS := Lib.hid (HS.out.app (left' := left) (room' := (room - t2.length)) o3 g3 bl3 (okPt_put (by omega) HTA2.out) (by simp [keepOf, dropOf]) (by simp [putOf]; omega))
        clear o3 in3 g3 bl3 bA3 HN3 HU3 hll3
        refine ⟨?_, by simp [slen]; omega⟩
        unfold DrI
        iterate 67 apply Exists.intro
        refine ⟨⟨_, _, _, _, HS.out, ?_, ?_, ?_⟩, rfl⟩
        · simp; omega
        · first | rfl | (congr 1; omega)
        · first | rfl | (congr 1; omega)
      · have hm2 : 40 < L.length + 1 := by omega
        have bA4 := alloc_below w2 (.cells #[.int .i64 2, .int .i64 0, .slice At2 t2.length ct2] 64)
        have HN4 := Lib.hid (heap_alloc_new w2 (.cells #[.int .i64 2, .int .i64 0, .slice At2 t2.length ct2] 64))
        replace HS := Lib.hid (HS.out.past bA4)
        have HU4 := Lib.hid ((HT2.out.past bA4).ow)
        have hll4 : (L).length ≤ 2000000 := (by omega)
        go_wp2_with (first | (at_builtin; refine wpList_append_part rfl (.tmp 45) (.tmp 48) rfl w0.heap.size _ (.slice A L.length c) (L) b HS.out.ow rfl hll4 w2.heap.size _ ⟨2, 0, t2⟩ (.slice At2 t2.length ct2) s2 rfl HN4.out HU4.out HT2.out.nd HSR2.out (fun q hq => by have q1 := (HT2.out.rng q hq).1; omega) ?_; intro Ap4 cp4 w4 b4 o4 in4 g4 bl4; replace HS := Lib.hid (HS.out.app (left' := left) (room' := (room - t2.length)) o4 g4 bl4 (okPt_put (by omega) HTA2.out) (by simp [keepOf, dropOf]) (by simp [putOf]; omega)); clear o4 in4 g4 bl4 bA4 HN4 HU4 hll4; have bA5 := alloc_below w4 (.cells #[.int .i64 1, .int .i64 (left : Int), .slice none 0 0] 64); have HN5 := Lib.hid (heap_alloc_new w4 (.cells #[.int .i64 1, .int .i64 (left : Int), .slice none 0 0] 64)); replace HS := Lib.hid (HS.out.past bA5); have HU5 := Lib.hid (nil_ow (w4.alloc (.cells #[.int .i64 1, .int .i64 (left : Int), .slice none 0 0] 64))); have hll5 : (L ++ [(⟨2, 0, t2⟩ : Pt)]).length ≤ 2000000 := (by rw [List.length_append]; show L.length + 1 ≤ 2000000; omega)) | (at_builtin; refine wpList_append_part rfl (.tmp 69) (.tmp 72) rfl w0.heap.size _ (.slice Ap4 (L.length + 1) cp4) (L ++ [(⟨2, 0, t2⟩ : Pt)]) b4 HS.out.ow rfl hll5 w4.heap.size _ ⟨1, (left : Int), []⟩ (.slice none 0 0) [] rfl HN5.out HU5.out (by simp) (by simp) (by simp) ?_; intro Ap5 cp5 w5 b5 o5 in5 g5 bl5))
        replace HS := Lib.hid (HS.out.app (left' := 0) (room' := (room - t2.length)) o5 g5 bl5 (okPt_keep (by omega) (by omega)) (by first | (simp [keepOf, dropOf]; done) | (simp [keepOf, dropOf]; omega)) (by simp [putOf]))
        clear o5 in5 g5 bl5 bA5 HN5 HU5 hll5
        have HSx := HS.out
        rw [List.length_append] at HSx
        have HR : DrX B g w0 n _ _ := ⟨_, _, _, HSx, by simp; omega⟩
        unfold DrE
        iterate 67 apply Exists.intro
        exact ⟨HR, rfl⟩
    · have hr2 : room < t2.length := by omega
      by_cases hm : L.length + 1 ≤ 40
      · have hm2 : ¬ 40 < L.length + 1 := by omega
        have bA6 := alloc_below w2 (.cells #[.int .i64 2, .int .i64 0, .slice none 0 0] 64)
        have HN6 := Lib.hid (heap_alloc_new w2 (.cells #[.int .i64 2, .int .i64 0, .slice none 0 0] 64))
        replace HS := Lib.hid (HS.out.past bA6)
        have HU6 := Lib.hid (nil_ow (w2.alloc (.cells #[.int .i64 2, .int .i64 0, .slice none 0 0] 64)))
        have hll6 : (L).length ≤ 2000000 := (by omega)
        go_wp2_with (at_builtin; refine wpList_append_part rfl (.tmp 45) (.tmp 48) rfl w0.heap.size _ (.slice A L.length c) (L) b HS.out.ow rfl hll6 w2.heap.size _ ⟨2, 0, []⟩ (.slice none 0 0) [] rfl HN6.out HU6.out (by simp) (by simp) (by simp) ?_; intro Ap6 cp6 w6 b6 o6 in6 g6 bl6)
        replace HS := Lib.hid (HS.out.app (left' := left) (room' := room) o6 g6 bl6 (okPt_put (by simp) rfl) (by simp [keepOf, dropOf]) (by simp [putOf]))
        clear o6 in6 g6 bl6 bA6 HN6 HU6 hll6
        refine ⟨?_, by simp [slen]; omega⟩
        unfold DrI
        iterate 67 apply Exists.intro
        refine ⟨⟨_, _, _, _, HS.out, ?_, ?_, ?_⟩, rfl⟩
        · simp; omega
        · first | rfl | (congr 1; omega)
        · first | rfl | (congr 1; omega)
      · have hm2 : 40 < L.length + 1 := by omega
        have bA7 := alloc_below w2 (.cells #[.int .i64 2, .int .i64 0, .slice none 0 0] 64)
        have HN7 := Lib.hid (heap_alloc_new w2 (.cells #[.int .i64 2, .int .i64 0, .slice none 0 0] 64))
        replace HS := Lib.hid (HS.out.past bA7)
        have HU7 := Lib.hid (nil_ow (w2.alloc (.cells #[.int .i64 2, .int .i64 0, .slice none 0 0] 64)))
        have hll7 : (L).length ≤ 2000000 := (by omega)
        go_wp2_with (first | (at_builtin; refine wpList_append_part rfl (.tmp 45) (.tmp 48) rfl w0.heap.size _ (.slice A L.length c) (L) b HS.out.ow rfl hll7 w2.heap.size _ ⟨2, 0, []⟩ (.slice none 0 0) [] rfl HN7.out HU7.out (by simp) (by simp) (by simp) ?_; intro Ap7 cp7 w7 b7 o7 in7 g7 bl7; replace HS := Lib.hid (HS.out.app (left' := left) (room' := room) o7 g7 bl7 (okPt_put (by simp) rfl) (by simp [keepOf, dropOf]) (by simp [putOf])); clear o7 in7 g7 bl7 bA7 HN7 HU7 hll7; have bA8 := alloc_below w7 (.cells #[.int .i64 1, .int .i64 (left : Int), .slice none 0 0] 64); have HN8 := Lib.hid (heap_alloc_new w7 (.cells #[.int .i64 1, .int .i64 (left : Int), .slice none 0 0] 64)); replace HS := Lib.hid (HS.out.past bA8); have HU8 := Lib.hid (nil_ow (w7.alloc (.cells #[.int .i64 1, .int .i64 (left : Int), .slice none 0 0] 64))); have hll8 : (L ++ [(⟨2, 0, []⟩ : Pt)]).length ≤ 2000000 := (by rw [List.length_append]; show L.length + 1 ≤ 2000000; omega)) | (at_builtin; refine wpList_append_part rfl (.tmp 69) (.tmp 72) rfl w0.heap.size _ (.slice Ap7 (L.length + 1) cp7) (L ++ [(⟨2, 0, []⟩ : Pt)]) b7 HS.out.ow rfl hll8 w7.heap.size _ ⟨1, (left : Int), []⟩ (.slice none 0 0) [] rfl HN8.out HU8.out (by simp) (by simp) (by simp) ?_; intro Ap8 cp8 w8 b8 o8 in8 g8 bl8))
        replace HS := Lib.hid (HS.out.app (left' := 0) (room' := room) o8 g8 bl8 (okPt_keep (by omega) (by omega)) (by first | (simp [keepOf, dropOf]; done) | (simp [keepOf, dropOf]; omega)) (by simp [putOf]))
        clear o8 in8 g8 bl8 bA8 HN8 HU8 hll8
        have HSx := HS.out
        rw [List.length_append] at HSx
        have HR : DrX B g w0 n _ _ := ⟨_, _, _, HSx, by simp; omega⟩
        unfold DrE
        iterate 67 apply Exists.intro
        exact ⟨HR, rfl⟩
  · have hx0b : (x1 == 0) = false := by simp [hx0]
    by_cases hx1 : x1 = 1
    · subst hx1
      clear hx0 hx0b
      go_wp2_with fail
      refine (specBelow_d B g ((left : Int) + 1) _ HS.out.dc (by omega)).mono ?_
      rintro e w9 ⟨m9, rfl, ⟨ma9, mb9, _⟩, dc9, fr9, bl9⟩
      replace HS := Lib.hid (HS.out.draw dc9 fr9 bl9)
      clear dc9 fr9 bl9
      have mb9 := mb9 (by omega)
      obtain ⟨d, rfl⟩ := Int.eq_ofNat_of_zero_le ma9
      by_cases h4 : d ≤ 4
      · have h4b : ¬ 4 < d := by omega
        by_cases hm : L.length + 1 ≤ 40
        · have hm2 : ¬ 40 < L.length + 1 := by omega
          have bA10 := alloc_below w9 (.cells #[.int .i64 3, .int .i64 (d : Int), .slice none 0 0] 64)
          have HN10 := Lib.hid (heap_alloc_new w9 (.cells #[.int .i64 3, .int .i64 (d : Int), .slice none 0 0] 64))
          replace HS := Lib.hid (HS.out.past bA10)
          have HU10 := Lib.hid (nil_ow (w9.alloc (.cells #[.int .i64 3, .int .i64 (d : Int), .slice none 0 0] 64)))
          have hll10 : (L).length ≤ 2000000 := (by omega)
          go_wp2_with (at_builtin; refine wpList_append_part rfl (.tmp 61) (.tmp 64) rfl w0.heap.size _ (.slice A L.length c) (L) b HS.out.ow rfl hll10 w9.heap.size _ ⟨3, (d : Int), []⟩ (.slice none 0 0) [] rfl HN10.out HU10.out (by simp) (by simp) (by simp) ?_; intro Ap10 cp10 w10 b10 o10 in10 g10 bl10)
          replace HS := Lib.hid (HS.out.app (left' := (left - d)) (room' := room) o10 g10 bl10 (okPt_drop (by omega) (by omega)) (by simp [keepOf, dropOf]; omega) (by simp [putOf]))
          clear o10 in10 g10 bl10 bA10 HN10 HU10 hll10
          refine ⟨?_, by simp [slen]; omega⟩
          unfold DrI
          iterate 67 apply Exists.intro
          refine ⟨⟨_, _, _, _, HS.out, ?_, ?_, ?_⟩, rfl⟩
          · simp; omega
          · first | rfl | (congr 1; omega)
          · first | rfl | (congr 1; omega)
        · have hm2 : 40 < L.length + 1 := by omega
          have bA11 := alloc_below w9 (.cells #[.int .i64 3, .int .i64 (d : Int), .slice none 0 0] 64)
          have HN11 := Lib.hid (heap_alloc_new w9 (.cells #[.int .i64 3, .int .i64 (d : Int), .slice none 0 0] 64))
          replace HS := Lib.hid (HS.out.past bA11)
          have HU11 := Lib.hid (nil_ow (w9.alloc (.cells #[.int .i64 3, .int .i64 (d : Int), .slice none 0 0] 64)))
          have hll11 : (L).length ≤ 2000000 := (by omega)
          go_wp2_with (first | (at_builtin; refine wpList_append_part rfl (.tmp 61) (.tmp 64) rfl w0.heap.size _ (.slice A L.length c) (L) b HS.out.ow rfl hll11 w9.heap.size _ ⟨3, (d : Int), []⟩ (.slice none 0 0) [] rfl HN11.out HU11.out (by simp) (by simp) (by simp) ?_; intro Ap11 cp11 w11 b11 o11 in11 g11 bl11; replace HS := Lib.hid (HS.out.app (left' := (left - d)) (room' := room) o11 g11 bl11 (okPt_drop (by omega) (by omega)) (by simp [keepOf, dropOf]; omega) (by simp [putOf])); clear o11 in11 g11 bl11 bA11 HN11 HU11 hll11; have bA12 := alloc_below w11 (.cells #[.int .i64 1, .int .i64 ((left : Int) - (d : Int)), .slice none 0 0] 64); have HN12 := Lib.hid (heap_alloc_new w11 (.cells #[.int .i64 1, .int .i64 ((left : Int) - (d : Int)), .slice none 0 0] 64)); replace HS := Lib.hid (HS.out.past bA12); have HU12 := Lib.hid (nil_ow (w11.alloc (.cells #[.int .i64 1, .int .i64 ((left : Int) - (d : Int)), .slice none 0 0] 64))); have hll12 : (L ++ [(⟨3, (d : Int), []⟩ : Pt)]).length ≤ 2000000 := (by rw [List.length_append]; show L.length + 1 ≤ 2000000; omega)) | (at_builtin; refine wpList_append_part rfl (.tmp 69) (.tmp 72) rfl w0.heap.size _ (.slice Ap11 (L.length + 1) cp11) (L ++ [(⟨3, (d : Int), []⟩ : Pt)]) b11 HS.out.ow rfl hll12 w11.heap.size _ ⟨1, ((left : Int) - (d : Int)), []⟩ (.slice none 0 0) [] rfl HN12.out HU12.out (by simp) (by simp) (by simp) ?_; intro Ap12 cp12 w12 b12 o12 in12 g12 bl12))
          replace HS := Lib.hid (HS.out.app (left' := 0) (room' := room) o12 g12 bl12 (okPt_keep (by omega) (by omega)) (by first | (simp [keepOf, dropOf]; done) | (simp [keepOf, dropOf]; omega)) (by simp [putOf]))
          clear o12 in12 g12 bl12 bA12 HN12 HU12 hll12
          have HSx := HS.out
          rw [List.length_append] at HSx
          have HR : DrX B g w0 n _ _ := ⟨_, _, _, HSx, by simp; omega⟩
          unfold DrE
          iterate 67 apply Exists.intro
          exact ⟨HR, rfl⟩
      · have h4b : 4 < d := by omega
        by_cases hm : L.length + 1 ≤ 40
        · have hm2 : ¬ 40 < L.length + 1 := by omega
          have bA13 := alloc_below w9 (.cells #[.int .i64 3, .int .i64 4, .slice none 0 0] 64)
          have HN13 := Lib.hid (heap_alloc_new w9 (.cells #[.int .i64 3, .int .i64 4, .slice none 0 0] 64))
          replace HS := Lib.hid (HS.out.past bA13)
          have HU13 := Lib.hid (nil_ow (w9.alloc (.cells #[.int .i64 3, .int .i64 4, .slice none 0 0] 64)))
          have hll13 : (L).length ≤ 2000000 := (by omega)
          go_wp2_with (at_builtin; refine wpList_append_part rfl (.tmp 61) (.tmp 64) rfl w0.heap.size _ (.slice A L.length c) (L) b HS.out.ow rfl hll13 w9.heap.size _ ⟨3, 4, []⟩ (.slice none 0 0) [] rfl HN13.out HU13.out (by simp) (by simp) (by simp) ?_; intro Ap13 cp13 w13 b13 o13 in13 g13 bl13)
          replace HS := Lib.hid (HS.out.app (left' := (left - 4)) (room' := room) o13 g13 bl13 (okPt_drop (by omega) (by omega)) (by simp [keepOf, dropOf]; omega) (by simp [putOf]))
          clear o13 in13 g13 bl13 bA13 HN13 HU13 hll13
          refine ⟨?_, by simp [slen]; omega⟩
          unfold DrI
          iterate 67 apply Exists.intro
          refine ⟨⟨_, _, _, _, HS.out, ?_, ?_, ?_⟩, rfl⟩
          · simp; omega
          · first | rfl | (congr 1; omega)
          · first | rfl | (congr 1; omega)
        · have hm2 : 40 < L.length + 1 := by omega
          have bA14 := alloc_below w9 (.cells #[.int .i64 3, .int .i64 4, .slice none 0 0] 64)
          have HN14 := Lib.hid (heap_alloc_new w9 (.cells #[.int .i64 3, .int .i64 4, .slice none 0 0] 64))
          replace HS := Lib.hid (HS.out.past bA14)
          have HU14 := Lib.hid (nil_ow (w9.alloc (.cells #[.int .i64 3, .int .i64 4, .slice none 0 0] 64)))
          have hll14 : (L).length ≤ 2000000 := (by omega)
          go_wp2_with (first | (at_builtin; refine wpList_append_part rfl (.tmp 61) (.tmp 64) rfl w0.heap.size _ (.slice A L.length c) (L) b HS.out.ow rfl hll14 w9.heap.size _ ⟨3, 4, []⟩ (.slice none 0 0) [] rfl HN14.out HU14.out (by simp) (by simp) (by simp) ?_; intro Ap14 cp14 w14 b14 o14 in14 g14 bl14; replace HS := Lib.hid (HS.out.app (left' := (left - 4)) (room' := room) o14 g14 bl14 (okPt_drop (by omega) (by omega)) (by simp [keepOf, dropOf]; omega) (by simp [putOf])); clear o14 in14 g14 bl14 bA14 HN14 HU14 hll14; have bA15 := alloc_below w14 (.cells #[.int .i64 1, .int .i64 ((left : Int) - 4), .slice none 0 0] 64); have HN15 := Lib.hid (heap_alloc_new w14 (.cells #[.int .i64 1, .int .i64 ((left : Int) - 4), .slice none 0 0] 64)); replace HS := Lib.hid (HS.out.past bA15); have HU15 := Lib.hid (nil_ow (w14.alloc (.cells #[.int .i64 1, .int .i64 ((left : Int) - 4), .slice none 0 0] 64))); have hll15 : (L ++ [(⟨3, 4, []⟩ : Pt)]).length ≤ 2000000 := (by rw [List.length_append]; show L.length + 1 ≤ 2000000; omega)) | (at_builtin; refine wpList_append_part rfl (.tmp 69) (.tmp 72) rfl w0.heap.size _ (.slice Ap14 (L.length + 1) cp14) (L ++ [(⟨3, 4, []⟩ : Pt)]) b14 HS.out.ow rfl hll15 w14.heap.size _ ⟨1, ((left : Int) - 4), []⟩ (.slice none 0 0) [] rfl HN15.out HU15.out (by simp) (by simp) (by simp) ?_; intro Ap15 cp15 w15 b15 o15 in15 g15 bl15))
          replace HS := Lib.hid (HS.out.app (left' := 0) (room' := room) o15 g15 bl15 (okPt_keep (by omega) (by omega)) (by first | (simp [keepOf, dropOf]; done) | (simp [keepOf, dropOf]; omega)) (by simp [putOf]))
          clear o15 in15 g15 bl15 bA15 HN15 HU15 hll15
          have HSx := HS.out
          rw [List.length_append] at HSx
          have HR : DrX B g w0 n _ _ := ⟨_, _, _, HSx, by simp; omega⟩
          unfold DrE
          iterate 67 apply Exists.intro
          exact ⟨HR, rfl⟩
    · have hx1b : (x1 == 1) = false := by simp [hx1]
      clear hx0 hx1
      go_wp2_with fail
      refine (specBelow_d B g ((left : Int) + 1) _ HS.out.dc (by omega)).mono ?_
      rintro e w16 ⟨m16, rfl, ⟨ma16, mb16, _⟩, dc16, fr16, bl16⟩
      replace HS := Lib.hid (HS.out.draw dc16 fr16 bl16)
      clear dc16 fr16 bl16
      have mb16 := mb16 (by omega)
      obtain ⟨d, rfl⟩ := Int.eq_ofNat_of_zero_le ma16
      by_cases hm : L.length + 1 ≤ 40
      · have hm2 : ¬ 40 < L.length + 1 := by omega
        have bA17 := alloc_below w16 (.cells #[.int .i64 1, .int .i64 (d : Int), .slice none 0 0] 64)
        have HN17 := Lib.hid (heap_alloc_new w16 (.cells #[.int .i64 1, .int .i64 (d : Int), .slice none 0 0] 64))
        replace HS := Lib.hid (HS.out.past bA17)
        have HU17 := Lib.hid (nil_ow (w16.alloc (.cells #[.int .i64 1, .int .i64 (d : Int), .slice none 0 0] 64)))
        have hll17 : (L).length ≤ 2000000 := (by omega)
        go_wp2_with (at_builtin; refine wpList_append_part rfl (.tmp 28) (.tmp 31) rfl w0.heap.size _ (.slice A L.length c) (L) b HS.out.ow rfl hll17 w16.heap.size _ ⟨1, (d : Int), []⟩ (.slice none 0 0) [] rfl HN17.out HU17.out (by simp) (by simp) (by simp) ?_; intro Ap17 cp17 w17 b17 o17 in17 g17 bl17)
        replace HS := Lib.hid (HS.out.app (left' := (left - d)) (room' := room) o17 g17 bl17 (okPt_keep (by omega) (by omega)) (by simp [keepOf, dropOf]; omega) (by simp [putOf]))
        clear o17 in17 g17 bl17 bA17 HN17 HU17 hll17
        refine ⟨?_, by simp [slen]; omega⟩
        unfold DrI
        iterate 67 apply Exists.intro
        refine ⟨⟨_, _, _, _, HS.out, ?_, ?_, ?_⟩, rfl⟩
        · simp; omega
        · first | rfl | (congr 1; omega)
        · first | rfl | (congr 1; omega)
      · have hm2 : 40 < L.length + 1 := by omega
        have bA18 := alloc_below w16 (.cells #[.int .i64 1, .int .i64 (d : Int), .slice none 0 0] 64)
        have HN18 := Lib.hid (heap_alloc_new w16 (.cells #[.int .i64 1, .int .i64 (d : Int), .slice none 0 0] 64))
        replace HS := Lib.hid (HS.out.past bA18)
        have HU18 := Lib.hid (nil_ow (w16.alloc (.cells #[.int .i64 1, .int .i64 (d : Int), .slice none 0 0] 64)))
        have hll18 : (L).length ≤ 2000000 := (by omega)
        go_wp2_with (first | (at_builtin; refine wpList_append_part rfl (.tmp 28) (.tmp 31) rfl w0.heap.size _ (.slice A L.length c) (L) b HS.out.ow rfl hll18 w16.heap.size _ ⟨1, (d : Int), []⟩ (.slice none 0 0) [] rfl HN18.out HU18.out (by simp) (by simp) (by simp) ?_; intro Ap18 cp18 w18 b18 o18 in18 g18 bl18; replace HS := Lib.hid (HS.out.app (left' := (left - d)) (room' := room) o18 g18 bl18 (okPt_keep (by omega) (by omega)) (by simp [keepOf, dropOf]; omega) (by simp [putOf])); clear o18 in18 g18 bl18 bA18 HN18 HU18 hll18; have bA19 := alloc_below w18 (.cells #[.int .i64 1, .int .i64 ((left : Int) - (d : Int)), .slice none 0 0] 64); have HN19 := Lib.hid (heap_alloc_new w18 (.cells #[.int .i64 1, .int .i64 ((left : Int) - (d : Int)), .slice none 0 0] 64)); replace HS := Lib.hid (HS.out.past bA19); have HU19 := Lib.hid (nil_ow (w18.alloc (.cells #[.int .i64 1, .int .i64 ((left : Int) - (d : Int)), .slice none 0 0] 64))); have hll19 : (L ++ [(⟨1, (d : Int), []⟩ : Pt)]).length ≤ 2000000 := (by rw [List.length_append]; show L.length + 1 ≤ 2000000; omega)) | (at_builtin; refine wpList_append_part rfl (.tmp 69) (.tmp 72) rfl w0.heap.size _ (.slice Ap18 (L.length + 1) cp18) (L ++ [(⟨1, (d : Int), []⟩ : Pt)]) b18 HS.out.ow rfl hll19 w18.heap.size _ ⟨1, ((left : Int) - (d : Int)), []⟩ (.slice none 0 0) [] rfl HN19.out HU19.out (by simp) (by simp) (by simp) ?_; intro Ap19 cp19 w19 b19 o19 in19 g19 bl19))
        replace HS := Lib.hid (HS.out.app (left' := 0) (room' := room) o19 g19 bl19 (okPt_keep (by omega) (by omega)) (by first | (simp [keepOf, dropOf]; done) | (simp [keepOf, dropOf]; omega)) (by simp [putOf]))
        clear o19 in19 g19 bl19 bA19 HN19 HU19 hll19
        have HSx := HS.out
        rw [List.length_append] at HSx
        have HR : DrX B g w0 n _ _ := ⟨_, _, _, HSx, by simp; omega⟩
        unfold DrE
        iterate 67 apply Exists.intro
        exact ⟨HR, rfl⟩
set_option maxRecDepth 1000000 in
set_option maxHeartbeats 6400000 in
theorem drZ (B g : Nat) (w0 wr : World) (n : Nat) (hn : n ≤ 150) (A : Option Addr) (c left room : Nat) (L : List Pt) (b : List Nat) (c1 c2 c3 c4 c11 c12 c74 u8 u9 u10 u13 u14 u15 u16 u17 u18 u19 u20 u21 u22 u23 u24 u25 u26 u27 u28 u29 u30 u31 u32 u33 u34 u35 u36 u37 u38 u39 u40 u41 u42 u43 u44 u45 u46 u47 u48 u49 u50 u51 u52 u53 u54 u55 u56 u57 u58 u59 u60 u61 u62 u63 u64 u65 u66 u67 u68 u69 u70 u71 u72 u73 : Value) (Q0 : Exit → Act → World → Prop) (hs : DS B g w0 n (.slice A L.length c) left room L b wr) (hL : L.length ≤ 40) (hl0 : ¬ 0 < left) (hexit : ∀ a w, DrE B g w0 n c1 c2 c3 c4 c11 c12 c74 a w → Q0 (.exit 0) a w) :
    Code.wp Tryd.prog drBody (Exit.then (fun a' w'' => DrI B g w0 n c1 c2 c3 c4 c11 c12 c74 a' w'' ∧ 41 - slen (a'.tmps.getD 5 undef) < 41 - L.length) Q0) ⟨#[.pointer (some ⟨g, 0, none⟩), c1, c2, c3, c4, .slice A L.length c, .int .i64 (left : Int), .int .i64 (room : Int), u8, u9, u10, c11, c12, u13, u14, u15, u16, u17, u18, u19, u20, u21, u22, u23, u24, u25, u26, u27, u28, u29, u30, u31, u32, u33, u34, u35, u36, u37, u38, u39, u40, u41, u42, u43, u44, u45, u46, u47, u48, u49, u50, u51, u52, u53, u54, u55, u56, u57, u58, u59, u60, u61, u62, u63, u64, u65, u66, u67, u68, u69, u70, u71, u72, u73, c74], []⟩ wr := by
  have hb1 : (left : Int) ≤ n := by have := hs.sum; have q1 := sumOf_nonneg hs.ok; omega
  have hb2 : (room : Int) ≤ 12 := by have := hs.puts; have q1 := sumOf_nonneg hs.ok; omega
  have HS := Lib.hid hs
  clear hs
  conv => arg 2; whnf
  go_wp2_with fail
  refine (specOnce_d B g 3 _ HS.out.dc (by omega)).mono ?_
  rintro e w1 ⟨q1, rfl, dc1, fr1, bl1⟩
  replace HS := Lib.hid (HS.out.draw dc1 fr1 bl1)
  clear dc1 fr1 bl1
  cases q1
  · go_wp2
    have e0 : left = 0 := by omega
    have HS0 := HS.out
    rw [e0] at HS0
    have HR : DrX B g w0 n _ _ := ⟨_, _, _, HS0, by omega⟩
    unfold DrE
    iterate 67 apply Exists.intro
    exact ⟨HR, rfl⟩
  go_wp2_with fail
  refine (specBelow_d B g 4 _ HS.out.dc (by omega)).mono ?_
  rintro e w2 ⟨x2, rfl, ⟨xa2, xb2, _⟩, dc2, fr2, bl2⟩
  replace HS := Lib.hid (HS.out.draw dc2 fr2 bl2)
  clear dc2 fr2 bl2
  have xb2 := xb2 (by omega)
  by_cases hx0 : x2 = 0
  · subst hx0
    go_wp2_with fail
    refine (specSigns_d B g 3 _ HS.out.dc (by omega)).mono ?_
    rintro e w3 ⟨t3, v3, s3, rfl, tl3, ta3, to3, dc3, fr3, bl3⟩
    have HOLD := HS.out.ow
    have HSZ := HS.out.fr.size
    replace HS := Lib.hid (HS.out.draw dc3 fr3 bl3)
    have HT3 := Lib.hid to3
    have HTA3 := Lib.hid ta3
    obtain ⟨At3, ct3, rfl⟩ := sliceI to3.read
    have HSR3 := Lib.hid (show ∀ q ∈ b, q ∉ s3 from fun q hq hq' => by have q1 := (HOLD.rng q hq).2; have q2 := (to3.rng q hq').1; omega)
    clear HOLD to3 ta3
    clear dc3 fr3 bl3
    by_cases hr : t3.length ≤ room
    · have hr2 : ¬ room < t3.length := by omega
      by_cases hm : L.length + 1 ≤ 40
      · have hm2 : ¬ 40 < L.length + 1 := by omega
        have bA4 := alloc_below w3 (.cells #[.int .i64 2, .int .i64 0, .slice At3 t3.length ct3] 64)
        have HN4 := Lib.hid (heap_alloc_new w3 (.cells #[.int .i64 2, .int .i64 0, .slice At3 t3.length ct3] 64))
        replace HS := Lib.hid (HS.out.past bA4)
        have HU4 := Lib.hid ((HT3.out.past bA4).ow)
        have hll4 : (L).length ≤ 2000000 := (by omega)
        go_wp2_with (at_builtin; refine wpList_append_part rfl (.tmp 45) (.tmp 48) rfl w0.heap.size _ (.slice A L.length c) (L) b HS.out.ow rfl hll4 w3.heap.size _ ⟨2, 0, t3⟩ (.slice At3 t3.length ct3) s3 rfl HN4.out HU4.out HT3.out.nd HSR3.out (fun q hq => by have q1 := (HT3.out.rng q hq).1; omega) ?_; intro Ap4 cp4 w4 b4 o4 in4 g4 bl4)
        replace HS := Lib.hid (HS.out.app (left' := left) (room' := (room - t3.length)) o4 g4 bl4 (okPt_put (by omega) HTA3.out) (by simp [keepOf, dropOf]) (by simp [putOf]; omega))
        clear o4 in4 g4 bl4 bA4 HN4 HU4 hll4
        refine ⟨?_, by simp [slen]; omega⟩
        unfold DrI
        iterate 67 apply Exists.intro
        refine ⟨⟨_, _, _, _, HS.out, ?_, ?_, ?_⟩, rfl⟩
        · simp; omega
        · first | rfl | (congr 1; omega)
        · first | rfl | (congr 1; omega)
      · have hm2 : 40 < L.length + 1 := by omega
        have bA5 := alloc_below w3 (.cells #[.int .i64 2, .int .i64 0, .slice At3 t3.length ct3] 64)
        have HN5 := Lib.hid (heap_alloc_new w3 (.cells #[.int .i64 2, .int .i64 0, .slice At3 t3.length ct3] 64))
        replace HS := Lib.hid (HS.out.past bA5)
        have HU5 := Lib.hid ((HT3.out.past bA5).ow)
        have hll5 : (L).length ≤ 2000000 := (by omega)
        go_wp2_with (first | (at_builtin; refine wpList_append_part rfl (.tmp 45) (.tmp 48) rfl w0.heap.size _ (.slice A L.length c) (L) b HS.out.ow rfl hll5 w3.heap.size _ ⟨2, 0, t3⟩ (.slice At3 t3.length ct3) s3 rfl HN5.out HU5.out HT3.out.nd HSR3.out (fun q hq => by have q1 := (HT3.out.rng q hq).1; omega) ?_; intro Ap5 cp5 w5 b5 o5 in5 g5 bl5; replace HS := Lib.hid (HS.out.app (left' := left) (room' := (room - t3.length)) o5 g5 bl5 (okPt_put (by omega) HTA3.out) (by simp [keepOf, dropOf]) (by simp [putOf]; omega)); clear o5 in5 g5 bl5 bA5 HN5 HU5 hll5; have bA6 := alloc_below w5 (.cells #[.int .i64 1, .int .i64 (left : Int), .slice none 0 0] 64); have HN6 := Lib.hid (heap_alloc_new w5 (.cells #[.int .i64 1, .int .i64 (left : Int), .slice none 0 0] 64)); replace HS := Lib.hid (HS.out.past bA6); have HU6 := Lib.hid (nil_ow (w5.alloc (.cells #[.int .i64 1, .int .i64 (left : Int), .slice none 0 0] 64))); have hll6 : (L ++ [(⟨2, 0, t3⟩ : Pt)]).length ≤ 2000000 := (by rw [List.length_append]; show L.length + 1 ≤ 2000000; omega)) | (at_builtin; refine wpList_append_part rfl (.tmp 69) (.tmp 72) rfl w0.heap.size _ (.slice Ap5 (L.length + 1) cp5) (L ++ [(⟨2, 0, t3⟩ : Pt)]) b5 HS.out.ow rfl hll6 w5.heap.size _ ⟨1, (left : Int), []⟩ (.slice none 0 0) [] rfl HN6.out HU6.out (by simp) (by simp) (by simp) ?_; intro Ap6 cp6 w6 b6 o6 in6 g6 bl6))
        replace HS := Lib.hid (HS.out.app (left' := 0) (room' := (room - t3.length)) o6 g6 bl6 (okPt_keep (by omega) (by omega)) (by first | (simp [keepOf, dropOf]; done) | (simp [keepOf, dropOf]; omega)) (by simp [putOf]))
        clear o6 in6 g6 bl6 bA6 HN6 HU6 hll6
        have HSx := HS.out
        rw [List.length_append] at HSx
        have HR : DrX B g w0 n _ _ := ⟨_, _, _, HSx, by simp; omega⟩
        unfold DrE
        iterate 67 apply Exists.intro
        exact ⟨HR, rfl⟩
    · have hr2 : room < t3.length := by omega
      by_cases hm : L.length + 1 ≤ 40
      · have hm2 : ¬ 40 < L.length + 1 := by omega
        have bA7 := alloc_below w3 (.cells #[.int .i64 2, .int .i64 0, .slice none 0 0] 64)
        have HN7 := Lib.hid (heap_alloc_new w3 (.cells #[.int .i64 2, .int .i64 0, .slice none 0 0] 64))
        replace HS := Lib.hid (HS.out.past bA7)
        have HU7 := Lib.hid (nil_ow (w3.alloc (.cells #[.int .i64 2, .int .i64 0, .slice none 0 0] 64)))
        have hll7 : (L).length ≤ 2000000 := (by omega)
        go_wp2_with (at_builtin; refine wpList_append_part rfl (.tmp 45) (.tmp 48) rfl w0.heap.size _ (.slice A L.length c) (L) b HS.out.ow rfl hll7 w3.heap.size _ ⟨2, 0, []⟩ (.slice none 0 0) [] rfl HN7.out HU7.out (by simp) (by simp) (by simp) ?_; intro Ap7 cp7 w7 b7 o7 in7 g7 bl7)
        replace HS := Lib.hid (HS.out.app (left' := left) (room' := room) o7 g7 bl7 (okPt_put (by simp) rfl) (by simp [keepOf, dropOf]) (by simp [putOf]))
        clear o7 in7 g7 bl7 bA7 HN7 HU7 hll7
        refine ⟨?_, by simp [slen]; omega⟩
        unfold DrI
        iterate 67 apply Exists.intro
        refine ⟨⟨_, _, _, _, HS.out, ?_, ?_, ?_⟩, rfl⟩
        · simp; omega
        · first | rfl | (congr 1; omega)
        · first | rfl | (congr 1; omega)
      · have hm2 : 40 < L.length + 1 := by omega
        have bA8 := alloc_below w3 (.cells #[.int .i64 2, .int .i64 0, .slice none 0 0] 64)
        have HN8 := Lib.hid (heap_alloc_new w3 (.cells #[.int .i64 2, .int .i64 0, .slice none 0 0] 64))
        replace HS := Lib.hid (HS.out.past bA8)
        have HU8 := Lib.hid (nil_ow (w3.alloc (.cells #[.int .i64 2, .int .i64 0, .slice none 0 0] 64)))
        have hll8 : (L).length ≤ 2000000 := (by omega)
        go_wp2_with (first | (at_builtin; refine wpList_append_part rfl (.tmp 45) (.tmp 48) rfl w0.heap.size _ (.slice A L.length c) (L) b HS.out.ow rfl hll8 w3.heap.size _ ⟨2, 0, []⟩ (.slice none 0 0) [] rfl HN8.out HU8.out (by simp) (by simp) (by simp) ?_; intro Ap8 cp8 w8 b8 o8 in8 g8 bl8; replace HS := Lib.hid (HS.out.app (left' := left) (room' := room) o8 g8 bl8 (okPt_put (by simp) rfl) (by simp [keepOf, dropOf]) (by simp [putOf])); clear o8 in8 g8 bl8 bA8 HN8 HU8 hll8; have bA9 := alloc_below w8 (.cells #[.int .i64 1, .int .i64 (left : Int), .slice none 0 0] 64); have HN9 := Lib.hid (heap_alloc_new w8 (.cells #[.int .i64 1, .int .i64 (left : Int), .slice none 0 0] 64)); replace HS := Lib.hid (HS.out.past bA9); have HU9 := Lib.hid (nil_ow (w8.alloc (.cells #[.int .i64 1, .int .i64 (left : Int), .slice none 0 0] 64))); have hll9 : (L ++ [(⟨2, 0, []⟩ : Pt)]).length ≤ 2000000 := (by rw [List.length_append]; show L.length + 1 ≤ 2000000; omega)) | (at_builtin; refine wpList_append_part rfl (.tmp 69) (.tmp 72) rfl w0.heap.size _ (.slice Ap8 (L.length + 1) cp8) (L ++ [(⟨2, 0, []⟩ : Pt)]) b8 HS.out.ow rfl hll9 w8.heap.size _ ⟨1, (left : Int), []⟩ (.slice none 0 0) [] rfl HN9.out HU9.out (by simp) (by simp) (by simp) ?_; intro Ap9 cp9 w9 b9 o9 in9 g9 bl9))
        replace HS := Lib.hid (HS.out.app (left' := 0) (room' := room) o9 g9 bl9 (okPt_keep (by omega) (by omega)) (by first | (simp [keepOf, dropOf]; done) | (simp [keepOf, dropOf]; omega)) (by simp [putOf]))
        clear o9 in9 g9 bl9 bA9 HN9 HU9 hll9
        have HSx := HS.out
        rw [List.length_append] at HSx
        have HR : DrX B g w0 n _ _ := ⟨_, _, _, HSx, by simp; omega⟩
        unfold DrE
        iterate 67 apply Exists.intro
        exact ⟨HR, rfl⟩
  · have hx0b : (x2 == 0) = false := by simp [hx0]
    by_cases hx1 : x2 = 1
    · subst hx1
      clear hx0 hx0b
      go_wp2_with fail
      refine (specBelow_d B g ((left : Int) + 1) _ HS.out.dc (by omega)).mono ?_
      rintro e w10 ⟨m10, rfl, ⟨ma10, mb10, _⟩, dc10, fr10, bl10⟩
      replace HS := Lib.hid (HS.out.draw dc10 fr10 bl10)
      clear dc10 fr10 bl10
      have mb10 := mb10 (by omega)
      obtain ⟨d, rfl⟩ := Int.eq_ofNat_of_zero_le ma10
      by_cases h4 : d ≤ 4
      · have h4b : ¬ 4 < d := by omega
        by_cases hm : L.length + 1 ≤ 40
        · have hm2 : ¬ 40 < L.length + 1 := by omega
          have bA11 := alloc_below w10 (.cells #[.int .i64 3, .int .i64 (d : Int), .slice none 0 0] 64)
          have HN11 := Lib.hid (heap_alloc_new w10 (.cells #[.int .i64 3, .int .i64 (d : Int), .slice none 0 0] 64))
          replace HS := Lib.hid (HS.out.past bA11)
          have HU11 := Lib.hid (nil_ow (w10.alloc (.cells #[.int .i64 3, .int .i64 (d : Int), .slice none 0 0] 64)))
          have hll11 : (L).length ≤ 2000000 := (by omega)
          go_wp2_with (at_builtin; refine wpList_append_part rfl (.tmp 61) (.tmp 64) rfl w0.heap.size _ (.slice A L.length c) (L) b HS.out.ow rfl hll11 w10.heap.size _ ⟨3, (d : Int), []⟩ (.slice none 0 0) [] rfl HN11.out HU11.out (by simp) (by simp) (by simp) ?_; intro Ap11 cp11 w11 b11 o11 in11 g11 bl11)
          replace HS := Lib.hid (HS.out.app (left' := (left - d)) (room' := room) o11 g11 bl11 (okPt_drop (by omega) (by omega)) (by simp [keepOf, dropOf]; omega) (by simp [putOf]))
          clear o11 in11 g11 bl11 bA11 HN11 HU11 hll11
          refine ⟨?_, by simp [slen]; omega⟩
          unfold DrI
          iterate 67 apply Exists.intro
          refine ⟨⟨_, _, _, _, HS.out, ?_, ?_, ?_⟩, rfl⟩
          · simp; omega
          · first | rfl | (congr 1; omega)
          · first | rfl | (congr 1; omega)
        · have hm2 : 40 < L.length + 1 := by omega
          have bA12 := alloc_below w10 (.cells #[.int .i64 3, .int .i64 (d : Int), .slice none 0 0] 64)
          have HN12 := Lib.hid (heap_alloc_new w10 (.cells #[.int .i64 3, .int .i64 (d : Int), .slice none 0 0] 64))
          replace HS := Lib.hid (HS.out.past bA12)
          have HU12 := Lib.hid (nil_ow (w10.alloc (.cells #[.int .i64 3, .int .i64 (d : Int), .slice none 0 0] 64)))
          have hll12 : (L).length ≤ 2000000 := (by omega)
          go_wp2_with (first | (at_builtin; refine wpList_append_part rfl (.tmp 61) (.tmp 64) rfl w0.heap.size _ (.slice A L.length c) (L) b HS.out.ow rfl hll12 w10.heap.size _ ⟨3, (d : Int), []⟩ (.slice none 0 0) [] rfl HN12.out HU12.out (by simp) (by simp) (by simp) ?_; intro Ap12 cp12 w12 b12 o12 in12 g12 bl12; replace HS := Lib.hid (HS.out.app (left' := (left - d)) (room' := room) o12 g12 bl12 (okPt_drop (by omega) (by omega)) (by simp [keepOf, dropOf]; omega) (by simp [putOf])); clear o12 in12 g12 bl12 bA12 HN12 HU12 hll12; have bA13 := alloc_below w12 (.cells #[.int .i64 1, .int .i64 ((left : Int) - (d : Int)), .slice none 0 0] 64); have HN13 := Lib.hid (heap_alloc_new w12 (.cells #[.int .i64 1, .int .i64 ((left : Int) - (d : Int)), .slice none 0 0] 64)); replace HS := Lib.hid (HS.out.past bA13); have HU13 := Lib.hid (nil_ow (w12.alloc (.cells #[.int .i64 1, .int .i64 ((left : Int) - (d : Int)), .slice none 0 0] 64))); have hll13 : (L ++ [(⟨3, (d : Int), []⟩ : Pt)]).length ≤ 2000000 := (by rw [List.length_append]; show L.length + 1 ≤ 2000000; omega)) | (at_builtin; refine wpList_append_part rfl (.tmp 69) (.tmp 72) rfl w0.heap.size _ (.slice Ap12 (L.length + 1) cp12) (L ++ [(⟨3, (d : Int), []⟩ : Pt)]) b12 HS.out.ow rfl hll13 w12.heap.size _ ⟨1, ((left : Int) - (d : Int)), []⟩ (.slice none 0 0) [] rfl HN13.out HU13.out (by simp) (by simp) (by simp) ?_; intro Ap13 cp13 w13 b13 o13 in13 g13 bl13))
          replace HS := Lib.hid (HS.out.app (left' := 0) (room' := room) o13 g13 bl13 (okPt_keep (by omega) (by omega)) (by first | (simp [keepOf, dropOf]; done) | (simp [keepOf, dropOf]; omega)) (by simp [putOf]))
          clear o13 in13 g13 bl13 bA13 HN13 HU13 hll13
          have HSx := HS.out
          rw [List.length_append] at HSx
          have HR : DrX B g w0 n _ _ := ⟨_, _, _, HSx, by simp; omega⟩
          unfold DrE
          iterate 67 apply Exists.intro
          exact ⟨HR, rfl⟩
      · exfalso
        omega
    · have hx1b : (x2 == 1) = false := by simp [hx1]
      clear hx0 hx1
      go_wp2_with fail
      refine (specBelow_d B g ((left : Int) + 1) _ HS.out.dc (by omega)).mono ?_
      rintro e w14 ⟨m14, rfl, ⟨ma14, mb14, _⟩, dc14, fr14, bl14⟩
      replace HS := Lib.hid (HS.out.draw dc14 fr14 bl14)
      clear dc14 fr14 bl14
      have mb14 := mb14 (by omega)
      obtain ⟨d, rfl⟩ := Int.eq_ofNat_of_zero_le ma14
      by_cases hm : L.length + 1 ≤ 40
      · have hm2 : ¬ 40 < L.length + 1 := by omega
        have bA15 := alloc_below w14 (.cells #[.int .i64 1, .int .i64 (d : Int), .slice none 0 0] 64)
        have HN15 := Lib.hid (heap_alloc_new w14 (.cells #[.int .i64 1, .int .i64 (d : Int), .slice none 0 0] 64))
        replace HS := Lib.hid (HS.out.past bA15)
        have HU15 := Lib.hid (nil_ow (w14.alloc (.cells #[.int .i64 1, .int .i64 (d : Int), .slice none 0 0] 64)))
        have hll15 : (L).length ≤ 2000000 := (by omega)
        go_wp2_with (at_builtin; refine wpList_append_part rfl (.tmp 28) (.tmp 31) rfl w0.heap.size _ (.slice A L.length c) (L) b HS.out.ow rfl hll15 w14.heap.size _ ⟨1, (d : Int), []⟩ (.slice none 0 0) [] rfl HN15.out HU15.out (by simp) (by simp) (by simp) ?_; intro Ap15 cp15 w15 b15 o15 in15 g15 bl15)
        replace HS := Lib.hid (HS.out.app (left' := (left - d)) (room' := room) o15 g15 bl15 (okPt_keep (by omega) (by omega)) (by simp [keepOf, dropOf]; omega) (by simp [putOf]))
        clear o15 in15 g15 bl15 bA15 HN15 HU15 hll15
        refine ⟨?_, by simp [slen]; omega⟩
        unfold DrI
        iterate 67 apply Exists.intro
        refine ⟨⟨_, _, _, _, HS.out, ?_, ?_, ?_⟩, rfl⟩
        · simp; omega
        · first | rfl | (congr 1; omega)
        · first | rfl | (congr 1; omega)
      · have hm2 : 40 < L.length + 1 := by omega
        have bA16 := alloc_below w14 (.cells #[.int .i64 1, .int .i64 (d : Int), .slice none 0 0] 64)
        have HN16 := Lib.hid (heap_alloc_new w14 (.cells #[.int .i64 1, .int .i64 (d : Int), .slice none 0 0] 64))
        replace HS := Lib.hid (HS.out.past bA16)
        have HU16 := Lib.hid (nil_ow (w14.alloc (.cells #[.int .i64 1, .int .i64 (d : Int), .slice none 0 0] 64)))
        have hll16 : (L).length ≤ 2000000 := (by omega)
        go_wp2_with (first | (at_builtin; refine wpList_append_part rfl (.tmp 28) (.tmp 31) rfl w0.heap.size _ (.slice A L.length c) (L) b HS.out.ow rfl hll16 w14.heap.size _ ⟨1, (d : Int), []⟩ (.slice none 0 0) [] rfl HN16.out HU16.out (by simp) (by simp) (by simp) ?_; intro Ap16 cp16 w16 b16 o16 in16 g16 bl16; replace HS := Lib.hid (HS.out.app (left' := (left - d)) (room' := room) o16 g16 bl16 (okPt_keep (by omega) (by omega)) (by simp [keepOf, dropOf]; omega) (by simp [putOf])); clear o16 in16 g16 bl16 bA16 HN16 HU16 hll16; have bA17 := alloc_below w16 (.cells #[.int .i64 1, .int .i64 ((left : Int) - (d : Int)), .slice none 0 0] 64); have HN17 := Lib.hid (heap_alloc_new w16 (.cells #[.int .i64 1, .int .i64 ((left : Int) - (d : Int)), .slice none 0 0] 64)); replace HS := Lib.hid (HS.out.past bA17); have HU17 := Lib.hid (nil_ow (w16.alloc (.cells #[.int .i64 1, .int .i64 ((left : Int) - (d : Int)), .slice none 0 0] 64))); have hll17 : (L ++ [(⟨1, (d : Int), []⟩ : Pt)]).length ≤ 2000000 := (by rw [List.length_append]; show L.length + 1 ≤ 2000000; omega)) | (at_builtin; refine wpList_append_part rfl (.tmp 69) (.tmp 72) rfl w0.heap.size _ (.slice Ap16 (L.length + 1) cp16) (L ++ [(⟨1, (d : Int), []⟩ : Pt)]) b16 HS.out.ow rfl hll17 w16.heap.size _ ⟨1, ((left : Int) - (d : Int)), []⟩ (.slice none 0 0) [] rfl HN17.out HU17.out (by simp) (by simp) (by simp) ?_; intro Ap17 cp17 w17 b17 o17 in17 g17 bl17))
        replace HS := Lib.hid (HS.out.app (left' := 0) (room' := room) o17 g17 bl17 (okPt_keep (by omega) (by omega)) (by first | (simp [keepOf, dropOf]; done) | (simp [keepOf, dropOf]; omega)) (by simp [putOf]))
        clear o17 in17 g17 bl17 bA17 HN17 HU17 hll17
        have HSx := HS.out
        rw [List.length_append] at HSx
        have HR : DrX B g w0 n _ _ := ⟨_, _, _, HSx, by simp; omega⟩
        unfold DrE
        iterate 67 apply Exists.intro
        exact ⟨HR, rfl⟩
set_option maxRecDepth 1000000 in
set_option maxHeartbeats 1600000 in
theorem drRound (B g : Nat) (w0 : World) (n : Nat) (hn : n ≤ 150) (c1 c2 c3 c4 c11 c12 c74 : Value) (Q0 : Exit → Act → World → Prop) (hexit : ∀ a w, DrE B g w0 n c1 c2 c3 c4 c11 c12 c74 a w → Q0 (.exit 0) a w) (a : Act) (w : World) (hI : DrI B g w0 n c1 c2 c3 c4 c11 c12 c74 a w) :
    Code.wp Tryd.prog drBody (Exit.then (fun a' w'' => DrI B g w0 n c1 c2 c3 c4 c11 c12 c74 a' w'' ∧ 41 - slen (a'.tmps.getD 5 undef) < 41 - slen (a.tmps.getD 5 undef)) Q0) a w := by
  unfold DrI at hI
  obtain ⟨u5, hI⟩ := hI
  obtain ⟨u6, hI⟩ := hI
  obtain ⟨u7, hI⟩ := hI
  obtain ⟨u8, hI⟩ := hI
  obtain ⟨u9, hI⟩ := hI
  obtain ⟨u10, hI⟩ := hI
  obtain ⟨u13, hI⟩ := hI
  obtain ⟨u14, hI⟩ := hI
  obtain ⟨u15, hI⟩ := hI
  obtain ⟨u16, hI⟩ := hI
  obtain ⟨u17, hI⟩ := hI
  obtain ⟨u18, hI⟩ := hI
  obtain ⟨u19, hI⟩ := hI
  obtain ⟨u20, hI⟩ := hI
  obtain ⟨u21, hI⟩ := hI
  obtain ⟨u22, hI⟩ := hI
  obtain ⟨u23, hI⟩ := hI
  obtain ⟨u24, hI⟩ := hI
  obtain ⟨u25, hI⟩ := hI
  obtain ⟨u26, hI⟩ := hI
  obtain ⟨u27, hI⟩ := hI
  obtain ⟨u28, hI⟩ := hI
  obtain ⟨u29, hI⟩ := hI
  obtain ⟨u30, hI⟩ := hI
  obtain ⟨u31, hI⟩ := hI
  obtain ⟨u32, hI⟩ := hI
  obtain ⟨u33, hI⟩ := hI
  obtain ⟨u34, hI⟩ := hI
  obtain ⟨u35, hI⟩ := hI
  obtain ⟨u36, hI⟩ := hI
  obtain ⟨u37, hI⟩ := hI
  obtain ⟨u38, hI⟩ := hI
  obtain ⟨u39, hI⟩ := hI
  obtain ⟨u40, hI⟩ := hI
  obtain ⟨u41, hI⟩ := hI
  obtain ⟨u42, hI⟩ := hI
  obtain ⟨u43, hI⟩ := hI
  obtain ⟨u44, hI⟩ := hI
  obtain ⟨u45, hI⟩ := hI
  obtain ⟨u46, hI⟩ := hI
  obtain ⟨u47, hI⟩ := hI
  obtain ⟨u48, hI⟩ := hI
  obtain ⟨u49, hI⟩ := hI
  obtain ⟨u50, hI⟩ := hI
  obtain ⟨u51, hI⟩ := hI
  obtain ⟨u52, hI⟩ := hI
  obtain ⟨u53, hI⟩ := hI
  obtain ⟨u54, hI⟩ := hI
  obtain ⟨u55, hI⟩ := hI
  obtain ⟨u56, hI⟩ := hI
  obtain ⟨u57, hI⟩ := hI
  obtain ⟨u58, hI⟩ := hI
  obtain ⟨u59, hI⟩ := hI
  obtain ⟨u60, hI⟩ := hI
  obtain ⟨u61, hI⟩ := hI
  obtain ⟨u62, hI⟩ := hI
  obtain ⟨u63, hI⟩ := hI
  obtain ⟨u64, hI⟩ := hI
  obtain ⟨u65, hI⟩ := hI
  obtain ⟨u66, hI⟩ := hI
  obtain ⟨u67, hI⟩ := hI
  obtain ⟨u68, hI⟩ := hI
  obtain ⟨u69, hI⟩ := hI
  obtain ⟨u70, hI⟩ := hI
  obtain ⟨u71, hI⟩ := hI
  obtain ⟨u72, hI⟩ := hI
  obtain ⟨u73, hI⟩ := hI
  obtain ⟨⟨left, room, L, b, hs, hL, rfl, rfl⟩, rfl⟩ := hI
  obtain ⟨A, c, rfl⟩ := sliceP hs.ow.read
  by_cases hl : 0 < left
  · exact drP B g w0 w n hn A c left room L b c1 c2 c3 c4 c11 c12 c74 u8 u9 u10 u13 u14 u15 u16 u17 u18 u19 u20 u21 u22 u23 u24 u25 u26 u27 u28 u29 u30 u31 u32 u33 u34 u35 u36 u37 u38 u39 u40 u41 u42 u43 u44 u45 u46 u47 u48 u49 u50 u51 u52 u53 u54 u55 u56 u57 u58 u59 u60 u61 u62 u63 u64 u65 u66 u67 u68 u69 u70 u71 u72 u73 Q0 hs hL hl hexit
  · exact drZ B g w0 w n hn A c left room L b c1 c2 c3 c4 c11 c12 c74 u8 u9 u10 u13 u14 u15 u16 u17 u18 u19 u20 u21 u22 u23 u24 u25 u26 u27 u28 u29 u30 u31 u32 u33 u34 u35 u36 u37 u38 u39 u40 u41 u42 u43 u44 u45 u46 u47 u48 u49 u50 u51 u52 u53 u54 u55 u56 u57 u58 u59 u60 u61 u62 u63 u64 u65 u66 u67 u68 u69 u70 u71 u72 u73 Q0 hs hL hl hexit
set_option maxRecDepth 1000000 in
set_option maxHeartbeats 1600000 in
theorem drLoop (B g : Nat) (w0 : World) (n : Nat) (hn : n ≤ 150) (c1 c2 c3 c4 c11 c12 c74 u5 u6 u7 u8 u9 u10 u13 u14 u15 u16 u17 u18 u19 u20 u21 u22 u23 u24 u25 u26 u27 u28 u29 u30 u31 u32 u33 u34 u35 u36 u37 u38 u39 u40 u41 u42 u43 u44 u45 u46 u47 u48 u49 u50 u51 u52 u53 u54 u55 u56 u57 u58 u59 u60 u61 u62 u63 u64 u65 u66 u67 u68 u69 u70 u71 u72 u73 : Value) (Q0 : Exit → Act → World → Prop) (w : World) (hR : DrR B g w0 n u5 u6 u7 w) (hexit : ∀ a w, DrE B g w0 n c1 c2 c3 c4 c11 c12 c74 a w → Q0 (.exit 0) a w) :
    Code.wp Tryd.prog (Code.loop drBody) Q0 ⟨#[.pointer (some ⟨g, 0, none⟩), c1, c2, c3, c4, u5, u6, u7, u8, u9, u10, c11, c12, u13, u14, u15, u16, u17, u18, u19, u20, u21, u22, u23, u24, u25, u26, u27, u28, u29, u30, u31, u32, u33, u34, u35, u36, u37, u38, u39, u40, u41, u42, u43, u44, u45, u46, u47, u48, u49, u50, u51, u52, u53, u54, u55, u56, u57, u58, u59, u60, u61, u62, u63, u64, u65, u66, u67, u68, u69, u70, u71, u72, u73, c74], []⟩ w := by
  refine wp_loop (DrI B g w0 n c1 c2 c3 c4 c11 c12 c74) (fun a _ => 41 - slen (a.tmps.getD 5 undef)) ?_ (fun a w'' hI => drRound B g w0 n hn c1 c2 c3 c4 c11 c12 c74 Q0 hexit a w'' hI)
  unfold DrI
  iterate 67 apply Exists.intro
  exact ⟨hR, rfl⟩
/-- behind a draw of an operation on n characters -/
def OpP (n B g : Nat) (w : World) (e : Ending) (w' : World) : Prop := ∃ L v b, e = .returned v ∧ okOp L = true ∧ sumK L + sumD L = (n : Int) ∧ sumK L + sumP L ≤ (n : Int) + 12 ∧ sumP L ≤ 12 ∧ SmP L ∧ OwB w.heap.size w'.heap.size w' (encPs L) v b ∧ DC B g w' ∧ Fr (fun q => q = g) w w' ∧ Below B w w'
theorem drawn_ok {L : List Pt} {n room : Nat} (hok : okPs L = true) (hs : sumOf keepOf L + sumOf dropOf L + ((0 : Nat) : Int) = (n : Int)) (hp : sumOf putOf L + (room : Int) = 12) (hl : L.length ≤ 42) (hn : n ≤ 150) : okOp L = true ∧ sumK L + sumD L = (n : Int) ∧ sumK L + sumP L ≤ (n : Int) + 12 ∧ sumP L ≤ 12 ∧ SmP L := by
  have hpb : partsB L = true := by unfold partsB; rw [hok]; simp; omega
  obtain ⟨t1, t2, t3⟩ := sum_t hpb
  obtain ⟨q1, q2, q3⟩ := sumOf_nonneg hok
  have h1 : sumK L + sumD L = (n : Int) := by rw [t1, t3]; omega
  have h2 : sumK L + sumP L ≤ (n : Int) + 12 := by rw [t1, t2]; omega
  refine ⟨?_, h1, h2, by rw [t2]; omega, by omega, ?_⟩
  · unfold okOp
    rw [hpb, decide_eq_true (show sumK L + sumD L ≤ 200 by omega), decide_eq_true (show sumK L + sumP L ≤ 200 by omega)]
    rfl
  · have := signsIn_le (okPs_sz hok)
    omega
set_option maxRecDepth 1000000 in
set_option maxHeartbeats 3200000 in
theorem specDraw_d (B g n : Nat) (w : World) (h : DC B g w) (hn : n ≤ 150) : Calls Tryd.prog 50 #[.pointer (some ⟨g, 0, none⟩), .int .i64 (n : Int)] w (OpP n B g w) := by
  have hgl := h.lt
  have hBg := h.low
  go_enter Tryd.func50, Tryd.ntmps50
  go_wp2
  have bA := alloc_below w (.cells #[] 64)
  have hib : OwB w.heap.size (w.alloc (.cells #[] 64)).heap.size (w.alloc (.cells #[] 64)) (encPs []) (.slice (some ⟨w.heap.size, 0, none⟩) 0 0) [w.heap.size] :=
    ⟨⟨[], [], ⟨rfl, .inr ⟨w.heap.size, 0, #[], rfl, Nat.zero_le _, heap_alloc_new w _, Nat.le_refl _, by unfold maxLen; omega, rfl, rfl⟩⟩, ⟨rfl, rfl⟩, rfl⟩, by simp, fun x hx => by obtain rfl : x = w.heap.size := (by simpa using hx); exact ⟨Nat.le_refl _, lt_of_some (heap_alloc_new w _)⟩, Nat.le_refl _, bA.size⟩
  have hs : DS B g w n (.slice (some ⟨w.heap.size, 0, none⟩) 0 0) n 12 [] [w.heap.size] (w.alloc (.cells #[] 64)) := ⟨hib, rfl, by simp [sumOf], by simp [sumOf], h.past bA, Fr.below bA, bA.mono (by omega), hgl⟩
  have HS := Lib.hid hs
  clear hs hib bA
  refine drLoop B g w n hn _ _ _ _ _ _ _ _ _ _ _ _ _ _ _ _ _ _ _ _ _ _ _ _ _ _ _ _ _ _ _ _ _ _ _ _ _ _ _ _ _ _ _ _ _ _ _ _ _ _ _ _ _ _ _ _ _ _ _ _ _ _ _ _ _ _ _ _ _ _ _ _ _ _ _ _ ⟨n, 12, [], _, HS.out, by simp, rfl, rfl⟩ ?_
  intro act w8 hI
  clear HS
  unfold DrE at hI
  obtain ⟨u5, hI⟩ := hI
  obtain ⟨u6, hI⟩ := hI
  obtain ⟨u7, hI⟩ := hI
  obtain ⟨u8, hI⟩ := hI
  obtain ⟨u9, hI⟩ := hI
  obtain ⟨u10, hI⟩ := hI
  obtain ⟨u13, hI⟩ := hI
  obtain ⟨u14, hI⟩ := hI
  obtain ⟨u15, hI⟩ := hI
  obtain ⟨u16, hI⟩ := hI
  obtain ⟨u17, hI⟩ := hI
  obtain ⟨u18, hI⟩ := hI
  obtain ⟨u19, hI⟩ := hI
  obtain ⟨u20, hI⟩ := hI
  obtain ⟨u21, hI⟩ := hI
  obtain ⟨u22, hI⟩ := hI
  obtain ⟨u23, hI⟩ := hI
  obtain ⟨u24, hI⟩ := hI
  obtain ⟨u25, hI⟩ := hI
  obtain ⟨u26, hI⟩ := hI
  obtain ⟨u27, hI⟩ := hI
  obtain ⟨u28, hI⟩ := hI
  obtain ⟨u29, hI⟩ := hI
  obtain ⟨u30, hI⟩ := hI
  obtain ⟨u31, hI⟩ := hI
  obtain ⟨u32, hI⟩ := hI
  obtain ⟨u33, hI⟩ := hI
  obtain ⟨u34, hI⟩ := hI
  obtain ⟨u35, hI⟩ := hI
  obtain ⟨u36, hI⟩ := hI
  obtain ⟨u37, hI⟩ := hI
  obtain ⟨u38, hI⟩ := hI
  obtain ⟨u39, hI⟩ := hI
  obtain ⟨u40, hI⟩ := hI
  obtain ⟨u41, hI⟩ := hI
  obtain ⟨u42, hI⟩ := hI
  obtain ⟨u43, hI⟩ := hI
  obtain ⟨u44, hI⟩ := hI
  obtain ⟨u45, hI⟩ := hI
  obtain ⟨u46, hI⟩ := hI
  obtain ⟨u47, hI⟩ := hI
  obtain ⟨u48, hI⟩ := hI
  obtain ⟨u49, hI⟩ := hI
  obtain ⟨u50, hI⟩ := hI
  obtain ⟨u51, hI⟩ := hI
  obtain ⟨u52, hI⟩ := hI
  obtain ⟨u53, hI⟩ := hI
  obtain ⟨u54, hI⟩ := hI
  obtain ⟨u55, hI⟩ := hI
  obtain ⟨u56, hI⟩ := hI
  obtain ⟨u57, hI⟩ := hI
  obtain ⟨u58, hI⟩ := hI
  obtain ⟨u59, hI⟩ := hI
  obtain ⟨u60, hI⟩ := hI
  obtain ⟨u61, hI⟩ := hI
  obtain ⟨u62, hI⟩ := hI
  obtain ⟨u63, hI⟩ := hI
  obtain ⟨u64, hI⟩ := hI
  obtain ⟨u65, hI⟩ := hI
  obtain ⟨u66, hI⟩ := hI
  obtain ⟨u67, hI⟩ := hI
  obtain ⟨u68, hI⟩ := hI
  obtain ⟨u69, hI⟩ := hI
  obtain ⟨u70, hI⟩ := hI
  obtain ⟨u71, hI⟩ := hI
  obtain ⟨u72, hI⟩ := hI
  obtain ⟨u73, hI⟩ := hI
  obtain ⟨⟨room, L, b, hs, hL⟩, rfl⟩ := hI
  obtain ⟨A, c, rfl⟩ := sliceP hs.ow.read
  have HS := Lib.hid hs
  clear hs
  go_wp2
  go_ret
  obtain ⟨k1, k2, k3, k3b, k4⟩ := drawn_ok HS.out.ok HS.out.sum HS.out.puts hL hn
  exact ⟨L, _, b, rfl, k1, k2, k3, k3b, k4, HS.out.ow, HS.out.dc, HS.out.fr, HS.out.bl⟩

end Go.Proofs.YtbbpapaobehlcaaDoor.low


/-
  The specification's draws: the cursor made (spec.l01New), a text and two operations (spec.MakeOps), a text and a list of operations (spec.MakeList).
-/
namespace Go.Proofs.YtbbpapaobehlcaaDoor.low
open Go.RowKit
set_option linter.unusedVariables false

def NewP (w : World) (e : Ending) (w' : World) : Prop := e = .returned (.pointer (some ⟨w.heap.size, 0, none⟩)) ∧ DC w.heap.size w.heap.size w' ∧ Below w.heap.size w w'
/-- the bytes of a draw -/
def Code8 (w : World) (v : Value) : Prop := ∃ A c zs, v = .slice A zs.length c ∧ zs.length ≤ 1048576 ∧ Row (Value.int .u8) w w.heap.size A zs ∧ ∀ z ∈ zs, 0 ≤ z ∧ z < 256
set_option maxRecDepth 100000 in
set_option maxHeartbeats 1600000 in
theorem specNew_d (v : Value) (w : World) (h : Code8 w v) : Calls Tryd.prog 48 #[v] w (NewP w) := by
  obtain ⟨A, c, zs, rfl, hl, hr, hz⟩ := h
  go_enter Tryd.func48, Tryd.ntmps48
  go_wp2
  go_loop [3, 4] (fun x i => ∃ (k : Nat) (h : Int), k ≤ zs.length ∧ i = .int .i64 k ∧ x = .int .i64 h) (fun _ i => zs.length - (intOf i).toNat)
  case atStart => exact ⟨0, _, Nat.zero_le _, rfl, rfl⟩
  case round =>
    obtain ⟨k, h, hk, rfl, rfl⟩ := hrel
    have fin : NewP w (.returned (.pointer (some ⟨w.heap.size, 0, none⟩))) (w.alloc (.cells #[.slice A zs.length c, .int .i64 0, .int .i64 h] 85)) :=
      ⟨rfl, ⟨A, c, zs, 0, h, heap_alloc_new w _, hl, hr.keep (fun p hp => (alloc_below w _).cell hp), hz, Nat.le_refl _⟩, alloc_below w _⟩
    have FIN := Lib.hid fin
    clear fin
    by_cases hlt : k < zs.length
    · by_cases h4 : k < 4000
      · obtain ⟨ad, z, rfl, hb, hzk, hc⟩ := hr.at_ hlt
        have hzz := hz z (List.mem_of_getElem? hzk)
        clear hzk
        go_wp2
        go_round
        case rel => exact ⟨k + 1, _, by omega, by go_num, rfl⟩
        case measure => simp [intOf]; omega
      · go_wp2
        go_ret
        exact FIN.out
    · go_wp2
      go_ret
      exact FIN.out

/-- behind MakeOps -/
def MOps (w : World) (e : Ending) (w' : World) : Prop := ∃ t a b v1 v2 v3, e = .returned (.tuple #[v1, v2, v3]) ∧ okText t = true ∧ t.length ≤ 10 ∧ okOp a = true ∧ okOp b = true ∧ sumK a + sumD a = (t.length : Int) ∧ sumK b + sumD b = (t.length : Int) ∧ sumK a + sumP a ≤ 30 ∧ sumK b + sumP b ≤ 30 ∧ sumP a ≤ 12 ∧ sumP b ≤ 12 ∧ SmP a ∧ SmP b ∧
  RdC w' w'.heap.size (encInts t) v1 ∧ RdC w' w'.heap.size (encPs a) v2 ∧ RdC w' w'.heap.size (encPs b) v3 ∧ Below w.heap.size w w'
theorem okText_of {t : List Int} (h : allB t = true) (hl : t.length ≤ 200) : okText t = true := by unfold okText; rw [h, decide_eq_true hl]; rfl
theorem read_fr {lo hi g : Nat} {w w' : World} {d : Dat} {v : Value} {b : List Nat} (h : OwB lo hi w d v b) (hf : Fr (fun q => q = g) w w') (hg : g < lo) : RdC w' w'.heap.size d v := (h.fr hf hg).read
set_option maxHeartbeats 1600000 in
theorem specMakeOps_d (v : Value) (w : World) (h : Code8 w v) : Calls Tryd.prog 9 #[v] w (MOps w) := by
  obtain ⟨A0, c0, zs0, rfl, _⟩ : ∃ A c zs, v = .slice A (List.length (α := Int) zs) c ∧ True := by obtain ⟨A, c, zs, e, _⟩ := h; exact ⟨A, c, zs, e, trivial⟩
  go_enter Tryd.func9, Tryd.ntmps9
  go_wp2_with fail
  refine (specNew_d _ w h).mono ?_
  rintro e w1 ⟨rfl, dc, b1⟩
  have hB := b1.size
  generalize hBB : w.heap.size = B at *
  go_wp2_with fail
  refine (specSigns_d B B 10 _ dc (by omega)).mono ?_
  rintro e w2 ⟨t, vt, kt, rfl, tl, ta, ot, dc2, fr2, bl2⟩
  obtain ⟨At, ct, rfl⟩ := sliceI ot.read
  have hg1 := dc.lt
  have HT := Lib.hid ot
  have HTA := Lib.hid ta
  have hl2 := dc2.lt
  clear ot ta
  go_wp2_with fail
  refine (specDraw_d B B t.length _ dc2 (by omega)).mono ?_
  rintro e w3 ⟨a, va, ka, rfl, oa, sa1, sa2, sa3, sma, owa, dc3, fr3, bl3⟩
  obtain ⟨Aa, ca, rfl⟩ := sliceP owa.read
  have HWA := Lib.hid owa
  have HA := Lib.hid (And.intro oa (And.intro sa1 (And.intro sa2 sa3)))
  have hl3 := dc3.lt
  clear owa oa sa1
  go_wp2_with fail
  refine (specDraw_d B B t.length _ dc3 (by omega)).mono ?_
  rintro e w4 ⟨b, vb, kb, rfl, ob, sb1, sb2, sb3, smb, owb, dc4, fr4, bl4⟩
  obtain ⟨Ab, cb, rfl⟩ := sliceP owb.read
  have HWB := Lib.hid owb
  have HB := Lib.hid (And.intro ob (And.intro sb1 (And.intro sb2 sb3)))
  clear owb ob sb1
  go_wp2
  go_ret3
  exact ⟨t, a, b, _, _, _, rfl, okText_of HTA.out (by omega), by omega, HA.out.1, HB.out.1, HA.out.2.1, HB.out.2.1, by have := HA.out.2.2.1; omega, by have := HB.out.2.2.1; omega, HA.out.2.2.2, HB.out.2.2.2, sma, smb, read_fr HT.out (fr3.trans fr4) hg1, read_fr HWA.out fr4 hl2, HWB.out.read, by rw [hBB]; exact ((b1.trans bl2).trans bl3).trans bl4⟩

/-- operations one behind the other, on n characters first -/
def chain : Int → List (List Pt) → Prop
  | _, [] => True
  | n, o :: l => okOp o = true ∧ sumK o + sumD o = n ∧ sumP o ≤ 12 ∧ chain (sumK o + sumP o) l
def endN (n : Int) (l : List (List Pt)) : Int := l.foldl (fun _ o => sumK o + sumP o) n
theorem endN_snoc (n : Int) (l : List (List Pt)) (o : List Pt) : endN n (l ++ [o]) = sumK o + sumP o := by simp [endN]
theorem chain_snoc : ∀ (n : Int) (l : List (List Pt)) (o : List Pt), chain n l → okOp o = true → sumK o + sumD o = endN n l → sumP o ≤ 12 → chain n (l ++ [o])
  | n, [], o, _, h1, h2, h3 => ⟨h1, h2, h3, trivial⟩
  | n, p :: l, o, h, h1, h2, h3 => ⟨h.1, h.2.1, h.2.2.1, chain_snoc _ l o h.2.2.2 h1 h2 h3⟩
/-- behind MakeList -/
def MList (w : World) (e : Ending) (w' : World) : Prop := ∃ t l b v1 v2 v3, e = .returned (.tuple #[v1, v2, v3]) ∧ okText t = true ∧ t.length ≤ 8 ∧ chain (t.length : Int) l ∧ l.length ≤ 4 ∧ endN (t.length : Int) l ≤ 60 ∧ okOp b = true ∧ sumK b + sumD b = (t.length : Int) ∧ sumK b + sumP b ≤ 20 ∧ sumP b ≤ 12 ∧ SmPP l ∧ SmP b ∧
  RdC w' w'.heap.size (encInts t) v1 ∧ RdC w' w'.heap.size (encPss l) v2 ∧ RdC w' w'.heap.size (encPs b) v3 ∧ Below w.heap.size w w'
theorem bulk_app (l : List (List Pt)) (o : List Pt) : bulk (l ++ [o]) = bulk l + (o.length + signsIn o) := by simp [bulk]
/-- the state of MakeList's loop -/
structure ML (B g : Nat) (w0 : World) (n : Nat) (o : Value) (l : List (List Pt)) (b : List Nat) (w : World) : Prop where
  ow : OwB w0.heap.size w.heap.size w (encPss l) o b
  ch : chain (n : Int) l
  le : 0 ≤ endN (n : Int) l ∧ endN (n : Int) l ≤ (n : Int) + 12 * l.length
  bk : bulk l ≤ 130000 * l.length
  dc : DC B g w
  fr : Fr (fun q => q = g) w0 w
  bl : Below B w0 w
  lt : g < w0.heap.size
theorem op_bulk {o : List Pt} (h : okOp o = true) : o.length + signsIn o ≤ 130000 := by
  obtain ⟨_, h1, h2⟩ := okOp_units h
  have := signsIn_le h1
  omega
theorem op_nonneg {o : List Pt} (h : okOp o = true) : 0 ≤ sumK o + sumP o := by
  obtain ⟨t1, t2, _⟩ := sum_t (okOp_partsB h)
  have hok := (okOp_of h).1
  obtain ⟨q1, q2, q3⟩ := sumOf_nonneg hok
  rw [t1, t2]
  omega
end Go.Proofs.YtbbpapaobehlcaaDoor.low


/-
  The program's reader of an operation (opReader): the part at hand and the rest; more.
-/
namespace Go.Proofs.YtbbpapaobehlcaaDoor.low
open Go.RowKit
set_option linter.unusedVariables false

/-- a part as the reader holds it: valid, or the zero value -/
def Vp (p : Pt) : Prop := ((p.kind = 1 ∨ p.kind = 3) ∧ 0 ≤ p.n ∧ p.n ≤ 200 ∧ p.signs = []) ∨ (p.kind = 2 ∧ p.n = 0 ∧ p.signs.length ≤ 200) ∨ (p.kind = 0 ∧ p.n = 0 ∧ p.signs = [])
theorem Vp.of {p : Pt} (h : okPt p = true) : Vp p := by
  have := of_okPt h
  unfold Vp
  obtain ⟨k, n, zs⟩ := p
  simp only at this ⊢
  have e : zs.length = 0 → zs = [] := List.eq_nil_of_length_eq_zero
  rcases (show k = 1 ∨ k = 2 ∨ k = 3 by omega) with rfl | rfl | rfl
  · exact .inl ⟨.inl rfl, by omega, by omega, e (by omega)⟩
  · exact .inr (.inl ⟨rfl, by omega, by omega⟩)
  · exact .inl ⟨.inr rfl, by omega, by omega, e (by omega)⟩
theorem Vp.size {p : Pt} (h : Vp p) : p.n + (p.signs.length : Int) = (sizeP p : Int) ∧ sizeP p ≤ 200 ∧ 0 ≤ p.n ∧ p.n ≤ 200 ∧ p.signs.length ≤ 200 := by
  obtain ⟨k, n, zs⟩ := p
  unfold sizeP
  rcases h with ⟨h1, h2, h3, h4⟩ | ⟨h1, h2, h3⟩ | ⟨h1, h2, h3⟩ <;> simp only at * <;> subst_vars <;> simp <;> (try omega)
  rcases h1 with rfl | rfl <;> simp <;> omega
theorem Vp.sz {p : Pt} (h : Vp p) (h0 : 0 < sizeP p) : szP_ p := by
  obtain ⟨k, n, zs⟩ := p
  have hs := h.size
  unfold szP_
  rcases h with ⟨h1, h2, h3, h4⟩ | ⟨h1, h2, h3⟩ | ⟨h1, h2, h3⟩ <;> simp only at * <;> subst_vars <;> simp [sizeP] at * <;> omega
/-- the reader at block g: p at hand, ps behind it -/
structure Orr (lo g : Nat) (w : World) (p : Pt) (ps : List Pt) : Prop where
  box : ∃ B cb A c, w.heap[g]? = some (.cells #[.int .i64 p.kind, .int .i64 p.n, .slice B p.signs.length cb, .slice A ps.length c] 111 (0, 0)) ∧ RdC w lo (encInts p.signs) (.slice B p.signs.length cb) ∧ RdC w lo (encPs ps) (.slice A ps.length c)
  ge : lo ≤ g
  vp : Vp p
  vs : ∀ x ∈ ps, okPt x = true
  ln : ps.length ≤ 1048576
section
variable {lo g : Nat} {w w' : World} {p : Pt} {ps : List Pt}
theorem Orr.lt (h : Orr lo g w p ps) : g < w.heap.size := by obtain ⟨B, cb, A, c, h1, _⟩ := h.box; exact lt_of_some h1
theorem Orr.keep (h : Orr lo g w p ps) (hg : w'.heap[g]? = w.heap[g]?) (hb : Below lo w w') : Orr lo g w' p ps := by
  obtain ⟨B, cb, A, c, h1, h2, h3⟩ := h.box
  exact ⟨⟨B, cb, A, c, hg.trans h1, h2.below hb, h3.below hb⟩, h.ge, h.vp, h.vs, h.ln⟩
theorem Orr.past (h : Orr lo g w p ps) (hb : Below w.heap.size w w') : Orr lo g w' p ps :=
  h.keep (hb.block _ h.lt) (hb.mono (Nat.le_trans h.ge (Nat.le_of_lt h.lt)))
end
/-- a part of a slice of parts, with all that is known of its characters -/
theorem parts_hd {w : World} {B : Nat} {A : Option Addr} {n c : Nat} {p : Pt} {ps : List Pt} (h : RdC w B (encPs (p :: ps)) (.slice A n c)) : ∃ b off A' c', A = some ⟨b, off, none⟩ ∧ b < B ∧ ps.length + 1 ≤ c ∧ w.cell? ⟨b, off, none⟩ = some (.int .i64 p.kind) ∧ w.cell? ⟨b, off + 1, none⟩ = some (.int .i64 p.n) ∧ w.cell? ⟨b, off + 2, none⟩ = some (.slice A' p.signs.length c') ∧ RdC w B (encInts p.signs) (.slice A' p.signs.length c') ∧
    (∀ d, ps.length ≤ d → RdC w B (encPs ps) (.slice (some ⟨b, off + 3, none⟩) ps.length d)) := by
  obtain ⟨A0, c0, hv, hc, h⟩ := h
  injection hv with e1 e2 e3
  subst e1 e3
  obtain ⟨ad, hA, hb, hs, hr⟩ := h (by simp)
  obtain ⟨b, off, spot⟩ := ad
  obtain rfl : spot = none := by
    rcases hs with hs | hs
    · cases hs
    · exact hs
  obtain ⟨⟨⟨v0, h0, rfl⟩, ⟨v1, h1, rfl⟩, ⟨v2, h2, r2⟩, _⟩, hr⟩ := hr
  obtain ⟨A', c', rfl, r3, _⟩ := ints_rd r2
  rw [add_at] at h0 h1 h2
  refine ⟨b, off, A', c', hA, hb, by simpa using hc, by simpa using h0, by simpa using h1, by simpa using h2, r2, fun d hd => ⟨some ⟨b, off + 3, none⟩, d, by simp, by simpa using hd, fun _ => ⟨⟨b, off + 3, none⟩, rfl, hb, .inr rfl, ?_⟩⟩⟩
  have key : ∀ (rs : List (List Dat)) (o : Nat), RdR w B 3 ⟨b, off, none⟩ (o + 3) rs → RdR w B 3 ⟨b, off + 3, none⟩ o rs := by
    have keyL : ∀ (ds : List Dat) (o : Nat), RdL w B ⟨b, off, none⟩ (o + 3) ds → RdL w B ⟨b, off + 3, none⟩ o ds := by
      intro ds
      induction ds with
      | nil => intro o _; trivial
      | cons d ds ih =>
        intro o ⟨⟨v, h1, h2⟩, h3⟩
        refine ⟨⟨v, ?_, h2⟩, ih (o + 1) (by rw [show o + 1 + 3 = o + 3 + 1 by omega]; exact h3)⟩
        rw [add_at] at h1 ⊢
        rw [show off + 3 + o = off + (o + 3) by omega]
        exact h1
    intro rs
    induction rs with
    | nil => intro o _; trivial
    | cons r rs ih =>
      intro o ⟨h1, h2⟩
      exact ⟨keyL r o h1, ih (o + 3) (by rw [show o + 3 + 3 = o + 3 + 3 by omega]; exact h2)⟩
  exact key _ 0 hr
theorem parts_none {w : World} {B : Nat} {A : Option Addr} {c : Nat} : RdC w B (encPs []) (.slice A 0 c) := ⟨A, c, by simp, by simp, fun h => by simp at h⟩
def restOf (g : Nat) (w : World) : Nat := match w.cell? ⟨g, 3, none⟩ with
  | some (.slice _ n _) => n
  | _ => 0
theorem orr_rest {lo g : Nat} {w : World} {p : Pt} {ps : List Pt} (h : Orr lo g w p ps) : restOf g w = ps.length := by
  obtain ⟨B, cb, A, c, h1, _⟩ := h.box
  have c3 : w.cell? ⟨g, 3, none⟩ = some (.slice A ps.length c) := cell_of_row _ _ 3 _ _ _ h1
  unfold restOf
  rw [c3]
/-- behind a look for more: the reader stands at a part with something left of it, or at the end -/
def MoreP (lo g : Nat) (p : Pt) (ps : List Pt) (w : World) (e : Ending) (w' : World) : Prop := ∃ p' ps', e = .returned (.bool (decide (0 < sizeP p'))) ∧ Orr lo g w' p' ps' ∧ unitsP p' ++ units ps' = unitsP p ++ units ps ∧ (sizeP p' = 0 → ps' = []) ∧ Below lo w w' ∧ Fr (fun q => q = g) w w'
theorem ret_b {b c : Bool} (h : b = c) : Ending.returned (.bool b) = .returned (.bool c) := by rw [h]
theorem fr_set (g i : Nat) (w : World) (x : Value) : Fr (fun q => q = g) w (w.setCell ⟨g, i, none⟩ x) := (Fr.refl (fun q => q = g) w).setCell (p := ⟨g, i, none⟩) rfl x

/-- the world behind 'r.next, r.rest = r.rest[0], r.rest[1:]' -/
def nextW (g b off c k : Nat) (kind n : Int) (u : Value) (w : World) : World := ((((w.drew.setCell ⟨g, 0, none⟩ (.int .i64 kind)).setCell ⟨g, 1, none⟩ (.int .i64 n)).setCell ⟨g, 2, none⟩ u).setCell ⟨g, 3, none⟩ (.slice (if c = 1 then some ⟨b, off, none⟩ else some ⟨b, off + 3, none⟩) k (c - 1)))
theorem heap_drew (w : World) (g : Nat) : w.drew.heap[g]? = w.heap[g]? := rfl
theorem nextW_fr (g b off c k : Nat) (kind n : Int) (u : Value) (w : World) : Fr (fun q => q = g) w (nextW g b off c k kind n u w) :=
  (((((Fr.refl (fun q => q = g) w).drew).setCell (p := ⟨g, 0, none⟩) rfl _).setCell (p := ⟨g, 1, none⟩) rfl _).setCell (p := ⟨g, 2, none⟩) rfl _).setCell (p := ⟨g, 3, none⟩) rfl _
theorem nextW_below {lo g : Nat} (hg : lo ≤ g) (b off c k : Nat) (kind n : Int) (u : Value) (w : World) : Below lo w (nextW g b off c k kind n u w) :=
  (((((Below.refl lo w).drew).setCell (p := ⟨g, 0, none⟩) hg _).setCell (p := ⟨g, 1, none⟩) hg _).setCell (p := ⟨g, 2, none⟩) hg _).setCell (p := ⟨g, 3, none⟩) hg _
theorem orr_next {lo g b off c c' : Nat} {A' : Option Addr} {w : World} {q : Pt} {qs : List Pt} {v0 v1 v2 v3 : Value} (h1 : w.heap[g]? = some (.cells #[v0, v1, v2, v3] 111 (0, 0))) (hr : RdC w lo (encInts q.signs) (.slice A' q.signs.length c')) (ht : ∀ d, qs.length ≤ d → RdC w lo (encPs qs) (.slice (some ⟨b, off + 3, none⟩) qs.length d)) (hc : qs.length + 1 ≤ c) (hge : lo ≤ g)
    (hv : okPt q = true) (hvs : ∀ x ∈ qs, okPt x = true) (hln : qs.length ≤ 1048576) : Orr lo g (nextW g b off c qs.length q.kind q.n (.slice A' q.signs.length c') w) q qs := by
  have hb := nextW_below hge b off c qs.length q.kind q.n (.slice A' q.signs.length c') w
  refine ⟨⟨A', c', (if c = 1 then some ⟨b, off, none⟩ else some ⟨b, off + 3, none⟩), c - 1, ?_, hr.below hb, ?_⟩, hge, Vp.of hv, hvs, hln⟩
  · unfold nextW
    rw [heap_setCell_same _ _ _ _ _ _ (heap_setCell_same _ _ _ _ _ _ (heap_setCell_same _ _ _ _ _ _ (heap_setCell_same _ _ _ _ _ _ ((heap_drew w g).trans h1))))]
    rfl
  · by_cases e : c = 1
    · rw [if_pos e]
      obtain rfl : qs = [] := List.eq_nil_of_length_eq_zero (by omega)
      exact parts_none
    · rw [if_neg e]
      exact (ht _ (by omega)).below hb

set_option maxRecDepth 100000 in
set_option maxHeartbeats 3200000 in
theorem implMore (lo g : Nat) (p : Pt) (ps : List Pt) (w : World) (h : Orr lo g w p ps) : Calls Tryd.prog 121 #[.pointer (some ⟨g, 0, none⟩)] w (MoreP lo g p ps w) := by
  have hgw := h.lt
  go_enter Tryd.func121, Tryd.ntmps121
  go_wp2
  go_loopw [2] (fun t wr => t = .bool false ∧ ∃ p' ps', Orr lo g wr p' ps' ∧ unitsP p' ++ units ps' = unitsP p ++ units ps ∧ Below lo w wr ∧ Fr (fun q => q = g) w wr) (fun _ wr => restOf g wr)
  case atStart => exact ⟨rfl, p, ps, h, rfl, Below.refl _ _, Fr.refl _ _⟩
  case round =>
    obtain ⟨rfl, p', ps', ho, hu, hbel, hfr⟩ := hrel
    obtain ⟨B, cb, A, c, h1, h2, h3⟩ := ho.box
    have hz := ho.vp.size
    have c0 : wr.cell? ⟨g, 0, none⟩ = some (.int .i64 p'.kind) := cell_of_row _ _ 0 _ _ _ h1
    have c1 : wr.cell? ⟨g, 1, none⟩ = some (.int .i64 p'.n) := cell_of_row _ _ 1 _ _ _ h1
    have c2 : wr.cell? ⟨g, 2, none⟩ = some (.slice B p'.signs.length cb) := cell_of_row _ _ 2 _ _ _ h1
    have c3 : wr.cell? ⟨g, 3, none⟩ = some (.slice A ps'.length c) := cell_of_row _ _ 3 _ _ _ h1
    have hlt := ho.lt
    have HO := Lib.hid ho
    have HU := Lib.hid hu
    have HF := Lib.hid hfr
    have HZ := Lib.hid hz
    have H1 := Lib.hid h1
    have HM := Lib.hid (show restOf g wr = ps'.length by unfold restOf; rw [c3])
    clear ho hu hfr hz h1 h hgw
    go_wp2_with fail
    have hz := HZ.out
    refine (implSize_any p'.kind p'.n B p'.signs.length cb wr (by omega) (by omega) (by omega)).mono ?_
    clear hz c0 c1 c2
    rintro e w1 ⟨rfl, b1⟩
    have HB := Lib.hid b1
    have hlt1 : g < w1.heap.size := Nat.lt_of_lt_of_le hlt b1.size
    have h1' : w1.heap[g]? = some (.cells #[.int .i64 p'.kind, .int .i64 p'.n, .slice B p'.signs.length cb, .slice A ps'.length c] 111 (0, 0)) := (b1.block g hlt).trans H1.out
    have c3' : w1.cell? ⟨g, 3, none⟩ = some (.slice A ps'.length c) := cell_of_row _ _ 3 _ _ _ h1'
    have ho1 := HO.out.past b1
    have hb1 : Below lo w w1 := hbel.trans (b1.mono (Nat.le_trans ho1.ge (by have := HO.out.lt; omega)))
    have hf1 : Fr (fun q => q = g) w w1 := HF.out.trans (Fr.below b1)
    have H1' := Lib.hid h1'
    have HO1 := Lib.hid ho1
    have HF1 := Lib.hid hf1
    clear b1 c3 h1' ho1 hf1 HO HF HB H1 hbel
    rw [HZ.out.1]
    by_cases hs : sizeP p' = 0
    · have g0 : (((sizeP p' : Nat) : Int) == 0) = true := by simp [hs]
      cases ps' with
      | nil =>
        have HS := Lib.hid hs
        clear hs
        go_wp2
        go_ret
        exact ⟨p', [], ret_b (by simp [HS.out]), HO1.out, HU.out, fun _ => rfl, hb1, HF1.out⟩
      | cons q qs =>
        have hql : ((qs.length : Int) + 1 == 0) = false := by simp; omega
        have hRd := HO1.out
        obtain ⟨B2, cb2, A2, c2, k1, k2, k3⟩ := hRd.box
        rw [H1'.out] at k1
        injection k1 with k1
        injection k1 with k1 _ _
        simp at k1
        obtain ⟨⟨rfl, rfl⟩, rfl, rfl⟩ := k1
        obtain ⟨b, off, A', c', rfl, hblt, hc, d0, d1, d2, r2, rt⟩ := parts_hd k3
        have f0 : ∀ o, w1.frozen? ⟨g, o, none⟩ = false := fun o => by simp [World.frozen?, H1'.out]
        have f1 := f0 0
        have f2 := f0 1
        have f3 := f0 2
        have f4 := f0 3
        have HK := Lib.hid (show RdC w1 lo (encInts q.signs) (.slice A' q.signs.length c') ∧ (∀ d, qs.length ≤ d → RdC w1 lo (encPs qs) (.slice (some ⟨b, off + 3, none⟩) qs.length d)) from ⟨r2, rt⟩)
        have c0 : w1.cell? ⟨g, 0, none⟩ = some (.int .i64 p'.kind) := cell_of_row _ _ 0 _ _ _ H1'.out
        have c1 : w1.cell? ⟨g, 1, none⟩ = some (.int .i64 p'.n) := cell_of_row _ _ 1 _ _ _ H1'.out
        have c2 : w1.cell? ⟨g, 2, none⟩ = some (.slice B p'.signs.length cb) := cell_of_row _ _ 2 _ _ _ H1'.out
        have hne : ¬ b = g := by have := HO1.out.ge; omega
        clear f0 r2 rt k2 k3 hRd hs
        have hq1 : (1 : Int) ≤ (qs.length : Int) + 1 := by omega
        go_wp2
        go_region
        all_goals
          go_roundw
          case rel =>
            have hv := HO1.out.vs
            have hln := HO1.out.ln
            have hx := orr_next H1'.out HK.out.1 HK.out.2 hc HO1.out.ge (hv q (by simp)) (fun x hx => hv x (by simp [hx])) (by simp at hln; omega)
            have hu : unitsP q ++ units qs = unitsP p ++ units ps := by
              rw [← HU.out, units_cons]
              have e : unitsP p' = [] := List.eq_nil_of_length_eq_zero (by rw [unitsP_len]; simpa using g0)
              rw [e]
              rfl
            repeat apply Exists.intro
            exact ⟨⟨rfl, q, qs, hx, hu, hb1.trans (nextW_below HO1.out.ge _ _ _ _ _ _ _ _), HF1.out.trans (nextW_fr _ _ _ _ _ _ _ _ _)⟩, rfl⟩
          case measure =>
            have hv := HO1.out.vs
            have hln := HO1.out.ln
            have hx := orr_next H1'.out HK.out.1 HK.out.2 hc HO1.out.ge (hv q (by simp)) (fun x hx => hv x (by simp [hx])) (by simp at hln; omega)
            rw [HM.out]
            refine Nat.lt_of_le_of_lt (Nat.le_of_eq (orr_rest hx)) ?_
            simp
    · have g0 : (((sizeP p' : Nat) : Int) == 0) = false := by simp [hs]
      have HS := Lib.hid hs
      clear hs
      go_wp2
      go_ret
      exact ⟨p', ps', ret_b (by have := HS.out; simp; omega), HO1.out, HU.out, fun h => absurd h HS.out, hb1, HF1.out⟩
end Go.Proofs.YtbbpapaobehlcaaDoor.low


/-
  The program's reader of an operation: cut and take; the builder's add and addBoth.
-/
namespace Go.Proofs.YtbbpapaobehlcaaDoor.low
open Go.RowKit
set_option linter.unusedVariables false

/-- the first n units of a part, and what is left of it -/
def cutL (p : Pt) (n : Nat) : Pt := if p.kind = 2 then ⟨2, 0, p.signs.take n⟩ else ⟨p.kind, (n : Int), []⟩
def cutR (p : Pt) (n : Nat) : Pt := if p.kind = 2 then ⟨2, 0, p.signs.drop n⟩ else ⟨p.kind, p.n - (n : Int), []⟩
/-- a part as a value -/
def PtV (lo : Nat) (w : World) (p : Pt) (v : Value) : Prop := ∃ A c, v = .agg #[.int .i64 p.kind, .int .i64 p.n, .slice A p.signs.length c] ∧ RdC w lo (encInts p.signs) (.slice A p.signs.length c)
theorem PtV.below {lo : Nat} {w w' : World} {p : Pt} {v : Value} (h : PtV lo w p v) (hb : Below lo w w') : PtV lo w' p v := by
  obtain ⟨A, c, h1, h2⟩ := h
  exact ⟨A, c, h1, h2.below hb⟩
def CutP (lo : Nat) (p : Pt) (n : Nat) (w : World) (e : Ending) (w' : World) : Prop := ∃ v1 v2, e = .returned (.tuple #[v1, v2]) ∧ PtV lo w' (cutL p n) v1 ∧ PtV lo w' (cutR p n) v2 ∧ Below w.heap.size w w'
theorem ints_none {w : World} {B : Nat} {A : Option Addr} {c : Nat} : RdC w B (encInts []) (.slice A 0 c) := ⟨A, c, by simp, by simp, fun h => by simp at h⟩

theorem cut_below {lo : Nat} {w : World} (h : lo ≤ w.heap.size) (o1 o2 o3 : Obj) : Below lo w (((w.alloc o1).alloc o2).alloc o3).drew := (((((Below.refl lo w).alloc h _).alloc (by simp; omega) _).alloc (by simp; omega) _)).drew

set_option maxRecDepth 100000 in
set_option maxHeartbeats 3200000 in
theorem implCut (lo : Nat) (p : Pt) (n : Nat) (B : Option Addr) (cb : Nat) (w : World) (hv : Vp p) (hr : RdC w lo (encInts p.signs) (.slice B p.signs.length cb)) (hlo : lo ≤ w.heap.size) (h0 : 0 < n) (hn : n ≤ sizeP p) :
    Calls Tryd.prog 122 #[.agg #[.int .i64 p.kind, .int .i64 p.n, .slice B p.signs.length cb], .int .i64 (n : Int)] w (CutP lo p n w) := by
  have hz := hv.size
  by_cases hk : p.kind = 2
  · have e1 : cutL p n = ⟨2, 0, p.signs.take n⟩ := by simp [cutL, hk]
    have e2 : cutR p n = ⟨2, 0, p.signs.drop n⟩ := by simp [cutR, hk]
    have hl : n ≤ p.signs.length := by simpa [sizeP, hk] using hn
    have g0 : (p.kind == 2) = true := by simp [hk]
    obtain ⟨A', c', hv', hrow, hcap⟩ := ints_rd hr
    injection hv' with x1 x2 x3
    subst x1 x3
    obtain ⟨ad, rfl, hb, hcell⟩ := hrow (by omega)
    have i1 : (0 : Int) ≤ (n : Int) := by omega
    have i2 : (n : Int) ≤ (p.signs.length : Int) := by omega
    have i3 : (n : Int) ≤ (cb : Int) := by omega
    have HR := Lib.hid hrow
    have H1 := Lib.hid e1
    have H2 := Lib.hid e2
    clear e1 e2 hrow hk hr hcell
    have hl1 : (p.signs.take n).length = n := by simp; omega
    have hl2 : (p.signs.drop n).length = p.signs.length - n := by simp
    have key : ∀ w', Below lo w w' → PtV lo w' ⟨2, 0, p.signs.take n⟩ (.agg #[.int .i64 2, .int .i64 0, .slice (some ad) n cb]) := fun w' hbw => by
      have := rd_ints (c := cb) (HR.out.init n) (by omega)
      rw [hl1] at this
      exact ⟨some ad, cb, by rw [hl1], by rw [hl1]; exact this.below hbw⟩
    have KEY := Lib.hid key
    clear key
    by_cases hcn : cb = n
    · have e3 : p.signs.drop n = [] := List.drop_eq_nil_of_le (by omega)
      have e4 : p.signs.length = n := by omega
      have HL := Lib.hid e4
      have H3 := Lib.hid e3
      have HC := Lib.hid hcn
      clear e3 e4 hl1 hl2 hl i3 hcap
      subst hcn
      go_enter Tryd.func122, Tryd.ntmps122
      go_wp2
      go_region
      all_goals
        go_wp2
        refine bodyPost_ret (v := .tuple #[.agg #[.int .i64 2, .int .i64 0, .slice (some ad) cb cb], .agg #[.int .i64 2, .int .i64 0, .slice (some ad) (p.signs.length - cb) 0]]) (by simp [results, Tryd.results122, go_sem]) rfl ⟨_, _, rfl, ?_, ?_, ?_⟩
        · rw [H1.out]
          exact KEY.out _ (cut_below hlo _ _ _)
        · rw [H2.out, H3.out, HL.out, Nat.sub_self]
          exact ⟨some ad, 0, rfl, ints_none⟩
        · exact cut_below (Nat.le_refl _) _ _ _
    · have HL2 := Lib.hid hl2
      clear hl1 hl2
      go_enter Tryd.func122, Tryd.ntmps122
      go_wp2
      go_region
      all_goals
        go_wp2
        refine bodyPost_ret (v := .tuple #[.agg #[.int .i64 2, .int .i64 0, .slice (some ad) n cb], .agg #[.int .i64 2, .int .i64 0, .slice (some (ad.add n)) (p.signs.length - n) (cb - n)]]) (by simp [results, Tryd.results122, go_sem]) rfl ⟨_, _, rfl, ?_, ?_, ?_⟩
        · rw [H1.out]
          exact KEY.out _ (cut_below hlo _ _ _)
        · rw [H2.out]
          refine ⟨some (ad.add n), cb - n, by rw [HL2.out], ?_⟩
          rw [HL2.out]
          have := rd_ints (c := cb - n) (HR.out.tail n) (by rw [HL2.out]; omega)
          rw [HL2.out] at this
          exact this.below (cut_below hlo _ _ _)
        · exact cut_below (Nat.le_refl _) _ _ _
  · have e1 : cutL p n = ⟨p.kind, (n : Int), []⟩ := by simp [cutL, hk]
    have e2 : cutR p n = ⟨p.kind, p.n - (n : Int), []⟩ := by simp [cutR, hk]
    have g0 : (p.kind == 2) = false := by simp [hk]
    have hl : (n : Int) ≤ p.n := by have : sizeP p = p.n.toNat := by simp [sizeP, hk]
                                    omega
    have H1 := Lib.hid e1
    have H2 := Lib.hid e2
    clear e1 e2 hk hr
    go_enter Tryd.func122, Tryd.ntmps122
    go_wp2
    go_region
    all_goals
      go_wp2
      refine bodyPost_ret (v := .tuple #[.agg #[.int .i64 p.kind, .int .i64 (n : Int), .slice none 0 0], .agg #[.int .i64 p.kind, .int .i64 (p.n - (n : Int)), .slice none 0 0]]) (by simp [results, Tryd.results122, go_sem]) rfl ⟨_, _, rfl, ?_, ?_, ?_⟩
      · rw [H1.out]
        exact ⟨none, 0, rfl, ints_none⟩
      · rw [H2.out]
        exact ⟨none, 0, rfl, ints_none⟩
      · exact cut_below (Nat.le_refl _) _ _ _
/-- behind a take of n units: the piece, and the reader moved on -/
def TakeQ (lo g : Nat) (p : Pt) (ps : List Pt) (n : Nat) (w : World) (e : Ending) (w' : World) : Prop := ∃ v, e = .returned v ∧ PtV lo w' (cutL p n) v ∧ Orr lo g w' (cutR p n) ps ∧ Below lo w w' ∧ Fr (fun q => q = g) w w'
theorem cutR_vp {p : Pt} {n : Nat} (h : Vp p) (hn : n ≤ sizeP p) : Vp (cutR p n) := by
  obtain ⟨k, m, zs⟩ := p
  unfold cutR
  unfold sizeP at hn
  rcases h with ⟨h1, h2, h3, h4⟩ | ⟨h1, h2, h3⟩ | ⟨h1, h2, h3⟩ <;> simp only at * <;> subst_vars
  · have hk : ¬ k = 2 := by omega
    rw [if_neg hk] at hn ⊢
    exact .inl ⟨h1, by simp; omega, by simp; omega, rfl⟩
  · exact .inr (.inl ⟨rfl, rfl, by simp; omega⟩)
  · simp at hn
    subst hn
    exact .inr (.inr ⟨rfl, rfl, rfl⟩)
theorem cutL_vp {p : Pt} {n : Nat} (h : Vp p) (hn : n ≤ sizeP p) : Vp (cutL p n) := by
  obtain ⟨k, m, zs⟩ := p
  have hz := h.size
  unfold cutL
  unfold sizeP at hn hz
  rcases h with ⟨h1, h2, h3, h4⟩ | ⟨h1, h2, h3⟩ | ⟨h1, h2, h3⟩ <;> simp only at * <;> subst_vars
  · have hk : ¬ k = 2 := by omega
    rw [if_neg hk] at hn hz ⊢
    exact .inl ⟨h1, by simp, by simp; omega, rfl⟩
  · exact .inr (.inl ⟨rfl, rfl, by simp; omega⟩)
  · simp at hn
    subst hn
    exact .inr (.inr ⟨rfl, rfl, rfl⟩)

theorem take_below {lo : Nat} (w : World) (g m : Nat) (x0 x1 x2 y0 y1 y2 : Value) (o1 o2 : Obj) (hg : lo ≤ g) (hm : lo ≤ m) (hs : g < w.heap.size) : Below lo w ((((((((w.setCell ⟨g, 0, none⟩ x0).setCell ⟨g, 1, none⟩ x1).setCell ⟨g, 2, none⟩ x2).setCell ⟨m, 0, none⟩ y0).setCell ⟨m, 1, none⟩ y1).setCell ⟨m, 2, none⟩ y2).alloc o1).alloc o2) :=
  ((((((((Below.refl lo w).setCell (p := ⟨g, 0, none⟩) hg _).setCell (p := ⟨g, 1, none⟩) hg _).setCell (p := ⟨g, 2, none⟩) hg _).setCell (p := ⟨m, 0, none⟩) hm _).setCell (p := ⟨m, 1, none⟩) hm _).setCell (p := ⟨m, 2, none⟩) hm _).alloc (by simp; omega) _).alloc (by simp; omega) _
set_option maxRecDepth 100000 in
set_option maxHeartbeats 3200000 in
theorem implTake (lo g : Nat) (p : Pt) (ps : List Pt) (n : Nat) (w : World) (h : Orr lo g w p ps) (h0 : 0 < n) (hn : n ≤ sizeP p) : Calls Tryd.prog 97 #[.pointer (some ⟨g, 0, none⟩), .int .i64 (n : Int)] w (TakeQ lo g p ps n w) := by
  obtain ⟨B, cb, A, c, h1, h2, h3⟩ := h.box
  have hlt := h.lt
  have c0 : w.cell? ⟨g, 0, none⟩ = some (.int .i64 p.kind) := cell_of_row _ _ 0 _ _ _ h1
  have c1 : w.cell? ⟨g, 1, none⟩ = some (.int .i64 p.n) := cell_of_row _ _ 1 _ _ _ h1
  have c2 : w.cell? ⟨g, 2, none⟩ = some (.slice B p.signs.length cb) := cell_of_row _ _ 2 _ _ _ h1
  have hge := h.ge
  have HV := Lib.hid h.vp
  have HO := Lib.hid h
  have H1 := Lib.hid h1
  clear h h1
  go_enter Tryd.func97, Tryd.ntmps97
  have b0 := alloc_below w (.cells #[.int .i64 0, .int .i64 0, .slice none 0 0] 64)
  go_wp2_with fail
  refine (implCut lo p n B cb _ HV.out (h2.below (b0.mono (by omega))) (by simp; omega) h0 hn).mono ?_
  rintro e w1 ⟨v1, v2, rfl, ⟨A1, c1'', rfl, r1⟩, ⟨A2, c2'', rfl, r2⟩, b1⟩
  have hb1 : Below w.heap.size w w1 := b0.trans (b1.mono b0.size)
  have hgl : g < w1.heap.size := Nat.lt_of_lt_of_le hlt hb1.size
  have h1' := (hb1.block g hlt).trans H1.out
  have f0 : ∀ o, w1.frozen? ⟨g, o, none⟩ = false := fun o => by simp [World.frozen?, h1']
  have f1 := f0 0
  have f2 := f0 1
  have f3 := f0 2
  have c0' : w1.cell? ⟨g, 0, none⟩ = some (.int .i64 p.kind) := cell_of_row _ _ 0 _ _ _ h1'
  have c1' : w1.cell? ⟨g, 1, none⟩ = some (.int .i64 p.n) := cell_of_row _ _ 1 _ _ _ h1'
  have c2' : w1.cell? ⟨g, 2, none⟩ = some (.slice B p.signs.length cb) := cell_of_row _ _ 2 _ _ _ h1'
  have hn4 : w1.heap[w.heap.size]? = some (.cells #[.int .i64 0, .int .i64 0, .slice none 0 0] 64 (0, 0)) := (b1.block _ (by simp)).trans (heap_alloc_new w _)
  have hnf : ∀ o, w1.frozen? ⟨w.heap.size, o, none⟩ = false := fun o => by simp [World.frozen?, hn4]
  have k0 : w1.cell? ⟨w.heap.size, 0, none⟩ = some (.int .i64 0) := cell_of_row _ _ 0 _ _ _ hn4
  have k1 : w1.cell? ⟨w.heap.size, 1, none⟩ = some (.int .i64 0) := cell_of_row _ _ 1 _ _ _ hn4
  have k2 : w1.cell? ⟨w.heap.size, 2, none⟩ = some (.slice none 0 0) := cell_of_row _ _ 2 _ _ _ hn4
  have n0 := hnf 0
  have n1 := hnf 1
  have n2 := hnf 2
  have hwl : w.heap.size < w1.heap.size := lt_of_some hn4
  have hgn : ¬ g = w.heap.size := by omega
  have hgn1 : ¬ g = w1.heap.size := by omega
  have hgn2 : ¬ g = w1.heap.size + 1 := by omega
  have hwn1 : ¬ w.heap.size = w1.heap.size := by omega
  have hwn2 : ¬ w.heap.size = w1.heap.size + 1 := by omega
  have HP := Lib.hid h1'
  have HN := Lib.hid hn4
  have HB := Lib.hid b1
  have HB1 := Lib.hid hb1
  clear h1' hn4 b1 hb1 f0 hnf c0 c1 c2
  go_wp2
  have hge2 : lo ≤ w.heap.size := Nat.le_trans hge (Nat.le_of_lt hlt)
  have bel : Below lo w1 _ := take_below w1 g w.heap.size (.int .i64 (cutR p n).kind) (.int .i64 (cutR p n).n) (.slice A2 (cutR p n).signs.length c2'') (.int .i64 (cutL p n).kind) (.int .i64 (cutL p n).n) (.slice A1 (cutL p n).signs.length c1'') (.cells #[.int .i64 (cutL p n).kind, .int .i64 (cutL p n).n, .slice A1 (cutL p n).signs.length c1''] 64) (.cells #[.int .i64 (cutR p n).kind, .int .i64 (cutR p n).n, .slice A2 (cutR p n).signs.length c2''] 64) hge hge2 hgl
  refine bodyPost_ret (v := .agg #[.int .i64 (cutL p n).kind, .int .i64 (cutL p n).n, .slice A1 (cutL p n).signs.length c1'']) (by simp [results, Tryd.results97, go_sem, *]) rfl ⟨_, rfl, ⟨A1, c1'', rfl, r1.below bel⟩, ⟨⟨A2, c2'', A, c, ?_, r2.below bel, (h3.below (HB1.out.mono hge2)).below bel⟩, hge, cutR_vp HV.out hn, HO.out.vs, HO.out.ln⟩, (HB1.out.mono hge2).trans bel, ?_⟩
  · refine heap_old _ _ (heap_old _ _ ?_)
    rw [Below.heap_setCell _ _ _ _ hgn, Below.heap_setCell _ _ _ _ hgn, Below.heap_setCell _ _ _ _ hgn, heap_setCell_same _ _ _ _ _ _ (heap_setCell_same _ _ _ _ _ _ (heap_setCell_same _ _ _ _ _ _ HP.out))]
    rfl
  · refine ⟨Nat.le_trans HB1.out.size bel.size, fun b hb hs => ?_⟩
    have hs' : ¬ b = g := hs
    have hbn : ¬ b = w.heap.size := by omega
    have hbl : b < w1.heap.size := by omega
    rw [Below.heap_alloc _ _ _ (by simp; omega), Below.heap_alloc _ _ _ (by simp; omega), Below.heap_setCell _ _ _ _ hbn, Below.heap_setCell _ _ _ _ hbn, Below.heap_setCell _ _ _ _ hbn, Below.heap_setCell _ _ _ _ hs', Below.heap_setCell _ _ _ _ hs', Below.heap_setCell _ _ _ _ hs']
    exact HB1.out.block b hb
end Go.Proofs.YtbbpapaobehlcaaDoor.low


/-
  The program's builder as the composition uses it: add and addBoth, in the builder's words.
-/
namespace Go.Proofs.YtbbpapaobehlcaaDoor.low
open Go.RowKit
set_option linter.unusedVariables false

theorem BldP.pre {O : Nat → Prop} {lo g : Nat} {T : TypeId} {L : List Pt} {w w1 w' : World} {e : Ending} (hlo : lo ≤ w.heap.size) (hb : Below w.heap.size w w1) (h : BldP O lo g T L w1 e w') : BldP O lo g T L w e w' := by
  obtain ⟨h1, O', h2, h3, h4⟩ := h
  exact ⟨h1, O', h2, (hb.mono hlo).trans h3, Nat.le_trans hb.size h4.size, fun b hlt hn => (h4.block b (Nat.lt_of_lt_of_le hlt hb.size) hn).trans (hb.block b hlt), fun b ho => (h4.more b ho).imp id (fun h => Nat.le_trans hb.size h)⟩
theorem BldP.same {O : Nat → Prop} {lo g : Nat} {T : TypeId} {L : List Pt} {w w' : World} (h : Bld O lo g T w L) (hb : Below w.heap.size w w') : BldP O lo g T L w (.returned (.tuple #[])) w' :=
  ⟨rfl, O, h.past hb, hb.mono h.low, hb.size, fun b hlt _ => hb.block b hlt, fun b ho => .inl ho⟩
theorem rd_row {w : World} {lo : Nat} {A : Option Addr} {c : Nat} {zs : List Int} (h : RdC w lo (encInts zs) (.slice A zs.length c)) : Row (Value.int .i64) w lo A zs := by
  obtain ⟨A', c', e, h1, _⟩ := ints_rd h
  injection e with e1 e2 e3
  rw [e1]
  exact h1
set_option maxRecDepth 100000 in
set_option maxHeartbeats 1600000 in
theorem implAddB (O : Nat → Prop) (lo g : Nat) (L : List Pt) (p : Pt) (v : Value) (w : World) (hb : Bld O lo g 62 w L) (hv : PtV lo w p v) (hp : Vp p) (hk : ¬ p.kind = 0) (hl : L.length < 100000) :
    Calls Tryd.prog 51 #[.pointer (some ⟨g, 0, none⟩), v] w (BldP O lo g 62 (L ++ [p]) w) := by
  obtain ⟨A, c, rfl, hr⟩ := hv
  have hlo := hb.low
  have hrow := rd_row hr
  obtain ⟨pk, pn, pz⟩ := p
  have hsz := hp.size
  simp only at hk hr hrow hsz ⊢
  have hat := hb.past (alloc_below w (.cells #[.int .i64 pk, .int .i64 pn, .slice A pz.length c] 64))
  have bel := alloc_below w (.cells #[.int .i64 pk, .int .i64 pn, .slice A pz.length c] 64)
  have hrow1 : Row (Value.int .i64) (w.alloc (.cells #[.int .i64 pk, .int .i64 pn, .slice A pz.length c] 64)) (w.alloc (.cells #[.int .i64 pk, .int .i64 pn, .slice A pz.length c] 64)).heap.size A pz := (rd_row (hr.below (bel.mono hlo))).more (by simp; omega)
  have HAT := Lib.hid hat
  have HROW := Lib.hid hrow1
  clear hat hrow hrow1 hr hb
  rcases hp with ⟨h1, h2, h3, h4⟩ | ⟨h1, h2, h3⟩ | ⟨h1, h2, h3⟩
  · simp only at h1 h2 h3 h4
    subst h4
    rcases h1 with rfl | rfl
    · go_enter Tryd.func51, Tryd.ntmps51
      go_wp2_with fail
      refine (implKeepB O lo g L pn _ HAT.out h2 h3 hl).mono ?_
      intro e w3 hq
      have HQ := Lib.hid (BldP.pre hlo bel hq)
      have he := hq.1
      clear hq
      subst he
      go_wp2
      go_end0
      exact HQ.out
    · go_enter Tryd.func51, Tryd.ntmps51
      go_wp2_with fail
      refine (implDropB O lo g L pn _ HAT.out h2 h3 hl).mono ?_
      intro e w3 hq
      have HQ := Lib.hid (BldP.pre hlo bel hq)
      have he := hq.1
      clear hq
      subst he
      go_wp2
      go_end0
      exact HQ.out
  · simp only at h1 h2 h3
    subst h1 h2
    go_enter Tryd.func51, Tryd.ntmps51
    go_wp2_with fail
    refine (implPutB O lo g L A c pz.length pz _ HAT.out HROW.out rfl h3 hl).mono ?_
    intro e w3 hq
    have HQ := Lib.hid (BldP.pre hlo bel hq)
    have he := hq.1
    clear hq
    subst he
    go_wp2
    go_end0
    exact HQ.out
  · exact absurd h1 hk

theorem two_below {w : World} (o1 o2 : Obj) : Below w.heap.size w ((w.alloc o1).alloc o2) := ((Below.refl _ w).alloc (Nat.le_refl _) _).alloc (by simp) _
/-- what two parts that meet leave -/
def bothL (L : List Pt) (p q : Pt) : List Pt := if q.kind = 1 then L ++ [p] else if p.kind = 1 then L ++ [q] else L
set_option maxRecDepth 100000 in
set_option maxHeartbeats 1600000 in
theorem implBothB (O : Nat → Prop) (lo g : Nat) (L : List Pt) (p q : Pt) (v u : Value) (w : World) (hb : Bld O lo g 62 w L) (hv : PtV lo w p v) (hu : PtV lo w q u) (hp : Vp p) (hq : Vp q) (hk : ¬ p.kind = 0) (hk' : ¬ q.kind = 0) (hl : L.length < 100000) :
    Calls Tryd.prog 99 #[.pointer (some ⟨g, 0, none⟩), v, u] w (BldP O lo g 62 (bothL L p q) w) := by
  obtain ⟨A, c, rfl, hr⟩ := hv
  obtain ⟨B, d, rfl, hs⟩ := hu
  have hlo := hb.low
  have bel := two_below (w := w) (.cells #[.int .i64 p.kind, .int .i64 p.n, .slice A p.signs.length c] 64) (.cells #[.int .i64 q.kind, .int .i64 q.n, .slice B q.signs.length d] 64)
  have HAT := Lib.hid (hb.past bel)
  have HR := Lib.hid (hr.below (bel.mono hlo))
  have HS := Lib.hid (hs.below (bel.mono hlo))
  have HB := Lib.hid hb
  clear hb hr hs
  by_cases h1 : q.kind = 1
  · have g1 : (q.kind == 1) = true := by simp [h1]
    have HE := Lib.hid (show bothL L p q = L ++ [p] by simp [bothL, h1])
    clear h1
    go_enter Tryd.func99, Tryd.ntmps99
    go_wp2_with fail
    refine (implAddB O lo g L p _ _ HAT.out ⟨A, c, rfl, HR.out⟩ hp hk hl).mono ?_
    intro e w3 hq
    have HQ := Lib.hid (BldP.pre hlo bel hq)
    have he := hq.1
    clear hq
    subst he
    go_wp2
    go_end0
    rw [HE.out]
    exact HQ.out
  · have g1 : (q.kind == 1) = false := by simp [h1]
    by_cases h2 : p.kind = 1
    · have g2 : (p.kind == 1) = true := by simp [h2]
      have HE := Lib.hid (show bothL L p q = L ++ [q] by simp [bothL, h1, h2])
      clear h1 h2
      go_enter Tryd.func99, Tryd.ntmps99
      go_wp2_with fail
      refine (implAddB O lo g L q _ _ HAT.out ⟨B, d, rfl, HS.out⟩ hq hk' hl).mono ?_
      intro e w3 hq
      have HQ := Lib.hid (BldP.pre hlo bel hq)
      have he := hq.1
      clear hq
      subst he
      go_wp2
      go_end0
      rw [HE.out]
      exact HQ.out
    · have g2 : (p.kind == 1) = false := by simp [h2]
      have HE := Lib.hid (show bothL L p q = L by simp [bothL, h1, h2])
      clear h1 h2
      go_enter Tryd.func99, Tryd.ntmps99
      go_wp2
      go_end0
      rw [HE.out]
      exact BldP.same HB.out bel
end Go.Proofs.YtbbpapaobehlcaaDoor.low


/-
  A range over a function whose iterator and body share memory: the statement's laws at the wide fence, in the words of the loop's record; a round out of its body's walk; a region that draws its order, in a round; a loop whose measure is said by its invariant.
-/
namespace Go.Proofs.YtbbpapaobehlcaaDoor.low
open Go.RowKit
set_option linter.unusedVariables false

section
variable {P : Program} {ops : Array Oper} {Q : Exit → Act → World → Prop} {n l : Nat} {md : Region.Mode}

theorem rowsIn_wide {row : String} {args : Array Value} {w : World} {R : Value → World → Prop} (h : Rows P row args w R) : RowsIn (Fence.wide.inRound l) n P row args w R :=
  fun c cs _ => let ⟨v, w', r, s⟩ := h c cs; ⟨v, w', r, stepsIn_wide.2 s⟩
theorem callsIn_round {f : FuncId} {args : Array Value} {w : World} {R : Ending → World → Prop} (h : Calls P f args w R) : CallsIn (Fence.wide.inRound l) n P f args w R := CallsIn.inRound l (callsIn_wide.2 h)
/-- an operation's walk goes into a round as it is -/
theorem operIn_of {o : Oper} {a : Act} {w : World} {K : Act → World → Prop} (hd : ∀ c, o.op ≠ .defer c) (h : o.wp P a w K Q) : o.wpIn (Fence.wide.inRound l) n P a w K Q := by
  unfold Oper.wp at h
  refine ⟨fun _ _ => trivial, ?_⟩
  rw [Fence.inRound_round, Oper.semAt_some l a.eval o hd]
  generalize (execOp a.eval o).run P w = r at *
  cases r with
  | ok x w' =>
    cases x with
    | enter f args => exact ⟨(fun h => by cases h), callsIn_round h⟩
    | row r args => exact ⟨(fun h => by cases h), rowsIn_wide h⟩
    | value v => exact h
    | skip => exact h
    | defer d => exact h
    | _ => exact h.elim
  | halt x w' => cases x <;> first | exact h | exact h.elim
def NoDefer (ops : Array Oper) : Prop := ∀ (i : Nat) (o : Oper), ops[i]? = some o → ∀ c, o.op ≠ .defer c
theorem wpOpIn_of {i : Nat} {a : Act} {w : World} {K : Act → World → Prop} (hd : NoDefer ops) (hL : ¬ LetsOut Q) (h : wpOp P ops Q i K a w) : wpOpIn (Fence.wide.inRound l) n P ops Q i K a w := by
  unfold wpOp at h
  unfold wpOpIn
  cases ho : ops[i]? with
  | none => simp only [ho] at h; exact h
  | some o =>
    simp only [ho] at h
    split at h
    · rename_i hw
      simp only [hw, if_true]
      rcases h with h | h
      · exact operIn_of (hd i o ho) h
      · exact absurd h.2 hL
    · rename_i hw
      simp only [hw]
      exact ⟨fun _ _ => trivial, h⟩
theorem wpAnyIn_of (hd : NoDefer ops) (hL : ¬ LetsOut Q) : ∀ (fuel : Nat) (listed : Array Bool) (a : Act) (w : World), wpAny P md ops Q fuel listed a w → wpAnyIn (Fence.wide.inRound l) n P md ops Q fuel listed a w
  | 0, _, _, _, h => h
  | fuel + 1, _, _, _, h => ⟨h.1, fun i hi => wpOpIn_mono (fun a' w' h' => wpAnyIn_of hd hL fuel _ a' w' h') (wpOpIn_of hd hL (h.2 i hi))⟩
/-- a region that draws its order, in a round -/
theorem wpIn_region_held {S : World → Prop} {id : Nat} {a : Act} {w : World} (hm : P.follows .mixedOrders = true) (hd : NoDefer ops) (hL : ¬ LetsOut Q)
    (h : wpAnyH P .any ops Q S ops.size (Array.replicate ops.size false) a w.drew) : (Code.region id ops true).wpIn (Fence.wide.inRound l) n P Q a w :=
  wpIn_region_any hm (wpAnyIn_of hd hL _ _ _ _ (wpAny_of_held _ _ _ _ h))
end
/-- a post that lets nothing through but what falls off the end -/
def Fall (K : Act → World → Prop) : Exit → Act → World → Prop
  | .normal, a, w => K a w
  | _, _, _ => False
theorem Fall.out (K : Act → World → Prop) : ¬ LetsOut (Fall K) := fun ⟨_, _, h⟩ => h
theorem wpIn_fall {F : Fence} {n : Nat} {P : Program} {c : Code} {K : Act → World → Prop} {Q : Exit → Act → World → Prop} {a : Act} {w : World} (h : c.wpIn F n P (Fall K) a w) (hk : ∀ a w, K a w → Q .normal a w) : c.wpIn F n P Q a w :=
  wpIn_mono h fun e a w he => by cases e <;> first | exact hk _ _ he | exact he.elim
theorem wpIn_seq_fall {F : Fence} {n : Nat} {P : Program} {x y : Code} {K : Act → World → Prop} {Q : Exit → Act → World → Prop} {a : Act} {w : World} (h : x.wpIn F n P (Fall K) a w) (hk : ∀ a w, K a w → y.wpIn F n P Q a w) : (Code.seq x y).wpIn F n P Q a w :=
  wpIn_seq (wpIn_fall h hk)

/-- a loop whose measure is said by its invariant -/
theorem wpIn_loop_by {F : Fence} {n : Nat} {P : Program} {Q : Exit → Act → World → Prop} {a : Act} {w : World} {c : Code} (I : Nat → Act → World → Prop) (m : Nat) (h0 : I m a w)
    (round : ∀ m a w, I m a w → c.wpIn F n P (Exit.then (fun a' w' => ∃ m', m' < m ∧ I m' a' w') Q) a w) : (Code.loop c).wpIn F n P Q a w := by
  have ex : ∀ a w, ∃ k : Nat, (∃ m, I m a w) → I k a w ∧ ∀ m, I m a w → k ≤ m := fun a w => by
    by_cases h : ∃ m, I m a w
    · obtain ⟨m, hm⟩ := h
      induction m using Nat.strongRecOn with
      | _ m ih =>
        by_cases hs : ∃ m', m' < m ∧ I m' a w
        · obtain ⟨m', h1, h2⟩ := hs
          exact ih m' h1 h2
        · refine ⟨m, fun _ => ⟨hm, fun q hq => ?_⟩⟩
          rcases Nat.lt_or_ge q m with h | h
          · exact absurd ⟨q, h, hq⟩ hs
          · exact h
    · exact ⟨0, fun h' => absurd h' h⟩
  refine wpIn_loop (fun a w => ∃ m, I m a w) (fun a w => Classical.choose (ex a w)) ⟨m, h0⟩ (fun a w hI => ?_)
  have hs := Classical.choose_spec (ex a w) hI
  refine wpIn_mono (round _ a w hs.1) (fun e a' w' hq => ?_)
  cases e with
  | normal =>
    obtain ⟨m', hlt, hm'⟩ := hq
    exact ⟨⟨m', hm'⟩, Nat.lt_of_le_of_lt ((Classical.choose_spec (ex a' w') ⟨m', hm'⟩).2 m' hm') hlt⟩
  | _ => exact hq

section
variable {P : Program} {n : Nat} {w : World}
/-- what a round's body must come to -/
def RP (l : Nat) (r : Loop) (R : Ending → World → Prop) : Exit → Act → World → Prop
  | .normal, _, W => W.heap[l]? = some (.loop { r with state := .busy }) ∧ R (.returned (.bool true)) (W.putObj l (.loop { r with state := .ready, pending := none }))
  | .exit id, _, W => W.heap[l]? = some (.loop { r with state := .busy }) ∧ R (.returned (.bool false)) (W.putObj l (.loop { r with state := .done, pending := some (.exit id) }))
  | _, _, _ => False
/-- a call of yield, out of the walks of the assignment and of the body -/
theorem yield_of {l : Nat} {r : Loop} {args : Array Value} {R : Ending → World → Prop} {K : Act → World → Prop} (hl : w.heap[l]? = some (.loop r)) (hr : r.state = .ready) (hs : args.size = r.params.size)
    (hassign : r.assign.wpIn (Fence.wide.inRound l) n P (Exit.then K (fun _ _ _ => False)) { tmps := (r.params.zip args).foldl (fun t (p, v) => t.setIfInBounds p v) r.tmps, defers := [] } w)
    (hbody : ∀ a₁ w₁, K a₁ w₁ → w₁.heap[l]? = some (.loop r) ∧ r.body.wpIn (Fence.wide.inRound l) n P (RP l r R) a₁ (w₁.putObj l (.loop { r with state := .busy }))) :
    YieldAt Fence.wide n P l args w R := by
  refine ⟨r.fn, _, r.assign, r.body, run_yield hl hs, roundIn_of_wpIn trivial (wpIn_mono hassign (fun e a₁ w₁ hq => ?_))⟩
  cases e with
  | normal =>
    obtain ⟨h1, h2⟩ := hbody a₁ w₁ hq
    refine ⟨_, run_beginRound h1 hr, wpIn_mono h2 (fun e a₂ w₂ hp => ?_)⟩
    cases e with
    | normal => exact ⟨_, _, run_endRound none hp.1, hp.2⟩
    | exit id => exact ⟨_, _, run_endRound (some (.exit id)) hp.1, hp.2⟩
    | _ => exact hp.elim
  | _ => exact hq.elim
/-- the loop's record -/
def recOf (fn : FuncId) (tmps : Array Value) (ps : Array Tmp) (assign body : Code) (D : Nat) : Loop := { state := .ready, pending := none, fn := fn, tmps := tmps, params := ps, assign := assign, body := body, defers := D }
/-- behind the iterator: all have come, or a round has left -/
def Over (l : Nat) (r : Loop) (Jd : World → Prop) (Jx : Code → World → Prop) (e : Ending) (W : World) : Prop :=
  (∃ v, e = .returned v) ∧ ((W.heap[l]? = some (.loop r) ∧ Jd W) ∨ ∃ c, W.heap[l]? = some (.loop { r with state := .done, pending := some c }) ∧ Jx c W)
/-- the statement, outermost -/
theorem rf_outer {g : Operand} {ps : Array Tmp} {assign body : Code} {Q : Exit → Act → World → Prop} {a : Act} {gf : Nat} {b : Array Value} {Jd : World → Prop} {Jx : Code → World → Prop}
    (hg : a.eval g = .func (.func gf) b #[]) (eg : ∀ args w, (callFunc gf args).run P w = .ok (.enter gf args) w)
    (hcall : ∀ fn, CallsIn Fence.wide (n - 1) P gf (b ++ #[.func (.yield (w.heap.size + 1)) #[] #[]]) ((w.alloc (.deferred (some []))).alloc (.loop (recOf fn a.tmps ps assign body w.heap.size))) (Over (w.heap.size + 1) (recOf fn a.tmps ps assign body w.heap.size) Jd Jx))
    (hdone : ∀ fn W, W.heap[w.heap.size + 1]? = some (.loop (recOf fn a.tmps ps assign body w.heap.size)) → Jd W → Q .normal { a with defers := { target := .collected w.heap.size, args := #[] } :: a.defers } (W.putObj (w.heap.size + 1) (.loop { recOf fn a.tmps ps assign body w.heap.size with state := .exhausted })))
    (hx : ∀ c W, ¬ Jx c W) : (Code.rangeFunc g ps assign body).wpIn Fence.wide n P Q a w := by
  refine wpIn_rangeFunc ?_
  intro fn hfn
  obtain ⟨W1, hW1⟩ : ∃ W1, (w.alloc (.deferred (some []))).alloc (.loop (recOf fn a.tmps ps assign body w.heap.size)) = W1 := ⟨_, rfl⟩
  have hc := hcall fn
  rw [hW1] at hc
  refine ⟨w.heap.size + 1, [{ target := .collected w.heap.size, args := #[] }], W1, { target := .fn (.func gf) #[], args := b ++ #[.func (.yield (w.heap.size + 1)) #[] #[]] }, W1, gf, b ++ #[.func (.yield (w.heap.size + 1)) #[] #[]], W1, by rw [← hW1]; exact run_enterLoop_outer _ _ _ _ _, ?_, fun _ _ => trivial, ?_, (fun h => by cases h), ?_⟩
  · simp only [resolve, hg]
    simp [go_sem, Deferred.ofValue]
  · simp [invoke, go_sem, eg]
  · refine hc.mono ?_
    rintro e W ⟨⟨v, rfl⟩, (⟨h1, h2⟩ | ⟨c, h1, h2⟩)⟩
    · exact ⟨none, _, run_endLoop h1 (by simp [recOf]), hdone fn W h1 h2⟩
    · exact absurd h2 (hx c W)
/-- the statement in a round -/
theorem rf_inner {l₀ : Nat} {r₀ : Loop} {g : Operand} {ps : Array Tmp} {assign body : Code} {Q : Exit → Act → World → Prop} {a : Act} {gf : Nat} {b : Array Value} {Jd : World → Prop} {Jx : Code → World → Prop}
    (hl₀ : w.heap[l₀]? = some (.loop r₀)) (hg : a.eval g = .func (.func gf) b #[]) (eg : ∀ args w, (callFunc gf args).run P w = .ok (.enter gf args) w)
    (hcall : ∀ fn, CallsIn Fence.wide (n - 1) P gf (b ++ #[.func (.yield w.heap.size) #[] #[]]) (w.alloc (.loop (recOf fn a.tmps ps assign body r₀.defers))) (Over w.heap.size (recOf fn a.tmps ps assign body r₀.defers) Jd Jx))
    (hdone : ∀ W, ¬ Jd W)
    (hx : ∀ fn c W, W.heap[w.heap.size]? = some (.loop { recOf fn a.tmps ps assign body r₀.defers with state := .done, pending := some c }) → Jx c W → c.wpIn (Fence.wide.inRound l₀) n P Q a (W.putObj w.heap.size (.loop { recOf fn a.tmps ps assign body r₀.defers with state := .exhausted, pending := some c }))) :
    (Code.rangeFunc g ps assign body).wpIn (Fence.wide.inRound l₀) n P Q a w := by
  refine wpIn_rangeFunc ?_
  intro fn hfn
  obtain ⟨W1, hW1⟩ : ∃ W1, w.alloc (.loop (recOf fn a.tmps ps assign body r₀.defers)) = W1 := ⟨_, rfl⟩
  have hc := hcall fn
  rw [hW1] at hc
  refine ⟨w.heap.size, [], W1, { target := .fn (.func gf) #[], args := b ++ #[.func (.yield w.heap.size) #[] #[]] }, W1, gf, b ++ #[.func (.yield w.heap.size) #[] #[]], W1, by rw [← hW1]; exact run_enterLoop_inner hl₀ _ _ _ _ _, ?_, fun _ _ => trivial, ?_, (fun h => by cases h), ?_⟩
  · simp only [resolve, hg]
    simp [go_sem, Deferred.ofValue]
  · simp [invoke, go_sem, eg]
  · refine CallsIn.inRound l₀ (hc.mono ?_)
    rintro e W ⟨⟨v, rfl⟩, (⟨h1, h2⟩ | ⟨c, h1, h2⟩)⟩
    · exact absurd h2 (hdone W)
    · exact ⟨some c, _, run_endLoop h1 (by simp), hx fn c W h1 h2⟩
end
end Go.Proofs.YtbbpapaobehlcaaDoor.low


/-
  The program's iterator over what is left of an operation: opReader.remaining, for whatever body; a call in a region that draws its order.
-/
namespace Go.Proofs.YtbbpapaobehlcaaDoor.low
open Go.RowKit
set_option linter.unusedVariables false
attribute [local go_sem] Oper.semAt_some

/-- the least number that a family of conditions bears at a world -/
theorem least_ex (J : Nat → World → Prop) (w : World) : ∃ k : Nat, (∃ m, J m w) → J k w ∧ ∀ m, J m w → k ≤ m := by
  by_cases h : ∃ m, J m w
  · obtain ⟨m, hm⟩ := h
    induction m using Nat.strongRecOn with
    | _ m ih =>
      by_cases hs : ∃ m', m' < m ∧ J m' w
      · obtain ⟨m', h1, h2⟩ := hs
        exact ih m' h1 h2
      · refine ⟨m, fun _ => ⟨hm, fun q hq => ?_⟩⟩
        rcases Nat.lt_or_ge q m with h | h
        · exact absurd ⟨q, h, hq⟩ hs
        · exact h
  · exact ⟨0, fun h' => absurd h' h⟩
noncomputable def leastOf (J : Nat → World → Prop) (w : World) : Nat := Classical.choose (least_ex J w)
theorem leastOf_at {J : Nat → World → Prop} {w : World} (h : ∃ m, J m w) : J (leastOf J w) w := (Classical.choose_spec (least_ex J w) h).1
theorem leastOf_le {J : Nat → World → Prop} {w : World} {m : Nat} (h : J m w) : leastOf J w ≤ m := (Classical.choose_spec (least_ex J w) ⟨m, h⟩).2 m h
/-- there is a round of the loop to be had: the number is hidden -/
def SomeM (J : Nat → World → Prop) (w : World) : Prop := ∃ m, J m w

/-- behind a look for more, in a body's words -/
def MoreJ (g : Nat) (JY : Pt → Value → World → Prop) (Jd : World → Prop) (e : Ending) (w' : World) : Prop :=
  (∃ p A c, e = .returned (.bool true) ∧ w'.cell? ⟨g, 0, none⟩ = some (.int .i64 p.kind) ∧ w'.cell? ⟨g, 1, none⟩ = some (.int .i64 p.n) ∧ w'.cell? ⟨g, 2, none⟩ = some (.slice A p.signs.length c) ∧ JY p (.agg #[.int .i64 p.kind, .int .i64 p.n, .slice A p.signs.length c]) w') ∨ (e = .returned (.bool false) ∧ Jd w')
/-- behind a round -/
def RoundJ (J : Nat → World → Prop) (m : Nat) (Jx : World → Prop) (e : Ending) (w' : World) : Prop :=
  (e = .returned (.bool true) ∧ ∃ m', m' < m ∧ J m' w') ∨ (e = .returned (.bool false) ∧ Jx w')
/-- behind the iterator -/
def OverJ (Jd Jx : World → Prop) (e : Ending) (w' : World) : Prop := (∃ v, e = .returned v) ∧ (Jd w' ∨ Jx w')

set_option maxRecDepth 100000 in
set_option maxHeartbeats 1600000 in
theorem implRemaining (n g l : Nat) (J : Nat → World → Prop) (JY : Nat → Pt → Value → World → Prop) (Jd Jx : World → Prop) (m0 : Nat) (w : World)
    (hM : ∀ m w, J m w → Calls Tryd.prog 121 #[.pointer (some ⟨g, 0, none⟩)] w (MoreJ g (JY m) Jd))
    (hY : ∀ m p v w, JY m p v w → YieldAt Fence.wide (n - 1) Tryd.prog l #[v] w (RoundJ J m Jx)) (h0 : J m0 w) :
    CallsIn Fence.wide n Tryd.prog 96 #[.pointer (some ⟨g, 0, none⟩), .func (.yield l) #[] #[]] w (OverJ Jd Jx) := by
  have HM := Lib.hid hM
  have HY := Lib.hid hY
  clear hM hY
  refine callsIn_of_wp Tryd.func96 rfl trivial ?_ rfl
  simp only [Tryd.ntmps96, List.size_toArray, List.length_cons, List.length_nil, Nat.reduceAdd, Nat.reduceSub, Array.replicate_succ, Array.replicate_zero, List.push_toArray, List.append_toArray, List.nil_append, List.cons_append]
  gi_wp2
  gi_loopw [] (fun wr => SomeM J wr) (fun wr => leastOf J wr)
  case atStart => exact ⟨m0, h0⟩
  case round =>
    have hj : J (leastOf J wr) wr := leastOf_at hrel
    have HK := Lib.hid (HM.out _ _ hj)
    clear hrel hj
    gi_wp2_with fail
    refine ⟨trivial, (fun h => by cases h), (callsIn_wide.2 HK.out).mono ?_⟩
    rintro e w1 (⟨p, A, c, rfl, c0, c1, c2, hj⟩ | ⟨rfl, hd⟩)
    · obtain ⟨fn, tmps, assign, body, hy, hR⟩ := HY.out _ _ _ _ hj
      have HR := Lib.hid hR
      clear hR hj
      gi_wp2_with fail
      refine ⟨(fun h => by cases h), HR.out.mono ?_⟩
      rintro e w2 (⟨rfl, m', hlt, hj'⟩ | ⟨rfl, hx⟩)
      · have HJ := Lib.hid hj'
        have HLT := Lib.hid hlt
        clear hj' hlt c0 c1 c2 hy
        gi_wp2
        exact ⟨⟨m', HJ.out⟩, Nat.lt_of_le_of_lt (leastOf_le HJ.out) HLT.out⟩
      · clear c0 c1 c2 hy
        gi_wp2
        go_end0
        exact ⟨⟨_, rfl⟩, .inr hx⟩
    · gi_wp2
      refine ⟨fun _ h => (by cases h), ?_⟩
      gi_wp2
      go_end0
      exact ⟨⟨_, rfl⟩, .inl hd⟩
end Go.Proofs.YtbbpapaobehlcaaDoor.low

