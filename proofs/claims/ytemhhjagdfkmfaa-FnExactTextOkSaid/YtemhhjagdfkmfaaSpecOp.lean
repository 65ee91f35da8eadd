
/-
  Contracts of the reference model's functions on operations that only read: spec.PartOk, l02Parts, l02Sum, OpFrom, OpTo, OpOk, Puts, Drops.
-/
import Derived.Test.YtemhhjagdfkmfaaPart
namespace Go.Proofs.Ytemhhjagdfkmfaa.low
open Go.RowKit
set_option linter.unusedVariables false

/-- a valid part -/
def okPt (p : Pt) : Bool := decide (((p.kind = 1 ∨ p.kind = 3) ∧ (0 ≤ p.n ∧ p.n ≤ 200) ∧ p.signs.length = 0) ∨ (p.kind = 2 ∧ p.n = 0 ∧ allB p.signs = true ∧ p.signs.length ≤ 200))
theorem okPt_t {p : Pt} (h : ((p.kind = 1 ∨ p.kind = 3) ∧ (0 ≤ p.n ∧ p.n ≤ 200) ∧ p.signs.length = 0) ∨ (p.kind = 2 ∧ p.n = 0 ∧ allB p.signs = true ∧ p.signs.length ≤ 200)) : okPt p = true := decide_eq_true h
theorem okPt_f {p : Pt} (h : ¬ (((p.kind = 1 ∨ p.kind = 3) ∧ (0 ≤ p.n ∧ p.n ≤ 200) ∧ p.signs.length = 0) ∨ (p.kind = 2 ∧ p.n = 0 ∧ allB p.signs = true ∧ p.signs.length ≤ 200))) : okPt p = false := decide_eq_false h
theorem of_okPt {p : Pt} (h : okPt p = true) : ((p.kind = 1 ∨ p.kind = 3) ∧ (0 ≤ p.n ∧ p.n ≤ 200) ∧ p.signs.length = 0) ∨ (p.kind = 2 ∧ p.n = 0 ∧ allB p.signs = true ∧ p.signs.length ≤ 200) := of_decide_eq_true h
theorem alloc_below (w : World) (o : Obj) : Below w.heap.size w (w.alloc o) := (Below.refl _ _).alloc (Nat.le_refl _) _

set_option maxHeartbeats 1600000 in
theorem specPartOk_any (p : Pt) (A : Option Addr) (c : Nat) (w : World) (hr : Row (Value.int .i64) w w.heap.size A p.signs) (hl : p.signs.length ≤ 4294967296) :
    Calls Try.prog 77 #[.agg #[.int .i64 p.kind, .int .i64 p.n, .slice A p.signs.length c]] w (Tells (okPt p) w) := by
  obtain ⟨k, n, zs⟩ := p
  have hr' : Row (Value.int .i64) w w.heap.size A zs := hr
  have hl' : zs.length ≤ 4294967296 := hl
  clear hr hl
  by_cases hk : k = 1 ∨ k = 3
  · by_cases hn : 0 ≤ n ∧ n ≤ 200
    · have k1 := inB_t hn
      by_cases hz : zs.length = 0
      all_goals
        have HS := Lib.hid (show okPt ⟨k, n, zs⟩ = decide (zs.length = 0) by
          first
            | (rw [okPt_t (.inl ⟨hk, hn, hz⟩), decide_eq_true hz])
            | (rw [okPt_f (by simp only; omega), decide_eq_false hz]))
        have hzb : ((zs.length : Int) == 0) = decide (zs.length = 0) := by
          first
            | (rw [decide_eq_true hz, beq_iff_eq]; omega)
            | (rw [decide_eq_false hz, beq_eq_false_iff_ne]; omega)
        generalize decide (zs.length = 0) = bb at HS hzb
        clear hz hn
        rcases hk with rfl | rfl
        all_goals
          go_enter Try.func77, Try.ntmps77
          go_wp2_with (go_at_call 74; refine (in_any _ _ _ _).mono ?_; rintro e w' ⟨rfl, rfl⟩)
          go_ret
          exact ⟨ret_bool (by rw [HS.out]), alloc_below _ _⟩
    · have k1 := inB_f hn
      have HS := Lib.hid (show okPt ⟨k, n, zs⟩ = false by rw [okPt_f (by simp only; omega)])
      clear hn
      rcases hk with rfl | rfl
      all_goals
        go_enter Try.func77, Try.ntmps77
        go_wp2_with (go_at_call 74; refine (in_any _ _ _ _).mono ?_; rintro e w' ⟨rfl, rfl⟩)
        go_ret
        exact ⟨ret_bool (by rw [HS.out]), alloc_below _ _⟩
  · have hk1 : (k == 1) = false := by rw [beq_eq_false_iff_ne]; omega
    have hk3 : (k == 3) = false := by rw [beq_eq_false_iff_ne]; omega
    by_cases hk2 : k = 2
    · have hk2' : (k == 2) = true := by rw [beq_iff_eq]; exact hk2
      by_cases hn : n = 0
      · have hn' : (n == 0) = true := by rw [beq_iff_eq]; exact hn
        have HS := Lib.hid (show okPt ⟨k, n, zs⟩ = (allB zs && decide (zs.length ≤ 200)) by
          unfold okPt
          simp [hk2, hn])
        have hle : decide ((zs.length : Int) ≤ 200) = decide (zs.length ≤ 200) := by congr 1; apply propext; omega
        clear hk hk2 hn
        cases hab : allB zs
        all_goals
          by_cases hlen : zs.length ≤ 200
          all_goals
            have HL : Hid (decide (zs.length ≤ 200) = decide (zs.length ≤ 200)) := rfl
            go_enter Try.func77, Try.ntmps77
            go_wp2_with (go_at_call 34; refine (specSignsOk_any A c zs _ (hr'.past_alloc _) hl').mono ?_; rintro e w' ⟨rfl, rfl⟩)
            go_ret
            refine ⟨ret_bool ?_, alloc_below _ _⟩
            rw [HS.out, hab]
            simp [hlen]
      · have hn' : (n == 0) = false := by rw [beq_eq_false_iff_ne]; exact hn
        have HS := Lib.hid (show okPt ⟨k, n, zs⟩ = false by rw [okPt_f (by simp only; omega)])
        clear hk hk2 hn
        go_enter Try.func77, Try.ntmps77
        go_wp2
        go_ret
        exact ⟨ret_bool (by rw [HS.out]), alloc_below _ _⟩
    · have hk2' : (k == 2) = false := by rw [beq_eq_false_iff_ne]; exact hk2
      have HS := Lib.hid (show okPt ⟨k, n, zs⟩ = false by rw [okPt_f (by simp only; omega)])
      clear hk hk2
      go_enter Try.func77, Try.ntmps77
      go_wp2
      go_ret
      exact ⟨ret_bool (by rw [HS.out]), alloc_below _ _⟩

/-- all parts are valid, and there are not too many -/
def okPs (ps : List Pt) : Bool := ps.all okPt
def partsB (ps : List Pt) : Bool := okPs ps && decide (ps.length ≤ 600)
theorem okPs_f {ps : List Pt} {k : Nat} {p : Pt} (h : ps[k]? = some p) (hp : okPt p = false) : okPs ps = false := by
  unfold okPs
  rw [List.all_eq_false]
  exact ⟨p, List.mem_of_getElem? h, by simp [hp]⟩
theorem okPs_snoc {ps : List Pt} {k : Nat} {p : Pt} (h : ps[k]? = some p) (ha : okPs (ps.take k) = true) (hp : okPt p = true) : okPs (ps.take (k + 1)) = true := by
  unfold okPs at *
  rw [List.take_add_one, h]
  simp [ha, hp]
theorem okPs_at {ps : List Pt} {k : Nat} {p : Pt} (h : ps[k]? = some p) (ha : okPs ps = true) : okPt p = true := by
  unfold okPs at ha
  exact List.all_eq_true.1 ha p (List.mem_of_getElem? h)
theorem partsB_of {ps : List Pt} (h : partsB ps = true) : okPs ps = true ∧ ps.length ≤ 600 := by
  unfold partsB at h
  rw [Bool.and_eq_true] at h
  exact ⟨h.1, of_decide_eq_true h.2⟩

set_option maxHeartbeats 1600000 in
theorem specParts_any (A : Option Addr) (c : Nat) (ps : List Pt) (w : World) (hr : PRow w w.heap.size A ps) (hl : ps.length ≤ 4294967296) (hls : ∀ p ∈ ps, p.signs.length ≤ 4294967296) :
    Calls Try.prog 71 #[.slice A ps.length c] w (Tells (partsB ps) w) := by
  go_enter Try.func71, Try.ntmps71
  go_wp2
  go_loopw [7] (fun i wr => ∃ k : Nat, k ≤ ps.length ∧ i = .int .i64 k ∧ okPs (ps.take k) = true ∧ Below w.heap.size w wr) (fun i _ => ps.length - (intOf i).toNat)
  case atStart => exact ⟨0, Nat.zero_le _, rfl, rfl, Below.refl _ _⟩
  case round =>
    obtain ⟨k, hk, rfl, ha, hbel⟩ := hrel
    have HA := Lib.hid ha
    clear ha
    by_cases hlt : k < ps.length
    · obtain ⟨b, off, p, rfl, hb, hp, hc⟩ := hr.at_ hlt
      obtain ⟨x0, x1, A1, e1, x2, r1⟩ := hc.keep (w' := wr) hb (fun _ hq => hbel.cell hq)
      have hsp := hls p (List.mem_of_getElem? hp)
      have HP := Lib.hid hp
      clear hp hc
      cases hs : okPt p
      · go_wp2_with fail
        refine (specPartOk_any p A1 e1 _ ((r1.more hbel.size).past_alloc _) hsp).mono ?_
        rintro e w2 ⟨rfl, b2⟩
        go_wp2
        go_ret
        exact ⟨ret_bool (by unfold partsB; rw [okPs_f HP.out hs]; rfl), (hbel.trans ((alloc_below wr _).mono hbel.size)).trans (b2.mono (Nat.le_trans hbel.size (alloc_below wr _).size))⟩
      · go_wp2_with fail
        refine (specPartOk_any p A1 e1 _ ((r1.more hbel.size).past_alloc _) hsp).mono ?_
        rintro e w2 ⟨rfl, b2⟩
        go_wp2
        go_roundw
        case rel => exact ⟨k + 1, by omega, by go_num, okPs_snoc HP.out HA.out hs, (hbel.trans ((alloc_below wr _).mono hbel.size)).trans (b2.mono (Nat.le_trans hbel.size (alloc_below wr _).size))⟩
        case measure => simp [intOf]; omega
    · have HE := Lib.hid (show partsB ps = decide ((ps.length : Int) ≤ 600) by
        have h1 := HA.out
        rw [List.take_of_length_le (by omega)] at h1
        unfold partsB
        rw [h1, Bool.true_and]
        congr 1; apply propext; omega)
      go_wp2
      go_ret
      refine ⟨ret_bool ?_, hbel⟩
      rw [HE.out]

/-- the sums -/
def keepOf (p : Pt) : Int := if p.kind = 1 then p.n else 0
def putOf (p : Pt) : Int := if p.kind = 2 then (p.signs.length : Int) else 0
def dropOf (p : Pt) : Int := if p.kind = 3 then p.n else 0
def sumOf (f : Pt → Int) (ps : List Pt) : Int := (ps.map f).sum
theorem sumOf_snoc {f : Pt → Int} {ps : List Pt} {k : Nat} {p : Pt} (h : ps[k]? = some p) : sumOf f (ps.take (k + 1)) = sumOf f (ps.take k) + f p := by
  unfold sumOf
  rw [List.take_add_one, h]
  simp
theorem sumOf_bd {f : Pt → Int} : ∀ (ps : List Pt), (∀ p ∈ ps, 0 ≤ f p ∧ f p ≤ 200) → 0 ≤ sumOf f ps ∧ sumOf f ps ≤ 200 * (ps.length : Int)
  | [], _ => by simp [sumOf]
  | p :: ps, h => by
    have h1 := h p (List.mem_cons_self ..)
    have h2 := sumOf_bd ps fun q hq => h q (List.mem_cons_of_mem _ hq)
    have e : sumOf f (p :: ps) = f p + sumOf f ps := by simp [sumOf]
    rw [e, List.length_cons]
    omega
theorem ok_bd {p : Pt} (h : okPt p = true) : (0 ≤ keepOf p ∧ keepOf p ≤ 200) ∧ (0 ≤ putOf p ∧ putOf p ≤ 200) ∧ (0 ≤ dropOf p ∧ dropOf p ≤ 200) := by
  have := of_okPt h
  unfold keepOf putOf dropOf
  refine ⟨?_, ?_, ?_⟩ <;> split <;> omega
theorem sums_bd {ps : List Pt} (h : okPs ps = true) (hl : ps.length ≤ 600) : (0 ≤ sumOf keepOf ps ∧ sumOf keepOf ps ≤ 120000) ∧ (0 ≤ sumOf putOf ps ∧ sumOf putOf ps ≤ 120000) ∧ (0 ≤ sumOf dropOf ps ∧ sumOf dropOf ps ≤ 120000) := by
  have hp : ∀ p ∈ ps, okPt p = true := fun p hp => by unfold okPs at h; exact List.all_eq_true.1 h p hp
  have h1 := sumOf_bd (f := keepOf) ps fun p hq => (ok_bd (hp p hq)).1
  have h2 := sumOf_bd (f := putOf) ps fun p hq => (ok_bd (hp p hq)).2.1
  have h3 := sumOf_bd (f := dropOf) ps fun p hq => (ok_bd (hp p hq)).2.2
  omega
theorem okPs_take {ps : List Pt} (h : okPs ps = true) (k : Nat) : okPs (ps.take k) = true := by
  unfold okPs at *
  rw [List.all_eq_true] at *
  exact fun p hp => h p (List.mem_of_mem_take hp)

def three (a b c : Int) (w : World) (e : Ending) (w' : World) : Prop := e = .returned (.tuple #[.int .i64 a, .int .i64 b, .int .i64 c]) ∧ Below w.heap.size w w'
def sumK (ps : List Pt) : Int := if partsB ps = true then sumOf keepOf ps else 0
def sumP (ps : List Pt) : Int := if partsB ps = true then sumOf putOf ps else 0
def sumD (ps : List Pt) : Int := if partsB ps = true then sumOf dropOf ps else 0
theorem sum_t {ps : List Pt} (h : partsB ps = true) : sumK ps = sumOf keepOf ps ∧ sumP ps = sumOf putOf ps ∧ sumD ps = sumOf dropOf ps := by unfold sumK sumP sumD; rw [if_pos h, if_pos h, if_pos h]; exact ⟨rfl, rfl, rfl⟩
theorem sum_f {ps : List Pt} (h : partsB ps = false) : sumK ps = 0 ∧ sumP ps = 0 ∧ sumD ps = 0 := by unfold sumK sumP sumD; rw [h]; exact ⟨rfl, rfl, rfl⟩

set_option maxRecDepth 100000 in
set_option maxHeartbeats 1600000 in
theorem specSum_any (A : Option Addr) (c : Nat) (ps : List Pt) (w : World) (hr : PRow w w.heap.size A ps) (hl : ps.length ≤ 4294967296) (hls : ∀ p ∈ ps, p.signs.length ≤ 4294967296) :
    Calls Try.prog 73 #[.slice A ps.length c] w (three (sumK ps) (sumP ps) (sumD ps) w) := by
  cases hpb : partsB ps
  · have HS := Lib.hid (sum_f hpb)
    go_enter Try.func73, Try.ntmps73
    go_wp2_with fail
    refine (specParts_any A c ps _ hr hl hls).mono ?_
    rintro e w1 ⟨rfl, b1⟩
    go_wp2
    go_ret3
    rw [HS.out.1, HS.out.2.1, HS.out.2.2]
    exact ⟨rfl, b1⟩
  · have HS := Lib.hid (sum_t hpb)
    have HPB := Lib.hid (partsB_of hpb)
    go_enter Try.func73, Try.ntmps73
    go_wp2_with fail
    refine (specParts_any A c ps _ hr hl hls).mono ?_
    rintro e w1 ⟨rfl, b1⟩
    go_wp2
    go_loopw [5, 6, 7, 15] (fun a b d i wr => ∃ k : Nat, k ≤ ps.length ∧ i = .int .i64 k ∧ a = .int .i64 (sumOf keepOf (ps.take k)) ∧ b = .int .i64 (sumOf putOf (ps.take k)) ∧ d = .int .i64 (sumOf dropOf (ps.take k)) ∧ Below w.heap.size w wr) (fun _ _ _ i _ => ps.length - (intOf i).toNat)
    case atStart => exact ⟨0, Nat.zero_le _, rfl, rfl, rfl, rfl, b1⟩
    case round =>
      obtain ⟨k, hk, rfl, rfl, rfl, rfl, hbel⟩ := hrel
      have hsb := sums_bd (okPs_take HPB.out.1 k) (by rw [List.length_take]; have := HPB.out.2; omega)
      obtain ⟨⟨s1, s2⟩, ⟨s3, s4⟩, s5, s6⟩ := hsb
      by_cases hlt : k < ps.length
      · obtain ⟨b, off, p, rfl, hb, hp, hc⟩ := hr.at_ hlt
        obtain ⟨x0, x1, A1, e1, x2, r1⟩ := hc.keep (w' := wr) hb (fun _ hq => hbel.cell hq)
        have hok := of_okPt (okPs_at hp HPB.out.1)
        have K1 := Lib.hid (sumOf_snoc (f := keepOf) hp)
        have K2 := Lib.hid (sumOf_snoc (f := putOf) hp)
        have K3 := Lib.hid (sumOf_snoc (f := dropOf) hp)
        clear hp hc
        generalize sumOf keepOf (ps.take k) = q1 at *
        generalize sumOf putOf (ps.take k) = q2 at *
        generalize sumOf dropOf (ps.take k) = q3 at *
        obtain ⟨pk, pn, pz⟩ := p
        simp only at x0 x1 x2 hok
        rcases (show pk = 1 ∨ pk = 2 ∨ pk = 3 by omega) with rfl | rfl | rfl
        · have hn1 : 0 ≤ pn := by omega
          have hn2 : pn ≤ 200 := by omega
          clear hok
          go_wp2
          go_roundw
          case rel => exact ⟨k + 1, by omega, by go_num, by rw [K1.out]; simp [keepOf], by rw [K2.out]; simp [putOf], by rw [K3.out]; simp [dropOf], hbel.trans ((alloc_below wr _).mono hbel.size)⟩
          case measure => simp [intOf]; omega
        · have hn1 : pz.length ≤ 200 := by omega
          clear hok
          go_wp2
          go_roundw
          case rel => exact ⟨k + 1, by omega, by go_num, by rw [K1.out]; simp [keepOf], by rw [K2.out]; simp [putOf], by rw [K3.out]; simp [dropOf], hbel.trans ((alloc_below wr _).mono hbel.size)⟩
          case measure => simp [intOf]; omega
        · have hn1 : 0 ≤ pn := by omega
          have hn2 : pn ≤ 200 := by omega
          clear hok
          go_wp2
          go_roundw
          case rel => exact ⟨k + 1, by omega, by go_num, by rw [K1.out]; simp [keepOf], by rw [K2.out]; simp [putOf], by rw [K3.out]; simp [dropOf], hbel.trans ((alloc_below wr _).mono hbel.size)⟩
          case measure => simp [intOf]; omega
      · have hke : ps.take k = ps := List.take_of_length_le (by omega)
        rw [hke] at s1 s2 s3 s4 s5 s6 ⊢
        go_wp2
        go_ret3
        rw [HS.out.1, HS.out.2.1, HS.out.2.2]
        exact ⟨rfl, hbel⟩

def Nums1 (n : Int) (w : World) (e : Ending) (w' : World) : Prop := e = .returned (.int .i64 n) ∧ Below w.heap.size w w'
theorem sum_bd (ps : List Pt) : (0 ≤ sumK ps ∧ sumK ps ≤ 120000) ∧ (0 ≤ sumP ps ∧ sumP ps ≤ 120000) ∧ (0 ≤ sumD ps ∧ sumD ps ≤ 120000) := by
  cases h : partsB ps
  · obtain ⟨h1, h2, h3⟩ := sum_f h
    rw [h1, h2, h3]; omega
  · obtain ⟨h1, h2, h3⟩ := sum_t h
    have hp := partsB_of h
    have := sums_bd hp.1 hp.2
    rw [h1, h2, h3]; exact this

set_option maxHeartbeats 800000 in
theorem specOpFrom_any (A : Option Addr) (c : Nat) (ps : List Pt) (w : World) (hr : PRow w w.heap.size A ps) (hl : ps.length ≤ 4294967296) (hls : ∀ p ∈ ps, p.signs.length ≤ 4294967296) :
    Calls Try.prog 64 #[.slice A ps.length c] w (Nums1 (sumK ps + sumD ps) w) := by
  have hbd := sum_bd ps
  obtain ⟨⟨s1, s2⟩, ⟨s3, s4⟩, s5, s6⟩ := hbd
  go_enter Try.func64, Try.ntmps64
  go_wp2_with fail
  refine (specSum_any A c ps _ hr hl hls).mono ?_
  rintro e w1 ⟨rfl, b1⟩
  generalize sumK ps = q1 at *
  generalize sumP ps = q2 at *
  generalize sumD ps = q3 at *
  go_wp2
  go_ret
  exact ⟨rfl, b1⟩

set_option maxHeartbeats 800000 in
theorem specOpTo_any (A : Option Addr) (c : Nat) (ps : List Pt) (w : World) (hr : PRow w w.heap.size A ps) (hl : ps.length ≤ 4294967296) (hls : ∀ p ∈ ps, p.signs.length ≤ 4294967296) :
    Calls Try.prog 72 #[.slice A ps.length c] w (Nums1 (sumK ps + sumP ps) w) := by
  have hbd := sum_bd ps
  obtain ⟨⟨s1, s2⟩, ⟨s3, s4⟩, s5, s6⟩ := hbd
  go_enter Try.func72, Try.ntmps72
  go_wp2_with fail
  refine (specSum_any A c ps _ hr hl hls).mono ?_
  rintro e w1 ⟨rfl, b1⟩
  generalize sumK ps = q1 at *
  generalize sumP ps = q2 at *
  generalize sumD ps = q3 at *
  go_wp2
  go_ret
  exact ⟨rfl, b1⟩

/-- a valid operation -/
def okOp (ps : List Pt) : Bool := partsB ps && decide (sumK ps + sumD ps ≤ 200) && decide (sumK ps + sumP ps ≤ 200)
set_option maxHeartbeats 1600000 in
theorem specOpOk_any (A : Option Addr) (c : Nat) (ps : List Pt) (w : World) (hr : PRow w w.heap.size A ps) (hl : ps.length ≤ 4294967296) (hls : ∀ p ∈ ps, p.signs.length ≤ 4294967296) :
    Calls Try.prog 55 #[.slice A ps.length c] w (Tells (okOp ps) w) := by
  cases hpb : partsB ps
  · have HS := Lib.hid (show okOp ps = false by unfold okOp; rw [hpb]; rfl)
    go_enter Try.func55, Try.ntmps55
    go_wp2_with fail
    refine (specParts_any A c ps _ hr hl hls).mono ?_
    rintro e w1 ⟨rfl, b1⟩
    go_wp2
    go_ret
    exact ⟨ret_bool (by rw [HS.out]), b1⟩
  · by_cases hf : sumK ps + sumD ps ≤ 200
    · by_cases ht : sumK ps + sumP ps ≤ 200
      all_goals
        have HS := Lib.hid (show okOp ps = decide (sumK ps + sumP ps ≤ 200) by unfold okOp; rw [hpb, decide_eq_true hf]; rfl)
        go_enter Try.func55, Try.ntmps55
        go_wp2_with fail
        refine (specParts_any A c ps _ hr hl hls).mono ?_
        rintro e w1 ⟨rfl, b1⟩
        go_wp2_with fail
        refine (specOpFrom_any A c ps _ (hr.past b1) hl hls).mono ?_
        rintro e w2 ⟨rfl, b2⟩
        have d2 := b1.trans (b2.mono b1.size)
        go_wp2_with fail
        refine (specOpTo_any A c ps _ (hr.past d2) hl hls).mono ?_
        rintro e w3 ⟨rfl, b3⟩
        go_wp2
        go_ret
        refine ⟨ret_bool ?_, d2.trans (b3.mono d2.size)⟩
        rw [HS.out]
        first | done | (rw [decide_eq_true ht]) | (rw [decide_eq_false ht])
    · have HS := Lib.hid (show okOp ps = false by unfold okOp; rw [hpb, decide_eq_false hf]; rfl)
      go_enter Try.func55, Try.ntmps55
      go_wp2_with fail
      refine (specParts_any A c ps _ hr hl hls).mono ?_
      rintro e w1 ⟨rfl, b1⟩
      go_wp2_with fail
      refine (specOpFrom_any A c ps _ (hr.past b1) hl hls).mono ?_
      rintro e w2 ⟨rfl, b2⟩
      go_wp2
      go_ret
      exact ⟨ret_bool (by rw [HS.out]), b1.trans (b2.mono b1.size)⟩

/-- how many characters are put, dropped -/
def putsN (ps : List Pt) : Int := if okOp ps = true then sumP ps else 0
def dropsN (ps : List Pt) : Int := if okOp ps = true then sumD ps else 0

set_option maxHeartbeats 800000 in
theorem specPuts_any (A : Option Addr) (c : Nat) (ps : List Pt) (w : World) (hr : PRow w w.heap.size A ps) (hl : ps.length ≤ 4294967296) (hls : ∀ p ∈ ps, p.signs.length ≤ 4294967296) :
    Calls Try.prog 56 #[.slice A ps.length c] w (Nums1 (putsN ps) w) := by
  cases ho : okOp ps
  · have HS := Lib.hid (show putsN ps = 0 by unfold putsN; rw [ho]; rfl)
    go_enter Try.func56, Try.ntmps56
    go_wp2_with fail
    refine (specOpOk_any A c ps _ hr hl hls).mono ?_
    rintro e w1 ⟨rfl, b1⟩
    go_wp2
    go_ret
    rw [HS.out]
    exact ⟨rfl, b1⟩
  · have HS := Lib.hid (show putsN ps = sumP ps by unfold putsN; rw [ho]; rfl)
    go_enter Try.func56, Try.ntmps56
    go_wp2_with fail
    refine (specOpOk_any A c ps _ hr hl hls).mono ?_
    rintro e w1 ⟨rfl, b1⟩
    go_wp2_with fail
    refine (specSum_any A c ps _ (hr.past b1) hl hls).mono ?_
    rintro e w2 ⟨rfl, b2⟩
    go_wp2
    go_ret
    rw [HS.out]
    exact ⟨rfl, b1.trans (b2.mono b1.size)⟩

set_option maxHeartbeats 800000 in
theorem specDrops_any (A : Option Addr) (c : Nat) (ps : List Pt) (w : World) (hr : PRow w w.heap.size A ps) (hl : ps.length ≤ 4294967296) (hls : ∀ p ∈ ps, p.signs.length ≤ 4294967296) :
    Calls Try.prog 57 #[.slice A ps.length c] w (Nums1 (dropsN ps) w) := by
  cases ho : okOp ps
  · have HS := Lib.hid (show dropsN ps = 0 by unfold dropsN; rw [ho]; rfl)
    go_enter Try.func57, Try.ntmps57
    go_wp2_with fail
    refine (specOpOk_any A c ps _ hr hl hls).mono ?_
    rintro e w1 ⟨rfl, b1⟩
    go_wp2
    go_ret
    rw [HS.out]
    exact ⟨rfl, b1⟩
  · have HS := Lib.hid (show dropsN ps = sumD ps by unfold dropsN; rw [ho]; rfl)
    go_enter Try.func57, Try.ntmps57
    go_wp2_with fail
    refine (specOpOk_any A c ps _ hr hl hls).mono ?_
    rintro e w1 ⟨rfl, b1⟩
    go_wp2_with fail
    refine (specSum_any A c ps _ (hr.past b1) hl hls).mono ?_
    rintro e w2 ⟨rfl, b2⟩
    go_wp2
    go_ret
    rw [HS.out]
    exact ⟨rfl, b1.trans (b2.mono b1.size)⟩
end Go.Proofs.Ytemhhjagdfkmfaa.low
