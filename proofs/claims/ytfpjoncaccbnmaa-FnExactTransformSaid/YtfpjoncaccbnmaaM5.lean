/-
  Texts that the proofs over this seat rest on, one behind the other (5 of 5).
-/
import Derived.Test.YtfpjoncaccbnmaaM4
import Derived.Test.YtfpjoncaccbnmaaM2

/-
  The specification's draws: the cursor made; once; one of a list; a character; characters. append(out, p) of one part.
-/
namespace Go.Proofs.Ytfpjoncaccbnmaa.low
open Go.RowKit
set_option linter.unusedVariables false

def OnceP (B g : Nat) (w : World) (e : Ending) (w' : World) : Prop := ∃ q : Bool, e = .returned (.bool q) ∧ DC B g w' ∧ Fr (fun q => q = g) w w' ∧ Below B w w'
set_option maxHeartbeats 800000 in
theorem specOnce_d (B g : Nat) (n : Int) (w : World) (h : DC B g w) (hn : n ≤ 2147483648) : Calls Try.prog 63 #[.pointer (some ⟨g, 0, none⟩), .int .i64 n] w (OnceP B g w) := by
  go_enter Try.func63, Try.ntmps63
  go_wp2_with fail
  refine (specBelow_d B g n _ h hn).mono ?_
  rintro e w1 ⟨x, rfl, _, dc, fr, bl⟩
  go_wp2
  go_ret
  exact ⟨_, rfl, dc, fr, bl⟩

set_option maxHeartbeats 800000 in
theorem specPick_d (B g : Nat) (A : Option Addr) (c : Nat) (zs : List Int) (w : World) (h : DC B g w) (hr : Row (Value.int .i64) w w.heap.size A zs) (hz : 0 < zs.length) (hl : zs.length ≤ 1000) (P : Int → Prop) (hp : ∀ z ∈ zs, P z) (hg : ∀ ad, A = some ad → ¬ ad.block = g) :
    Calls Try.prog 82 #[.pointer (some ⟨g, 0, none⟩), .slice A zs.length c] w (DrawP P B g w) := by
  go_enter Try.func82, Try.ntmps82
  go_wp2_with fail
  refine (specBelow_d B g (zs.length : Int) _ h (by omega)).mono ?_
  rintro e w1 ⟨x, rfl, ⟨x1, x2, _⟩, dc, fr, bl⟩
  have x2 := x2 (by omega)
  obtain ⟨k, rfl⟩ := Int.eq_ofNat_of_zero_le x1
  obtain ⟨ad, z, rfl, hb, hzk, hc⟩ := hr.at_ (k := k) (by omega)
  have hc' : w1.cell? (ad.add k) = some (.int .i64 z) := by
    rw [World.cell?_of_block (w := w) (fr.block _ (by rw [block_of_add]; exact hb) (by rw [block_of_add]; exact hg ad rfl))]
    exact hc
  have HP := Lib.hid (hp z (List.mem_of_getElem? hzk))
  clear hzk
  have hlt : k < zs.length := by omega
  go_wp2
  go_ret
  exact ⟨z, rfl, HP.out, dc, fr, bl⟩
theorem pickList_ok : ∀ z ∈ ([0, 127, 128, 2047, 2048, 55295, 57344, 65535, 65536, 1114111, 10, 32] : List Int), signB z = true := by decide
set_option maxRecDepth 100000 in
set_option maxHeartbeats 1600000 in
theorem specSign_d (B g : Nat) (w : World) (h : DC B g w) : Calls Try.prog 62 #[.pointer (some ⟨g, 0, none⟩)] w (DrawP (fun x => signB x = true) B g w) := by
  go_enter Try.func62, Try.ntmps62
  go_wp2_with fail
  refine (specOnce_d B g 8 _ h (by omega)).mono ?_
  rintro e w1 ⟨q, rfl, dc, fr, bl⟩
  cases q
  · go_wp2_with fail
    refine (specBelow_d B g 6 _ dc (by omega)).mono ?_
    rintro e w2 ⟨x, rfl, ⟨x1, x2, _⟩, dc2, fr2, bl2⟩
    have x2 := x2 (by omega)
    go_wp2
    go_ret
    exact ⟨_, rfl, by simp only [signB, decide_eq_true_eq]; omega, dc2, fr.trans fr2, bl.trans bl2⟩
  · go_wp2_with fail
    have hB := dc.lt
    have hBg := dc.low
    have bA := alloc_below w1 (.cells #[.int .i64 0, .int .i64 127, .int .i64 128, .int .i64 2047, .int .i64 2048, .int .i64 55295, .int .i64 57344, .int .i64 65535, .int .i64 65536, .int .i64 1114111, .int .i64 10, .int .i64 32] 3)
    have hrow : Row (Value.int .i64) (w1.alloc (.cells #[.int .i64 0, .int .i64 127, .int .i64 128, .int .i64 2047, .int .i64 2048, .int .i64 55295, .int .i64 57344, .int .i64 65535, .int .i64 65536, .int .i64 1114111, .int .i64 10, .int .i64 32] 3)) (w1.alloc (.cells #[.int .i64 0, .int .i64 127, .int .i64 128, .int .i64 2047, .int .i64 2048, .int .i64 55295, .int .i64 57344, .int .i64 65535, .int .i64 65536, .int .i64 1114111, .int .i64 10, .int .i64 32] 3)).heap.size (some ⟨w1.heap.size, 0, none⟩) [0, 127, 128, 2047, 2048, 55295, 57344, 65535, 65536, 1114111, 10, 32] := fun _ => by
      refine ⟨_, rfl, lt_of_some (heap_alloc_new w1 _), fun k z hz => ?_⟩
      rw [add_plain0]
      have hk := idx_lt hz
      rw [cell_of_row _ _ k _ _ _ (heap_alloc_new w1 _)]
      have : (#[Value.int .i64 0, .int .i64 127, .int .i64 128, .int .i64 2047, .int .i64 2048, .int .i64 55295, .int .i64 57344, .int .i64 65535, .int .i64 65536, .int .i64 1114111, .int .i64 10, .int .i64 32] : Array Value) = (([0, 127, 128, 2047, 2048, 55295, 57344, 65535, 65536, 1114111, 10, 32] : List Int).map (Value.int .i64)).toArray := rfl
      rw [this]
      simp only [List.getElem?_toArray, List.getElem?_map, hz, Option.map_some]
    refine (specPick_d B g _ _ _ _ (dc.past bA) hrow (by decide) (by decide) (fun x => signB x = true) pickList_ok (fun ad e => by injection e with e; subst e; show ¬ w1.heap.size = g; omega)).mono ?_
    rintro e w2 ⟨x, rfl, hx, dc2, fr2, bl2⟩
    have fA : Fr (fun q => q = g) w1 _ := Fr.below bA
    have HX := Lib.hid hx
    go_wp2
    go_ret
    exact ⟨x, rfl, HX.out, dc2, (fr.trans fA).trans fr2, (bl.trans (bA.mono (by omega))).trans bl2⟩
/-- behind a draw of characters: a text of its own -/
def SignsP (most B g : Nat) (w : World) (e : Ending) (w' : World) : Prop := ∃ t v b, e = .returned v ∧ t.length ≤ most ∧ allB t = true ∧ OwB w.heap.size w'.heap.size w' (encInts t) v b ∧ DC B g w' ∧ Fr (fun q => q = g) w w' ∧ Below B w w'
theorem Fr.old {S : Nat → Prop} {w w1 w2 : World} {O O' : Nat → Prop} (h : Fr S w w1) (hg : Grew O O' w1 w2) (hO : ∀ q, O q → w.heap.size ≤ q) : Fr S w w2 :=
  ⟨Nat.le_trans h.size hg.size, fun q hq hs => (hg.block q (Nat.lt_of_lt_of_le hq h.size) (fun ho => by have := hO q ho; omega)).trans (h.block q hq hs)⟩
theorem OwB.fr {lo hi g : Nat} {w w' : World} {d : Dat} {v : Value} {b : List Nat} (h : OwB lo hi w d v b) (hf : Fr (fun q => q = g) w w') (hg : g < lo) : OwB lo hi w' d v b :=
  ⟨OwC.keep d v b h.ow (fun x hx => hf.block x (OwC.lt d v b h.ow x hx) (fun e => by have e' : x = g := e; have := (h.rng x hx).1; omega)), h.nd, h.rng, Nat.le_trans h.top hf.size, h.le⟩
theorem allB_add {t : List Int} {x : Int} (h : allB t = true) (hx : signB x = true) : allB (t ++ [x]) = true := by rw [allB_app, h]; simp [allB, hx]
set_option maxRecDepth 100000 in
set_option maxHeartbeats 3200000 in
theorem specSigns_d (B g most : Nat) (w : World) (h : DC B g w) (hm : most ≤ 1000) : Calls Try.prog 31 #[.pointer (some ⟨g, 0, none⟩), .int .i64 (most : Int)] w (SignsP most B g w) := by
  obtain ⟨i0, hi0, hz0, hz1, hz2⟩ := info_parts ints_info
  have hgl := h.lt
  have hBg := h.low
  go_enter Try.func31, Try.ntmps31
  go_wp2_with fail
  have bA := alloc_below w (.cells #[] 3)
  have hib : OwB w.heap.size (w.alloc (.cells #[] 3)).heap.size (w.alloc (.cells #[] 3)) (encInts []) (.slice (some ⟨w.heap.size, 0, none⟩) 0 0) [w.heap.size] :=
    ⟨⟨[], [], ⟨rfl, .inr ⟨w.heap.size, 0, #[], rfl, Nat.zero_le _, heap_alloc_new w _, Nat.le_refl _, by unfold maxLen; omega, rfl, rfl⟩⟩, ⟨rfl, rfl⟩, rfl⟩, by simp, fun x hx => by obtain rfl : x = w.heap.size := (by simpa using hx); exact ⟨Nat.le_refl _, lt_of_some (heap_alloc_new w _)⟩, Nat.le_refl _, bA.size⟩
  have hdc := h.past bA
  have fA : Fr (fun q => q = g) w _ := Fr.below bA
  generalize w.alloc (.cells #[] 3) = w1 at *
  generalize (Value.slice (some ⟨w.heap.size, 0, none⟩) 0 0) = v0 at *
  refine (specBelow_d B g ((most : Int) + 1) _ hdc (by omega)).mono ?_
  rintro e w2 ⟨x, rfl, ⟨x1, x2, _⟩, dc, fr, bl⟩
  have x2 := x2 (by omega)
  obtain ⟨m, rfl⟩ := Int.eq_ofNat_of_zero_le x1
  have hib2 := (hib.fr fr hgl).upto fr.size (Nat.le_refl _)
  have HR0 := Lib.hid hib2
  have F0 := fA.trans fr
  have D0 := (bA.mono (show B ≤ w.heap.size by omega)).trans bl
  clear hib hib2 hdc fA fr bl bA
  go_wp2
  go_loopw [5, 6] (fun o i wr => ∃ (k : Nat) (t : List Int) (b : List Nat), t.length + k ≤ most ∧ i = .int .i64 k ∧ allB t = true ∧ OwB w.heap.size wr.heap.size wr (encInts t) o b ∧ DC B g wr ∧ Fr (fun q => q = g) w wr ∧ Below B w wr) (fun _ i _ => (intOf i).toNat)
  case atStart => exact ⟨m, [], _, by simp; omega, rfl, rfl, HR0.out, dc, F0, D0⟩
  case round =>
    obtain ⟨k, t, b, hk, rfl, ha, ho, dc, fr, bl⟩ := hrel
    clear HR0 F0 D0
    have HO := Lib.hid ho
    have HA := Lib.hid ha
    obtain ⟨A1, c1, rfl⟩ := sliceI ho.read
    clear ho ha
    by_cases hk0 : 0 < k
    · have hz := bl.size
      go_wp2_with fail
      refine (specSign_d B g _ dc).mono ?_
      rintro e w3 ⟨x, rfl, hx, dc3, fr3, bl3⟩
      have HX := Lib.hid hx
      have HO3 := Lib.hid ((HO.out.fr fr3 hgl).upto fr3.size (Nat.le_refl _))
      have bA := alloc_below w3 (.cells #[.int .i64 x] 3)
      have HO4 := Lib.hid (HO3.out.past bA)
      have hnews : ∀ (j : Nat) (u : Value), [Value.int .i64 x][j]? = some u → (w3.alloc (.cells #[.int .i64 x] 3)).cell? ((⟨w3.heap.size, 0, none⟩ : Addr).add j) = some u := fun j u hu => by
        cases j with
        | zero =>
          simp at hu
          subst hu
          exact cell_of_row _ _ 0 _ _ _ (heap_alloc_new w3 _)
        | succ j => simp at hu
      have HNW := Lib.hid hnews
      have hlx : (t.map fun z => [Dat.int z]).length ≤ 2000000 := by rw [List.length_map]; omega
      have dc4 := dc3.past bA
      have fr4 : Fr (fun q => q = g) w _ := (fr.trans fr3).trans (Fr.below bA)
      have bl4 := (bl.trans bl3).trans (bA.mono (by have := dc3.lt; omega))
      have hgn : g < w.heap.size := hgl
      clear hnews hx fr3 bl3 dc3 dc fr bl bA
      go_wp2_with (at_builtin; refine wpList_append_row rfl (.tmp 16) (.tmp 19) 23 rfl 3 i0 (.int .i64 0) 1 8 Try.underlying23 hi0 hz0 hz1 hz2 rfl (by decide) (by decide) w.heap.size _ (.slice A1 t.length c1) (t.map fun z => [Dat.int z]) b HO4.out rfl hlx ⟨w3.heap.size, 0, none⟩ _ [.int .i64 x] rfl rfl HNW.out (by simp [Value.oneCell']) [.int x] [] ⟨_, [], [], [], rfl, rfl, ⟨rfl, rfl⟩, rfl, rfl⟩ (by simp) (by simp) (by simp) ?_; intro A7 c7 w7 b7 o7 in7 g7 bl7)
      have HO7 : OwB w.heap.size w7.heap.size w7 (encInts (t ++ [x])) (.slice A7 (t.length + 1) c7) b7 := by
        have e : encInts (t ++ [x]) = .rows 3 1 ((t.map fun z => [Dat.int z]) ++ [[Dat.int x]]) := by unfold encInts; rw [List.map_append]; rfl
        rw [e]
        simpa using o7
      replace HO7 := Lib.hid HO7
      have fr7 := fr4.old g7 (fun q hq => (HO4.out.rng q hq).1)
      have dc7 := dc4.grew g7 (bl7.mono (show B ≤ w.heap.size by omega)) (fun hq => by have := (HO4.out.rng g hq).1; omega)
      have bl7' := bl4.trans (bl7.mono (show B ≤ w.heap.size by omega))
      clear o7 in7 g7 bl7 HO4 HO3 HNW dc4 fr4 bl4
      go_wp2
      go_roundw
      case rel => exact ⟨k - 1, t ++ [x], b7, by simp; omega, by rw [Int.natCast_sub (by omega)]; rfl, allB_add HA.out HX.out, by simpa using HO7.out, dc7, fr7, bl7'⟩
      case measure => simp [intOf]; omega
    · obtain rfl : k = 0 := by omega
      go_wp2
      go_ret
      exact ⟨t, _, b, rfl, by omega, HA.out, HO.out, dc, fr, bl⟩

/-- append(out, p) of one part, its characters of the caller's own -/
theorem wpList_append_part {w : World} {ops : Array Oper} {rest : List Oper} {o : Oper} {a : Act} {Q : Exit → Act → World → Prop} (hgd : o.guard = none) (s x : Operand)
    (ho : o.op = .call { callee := .builtin .append, args := #[s, x], argTypes := #[24, 24] })
    (lo hi' : Nat) (v : Value) (L : List Pt) (b : List Nat) (h : OwB lo hi' w (encPs L) v b) (hs : a.eval s = v) (hlen : L.length ≤ 2000000)
    (g0 c0 : Nat) (p : Pt) (u : Value) (c : List Nat) (hx : a.eval x = .slice (some ⟨g0, 0, none⟩) 1 c0) (hcell : w.heap[g0]? = some (.cells #[.int .i64 p.kind, .int .i64 p.n, u] 66 (0, 0)))
    (hu : OwC w (encInts p.signs) u c) (hcn : c.Nodup) (hbc : ∀ q ∈ b, q ∉ c) (hcr : ∀ q ∈ c, lo ≤ q)
    (K : ∀ A' c' w' b', OwB lo w'.heap.size w' (encPs (L ++ [p])) (.slice A' (L.length + 1) c') b' → (∀ q ∈ b', q ∈ b ∨ q ∈ c ∨ w.heap.size ≤ q) → Grew (fun q => q ∈ b) (fun q => q ∈ b ∨ w.heap.size ≤ q) w w' → Below lo w w' → wpList Try.prog ops Q rest (a.put o.dst (.slice A' (L.length + 1) c')) w') : wpList Try.prog ops Q (o :: rest) a w := by
  obtain ⟨i0, hi0, hz0, hz1, hz2⟩ := info_parts part_info
  have hone : ∀ y ∈ [Value.int .i64 p.kind, .int .i64 p.n, u], y.oneCell' = true := by
    intro y hy
    obtain ⟨A, cc, rfl, _⟩ : ∃ A cc, u = .slice A p.signs.length cc ∧ True := by
      obtain ⟨xs, cs, hox, _⟩ := hu
      obtain ⟨A, cc, e⟩ := own_form hox
      exact ⟨A, cc, by simpa using e, trivial⟩
    simp at hy
    rcases hy with rfl | rfl | rfl <;> rfl
  refine wpList_append_row hgd s x 24 ho 66 i0 _ 3 40 Try.underlying24 hi0 hz0 hz1 hz2 rfl (by decide) (by decide) lo hi' v (L.map encPt) b h hs (by rw [List.length_map]; exact hlen) ⟨g0, 0, none⟩ c0 [.int .i64 p.kind, .int .i64 p.n, u] hx rfl (fun j y hy => ?_) hone (encPt p) c ⟨_, _, [], c, rfl, by simp, ⟨rfl, rfl⟩, _, _, [], c, rfl, by simp, ⟨rfl, rfl⟩, _, [], c, [], rfl, by simp, hu, rfl, rfl⟩ hcn hbc hcr ?_
  · rw [add_plain0, cell_of_row _ _ j _ _ _ hcell]
    rw [← hy]
    simp
  · intro A' c' w' b' o1 h1 h2 h3
    rw [List.length_map] at o1 ⊢
    refine K A' c' w' b' ?_ h1 h2 h3
    have e : encPs (L ++ [p]) = .rows 66 3 (L.map encPt ++ [encPt p]) := by unfold encPs; rw [List.map_append]; rfl
    rw [e]
    exact o1
end Go.Proofs.Ytfpjoncaccbnmaa.low


/-
  The specification's draws: an operation (spec.l02Draw).
-/
namespace Go.Proofs.Ytfpjoncaccbnmaa.low
open Go.RowKit
set_option linter.unusedVariables false

theorem nil_ow (w : World) : OwC w (encInts []) (.slice none 0 0) [] := ⟨[], [], World.ownsRow_nil _ _ _ _, ⟨rfl, rfl⟩, rfl⟩
theorem sumOf_nonneg {L : List Pt} (h : okPs L = true) : 0 ≤ sumOf keepOf L ∧ 0 ≤ sumOf dropOf L ∧ 0 ≤ sumOf putOf L := by
  have a1 := sumOf_take (f := keepOf) (ps := L) (fun q hq => (ok_bd (okPs_mem' h hq)).1.1) 0
  have a2 := sumOf_take (f := dropOf) (ps := L) (fun q hq => (ok_bd (okPs_mem' h hq)).2.2.1) 0
  have a3 := sumOf_take (f := putOf) (ps := L) (fun q hq => (ok_bd (okPs_mem' h hq)).2.1.1) 0
  simp [sumOf] at a1 a2 a3
  exact ⟨a1, a2, a3⟩
noncomputable def drBody : Code := (((Try.f32.body.map loopsOf).getD []).headD .skip)
def slen : Value → Nat
  | .slice _ n _ => n
  | _ => 0
/-- the state of the loop -/
structure DS (B g : Nat) (w0 : World) (n : Nat) (o : Value) (left room : Nat) (L : List Pt) (b : List Nat) (w : World) : Prop where
  ow : OwB w0.heap.size w.heap.size w (encPs L) o b
  ok : okPs L = true
  sum : sumOf keepOf L + sumOf dropOf L + (left : Int) = (n : Int)
  puts : sumOf putOf L + (room : Int) = 12
  dc : DC B g w
  fr : Fr (fun q => q = g) w0 w
  bl : Below B w0 w
  lt : g < w0.heap.size
theorem sumOf_add (f : Pt → Int) (L : List Pt) (p : Pt) : sumOf f (L ++ [p]) = sumOf f L + f p := by simp [sumOf]
section
variable {B g n : Nat} {w0 w w' : World} {o : Value} {left room : Nat} {L : List Pt} {b : List Nat}
theorem DS.draw (h : DS B g w0 n o left room L b w) (dc : DC B g w') (fr : Fr (fun q => q = g) w w') (bl : Below B w w') : DS B g w0 n o left room L b w' :=
  ⟨(h.ow.fr fr h.lt).upto fr.size (Nat.le_refl _), h.ok, h.sum, h.puts, dc, h.fr.trans fr, h.bl.trans bl, h.lt⟩
theorem DS.past (h : DS B g w0 n o left room L b w) (hb : Below w.heap.size w w') : DS B g w0 n o left room L b w' :=
  h.draw (h.dc.past hb) (Fr.below hb) (hb.mono (by have := h.dc.lt; have := h.dc.low; omega))
theorem DS.app {p : Pt} {o' : Value} {b' : List Nat} {O' : Nat → Prop} {left' room' : Nat} (h : DS B g w0 n o left room L b w) (ow : OwB w0.heap.size w'.heap.size w' (encPs (L ++ [p])) o' b') (hg : Grew (fun q => q ∈ b) O' w w') (bl : Below w0.heap.size w w') (hp : okPt p = true) (h1 : keepOf p + dropOf p + (left' : Int) = (left : Int)) (h2 : putOf p + (room' : Int) = (room : Int)) : DS B g w0 n o' left' room' (L ++ [p]) b' w' := by
  have hlt := h.lt
  have hB := h.dc.low
  have q1 := h.sum
  have q2 := h.puts
  have bB := bl.mono (show B ≤ w0.heap.size by omega)
  exact ⟨ow, by have := h.ok; unfold okPs at *; rw [List.all_append, this]; simp [hp], by rw [sumOf_add, sumOf_add]; omega, by rw [sumOf_add]; omega, h.dc.grew hg bB (fun hq => by have := (h.ow.rng g hq).1; omega), h.fr.old hg (fun q hq => (h.ow.rng q hq).1), h.bl.trans bB, h.lt⟩
end
theorem okPt_keep {n : Int} (h0 : 0 ≤ n) (h : n ≤ 200) : okPt ⟨1, n, []⟩ = true := by simp [okPt]; omega
theorem okPt_drop {n : Int} (h0 : 0 ≤ n) (h : n ≤ 200) : okPt ⟨3, n, []⟩ = true := by simp [okPt]; omega
theorem okPt_put {t : List Int} (h : t.length ≤ 200) (ha : allB t = true) : okPt ⟨2, 0, t⟩ = true := by simp [okPt, ha]; omega
def DrR (B g : Nat) (w0 : World) (n : Nat) (o l r : Value) (w : World) : Prop := ∃ left room L b, DS B g w0 n o left room L b w ∧ L.length ≤ 40 ∧ l = .int .i64 (left : Int) ∧ r = .int .i64 (room : Int)
def DrX (B g : Nat) (w0 : World) (n : Nat) (o : Value) (w : World) : Prop := ∃ room L b, DS B g w0 n o 0 room L b w ∧ L.length ≤ 42
set_option maxRecDepth 1000000 in
def DrI (B g : Nat) (w0 : World) (n : Nat) (c1 c2 c3 c4 c11 c12 c74 : Value) (a : Act) (w : World) : Prop := ∃ u5 u6 u7 u8 u9 u10 u13 u14 u15 u16 u17 u18 u19 u20 u21 u22 u23 u24 u25 u26 u27 u28 u29 u30 u31 u32 u33 u34 u35 u36 u37 u38 u39 u40 u41 u42 u43 u44 u45 u46 u47 u48 u49 u50 u51 u52 u53 u54 u55 u56 u57 u58 u59 u60 u61 u62 u63 u64 u65 u66 u67 u68 u69 u70 u71 u72 u73 : Value, DrR B g w0 n u5 u6 u7 w ∧ a = ⟨#[.pointer (some ⟨g, 0, none⟩), c1, c2, c3, c4, u5, u6, u7, u8, u9, u10, c11, c12, u13, u14, u15, u16, u17, u18, u19, u20, u21, u22, u23, u24, u25, u26, u27, u28, u29, u30, u31, u32, u33, u34, u35, u36, u37, u38, u39, u40, u41, u42, u43, u44, u45, u46, u47, u48, u49, u50, u51, u52, u53, u54, u55, u56, u57, u58, u59, u60, u61, u62, u63, u64, u65, u66, u67, u68, u69, u70, u71, u72, u73, c74], []⟩
set_option maxRecDepth 1000000 in
def DrE (B g : Nat) (w0 : World) (n : Nat) (c1 c2 c3 c4 c11 c12 c74 : Value) (a : Act) (w : World) : Prop := ∃ u5 u6 u7 u8 u9 u10 u13 u14 u15 u16 u17 u18 u19 u20 u21 u22 u23 u24 u25 u26 u27 u28 u29 u30 u31 u32 u33 u34 u35 u36 u37 u38 u39 u40 u41 u42 u43 u44 u45 u46 u47 u48 u49 u50 u51 u52 u53 u54 u55 u56 u57 u58 u59 u60 u61 u62 u63 u64 u65 u66 u67 u68 u69 u70 u71 u72 u73 : Value, DrX B g w0 n u5 w ∧ a = ⟨#[.pointer (some ⟨g, 0, none⟩), c1, c2, c3, c4, u5, u6, u7, u8, u9, u10, c11, c12, u13, u14, u15, u16, u17, u18, u19, u20, u21, u22, u23, u24, u25, u26, u27, u28, u29, u30, u31, u32, u33, u34, u35, u36, u37, u38, u39, u40, u41, u42, u43, u44, u45, u46, u47, u48, u49, u50, u51, u52, u53, u54, u55, u56, u57, u58, u59, u60, u61, u62, u63, u64, u65, u66, u67, u68, u69, u70, u71, u72, u73, c74], []⟩
set_option maxRecDepth 1000000 in
set_option maxHeartbeats 6400000 in
theorem drP (B g : Nat) (w0 wr : World) (n : Nat) (hn : n ≤ 150) (A : Option Addr) (c left room : Nat) (L : List Pt) (b : List Nat) (c1 c2 c3 c4 c11 c12 c74 u8 u9 u10 u13 u14 u15 u16 u17 u18 u19 u20 u21 u22 u23 u24 u25 u26 u27 u28 u29 u30 u31 u32 u33 u34 u35 u36 u37 u38 u39 u40 u41 u42 u43 u44 u45 u46 u47 u48 u49 u50 u51 u52 u53 u54 u55 u56 u57 u58 u59 u60 u61 u62 u63 u64 u65 u66 u67 u68 u69 u70 u71 u72 u73 : Value) (Q0 : Exit → Act → World → Prop) (hs : DS B g w0 n (.slice A L.length c) left room L b wr) (hL : L.length ≤ 40) (hl0 : 0 < left) (hexit : ∀ a w, DrE B g w0 n c1 c2 c3 c4 c11 c12 c74 a w → Q0 (.exit 0) a w) :
    Code.wp Try.prog drBody (Exit.then (fun a' w'' => DrI B g w0 n c1 c2 c3 c4 c11 c12 c74 a' w'' ∧ 41 - slen (a'.tmps.getD 5 undef) < 41 - L.length) Q0) ⟨#[.pointer (some ⟨g, 0, none⟩), c1, c2, c3, c4, .slice A L.length c, .int .i64 (left : Int), .int .i64 (room : Int), u8, u9, u10, c11, c12, u13, u14, u15, u16, u17, u18, u19, u20, u21, u22, u23, u24, u25, u26, u27, u28, u29, u30, u31, u32, u33, u34, u35, u36, u37, u38, u39, u40, u41, u42, u43, u44, u45, u46, u47, u48, u49, u50, u51, u52, u53, u54, u55, u56, u57, u58, u59, u60, u61, u62, u63, u64, u65, u66, u67, u68, u69, u70, u71, u72, u73, c74], []⟩ wr := by
  have hb1 : (left : Int) ≤ n := by have := hs.sum; have q1 := sumOf_nonneg hs.ok; omega
  have hb2 : (room : Int) ≤ 12 := by have := hs.puts; have q1 := sumOf_nonneg hs.ok; omega
  have HS := Lib.hid hs
  clear hs
  conv => arg 2; whnf
  go_wp2_with fail
  refine (specBelow_d B g 4 _ HS.out.dc (by omega)).mono ?_
  rintro e w1 ⟨x1, rfl, ⟨xa1, xb1, _⟩, dc1, fr1, bl1⟩
  replace HS := Lib.hid (HS.out.draw dc1 fr1 bl1)
  clear dc1 fr1 bl1
  have xb1 := xb1 (by omega)
  by_cases hx0 : x1 = 0
  · subst hx0
    go_wp2_with fail
    refine (specSigns_d B g 3 _ HS.out.dc (by omega)).mono ?_
    rintro e w2 ⟨t2, v2, s2, rfl, tl2, ta2, to2, dc2, fr2, bl2⟩
    have HOLD := HS.out.ow
    have HSZ := HS.out.fr.size
    replace HS := Lib.hid (HS.out.draw dc2 fr2 bl2)
    have HT2 := Lib.hid to2
    have HTA2 := Lib.hid ta2
    obtain ⟨At2, ct2, rfl⟩ := sliceI to2.read
    have HSR2 := Lib.hid (show ∀ q ∈ b, q ∉ s2 from fun q hq hq' => by have q1 := (HOLD.rng q hq).2; have q2 := (to2.rng q hq').1; omega)
    clear HOLD to2 ta2
    clear dc2 fr2 bl2
    by_cases hr : t2.length ≤ room
    · have hr2 : ¬ room < t2.length := by omega
      by_cases hm : L.length + 1 ≤ 40
      · have hm2 : ¬ 40 < L.length + 1 := by omega
        have bA3 := alloc_below w2 (.cells #[.int .i64 2, .int .i64 0, .slice At2 t2.length ct2] 66)
        have HN3 := Lib.hid (heap_alloc_new w2 (.cells #[.int .i64 2, .int .i64 0, .slice At2 t2.length ct2] 66))
        replace HS := Lib.hid (HS.out.past bA3)
        have HU3 := Lib.hid ((HT2.out.past bA3).ow)
        have hll3 : (L).length ≤ 2000000 := (by omega)
        go_wp2_with (at_builtin; refine wpList_append_part rfl (.tmp 45) (.tmp 48) rfl w0.heap.size _ (.slice A L.length c) (L) b HS.out.ow rfl hll3 w2.heap.size _ ⟨2, 0, t2⟩ (.slice At2 t2.length ct2) s2 rfl HN3.out HU3.out HT2.out.nd HSR2.out (fun q hq => by have q1 := (HT2.out.rng q hq).1; omega) ?_; intro Ap3 cp3 w3 b3 o3 in3 g3 bl3)
        replace HS := Lib.hid (HS.out.app (left' := left) (room' := (room - t2.length)) o3 g3 bl3 (okPt_put (by omega) HTA2.out) (by simp [keepOf, dropOf]) (by simp [putOf]; omega))
        clear o3 in3 g3 bl3 bA3 HN3 HU3 hll3
        refine ⟨?_, by simp [slen]; omega⟩
        unfold DrI
        iterate 67 apply Exists.intro
        refine ⟨⟨_, _, _, _, HS.out, ?_, ?_, ?_⟩, rfl⟩
        · simp; omega
        · first | rfl | (congr 1; omega)
        · first | rfl | (congr 1; omega)
      · have hm2 : 40 < L.length + 1 := by omega
        have bA4 := alloc_below w2 (.cells #[.int .i64 2, .int .i64 0, .slice At2 t2.length ct2] 66)
        have HN4 := Lib.hid (heap_alloc_new w2 (.cells #[.int .i64 2, .int .i64 0, .slice At2 t2.length ct2] 66))
        replace HS := Lib.hid (HS.out.past bA4)
        have HU4 := Lib.hid ((HT2.out.past bA4).ow)
        have hll4 : (L).length ≤ 2000000 := (by omega)
        go_wp2_with (first | (at_builtin; refine wpList_append_part rfl (.tmp 45) (.tmp 48) rfl w0.heap.size _ (.slice A L.length c) (L) b HS.out.ow rfl hll4 w2.heap.size _ ⟨2, 0, t2⟩ (.slice At2 t2.length ct2) s2 rfl HN4.out HU4.out HT2.out.nd HSR2.out (fun q hq => by have q1 := (HT2.out.rng q hq).1; omega) ?_; intro Ap4 cp4 w4 b4 o4 in4 g4 bl4; replace HS := Lib.hid (HS.out.app (left' := left) (room' := (room - t2.length)) o4 g4 bl4 (okPt_put (by omega) HTA2.out) (by simp [keepOf, dropOf]) (by simp [putOf]; omega)); clear o4 in4 g4 bl4 bA4 HN4 HU4 hll4; have bA5 := alloc_below w4 (.cells #[.int .i64 1, .int .i64 (left : Int), .slice none 0 0] 66); have HN5 := Lib.hid (heap_alloc_new w4 (.cells #[.int .i64 1, .int .i64 (left : Int), .slice none 0 0] 66)); replace HS := Lib.hid (HS.out.past bA5); have HU5 := Lib.hid (nil_ow (w4.alloc (.cells #[.int .i64 1, .int .i64 (left : Int), .slice none 0 0] 66))); have hll5 : (L ++ [(⟨2, 0, t2⟩ : Pt)]).length ≤ 2000000 := (by rw [List.length_append]; show L.length + 1 ≤ 2000000; omega)) | (at_builtin; refine wpList_append_part rfl (.tmp 69) (.tmp 72) rfl w0.heap.size _ (.slice Ap4 (L.length + 1) cp4) (L ++ [(⟨2, 0, t2⟩ : Pt)]) b4 HS.out.ow rfl hll5 w4.heap.size _ ⟨1, (left : Int), []⟩ (.slice none 0 0) [] rfl HN5.out HU5.out (by simp) (by simp) (by simp) ?_; intro Ap5 cp5 w5 b5 o5 in5 g5 bl5))
        replace HS := Lib.hid (HS.out.app (left' := 0) (room' := (room - t2.length)) o5 g5 bl5 (okPt_keep (by omega) (by omega)) (by first | (simp [keepOf, dropOf]; done) | (simp [keepOf, dropOf]; omega)) (by simp [putOf]))
        clear o5 in5 g5 bl5 bA5 HN5 HU5 hll5
        have HSx := HS.out
        rw [List.length_append] at HSx
        have HR : DrX B g w0 n _ _ := ⟨_, _, _, HSx, by simp; omega⟩
        unfold DrE
        iterate 67 apply Exists.intro
        exact ⟨HR, rfl⟩
    · have hr2 : room < t2.length := by omega
      by_cases hm : L.length + 1 ≤ 40
      · have hm2 : ¬ 40 < L.length + 1 := by omega
        have bA6 := alloc_below w2 (.cells #[.int .i64 2, .int .i64 0, .slice none 0 0] 66)
        have HN6 := Lib.hid (heap_alloc_new w2 (.cells #[.int .i64 2, .int .i64 0, .slice none 0 0] 66))
        replace HS := Lib.hid (HS.out.past bA6)
        have HU6 := Lib.hid (nil_ow (w2.alloc (.cells #[.int .i64 2, .int .i64 0, .slice none 0 0] 66)))
        have hll6 : (L).length ≤ 2000000 := (by omega)
        go_wp2_with (at_builtin; refine wpList_append_part rfl (.tmp 45) (.tmp 48) rfl w0.heap.size _ (.slice A L.length c) (L) b HS.out.ow rfl hll6 w2.heap.size _ ⟨2, 0, []⟩ (.slice none 0 0) [] rfl HN6.out HU6.out (by simp) (by simp) (by simp) ?_; intro Ap6 cp6 w6 b6 o6 in6 g6 bl6)
        replace HS := Lib.hid (HS.out.app (left' := left) (room' := room) o6 g6 bl6 (okPt_put (by simp) rfl) (by simp [keepOf, dropOf]) (by simp [putOf]))
        clear o6 in6 g6 bl6 bA6 HN6 HU6 hll6
        refine ⟨?_, by simp [slen]; omega⟩
        unfold DrI
        iterate 67 apply Exists.intro
        refine ⟨⟨_, _, _, _, HS.out, ?_, ?_, ?_⟩, rfl⟩
        · simp; omega
        · first | rfl | (congr 1; omega)
        · first | rfl | (congr 1; omega)
      · have hm2 : 40 < L.length + 1 := by omega
        have bA7 := alloc_below w2 (.cells #[.int .i64 2, .int .i64 0, .slice none 0 0] 66)
        have HN7 := Lib.hid (heap_alloc_new w2 (.cells #[.int .i64 2, .int .i64 0, .slice none 0 0] 66))
        replace HS := Lib.hid (HS.out.past bA7)
        have HU7 := Lib.hid (nil_ow (w2.alloc (.cells #[.int .i64 2, .int .i64 0, .slice none 0 0] 66)))
        have hll7 : (L).length ≤ 2000000 := (by omega)
        go_wp2_with (first | (at_builtin; refine wpList_append_part rfl (.tmp 45) (.tmp 48) rfl w0.heap.size _ (.slice A L.length c) (L) b HS.out.ow rfl hll7 w2.heap.size _ ⟨2, 0, []⟩ (.slice none 0 0) [] rfl HN7.out HU7.out (by simp) (by simp) (by simp) ?_; intro Ap7 cp7 w7 b7 o7 in7 g7 bl7; replace HS := Lib.hid (HS.out.app (left' := left) (room' := room) o7 g7 bl7 (okPt_put (by simp) rfl) (by simp [keepOf, dropOf]) (by simp [putOf])); clear o7 in7 g7 bl7 bA7 HN7 HU7 hll7; have bA8 := alloc_below w7 (.cells #[.int .i64 1, .int .i64 (left : Int), .slice none 0 0] 66); have HN8 := Lib.hid (heap_alloc_new w7 (.cells #[.int .i64 1, .int .i64 (left : Int), .slice none 0 0] 66)); replace HS := Lib.hid (HS.out.past bA8); have HU8 := Lib.hid (nil_ow (w7.alloc (.cells #[.int .i64 1, .int .i64 (left : Int), .slice none 0 0] 66))); have hll8 : (L ++ [(⟨2, 0, []⟩ : Pt)]).length ≤ 2000000 := (by rw [List.length_append]; show L.length + 1 ≤ 2000000; omega)) | (at_builtin; refine wpList_append_part rfl (.tmp 69) (.tmp 72) rfl w0.heap.size _ (.slice Ap7 (L.length + 1) cp7) (L ++ [(⟨2, 0, []⟩ : Pt)]) b7 HS.out.ow rfl hll8 w7.heap.size _ ⟨1, (left : Int), []⟩ (.slice none 0 0) [] rfl HN8.out HU8.out (by simp) (by simp) (by simp) ?_; intro Ap8 cp8 w8 b8 o8 in8 g8 bl8))
        replace HS := Lib.hid (HS.out.app (left' := 0) (room' := room) o8 g8 bl8 (okPt_keep (by omega) (by omega)) (by first | (simp [keepOf, dropOf]; done) | (simp [keepOf, dropOf]; omega)) (by simp [putOf]))
        clear o8 in8 g8 bl8 bA8 HN8 HU8 hll8
        have HSx := HS.out
        rw [List.length_append] at HSx
        have HR : DrX B g w0 n _ _ := ⟨_, _, _, HSx, by simp; omega⟩
        unfold DrE
        iterate 67 apply Exists.intro
        exact ⟨HR, rfl⟩
  · have hx0b : (x1 == 0) = false := by simp [hx0]
    by_cases hx1 : x1 = 1
    · subst hx1
      clear hx0 hx0b
      go_wp2_with fail
      refine (specBelow_d B g ((left : Int) + 1) _ HS.out.dc (by omega)).mono ?_
      rintro e w9 ⟨m9, rfl, ⟨ma9, mb9, _⟩, dc9, fr9, bl9⟩
      replace HS := Lib.hid (HS.out.draw dc9 fr9 bl9)
      clear dc9 fr9 bl9
      have mb9 := mb9 (by omega)
      obtain ⟨d, rfl⟩ := Int.eq_ofNat_of_zero_le ma9
      by_cases h4 : d ≤ 4
      · have h4b : ¬ 4 < d := by omega
        by_cases hm : L.length + 1 ≤ 40
        · have hm2 : ¬ 40 < L.length + 1 := by omega
          have bA10 := alloc_below w9 (.cells #[.int .i64 3, .int .i64 (d : Int), .slice none 0 0] 66)
          have HN10 := Lib.hid (heap_alloc_new w9 (.cells #[.int .i64 3, .int .i64 (d : Int), .slice none 0 0] 66))
          replace HS := Lib.hid (HS.out.past bA10)
          have HU10 := Lib.hid (nil_ow (w9.alloc (.cells #[.int .i64 3, .int .i64 (d : Int), .slice none 0 0] 66)))
          have hll10 : (L).length ≤ 2000000 := (by omega)
          go_wp2_with (at_builtin; refine wpList_append_part rfl (.tmp 61) (.tmp 64) rfl w0.heap.size _ (.slice A L.length c) (L) b HS.out.ow rfl hll10 w9.heap.size _ ⟨3, (d : Int), []⟩ (.slice none 0 0) [] rfl HN10.out HU10.out (by simp) (by simp) (by simp) ?_; intro Ap10 cp10 w10 b10 o10 in10 g10 bl10)
          replace HS := Lib.hid (HS.out.app (left' := (left - d)) (room' := room) o10 g10 bl10 (okPt_drop (by omega) (by omega)) (by simp [keepOf, dropOf]; omega) (by simp [putOf]))
          clear o10 in10 g10 bl10 bA10 HN10 HU10 hll10
          refine ⟨?_, by simp [slen]; omega⟩
          unfold DrI
          iterate 67 apply Exists.intro
          refine ⟨⟨_, _, _, _, HS.out, ?_, ?_, ?_⟩, rfl⟩
          · simp; omega
          · first | rfl | (congr 1; omega)
          · first | rfl | (congr 1; omega)
        · have hm2 : 40 < L.length + 1 := by omega
          have bA11 := alloc_below w9 (.cells #[.int .i64 3, .int .i64 (d : Int), .slice none 0 0] 66)
          have HN11 := Lib.hid (heap_alloc_new w9 (.cells #[.int .i64 3, .int .i64 (d : Int), .slice none 0 0] 66))
          replace HS := Lib.hid (HS.out.past bA11)
          have HU11 := Lib.hid (nil_ow (w9.alloc (.cells #[.int .i64 3, .int .i64 (d : Int), .slice none 0 0] 66)))
          have hll11 : (L).length ≤ 2000000 := (by omega)
          go_wp2_with (first | (at_builtin; refine wpList_append_part rfl (.tmp 61) (.tmp 64) rfl w0.heap.size _ (.slice A L.length c) (L) b HS.out.ow rfl hll11 w9.heap.size _ ⟨3, (d : Int), []⟩ (.slice none 0 0) [] rfl HN11.out HU11.out (by simp) (by simp) (by simp) ?_; intro Ap11 cp11 w11 b11 o11 in11 g11 bl11; replace HS := Lib.hid (HS.out.app (left' := (left - d)) (room' := room) o11 g11 bl11 (okPt_drop (by omega) (by omega)) (by simp [keepOf, dropOf]; omega) (by simp [putOf])); clear o11 in11 g11 bl11 bA11 HN11 HU11 hll11; have bA12 := alloc_below w11 (.cells #[.int .i64 1, .int .i64 ((left : Int) - (d : Int)), .slice none 0 0] 66); have HN12 := Lib.hid (heap_alloc_new w11 (.cells #[.int .i64 1, .int .i64 ((left : Int) - (d : Int)), .slice none 0 0] 66)); replace HS := Lib.hid (HS.out.past bA12); have HU12 := Lib.hid (nil_ow (w11.alloc (.cells #[.int .i64 1, .int .i64 ((left : Int) - (d : Int)), .slice none 0 0] 66))); have hll12 : (L ++ [(⟨3, (d : Int), []⟩ : Pt)]).length ≤ 2000000 := (by rw [List.length_append]; show L.length + 1 ≤ 2000000; omega)) | (at_builtin; refine wpList_append_part rfl (.tmp 69) (.tmp 72) rfl w0.heap.size _ (.slice Ap11 (L.length + 1) cp11) (L ++ [(⟨3, (d : Int), []⟩ : Pt)]) b11 HS.out.ow rfl hll12 w11.heap.size _ ⟨1, ((left : Int) - (d : Int)), []⟩ (.slice none 0 0) [] rfl HN12.out HU12.out (by simp) (by simp) (by simp) ?_; intro Ap12 cp12 w12 b12 o12 in12 g12 bl12))
          replace HS := Lib.hid (HS.out.app (left' := 0) (room' := room) o12 g12 bl12 (okPt_keep (by omega) (by omega)) (by first | (simp [keepOf, dropOf]; done) | (simp [keepOf, dropOf]; omega)) (by simp [putOf]))
          clear o12 in12 g12 bl12 bA12 HN12 HU12 hll12
          have HSx := HS.out
          rw [List.length_append] at HSx
          have HR : DrX B g w0 n _ _ := ⟨_, _, _, HSx, by simp; omega⟩
          unfold DrE
          iterate 67 apply Exists.intro
          exact ⟨HR, rfl⟩
      · have h4b : 4 < d := by omega
        by_cases hm : L.length + 1 ≤ 40
        · have hm2 : ¬ 40 < L.length + 1 := by omega
          have bA13 := alloc_below w9 (.cells #[.int .i64 3, .int .i64 4, .slice none 0 0] 66)
          have HN13 := Lib.hid (heap_alloc_new w9 (.cells #[.int .i64 3, .int .i64 4, .slice none 0 0] 66))
          replace HS := Lib.hid (HS.out.past bA13)
          have HU13 := Lib.hid (nil_ow (w9.alloc (.cells #[.int .i64 3, .int .i64 4, .slice none 0 0] 66)))
          have hll13 : (L).length ≤ 2000000 := (by omega)
          go_wp2_with (at_builtin; refine wpList_append_part rfl (.tmp 61) (.tmp 64) rfl w0.heap.size _ (.slice A L.length c) (L) b HS.out.ow rfl hll13 w9.heap.size _ ⟨3, 4, []⟩ (.slice none 0 0) [] rfl HN13.out HU13.out (by simp) (by simp) (by simp) ?_; intro Ap13 cp13 w13 b13 o13 in13 g13 bl13)
          replace HS := Lib.hid (HS.out.app (left' := (left - 4)) (room' := room) o13 g13 bl13 (okPt_drop (by omega) (by omega)) (by simp [keepOf, dropOf]; omega) (by simp [putOf]))
          clear o13 in13 g13 bl13 bA13 HN13 HU13 hll13
          refine ⟨?_, by simp [slen]; omega⟩
          unfold DrI
          iterate 67 apply Exists.intro
          refine ⟨⟨_, _, _, _, HS.out, ?_, ?_, ?_⟩, rfl⟩
          · simp; omega
          · first | rfl | (congr 1; omega)
          · first | rfl | (congr 1; omega)
        · have hm2 : 40 < L.length + 1 := by omega
          have bA14 := alloc_below w9 (.cells #[.int .i64 3, .int .i64 4, .slice none 0 0] 66)
          have HN14 := Lib.hid (heap_alloc_new w9 (.cells #[.int .i64 3, .int .i64 4, .slice none 0 0] 66))
          replace HS := Lib.hid (HS.out.past bA14)
          have HU14 := Lib.hid (nil_ow (w9.alloc (.cells #[.int .i64 3, .int .i64 4, .slice none 0 0] 66)))
          have hll14 : (L).length ≤ 2000000 := (by omega)
          go_wp2_with (first | (at_builtin; refine wpList_append_part rfl (.tmp 61) (.tmp 64) rfl w0.heap.size _ (.slice A L.length c) (L) b HS.out.ow rfl hll14 w9.heap.size _ ⟨3, 4, []⟩ (.slice none 0 0) [] rfl HN14.out HU14.out (by simp) (by simp) (by simp) ?_; intro Ap14 cp14 w14 b14 o14 in14 g14 bl14; replace HS := Lib.hid (HS.out.app (left' := (left - 4)) (room' := room) o14 g14 bl14 (okPt_drop (by omega) (by omega)) (by simp [keepOf, dropOf]; omega) (by simp [putOf])); clear o14 in14 g14 bl14 bA14 HN14 HU14 hll14; have bA15 := alloc_below w14 (.cells #[.int .i64 1, .int .i64 ((left : Int) - 4), .slice none 0 0] 66); have HN15 := Lib.hid (heap_alloc_new w14 (.cells #[.int .i64 1, .int .i64 ((left : Int) - 4), .slice none 0 0] 66)); replace HS := Lib.hid (HS.out.past bA15); have HU15 := Lib.hid (nil_ow (w14.alloc (.cells #[.int .i64 1, .int .i64 ((left : Int) - 4), .slice none 0 0] 66))); have hll15 : (L ++ [(⟨3, 4, []⟩ : Pt)]).length ≤ 2000000 := (by rw [List.length_append]; show L.length + 1 ≤ 2000000; omega)) | (at_builtin; refine wpList_append_part rfl (.tmp 69) (.tmp 72) rfl w0.heap.size _ (.slice Ap14 (L.length + 1) cp14) (L ++ [(⟨3, 4, []⟩ : Pt)]) b14 HS.out.ow rfl hll15 w14.heap.size _ ⟨1, ((left : Int) - 4), []⟩ (.slice none 0 0) [] rfl HN15.out HU15.out (by simp) (by simp) (by simp) ?_; intro Ap15 cp15 w15 b15 o15 in15 g15 bl15))
          replace HS := Lib.hid (HS.out.app (left' := 0) (room' := room) o15 g15 bl15 (okPt_keep (by omega) (by omega)) (by first | (simp [keepOf, dropOf]; done) | (simp [keepOf, dropOf]; omega)) (by simp [putOf]))
          clear o15 in15 g15 bl15 bA15 HN15 HU15 hll15
          have HSx := HS.out
          rw [List.length_append] at HSx
          have HR : DrX B g w0 n _ _ := ⟨_, _, _, HSx, by simp; omega⟩
          unfold DrE
          iterate 67 apply Exists.intro
          exact ⟨HR, rfl⟩
    · have hx1b : (x1 == 1) = false := by simp [hx1]
      clear hx0 hx1
      go_wp2_with fail
      refine (specBelow_d B g ((left : Int) + 1) _ HS.out.dc (by omega)).mono ?_
      rintro e w16 ⟨m16, rfl, ⟨ma16, mb16, _⟩, dc16, fr16, bl16⟩
      replace HS := Lib.hid (HS.out.draw dc16 fr16 bl16)
      clear dc16 fr16 bl16
      have mb16 := mb16 (by omega)
      obtain ⟨d, rfl⟩ := Int.eq_ofNat_of_zero_le ma16
      by_cases hm : L.length + 1 ≤ 40
      · have hm2 : ¬ 40 < L.length + 1 := by omega
        have bA17 := alloc_below w16 (.cells #[.int .i64 1, .int .i64 (d : Int), .slice none 0 0] 66)
        have HN17 := Lib.hid (heap_alloc_new w16 (.cells #[.int .i64 1, .int .i64 (d : Int), .slice none 0 0] 66))
        replace HS := Lib.hid (HS.out.past bA17)
        have HU17 := Lib.hid (nil_ow (w16.alloc (.cells #[.int .i64 1, .int .i64 (d : Int), .slice none 0 0] 66)))
        have hll17 : (L).length ≤ 2000000 := (by omega)
        go_wp2_with (at_builtin; refine wpList_append_part rfl (.tmp 28) (.tmp 31) rfl w0.heap.size _ (.slice A L.length c) (L) b HS.out.ow rfl hll17 w16.heap.size _ ⟨1, (d : Int), []⟩ (.slice none 0 0) [] rfl HN17.out HU17.out (by simp) (by simp) (by simp) ?_; intro Ap17 cp17 w17 b17 o17 in17 g17 bl17)
        replace HS := Lib.hid (HS.out.app (left' := (left - d)) (room' := room) o17 g17 bl17 (okPt_keep (by omega) (by omega)) (by simp [keepOf, dropOf]; omega) (by simp [putOf]))
        clear o17 in17 g17 bl17 bA17 HN17 HU17 hll17
        refine ⟨?_, by simp [slen]; omega⟩
        unfold DrI
        iterate 67 apply Exists.intro
        refine ⟨⟨_, _, _, _, HS.out, ?_, ?_, ?_⟩, rfl⟩
        · simp; omega
        · first | rfl | (congr 1; omega)
        · first | rfl | (congr 1; omega)
      · have hm2 : 40 < L.length + 1 := by omega
        have bA18 := alloc_below w16 (.cells #[.int .i64 1, .int .i64 (d : Int), .slice none 0 0] 66)
        have HN18 := Lib.hid (heap_alloc_new w16 (.cells #[.int .i64 1, .int .i64 (d : Int), .slice none 0 0] 66))
        replace HS := Lib.hid (HS.out.past bA18)
        have HU18 := Lib.hid (nil_ow (w16.alloc (.cells #[.int .i64 1, .int .i64 (d : Int), .slice none 0 0] 66)))
        have hll18 : (L).length ≤ 2000000 := (by omega)
        go_wp2_with (first | (at_builtin; refine wpList_append_part rfl (.tmp 28) (.tmp 31) rfl w0.heap.size _ (.slice A L.length c) (L) b HS.out.ow rfl hll18 w16.heap.size _ ⟨1, (d : Int), []⟩ (.slice none 0 0) [] rfl HN18.out HU18.out (by simp) (by simp) (by simp) ?_; intro Ap18 cp18 w18 b18 o18 in18 g18 bl18; replace HS := Lib.hid (HS.out.app (left' := (left - d)) (room' := room) o18 g18 bl18 (okPt_keep (by omega) (by omega)) (by simp [keepOf, dropOf]; omega) (by simp [putOf])); clear o18 in18 g18 bl18 bA18 HN18 HU18 hll18; have bA19 := alloc_below w18 (.cells #[.int .i64 1, .int .i64 ((left : Int) - (d : Int)), .slice none 0 0] 66); have HN19 := Lib.hid (heap_alloc_new w18 (.cells #[.int .i64 1, .int .i64 ((left : Int) - (d : Int)), .slice none 0 0] 66)); replace HS := Lib.hid (HS.out.past bA19); have HU19 := Lib.hid (nil_ow (w18.alloc (.cells #[.int .i64 1, .int .i64 ((left : Int) - (d : Int)), .slice none 0 0] 66))); have hll19 : (L ++ [(⟨1, (d : Int), []⟩ : Pt)]).length ≤ 2000000 := (by rw [List.length_append]; show L.length + 1 ≤ 2000000; omega)) | (at_builtin; refine wpList_append_part rfl (.tmp 69) (.tmp 72) rfl w0.heap.size _ (.slice Ap18 (L.length + 1) cp18) (L ++ [(⟨1, (d : Int), []⟩ : Pt)]) b18 HS.out.ow rfl hll19 w18.heap.size _ ⟨1, ((left : Int) - (d : Int)), []⟩ (.slice none 0 0) [] rfl HN19.out HU19.out (by simp) (by simp) (by simp) ?_; intro Ap19 cp19 w19 b19 o19 in19 g19 bl19))
        replace HS := Lib.hid (HS.out.app (left' := 0) (room' := room) o19 g19 bl19 (okPt_keep (by omega) (by omega)) (by first | (simp [keepOf, dropOf]; done) | (simp [keepOf, dropOf]; omega)) (by simp [putOf]))
        clear o19 in19 g19 bl19 bA19 HN19 HU19 hll19
        have HSx := HS.out
        rw [List.length_append] at HSx
        have HR : DrX B g w0 n _ _ := ⟨_, _, _, HSx, by simp; omega⟩
        unfold DrE
        iterate 67 apply Exists.intro
        exact ⟨HR, rfl⟩
set_option maxRecDepth 1000000 in
set_option maxHeartbeats 6400000 in
theorem drZ (B g : Nat) (w0 wr : World) (n : Nat) (hn : n ≤ 150) (A : Option Addr) (c left room : Nat) (L : List Pt) (b : List Nat) (c1 c2 c3 c4 c11 c12 c74 u8 u9 u10 u13 u14 u15 u16 u17 u18 u19 u20 u21 u22 u23 u24 u25 u26 u27 u28 u29 u30 u31 u32 u33 u34 u35 u36 u37 u38 u39 u40 u41 u42 u43 u44 u45 u46 u47 u48 u49 u50 u51 u52 u53 u54 u55 u56 u57 u58 u59 u60 u61 u62 u63 u64 u65 u66 u67 u68 u69 u70 u71 u72 u73 : Value) (Q0 : Exit → Act → World → Prop) (hs : DS B g w0 n (.slice A L.length c) left room L b wr) (hL : L.length ≤ 40) (hl0 : ¬ 0 < left) (hexit : ∀ a w, DrE B g w0 n c1 c2 c3 c4 c11 c12 c74 a w → Q0 (.exit 0) a w) :
    Code.wp Try.prog drBody (Exit.then (fun a' w'' => DrI B g w0 n c1 c2 c3 c4 c11 c12 c74 a' w'' ∧ 41 - slen (a'.tmps.getD 5 undef) < 41 - L.length) Q0) ⟨#[.pointer (some ⟨g, 0, none⟩), c1, c2, c3, c4, .slice A L.length c, .int .i64 (left : Int), .int .i64 (room : Int), u8, u9, u10, c11, c12, u13, u14, u15, u16, u17, u18, u19, u20, u21, u22, u23, u24, u25, u26, u27, u28, u29, u30, u31, u32, u33, u34, u35, u36, u37, u38, u39, u40, u41, u42, u43, u44, u45, u46, u47, u48, u49, u50, u51, u52, u53, u54, u55, u56, u57, u58, u59, u60, u61, u62, u63, u64, u65, u66, u67, u68, u69, u70, u71, u72, u73, c74], []⟩ wr := by
  have hb1 : (left : Int) ≤ n := by have := hs.sum; have q1 := sumOf_nonneg hs.ok; omega
  have hb2 : (room : Int) ≤ 12 := by have := hs.puts; have q1 := sumOf_nonneg hs.ok; omega
  have HS := Lib.hid hs
  clear hs
  conv => arg 2; whnf
  go_wp2_with fail
  refine (specOnce_d B g 3 _ HS.out.dc (by omega)).mono ?_
  rintro e w1 ⟨q1, rfl, dc1, fr1, bl1⟩
  replace HS := Lib.hid (HS.out.draw dc1 fr1 bl1)
  clear dc1 fr1 bl1
  cases q1
  · go_wp2
    have e0 : left = 0 := by omega
    have HS0 := HS.out
    rw [e0] at HS0
    have HR : DrX B g w0 n _ _ := ⟨_, _, _, HS0, by omega⟩
    unfold DrE
    iterate 67 apply Exists.intro
    exact ⟨HR, rfl⟩
  go_wp2_with fail
  refine (specBelow_d B g 4 _ HS.out.dc (by omega)).mono ?_
  rintro e w2 ⟨x2, rfl, ⟨xa2, xb2, _⟩, dc2, fr2, bl2⟩
  replace HS := Lib.hid (HS.out.draw dc2 fr2 bl2)
  clear dc2 fr2 bl2
  have xb2 := xb2 (by omega)
  by_cases hx0 : x2 = 0
  · subst hx0
    go_wp2_with fail
    refine (specSigns_d B g 3 _ HS.out.dc (by omega)).mono ?_
    rintro e w3 ⟨t3, v3, s3, rfl, tl3, ta3, to3, dc3, fr3, bl3⟩
    have HOLD := HS.out.ow
    have HSZ := HS.out.fr.size
    replace HS := Lib.hid (HS.out.draw dc3 fr3 bl3)
    have HT3 := Lib.hid to3
    have HTA3 := Lib.hid ta3
    obtain ⟨At3, ct3, rfl⟩ := sliceI to3.read
    have HSR3 := Lib.hid (show ∀ q ∈ b, q ∉ s3 from fun q hq hq' => by have q1 := (HOLD.rng q hq).2; have q2 := (to3.rng q hq').1; omega)
    clear HOLD to3 ta3
    clear dc3 fr3 bl3
    by_cases hr : t3.length ≤ room
    · have hr2 : ¬ room < t3.length := by omega
      by_cases hm : L.length + 1 ≤ 40
      · have hm2 : ¬ 40 < L.length + 1 := by omega
        have bA4 := alloc_below w3 (.cells #[.int .i64 2, .int .i64 0, .slice At3 t3.length ct3] 66)
        have HN4 := Lib.hid (heap_alloc_new w3 (.cells #[.int .i64 2, .int .i64 0, .slice At3 t3.length ct3] 66))
        replace HS := Lib.hid (HS.out.past bA4)
        have HU4 := Lib.hid ((HT3.out.past bA4).ow)
        have hll4 : (L).length ≤ 2000000 := (by omega)
        go_wp2_with (at_builtin; refine wpList_append_part rfl (.tmp 45) (.tmp 48) rfl w0.heap.size _ (.slice A L.length c) (L) b HS.out.ow rfl hll4 w3.heap.size _ ⟨2, 0, t3⟩ (.slice At3 t3.length ct3) s3 rfl HN4.out HU4.out HT3.out.nd HSR3.out (fun q hq => by have q1 := (HT3.out.rng q hq).1; omega) ?_; intro Ap4 cp4 w4 b4 o4 in4 g4 bl4)
        replace HS := Lib.hid (HS.out.app (left' := left) (room' := (room - t3.length)) o4 g4 bl4 (okPt_put (by omega) HTA3.out) (by simp [keepOf, dropOf]) (by simp [putOf]; omega))
        clear o4 in4 g4 bl4 bA4 HN4 HU4 hll4
        refine ⟨?_, by simp [slen]; omega⟩
        unfold DrI
        iterate 67 apply Exists.intro
        refine ⟨⟨_, _, _, _, HS.out, ?_, ?_, ?_⟩, rfl⟩
        · simp; omega
        · first | rfl | (congr 1; omega)
        · first | rfl | (congr 1; omega)
      · have hm2 : 40 < L.length + 1 := by omega
        have bA5 := alloc_below w3 (.cells #[.int .i64 2, .int .i64 0, .slice At3 t3.length ct3] 66)
        have HN5 := Lib.hid (heap_alloc_new w3 (.cells #[.int .i64 2, .int .i64 0, .slice At3 t3.length ct3] 66))
        replace HS := Lib.hid (HS.out.past bA5)
        have HU5 := Lib.hid ((HT3.out.past bA5).ow)
        have hll5 : (L).length ≤ 2000000 := (by omega)
        go_wp2_with (first | (at_builtin; refine wpList_append_part rfl (.tmp 45) (.tmp 48) rfl w0.heap.size _ (.slice A L.length c) (L) b HS.out.ow rfl hll5 w3.heap.size _ ⟨2, 0, t3⟩ (.slice At3 t3.length ct3) s3 rfl HN5.out HU5.out HT3.out.nd HSR3.out (fun q hq => by have q1 := (HT3.out.rng q hq).1; omega) ?_; intro Ap5 cp5 w5 b5 o5 in5 g5 bl5; replace HS := Lib.hid (HS.out.app (left' := left) (room' := (room - t3.length)) o5 g5 bl5 (okPt_put (by omega) HTA3.out) (by simp [keepOf, dropOf]) (by simp [putOf]; omega)); clear o5 in5 g5 bl5 bA5 HN5 HU5 hll5; have bA6 := alloc_below w5 (.cells #[.int .i64 1, .int .i64 (left : Int), .slice none 0 0] 66); have HN6 := Lib.hid (heap_alloc_new w5 (.cells #[.int .i64 1, .int .i64 (left : Int), .slice none 0 0] 66)); replace HS := Lib.hid (HS.out.past bA6); have HU6 := Lib.hid (nil_ow (w5.alloc (.cells #[.int .i64 1, .int .i64 (left : Int), .slice none 0 0] 66))); have hll6 : (L ++ [(⟨2, 0, t3⟩ : Pt)]).length ≤ 2000000 := (by rw [List.length_append]; show L.length + 1 ≤ 2000000; omega)) | (at_builtin; refine wpList_append_part rfl (.tmp 69) (.tmp 72) rfl w0.heap.size _ (.slice Ap5 (L.length + 1) cp5) (L ++ [(⟨2, 0, t3⟩ : Pt)]) b5 HS.out.ow rfl hll6 w5.heap.size _ ⟨1, (left : Int), []⟩ (.slice none 0 0) [] rfl HN6.out HU6.out (by simp) (by simp) (by simp) ?_; intro Ap6 cp6 w6 b6 o6 in6 g6 bl6))
        replace HS := Lib.hid (HS.out.app (left' := 0) (room' := (room - t3.length)) o6 g6 bl6 (okPt_keep (by omega) (by omega)) (by first | (simp [keepOf, dropOf]; done) | (simp [keepOf, dropOf]; omega)) (by simp [putOf]))
        clear o6 in6 g6 bl6 bA6 HN6 HU6 hll6
        have HSx := HS.out
        rw [List.length_append] at HSx
        have HR : DrX B g w0 n _ _ := ⟨_, _, _, HSx, by simp; omega⟩
        unfold DrE
        iterate 67 apply Exists.intro
        exact ⟨HR, rfl⟩
    · have hr2 : room < t3.length := by omega
      by_cases hm : L.length + 1 ≤ 40
      · have hm2 : ¬ 40 < L.length + 1 := by omega
        have bA7 := alloc_below w3 (.cells #[.int .i64 2, .int .i64 0, .slice none 0 0] 66)
        have HN7 := Lib.hid (heap_alloc_new w3 (.cells #[.int .i64 2, .int .i64 0, .slice none 0 0] 66))
        replace HS := Lib.hid (HS.out.past bA7)
        have HU7 := Lib.hid (nil_ow (w3.alloc (.cells #[.int .i64 2, .int .i64 0, .slice none 0 0] 66)))
        have hll7 : (L).length ≤ 2000000 := (by omega)
        go_wp2_with (at_builtin; refine wpList_append_part rfl (.tmp 45) (.tmp 48) rfl w0.heap.size _ (.slice A L.length c) (L) b HS.out.ow rfl hll7 w3.heap.size _ ⟨2, 0, []⟩ (.slice none 0 0) [] rfl HN7.out HU7.out (by simp) (by simp) (by simp) ?_; intro Ap7 cp7 w7 b7 o7 in7 g7 bl7)
        replace HS := Lib.hid (HS.out.app (left' := left) (room' := room) o7 g7 bl7 (okPt_put (by simp) rfl) (by simp [keepOf, dropOf]) (by simp [putOf]))
        clear o7 in7 g7 bl7 bA7 HN7 HU7 hll7
        refine ⟨?_, by simp [slen]; omega⟩
        unfold DrI
        iterate 67 apply Exists.intro
        refine ⟨⟨_, _, _, _, HS.out, ?_, ?_, ?_⟩, rfl⟩
        · simp; omega
        · first | rfl | (congr 1; omega)
        · first | rfl | (congr 1; omega)
      · have hm2 : 40 < L.length + 1 := by omega
        have bA8 := alloc_below w3 (.cells #[.int .i64 2, .int .i64 0, .slice none 0 0] 66)
        have HN8 := Lib.hid (heap_alloc_new w3 (.cells #[.int .i64 2, .int .i64 0, .slice none 0 0] 66))
        replace HS := Lib.hid (HS.out.past bA8)
        have HU8 := Lib.hid (nil_ow (w3.alloc (.cells #[.int .i64 2, .int .i64 0, .slice none 0 0] 66)))
        have hll8 : (L).length ≤ 2000000 := (by omega)
        go_wp2_with (first | (at_builtin; refine wpList_append_part rfl (.tmp 45) (.tmp 48) rfl w0.heap.size _ (.slice A L.length c) (L) b HS.out.ow rfl hll8 w3.heap.size _ ⟨2, 0, []⟩ (.slice none 0 0) [] rfl HN8.out HU8.out (by simp) (by simp) (by simp) ?_; intro Ap8 cp8 w8 b8 o8 in8 g8 bl8; replace HS := Lib.hid (HS.out.app (left' := left) (room' := room) o8 g8 bl8 (okPt_put (by simp) rfl) (by simp [keepOf, dropOf]) (by simp [putOf])); clear o8 in8 g8 bl8 bA8 HN8 HU8 hll8; have bA9 := alloc_below w8 (.cells #[.int .i64 1, .int .i64 (left : Int), .slice none 0 0] 66); have HN9 := Lib.hid (heap_alloc_new w8 (.cells #[.int .i64 1, .int .i64 (left : Int), .slice none 0 0] 66)); replace HS := Lib.hid (HS.out.past bA9); have HU9 := Lib.hid (nil_ow (w8.alloc (.cells #[.int .i64 1, .int .i64 (left : Int), .slice none 0 0] 66))); have hll9 : (L ++ [(⟨2, 0, []⟩ : Pt)]).length ≤ 2000000 := (by rw [List.length_append]; show L.length + 1 ≤ 2000000; omega)) | (at_builtin; refine wpList_append_part rfl (.tmp 69) (.tmp 72) rfl w0.heap.size _ (.slice Ap8 (L.length + 1) cp8) (L ++ [(⟨2, 0, []⟩ : Pt)]) b8 HS.out.ow rfl hll9 w8.heap.size _ ⟨1, (left : Int), []⟩ (.slice none 0 0) [] rfl HN9.out HU9.out (by simp) (by simp) (by simp) ?_; intro Ap9 cp9 w9 b9 o9 in9 g9 bl9))
        replace HS := Lib.hid (HS.out.app (left' := 0) (room' := room) o9 g9 bl9 (okPt_keep (by omega) (by omega)) (by first | (simp [keepOf, dropOf]; done) | (simp [keepOf, dropOf]; omega)) (by simp [putOf]))
        clear o9 in9 g9 bl9 bA9 HN9 HU9 hll9
        have HSx := HS.out
        rw [List.length_append] at HSx
        have HR : DrX B g w0 n _ _ := ⟨_, _, _, HSx, by simp; omega⟩
        unfold DrE
        iterate 67 apply Exists.intro
        exact ⟨HR, rfl⟩
  · have hx0b : (x2 == 0) = false := by simp [hx0]
    by_cases hx1 : x2 = 1
    · subst hx1
      clear hx0 hx0b
      go_wp2_with fail
      refine (specBelow_d B g ((left : Int) + 1) _ HS.out.dc (by omega)).mono ?_
      rintro e w10 ⟨m10, rfl, ⟨ma10, mb10, _⟩, dc10, fr10, bl10⟩
      replace HS := Lib.hid (HS.out.draw dc10 fr10 bl10)
      clear dc10 fr10 bl10
      have mb10 := mb10 (by omega)
      obtain ⟨d, rfl⟩ := Int.eq_ofNat_of_zero_le ma10
      by_cases h4 : d ≤ 4
      · have h4b : ¬ 4 < d := by omega
        by_cases hm : L.length + 1 ≤ 40
        · have hm2 : ¬ 40 < L.length + 1 := by omega
          have bA11 := alloc_below w10 (.cells #[.int .i64 3, .int .i64 (d : Int), .slice none 0 0] 66)
          have HN11 := Lib.hid (heap_alloc_new w10 (.cells #[.int .i64 3, .int .i64 (d : Int), .slice none 0 0] 66))
          replace HS := Lib.hid (HS.out.past bA11)
          have HU11 := Lib.hid (nil_ow (w10.alloc (.cells #[.int .i64 3, .int .i64 (d : Int), .slice none 0 0] 66)))
          have hll11 : (L).length ≤ 2000000 := (by omega)
          go_wp2_with (at_builtin; refine wpList_append_part rfl (.tmp 61) (.tmp 64) rfl w0.heap.size _ (.slice A L.length c) (L) b HS.out.ow rfl hll11 w10.heap.size _ ⟨3, (d : Int), []⟩ (.slice none 0 0) [] rfl HN11.out HU11.out (by simp) (by simp) (by simp) ?_; intro Ap11 cp11 w11 b11 o11 in11 g11 bl11)
          replace HS := Lib.hid (HS.out.app (left' := (left - d)) (room' := room) o11 g11 bl11 (okPt_drop (by omega) (by omega)) (by simp [keepOf, dropOf]; omega) (by simp [putOf]))
          clear o11 in11 g11 bl11 bA11 HN11 HU11 hll11
          refine ⟨?_, by simp [slen]; omega⟩
          unfold DrI
          iterate 67 apply Exists.intro
          refine ⟨⟨_, _, _, _, HS.out, ?_, ?_, ?_⟩, rfl⟩
          · simp; omega
          · first | rfl | (congr 1; omega)
          · first | rfl | (congr 1; omega)
        · have hm2 : 40 < L.length + 1 := by omega
          have bA12 := alloc_below w10 (.cells #[.int .i64 3, .int .i64 (d : Int), .slice none 0 0] 66)
          have HN12 := Lib.hid (heap_alloc_new w10 (.cells #[.int .i64 3, .int .i64 (d : Int), .slice none 0 0] 66))
          replace HS := Lib.hid (HS.out.past bA12)
          have HU12 := Lib.hid (nil_ow (w10.alloc (.cells #[.int .i64 3, .int .i64 (d : Int), .slice none 0 0] 66)))
          have hll12 : (L).length ≤ 2000000 := (by omega)
          go_wp2_with (first | (at_builtin; refine wpList_append_part rfl (.tmp 61) (.tmp 64) rfl w0.heap.size _ (.slice A L.length c) (L) b HS.out.ow rfl hll12 w10.heap.size _ ⟨3, (d : Int), []⟩ (.slice none 0 0) [] rfl HN12.out HU12.out (by simp) (by simp) (by simp) ?_; intro Ap12 cp12 w12 b12 o12 in12 g12 bl12; replace HS := Lib.hid (HS.out.app (left' := (left - d)) (room' := room) o12 g12 bl12 (okPt_drop (by omega) (by omega)) (by simp [keepOf, dropOf]; omega) (by simp [putOf])); clear o12 in12 g12 bl12 bA12 HN12 HU12 hll12; have bA13 := alloc_below w12 (.cells #[.int .i64 1, .int .i64 ((left : Int) - (d : Int)), .slice none 0 0] 66); have HN13 := Lib.hid (heap_alloc_new w12 (.cells #[.int .i64 1, .int .i64 ((left : Int) - (d : Int)), .slice none 0 0] 66)); replace HS := Lib.hid (HS.out.past bA13); have HU13 := Lib.hid (nil_ow (w12.alloc (.cells #[.int .i64 1, .int .i64 ((left : Int) - (d : Int)), .slice none 0 0] 66))); have hll13 : (L ++ [(⟨3, (d : Int), []⟩ : Pt)]).length ≤ 2000000 := (by rw [List.length_append]; show L.length + 1 ≤ 2000000; omega)) | (at_builtin; refine wpList_append_part rfl (.tmp 69) (.tmp 72) rfl w0.heap.size _ (.slice Ap12 (L.length + 1) cp12) (L ++ [(⟨3, (d : Int), []⟩ : Pt)]) b12 HS.out.ow rfl hll13 w12.heap.size _ ⟨1, ((left : Int) - (d : Int)), []⟩ (.slice none 0 0) [] rfl HN13.out HU13.out (by simp) (by simp) (by simp) ?_; intro Ap13 cp13 w13 b13 o13 in13 g13 bl13))
          replace HS := Lib.hid (HS.out.app (left' := 0) (room' := room) o13 g13 bl13 (okPt_keep (by omega) (by omega)) (by first | (simp [keepOf, dropOf]; done) | (simp [keepOf, dropOf]; omega)) (by simp [putOf]))
          clear o13 in13 g13 bl13 bA13 HN13 HU13 hll13
          have HSx := HS.out
          rw [List.length_append] at HSx
          have HR : DrX B g w0 n _ _ := ⟨_, _, _, HSx, by simp; omega⟩
          unfold DrE
          iterate 67 apply Exists.intro
          exact ⟨HR, rfl⟩
      · exfalso
        omega
    · have hx1b : (x2 == 1) = false := by simp [hx1]
      clear hx0 hx1
      go_wp2_with fail
      refine (specBelow_d B g ((left : Int) + 1) _ HS.out.dc (by omega)).mono ?_
      rintro e w14 ⟨m14, rfl, ⟨ma14, mb14, _⟩, dc14, fr14, bl14⟩
      replace HS := Lib.hid (HS.out.draw dc14 fr14 bl14)
      clear dc14 fr14 bl14
      have mb14 := mb14 (by omega)
      obtain ⟨d, rfl⟩ := Int.eq_ofNat_of_zero_le ma14
      by_cases hm : L.length + 1 ≤ 40
      · have hm2 : ¬ 40 < L.length + 1 := by omega
        have bA15 := alloc_below w14 (.cells #[.int .i64 1, .int .i64 (d : Int), .slice none 0 0] 66)
        have HN15 := Lib.hid (heap_alloc_new w14 (.cells #[.int .i64 1, .int .i64 (d : Int), .slice none 0 0] 66))
        replace HS := Lib.hid (HS.out.past bA15)
        have HU15 := Lib.hid (nil_ow (w14.alloc (.cells #[.int .i64 1, .int .i64 (d : Int), .slice none 0 0] 66)))
        have hll15 : (L).length ≤ 2000000 := (by omega)
        go_wp2_with (at_builtin; refine wpList_append_part rfl (.tmp 28) (.tmp 31) rfl w0.heap.size _ (.slice A L.length c) (L) b HS.out.ow rfl hll15 w14.heap.size _ ⟨1, (d : Int), []⟩ (.slice none 0 0) [] rfl HN15.out HU15.out (by simp) (by simp) (by simp) ?_; intro Ap15 cp15 w15 b15 o15 in15 g15 bl15)
        replace HS := Lib.hid (HS.out.app (left' := (left - d)) (room' := room) o15 g15 bl15 (okPt_keep (by omega) (by omega)) (by simp [keepOf, dropOf]; omega) (by simp [putOf]))
        clear o15 in15 g15 bl15 bA15 HN15 HU15 hll15
        refine ⟨?_, by simp [slen]; omega⟩
        unfold DrI
        iterate 67 apply Exists.intro
        refine ⟨⟨_, _, _, _, HS.out, ?_, ?_, ?_⟩, rfl⟩
        · simp; omega
        · first | rfl | (congr 1; omega)
        · first | rfl | (congr 1; omega)
      · have hm2 : 40 < L.length + 1 := by omega
        have bA16 := alloc_below w14 (.cells #[.int .i64 1, .int .i64 (d : Int), .slice none 0 0] 66)
        have HN16 := Lib.hid (heap_alloc_new w14 (.cells #[.int .i64 1, .int .i64 (d : Int), .slice none 0 0] 66))
        replace HS := Lib.hid (HS.out.past bA16)
        have HU16 := Lib.hid (nil_ow (w14.alloc (.cells #[.int .i64 1, .int .i64 (d : Int), .slice none 0 0] 66)))
        have hll16 : (L).length ≤ 2000000 := (by omega)
        go_wp2_with (first | (at_builtin; refine wpList_append_part rfl (.tmp 28) (.tmp 31) rfl w0.heap.size _ (.slice A L.length c) (L) b HS.out.ow rfl hll16 w14.heap.size _ ⟨1, (d : Int), []⟩ (.slice none 0 0) [] rfl HN16.out HU16.out (by simp) (by simp) (by simp) ?_; intro Ap16 cp16 w16 b16 o16 in16 g16 bl16; replace HS := Lib.hid (HS.out.app (left' := (left - d)) (room' := room) o16 g16 bl16 (okPt_keep (by omega) (by omega)) (by simp [keepOf, dropOf]; omega) (by simp [putOf])); clear o16 in16 g16 bl16 bA16 HN16 HU16 hll16; have bA17 := alloc_below w16 (.cells #[.int .i64 1, .int .i64 ((left : Int) - (d : Int)), .slice none 0 0] 66); have HN17 := Lib.hid (heap_alloc_new w16 (.cells #[.int .i64 1, .int .i64 ((left : Int) - (d : Int)), .slice none 0 0] 66)); replace HS := Lib.hid (HS.out.past bA17); have HU17 := Lib.hid (nil_ow (w16.alloc (.cells #[.int .i64 1, .int .i64 ((left : Int) - (d : Int)), .slice none 0 0] 66))); have hll17 : (L ++ [(⟨1, (d : Int), []⟩ : Pt)]).length ≤ 2000000 := (by rw [List.length_append]; show L.length + 1 ≤ 2000000; omega)) | (at_builtin; refine wpList_append_part rfl (.tmp 69) (.tmp 72) rfl w0.heap.size _ (.slice Ap16 (L.length + 1) cp16) (L ++ [(⟨1, (d : Int), []⟩ : Pt)]) b16 HS.out.ow rfl hll17 w16.heap.size _ ⟨1, ((left : Int) - (d : Int)), []⟩ (.slice none 0 0) [] rfl HN17.out HU17.out (by simp) (by simp) (by simp) ?_; intro Ap17 cp17 w17 b17 o17 in17 g17 bl17))
        replace HS := Lib.hid (HS.out.app (left' := 0) (room' := room) o17 g17 bl17 (okPt_keep (by omega) (by omega)) (by first | (simp [keepOf, dropOf]; done) | (simp [keepOf, dropOf]; omega)) (by simp [putOf]))
        clear o17 in17 g17 bl17 bA17 HN17 HU17 hll17
        have HSx := HS.out
        rw [List.length_append] at HSx
        have HR : DrX B g w0 n _ _ := ⟨_, _, _, HSx, by simp; omega⟩
        unfold DrE
        iterate 67 apply Exists.intro
        exact ⟨HR, rfl⟩
set_option maxRecDepth 1000000 in
set_option maxHeartbeats 1600000 in
theorem drRound (B g : Nat) (w0 : World) (n : Nat) (hn : n ≤ 150) (c1 c2 c3 c4 c11 c12 c74 : Value) (Q0 : Exit → Act → World → Prop) (hexit : ∀ a w, DrE B g w0 n c1 c2 c3 c4 c11 c12 c74 a w → Q0 (.exit 0) a w) (a : Act) (w : World) (hI : DrI B g w0 n c1 c2 c3 c4 c11 c12 c74 a w) :
    Code.wp Try.prog drBody (Exit.then (fun a' w'' => DrI B g w0 n c1 c2 c3 c4 c11 c12 c74 a' w'' ∧ 41 - slen (a'.tmps.getD 5 undef) < 41 - slen (a.tmps.getD 5 undef)) Q0) a w := by
  unfold DrI at hI
  obtain ⟨u5, hI⟩ := hI
  obtain ⟨u6, hI⟩ := hI
  obtain ⟨u7, hI⟩ := hI
  obtain ⟨u8, hI⟩ := hI
  obtain ⟨u9, hI⟩ := hI
  obtain ⟨u10, hI⟩ := hI
  obtain ⟨u13, hI⟩ := hI
  obtain ⟨u14, hI⟩ := hI
  obtain ⟨u15, hI⟩ := hI
  obtain ⟨u16, hI⟩ := hI
  obtain ⟨u17, hI⟩ := hI
  obtain ⟨u18, hI⟩ := hI
  obtain ⟨u19, hI⟩ := hI
  obtain ⟨u20, hI⟩ := hI
  obtain ⟨u21, hI⟩ := hI
  obtain ⟨u22, hI⟩ := hI
  obtain ⟨u23, hI⟩ := hI
  obtain ⟨u24, hI⟩ := hI
  obtain ⟨u25, hI⟩ := hI
  obtain ⟨u26, hI⟩ := hI
  obtain ⟨u27, hI⟩ := hI
  obtain ⟨u28, hI⟩ := hI
  obtain ⟨u29, hI⟩ := hI
  obtain ⟨u30, hI⟩ := hI
  obtain ⟨u31, hI⟩ := hI
  obtain ⟨u32, hI⟩ := hI
  obtain ⟨u33, hI⟩ := hI
  obtain ⟨u34, hI⟩ := hI
  obtain ⟨u35, hI⟩ := hI
  obtain ⟨u36, hI⟩ := hI
  obtain ⟨u37, hI⟩ := hI
  obtain ⟨u38, hI⟩ := hI
  obtain ⟨u39, hI⟩ := hI
  obtain ⟨u40, hI⟩ := hI
  obtain ⟨u41, hI⟩ := hI
  obtain ⟨u42, hI⟩ := hI
  obtain ⟨u43, hI⟩ := hI
  obtain ⟨u44, hI⟩ := hI
  obtain ⟨u45, hI⟩ := hI
  obtain ⟨u46, hI⟩ := hI
  obtain ⟨u47, hI⟩ := hI
  obtain ⟨u48, hI⟩ := hI
  obtain ⟨u49, hI⟩ := hI
  obtain ⟨u50, hI⟩ := hI
  obtain ⟨u51, hI⟩ := hI
  obtain ⟨u52, hI⟩ := hI
  obtain ⟨u53, hI⟩ := hI
  obtain ⟨u54, hI⟩ := hI
  obtain ⟨u55, hI⟩ := hI
  obtain ⟨u56, hI⟩ := hI
  obtain ⟨u57, hI⟩ := hI
  obtain ⟨u58, hI⟩ := hI
  obtain ⟨u59, hI⟩ := hI
  obtain ⟨u60, hI⟩ := hI
  obtain ⟨u61, hI⟩ := hI
  obtain ⟨u62, hI⟩ := hI
  obtain ⟨u63, hI⟩ := hI
  obtain ⟨u64, hI⟩ := hI
  obtain ⟨u65, hI⟩ := hI
  obtain ⟨u66, hI⟩ := hI
  obtain ⟨u67, hI⟩ := hI
  obtain ⟨u68, hI⟩ := hI
  obtain ⟨u69, hI⟩ := hI
  obtain ⟨u70, hI⟩ := hI
  obtain ⟨u71, hI⟩ := hI
  obtain ⟨u72, hI⟩ := hI
  obtain ⟨u73, hI⟩ := hI
  obtain ⟨⟨left, room, L, b, hs, hL, rfl, rfl⟩, rfl⟩ := hI
  obtain ⟨A, c, rfl⟩ := sliceP hs.ow.read
  by_cases hl : 0 < left
  · exact drP B g w0 w n hn A c left room L b c1 c2 c3 c4 c11 c12 c74 u8 u9 u10 u13 u14 u15 u16 u17 u18 u19 u20 u21 u22 u23 u24 u25 u26 u27 u28 u29 u30 u31 u32 u33 u34 u35 u36 u37 u38 u39 u40 u41 u42 u43 u44 u45 u46 u47 u48 u49 u50 u51 u52 u53 u54 u55 u56 u57 u58 u59 u60 u61 u62 u63 u64 u65 u66 u67 u68 u69 u70 u71 u72 u73 Q0 hs hL hl hexit
  · exact drZ B g w0 w n hn A c left room L b c1 c2 c3 c4 c11 c12 c74 u8 u9 u10 u13 u14 u15 u16 u17 u18 u19 u20 u21 u22 u23 u24 u25 u26 u27 u28 u29 u30 u31 u32 u33 u34 u35 u36 u37 u38 u39 u40 u41 u42 u43 u44 u45 u46 u47 u48 u49 u50 u51 u52 u53 u54 u55 u56 u57 u58 u59 u60 u61 u62 u63 u64 u65 u66 u67 u68 u69 u70 u71 u72 u73 Q0 hs hL hl hexit
set_option maxRecDepth 1000000 in
set_option maxHeartbeats 1600000 in
theorem drLoop (B g : Nat) (w0 : World) (n : Nat) (hn : n ≤ 150) (c1 c2 c3 c4 c11 c12 c74 u5 u6 u7 u8 u9 u10 u13 u14 u15 u16 u17 u18 u19 u20 u21 u22 u23 u24 u25 u26 u27 u28 u29 u30 u31 u32 u33 u34 u35 u36 u37 u38 u39 u40 u41 u42 u43 u44 u45 u46 u47 u48 u49 u50 u51 u52 u53 u54 u55 u56 u57 u58 u59 u60 u61 u62 u63 u64 u65 u66 u67 u68 u69 u70 u71 u72 u73 : Value) (Q0 : Exit → Act → World → Prop) (w : World) (hR : DrR B g w0 n u5 u6 u7 w) (hexit : ∀ a w, DrE B g w0 n c1 c2 c3 c4 c11 c12 c74 a w → Q0 (.exit 0) a w) :
    Code.wp Try.prog (Code.loop drBody) Q0 ⟨#[.pointer (some ⟨g, 0, none⟩), c1, c2, c3, c4, u5, u6, u7, u8, u9, u10, c11, c12, u13, u14, u15, u16, u17, u18, u19, u20, u21, u22, u23, u24, u25, u26, u27, u28, u29, u30, u31, u32, u33, u34, u35, u36, u37, u38, u39, u40, u41, u42, u43, u44, u45, u46, u47, u48, u49, u50, u51, u52, u53, u54, u55, u56, u57, u58, u59, u60, u61, u62, u63, u64, u65, u66, u67, u68, u69, u70, u71, u72, u73, c74], []⟩ w := by
  refine wp_loop (DrI B g w0 n c1 c2 c3 c4 c11 c12 c74) (fun a _ => 41 - slen (a.tmps.getD 5 undef)) ?_ (fun a w'' hI => drRound B g w0 n hn c1 c2 c3 c4 c11 c12 c74 Q0 hexit a w'' hI)
  unfold DrI
  iterate 67 apply Exists.intro
  exact ⟨hR, rfl⟩
/-- behind a draw of an operation on n characters -/
def OpP (n B g : Nat) (w : World) (e : Ending) (w' : World) : Prop := ∃ L v b, e = .returned v ∧ okOp L = true ∧ sumK L + sumD L = (n : Int) ∧ sumK L + sumP L ≤ (n : Int) + 12 ∧ sumP L ≤ 12 ∧ SmP L ∧ OwB w.heap.size w'.heap.size w' (encPs L) v b ∧ DC B g w' ∧ Fr (fun q => q = g) w w' ∧ Below B w w'
theorem drawn_ok {L : List Pt} {n room : Nat} (hok : okPs L = true) (hs : sumOf keepOf L + sumOf dropOf L + ((0 : Nat) : Int) = (n : Int)) (hp : sumOf putOf L + (room : Int) = 12) (hl : L.length ≤ 42) (hn : n ≤ 150) : okOp L = true ∧ sumK L + sumD L = (n : Int) ∧ sumK L + sumP L ≤ (n : Int) + 12 ∧ sumP L ≤ 12 ∧ SmP L := by
  have hpb : partsB L = true := by unfold partsB; rw [hok]; simp; omega
  obtain ⟨t1, t2, t3⟩ := sum_t hpb
  obtain ⟨q1, q2, q3⟩ := sumOf_nonneg hok
  have h1 : sumK L + sumD L = (n : Int) := by rw [t1, t3]; omega
  have h2 : sumK L + sumP L ≤ (n : Int) + 12 := by rw [t1, t2]; omega
  refine ⟨?_, h1, h2, by rw [t2]; omega, by omega, ?_⟩
  · unfold okOp
    rw [hpb, decide_eq_true (show sumK L + sumD L ≤ 200 by omega), decide_eq_true (show sumK L + sumP L ≤ 200 by omega)]
    rfl
  · have := signsIn_le (okPs_sz hok)
    omega
set_option maxRecDepth 1000000 in
set_option maxHeartbeats 3200000 in
theorem specDraw_d (B g n : Nat) (w : World) (h : DC B g w) (hn : n ≤ 150) : Calls Try.prog 32 #[.pointer (some ⟨g, 0, none⟩), .int .i64 (n : Int)] w (OpP n B g w) := by
  have hgl := h.lt
  have hBg := h.low
  go_enter Try.func32, Try.ntmps32
  go_wp2
  have bA := alloc_below w (.cells #[] 66)
  have hib : OwB w.heap.size (w.alloc (.cells #[] 66)).heap.size (w.alloc (.cells #[] 66)) (encPs []) (.slice (some ⟨w.heap.size, 0, none⟩) 0 0) [w.heap.size] :=
    ⟨⟨[], [], ⟨rfl, .inr ⟨w.heap.size, 0, #[], rfl, Nat.zero_le _, heap_alloc_new w _, Nat.le_refl _, by unfold maxLen; omega, rfl, rfl⟩⟩, ⟨rfl, rfl⟩, rfl⟩, by simp, fun x hx => by obtain rfl : x = w.heap.size := (by simpa using hx); exact ⟨Nat.le_refl _, lt_of_some (heap_alloc_new w _)⟩, Nat.le_refl _, bA.size⟩
  have hs : DS B g w n (.slice (some ⟨w.heap.size, 0, none⟩) 0 0) n 12 [] [w.heap.size] (w.alloc (.cells #[] 66)) := ⟨hib, rfl, by simp [sumOf], by simp [sumOf], h.past bA, Fr.below bA, bA.mono (by omega), hgl⟩
  have HS := Lib.hid hs
  clear hs hib bA
  refine drLoop B g w n hn _ _ _ _ _ _ _ _ _ _ _ _ _ _ _ _ _ _ _ _ _ _ _ _ _ _ _ _ _ _ _ _ _ _ _ _ _ _ _ _ _ _ _ _ _ _ _ _ _ _ _ _ _ _ _ _ _ _ _ _ _ _ _ _ _ _ _ _ _ _ _ _ _ _ _ _ ⟨n, 12, [], _, HS.out, by simp, rfl, rfl⟩ ?_
  intro act w8 hI
  clear HS
  unfold DrE at hI
  obtain ⟨u5, hI⟩ := hI
  obtain ⟨u6, hI⟩ := hI
  obtain ⟨u7, hI⟩ := hI
  obtain ⟨u8, hI⟩ := hI
  obtain ⟨u9, hI⟩ := hI
  obtain ⟨u10, hI⟩ := hI
  obtain ⟨u13, hI⟩ := hI
  obtain ⟨u14, hI⟩ := hI
  obtain ⟨u15, hI⟩ := hI
  obtain ⟨u16, hI⟩ := hI
  obtain ⟨u17, hI⟩ := hI
  obtain ⟨u18, hI⟩ := hI
  obtain ⟨u19, hI⟩ := hI
  obtain ⟨u20, hI⟩ := hI
  obtain ⟨u21, hI⟩ := hI
  obtain ⟨u22, hI⟩ := hI
  obtain ⟨u23, hI⟩ := hI
  obtain ⟨u24, hI⟩ := hI
  obtain ⟨u25, hI⟩ := hI
  obtain ⟨u26, hI⟩ := hI
  obtain ⟨u27, hI⟩ := hI
  obtain ⟨u28, hI⟩ := hI
  obtain ⟨u29, hI⟩ := hI
  obtain ⟨u30, hI⟩ := hI
  obtain ⟨u31, hI⟩ := hI
  obtain ⟨u32, hI⟩ := hI
  obtain ⟨u33, hI⟩ := hI
  obtain ⟨u34, hI⟩ := hI
  obtain ⟨u35, hI⟩ := hI
  obtain ⟨u36, hI⟩ := hI
  obtain ⟨u37, hI⟩ := hI
  obtain ⟨u38, hI⟩ := hI
  obtain ⟨u39, hI⟩ := hI
  obtain ⟨u40, hI⟩ := hI
  obtain ⟨u41, hI⟩ := hI
  obtain ⟨u42, hI⟩ := hI
  obtain ⟨u43, hI⟩ := hI
  obtain ⟨u44, hI⟩ := hI
  obtain ⟨u45, hI⟩ := hI
  obtain ⟨u46, hI⟩ := hI
  obtain ⟨u47, hI⟩ := hI
  obtain ⟨u48, hI⟩ := hI
  obtain ⟨u49, hI⟩ := hI
  obtain ⟨u50, hI⟩ := hI
  obtain ⟨u51, hI⟩ := hI
  obtain ⟨u52, hI⟩ := hI
  obtain ⟨u53, hI⟩ := hI
  obtain ⟨u54, hI⟩ := hI
  obtain ⟨u55, hI⟩ := hI
  obtain ⟨u56, hI⟩ := hI
  obtain ⟨u57, hI⟩ := hI
  obtain ⟨u58, hI⟩ := hI
  obtain ⟨u59, hI⟩ := hI
  obtain ⟨u60, hI⟩ := hI
  obtain ⟨u61, hI⟩ := hI
  obtain ⟨u62, hI⟩ := hI
  obtain ⟨u63, hI⟩ := hI
  obtain ⟨u64, hI⟩ := hI
  obtain ⟨u65, hI⟩ := hI
  obtain ⟨u66, hI⟩ := hI
  obtain ⟨u67, hI⟩ := hI
  obtain ⟨u68, hI⟩ := hI
  obtain ⟨u69, hI⟩ := hI
  obtain ⟨u70, hI⟩ := hI
  obtain ⟨u71, hI⟩ := hI
  obtain ⟨u72, hI⟩ := hI
  obtain ⟨u73, hI⟩ := hI
  obtain ⟨⟨room, L, b, hs, hL⟩, rfl⟩ := hI
  obtain ⟨A, c, rfl⟩ := sliceP hs.ow.read
  have HS := Lib.hid hs
  clear hs
  go_wp2
  go_ret
  obtain ⟨k1, k2, k3, k3b, k4⟩ := drawn_ok HS.out.ok HS.out.sum HS.out.puts hL hn
  exact ⟨L, _, b, rfl, k1, k2, k3, k3b, k4, HS.out.ow, HS.out.dc, HS.out.fr, HS.out.bl⟩

end Go.Proofs.Ytfpjoncaccbnmaa.low


/-
  The specification's draws: the cursor made (spec.l01New), a text and two operations (spec.MakeOps), a text and a list of operations (spec.MakeList).
-/
namespace Go.Proofs.Ytfpjoncaccbnmaa.low
open Go.RowKit
set_option linter.unusedVariables false

def NewP (w : World) (e : Ending) (w' : World) : Prop := e = .returned (.pointer (some ⟨w.heap.size, 0, none⟩)) ∧ DC w.heap.size w.heap.size w' ∧ Below w.heap.size w w'
/-- the bytes of a draw -/
def Code8 (w : World) (v : Value) : Prop := ∃ A c zs, v = .slice A zs.length c ∧ zs.length ≤ 1048576 ∧ Row (Value.int .u8) w w.heap.size A zs ∧ ∀ z ∈ zs, 0 ≤ z ∧ z < 256
set_option maxRecDepth 100000 in
set_option maxHeartbeats 1600000 in
theorem specNew_d (v : Value) (w : World) (h : Code8 w v) : Calls Try.prog 30 #[v] w (NewP w) := by
  obtain ⟨A, c, zs, rfl, hl, hr, hz⟩ := h
  go_enter Try.func30, Try.ntmps30
  go_wp2
  go_loop [3, 4] (fun x i => ∃ (k : Nat) (h : Int), k ≤ zs.length ∧ i = .int .i64 k ∧ x = .int .i64 h) (fun _ i => zs.length - (intOf i).toNat)
  case atStart => exact ⟨0, _, Nat.zero_le _, rfl, rfl⟩
  case round =>
    obtain ⟨k, h, hk, rfl, rfl⟩ := hrel
    have fin : NewP w (.returned (.pointer (some ⟨w.heap.size, 0, none⟩))) (w.alloc (.cells #[.slice A zs.length c, .int .i64 0, .int .i64 h] 91)) :=
      ⟨rfl, ⟨A, c, zs, 0, h, heap_alloc_new w _, hl, hr.keep (fun p hp => (alloc_below w _).cell hp), hz, Nat.le_refl _⟩, alloc_below w _⟩
    have FIN := Lib.hid fin
    clear fin
    by_cases hlt : k < zs.length
    · by_cases h4 : k < 4000
      · obtain ⟨ad, z, rfl, hb, hzk, hc⟩ := hr.at_ hlt
        have hzz := hz z (List.mem_of_getElem? hzk)
        clear hzk
        go_wp2
        go_round
        case rel => exact ⟨k + 1, _, by omega, by go_num, rfl⟩
        case measure => simp [intOf]; omega
      · go_wp2
        go_ret
        exact FIN.out
    · go_wp2
      go_ret
      exact FIN.out

/-- behind MakeOps -/
def MOps (w : World) (e : Ending) (w' : World) : Prop := ∃ t a b v1 v2 v3, e = .returned (.tuple #[v1, v2, v3]) ∧ okText t = true ∧ t.length ≤ 10 ∧ okOp a = true ∧ okOp b = true ∧ sumK a + sumD a = (t.length : Int) ∧ sumK b + sumD b = (t.length : Int) ∧ sumK a + sumP a ≤ 30 ∧ sumK b + sumP b ≤ 30 ∧ sumP a ≤ 12 ∧ sumP b ≤ 12 ∧ SmP a ∧ SmP b ∧
  RdC w' w'.heap.size (encInts t) v1 ∧ RdC w' w'.heap.size (encPs a) v2 ∧ RdC w' w'.heap.size (encPs b) v3 ∧ Below w.heap.size w w'
theorem okText_of {t : List Int} (h : allB t = true) (hl : t.length ≤ 200) : okText t = true := by unfold okText; rw [h, decide_eq_true hl]; rfl
theorem read_fr {lo hi g : Nat} {w w' : World} {d : Dat} {v : Value} {b : List Nat} (h : OwB lo hi w d v b) (hf : Fr (fun q => q = g) w w') (hg : g < lo) : RdC w' w'.heap.size d v := (h.fr hf hg).read
set_option maxHeartbeats 1600000 in
theorem specMakeOps_d (v : Value) (w : World) (h : Code8 w v) : Calls Try.prog 8 #[v] w (MOps w) := by
  obtain ⟨A0, c0, zs0, rfl, _⟩ : ∃ A c zs, v = .slice A (List.length (α := Int) zs) c ∧ True := by obtain ⟨A, c, zs, e, _⟩ := h; exact ⟨A, c, zs, e, trivial⟩
  go_enter Try.func8, Try.ntmps8
  go_wp2_with fail
  refine (specNew_d _ w h).mono ?_
  rintro e w1 ⟨rfl, dc, b1⟩
  have hB := b1.size
  generalize hBB : w.heap.size = B at *
  go_wp2_with fail
  refine (specSigns_d B B 10 _ dc (by omega)).mono ?_
  rintro e w2 ⟨t, vt, kt, rfl, tl, ta, ot, dc2, fr2, bl2⟩
  obtain ⟨At, ct, rfl⟩ := sliceI ot.read
  have hg1 := dc.lt
  have HT := Lib.hid ot
  have HTA := Lib.hid ta
  have hl2 := dc2.lt
  clear ot ta
  go_wp2_with fail
  refine (specDraw_d B B t.length _ dc2 (by omega)).mono ?_
  rintro e w3 ⟨a, va, ka, rfl, oa, sa1, sa2, sa3, sma, owa, dc3, fr3, bl3⟩
  obtain ⟨Aa, ca, rfl⟩ := sliceP owa.read
  have HWA := Lib.hid owa
  have HA := Lib.hid (And.intro oa (And.intro sa1 (And.intro sa2 sa3)))
  have hl3 := dc3.lt
  clear owa oa sa1
  go_wp2_with fail
  refine (specDraw_d B B t.length _ dc3 (by omega)).mono ?_
  rintro e w4 ⟨b, vb, kb, rfl, ob, sb1, sb2, sb3, smb, owb, dc4, fr4, bl4⟩
  obtain ⟨Ab, cb, rfl⟩ := sliceP owb.read
  have HWB := Lib.hid owb
  have HB := Lib.hid (And.intro ob (And.intro sb1 (And.intro sb2 sb3)))
  clear owb ob sb1
  go_wp2
  go_ret3
  exact ⟨t, a, b, _, _, _, rfl, okText_of HTA.out (by omega), by omega, HA.out.1, HB.out.1, HA.out.2.1, HB.out.2.1, by have := HA.out.2.2.1; omega, by have := HB.out.2.2.1; omega, HA.out.2.2.2, HB.out.2.2.2, sma, smb, read_fr HT.out (fr3.trans fr4) hg1, read_fr HWA.out fr4 hl2, HWB.out.read, by rw [hBB]; exact ((b1.trans bl2).trans bl3).trans bl4⟩

/-- operations one behind the other, on n characters first -/
def chain : Int → List (List Pt) → Prop
  | _, [] => True
  | n, o :: l => okOp o = true ∧ sumK o + sumD o = n ∧ sumP o ≤ 12 ∧ chain (sumK o + sumP o) l
def endN (n : Int) (l : List (List Pt)) : Int := l.foldl (fun _ o => sumK o + sumP o) n
theorem endN_snoc (n : Int) (l : List (List Pt)) (o : List Pt) : endN n (l ++ [o]) = sumK o + sumP o := by simp [endN]
theorem chain_snoc : ∀ (n : Int) (l : List (List Pt)) (o : List Pt), chain n l → okOp o = true → sumK o + sumD o = endN n l → sumP o ≤ 12 → chain n (l ++ [o])
  | n, [], o, _, h1, h2, h3 => ⟨h1, h2, h3, trivial⟩
  | n, p :: l, o, h, h1, h2, h3 => ⟨h.1, h.2.1, h.2.2.1, chain_snoc _ l o h.2.2.2 h1 h2 h3⟩
/-- behind MakeList -/
def MList (w : World) (e : Ending) (w' : World) : Prop := ∃ t l b v1 v2 v3, e = .returned (.tuple #[v1, v2, v3]) ∧ okText t = true ∧ t.length ≤ 8 ∧ chain (t.length : Int) l ∧ l.length ≤ 4 ∧ endN (t.length : Int) l ≤ 60 ∧ okOp b = true ∧ sumK b + sumD b = (t.length : Int) ∧ sumK b + sumP b ≤ 20 ∧ sumP b ≤ 12 ∧ SmPP l ∧ SmP b ∧
  RdC w' w'.heap.size (encInts t) v1 ∧ RdC w' w'.heap.size (encPss l) v2 ∧ RdC w' w'.heap.size (encPs b) v3 ∧ Below w.heap.size w w'
theorem bulk_app (l : List (List Pt)) (o : List Pt) : bulk (l ++ [o]) = bulk l + (o.length + signsIn o) := by simp [bulk]
/-- the state of MakeList's loop -/
structure ML (B g : Nat) (w0 : World) (n : Nat) (o : Value) (l : List (List Pt)) (b : List Nat) (w : World) : Prop where
  ow : OwB w0.heap.size w.heap.size w (encPss l) o b
  ch : chain (n : Int) l
  le : 0 ≤ endN (n : Int) l ∧ endN (n : Int) l ≤ (n : Int) + 12 * l.length
  bk : bulk l ≤ 130000 * l.length
  dc : DC B g w
  fr : Fr (fun q => q = g) w0 w
  bl : Below B w0 w
  lt : g < w0.heap.size
theorem op_bulk {o : List Pt} (h : okOp o = true) : o.length + signsIn o ≤ 130000 := by
  obtain ⟨_, h1, h2⟩ := okOp_units h
  have := signsIn_le h1
  omega
theorem op_nonneg {o : List Pt} (h : okOp o = true) : 0 ≤ sumK o + sumP o := by
  obtain ⟨t1, t2, _⟩ := sum_t (okOp_partsB h)
  have hok := (okOp_of h).1
  obtain ⟨q1, q2, q3⟩ := sumOf_nonneg hok
  rw [t1, t2]
  omega
set_option maxRecDepth 100000 in
set_option maxHeartbeats 3200000 in
theorem specMakeList_d (v : Value) (w : World) (h : Code8 w v) : Calls Try.prog 13 #[v] w (MList w) := by
  obtain ⟨A0, c0, zs0, rfl, _⟩ : ∃ A c zs, v = .slice A (List.length (α := Int) zs) c ∧ True := by obtain ⟨A, c, zs, e, _⟩ := h; exact ⟨A, c, zs, e, trivial⟩
  obtain ⟨i0, hi0, hz0, hz1, hz2⟩ := info_parts pss_info
  go_enter Try.func13, Try.ntmps13
  go_wp2_with fail
  refine (specNew_d _ w h).mono ?_
  rintro e w1 ⟨rfl, dc, b1⟩
  have hB := b1.size
  generalize hBB : w.heap.size = B at *
  go_wp2_with fail
  refine (specSigns_d B B 8 _ dc (by omega)).mono ?_
  rintro e w2 ⟨t, vt, kt, rfl, tl, ta, ot, dc2, fr2, bl2⟩
  obtain ⟨At, ct, rfl⟩ := sliceI ot.read
  have hg1 := dc.lt
  have HT := Lib.hid ot
  have HTA := Lib.hid ta
  have hl2 := dc2.lt
  have D2 := b1.trans bl2
  clear ot ta fr2 bl2 b1 dc
  go_wp2_with fail
  have bA := alloc_below w2 (.cells #[] 24)
  have hib : OwB w2.heap.size (w2.alloc (.cells #[] 24)).heap.size (w2.alloc (.cells #[] 24)) (encPss []) (.slice (some ⟨w2.heap.size, 0, none⟩) 0 0) [w2.heap.size] :=
    ⟨⟨[], [], ⟨rfl, .inr ⟨w2.heap.size, 0, #[], rfl, Nat.zero_le _, heap_alloc_new w2 _, Nat.le_refl _, by unfold maxLen; omega, rfl, rfl⟩⟩, ⟨rfl, rfl⟩, rfl⟩, by simp, fun x hx => by obtain rfl : x = w2.heap.size := (by simpa using hx); exact ⟨Nat.le_refl _, lt_of_some (heap_alloc_new w2 _)⟩, Nat.le_refl _, bA.size⟩
  have hm : ML B B w2 t.length (.slice (some ⟨w2.heap.size, 0, none⟩) 0 0) [] [w2.heap.size] (w2.alloc (.cells #[] 24)) := ⟨hib, trivial, by simp [endN], by simp [bulk], dc2.past bA, Fr.below bA, bA.mono (by omega), hl2⟩
  generalize w2.alloc (.cells #[] 24) = w3 at *
  generalize (Value.slice (some ⟨w2.heap.size, 0, none⟩) 0 0) = v0 at *
  generalize [w2.heap.size] = kb0 at *
  refine (specBelow_d B B 5 _ hm.dc (by omega)).mono ?_
  rintro e w4 ⟨x, rfl, ⟨x1, x2, _⟩, dc4, fr4, bl4⟩
  have x2 := x2 (by omega)
  obtain ⟨m, rfl⟩ := Int.eq_ofNat_of_zero_le x1
  have HM0 := Lib.hid (show ML B B w2 t.length v0 [] kb0 w4 from ⟨(hm.ow.fr fr4 hl2).upto fr4.size (Nat.le_refl _), hm.ch, hm.le, hm.bk, dc4, hm.fr.trans fr4, hm.bl.trans bl4, hl2⟩)
  clear hm hib bA dc4 fr4 bl4 dc2
  go_wp2
  go_loopw [7, 8, 9] (fun at_ o i wr => ∃ (k : Nat) (l : List (List Pt)) (b : List Nat), l.length + k ≤ 4 ∧ i = .int .i64 k ∧ at_ = .int .i64 (endN (t.length : Int) l) ∧ ML B B w2 t.length o l b wr) (fun _ _ i _ => (intOf i).toNat)
  case atStart => exact ⟨m, [], kb0, by simp; omega, rfl, by simp [endN], HM0.out⟩
  case round =>
    obtain ⟨k, l, b, hk, rfl, rfl, hm⟩ := hrel
    clear HM0
    obtain ⟨A1, c1, rfl⟩ := pss_len hm.ow.read
    have HM := Lib.hid hm
    have hle := hm.le
    have hll : l.length ≤ 4 := by omega
    clear hm
    by_cases hk0 : 0 < k
    · obtain ⟨q, hq⟩ := Int.eq_ofNat_of_zero_le hle.1
      have HQ := Lib.hid hq
      rw [hq] at hle ⊢
      clear hq
      go_wp2_with fail
      refine (specDraw_d B B q _ HM.out.dc (by omega)).mono ?_
      rintro e w5 ⟨o, vo, ko, rfl, oo, so1, so2, so3, smo, owo, dc5, fr5, bl5⟩
      obtain ⟨Ao, co, rfl, ro, _⟩ := parts_rd owo.read
      have HWO := Lib.hid owo
      have HO := Lib.hid (And.intro oo (And.intro so1 (And.intro so2 so3)))
      have hz5 := fr5.size
      have hz5' := HM.out.fr.size
      have HDJ := Lib.hid (show ∀ x ∈ b, x ∉ ko from fun x hx hx' => by have q1 := (HM.out.ow.rng x hx).2; have q2 := (owo.rng x hx').1; omega)
      have HM5 := Lib.hid (show ML B B w2 t.length (.slice A1 l.length c1) l b w5 from ⟨(HM.out.ow.fr fr5 hl2).upto fr5.size (Nat.le_refl _), HM.out.ch, HM.out.le, HM.out.bk, dc5, HM.out.fr.trans fr5, HM.out.bl.trans bl5, hl2⟩)
      have hlo := smo.1
      clear owo oo so1 dc5 fr5 bl5 HM
      go_wp2_with fail
      refine (specOpTo_any Ao co o _ ro (by omega) smo.all4).mono ?_
      rintro e w6 ⟨rfl, b6⟩
      have HM6 := Lib.hid (show ML B B w2 t.length (.slice A1 l.length c1) l b w6 from ⟨(HM5.out.ow.past b6).upto b6.size (Nat.le_refl _), HM5.out.ch, HM5.out.le, HM5.out.bk, HM5.out.dc.past b6, HM5.out.fr.trans (Fr.below b6), HM5.out.bl.trans (b6.mono (by have := HM5.out.dc.lt; omega)), hl2⟩)
      have HW6 := Lib.hid (HWO.out.past b6)
      have bA := alloc_below w6 (.cells #[.slice Ao o.length co] 24)
      have HO1' := Lib.hid (HM6.out.ow.past bA)
      have HX' := Lib.hid (HW6.out.past bA)
      have hnews : ∀ (j : Nat) (u : Value), [Value.slice Ao o.length co][j]? = some u → (w6.alloc (.cells #[.slice Ao o.length co] 24)).cell? ((⟨w6.heap.size, 0, none⟩ : Addr).add j) = some u := fun j u hu => by
        cases j with
        | zero =>
          simp at hu
          subst hu
          exact cell_of_row _ _ 0 _ _ _ (heap_alloc_new w6 _)
        | succ j => simp at hu
      have HNW := Lib.hid hnews
      have hlx : (l.map fun ps => [encPs ps]).length ≤ 2000000 := by rw [List.length_map]; omega
      have dcA := HM6.out.dc.past bA
      have frA : Fr (fun q => q = B) w2 _ := HM6.out.fr.trans (Fr.below bA)
      have blA := HM6.out.bl.trans (bA.mono (by have := HM6.out.dc.lt; omega))
      clear hnews bA b6 HM5
      go_wp2_with (at_builtin; refine wpList_append_row rfl (.tmp 29) (.tmp 31) 34 rfl 24 i0 (.slice none 0 0) 1 24 Try.underlying34 hi0 hz0 hz1 hz2 rfl (by decide) (by decide) w2.heap.size _ (.slice A1 l.length c1) (l.map fun ps => [encPs ps]) b HO1'.out rfl hlx ⟨w6.heap.size, 0, none⟩ _ [.slice Ao o.length co] rfl rfl HNW.out (by simp [Value.oneCell']) [encPs o] ko HX'.out.ow.row1 HWO.out.nd HDJ.out (fun q hq => by have q2 := (HWO.out.rng q hq).1; omega) ?_; intro A7 c7 w7 b7 o7 in7 g7 bl7)
      have o7' : OwB w2.heap.size w7.heap.size w7 (encPss (l ++ [o])) (.slice A7 (l.length + 1) c7) b7 := by
        have e : encPss (l ++ [o]) = .rows 24 1 ((l.map fun ps => [encPs ps]) ++ [[encPs o]]) := by unfold encPss; rw [List.map_append]; rfl
        rw [e]
        simpa using o7
      have blB := bl7.mono (show B ≤ w2.heap.size by omega)
      have HM7 := Lib.hid (show ML B B w2 t.length (.slice A7 (l.length + 1) c7) (l ++ [o]) b7 w7 from
        ⟨o7', chain_snoc _ l o HM6.out.ch HO.out.1 (by rw [HQ.out]; exact HO.out.2.1) HO.out.2.2.2, by rw [endN_snoc]; have q1 := HO.out.2.2.1; have q2 := op_nonneg HO.out.1; rw [List.length_append]; simp only [List.length_cons, List.length_nil]; omega, by have q1 := HM6.out.bk; have q2 := op_bulk HO.out.1; rw [bulk_app, List.length_append]; simp only [List.length_cons, List.length_nil]; omega, dcA.grew g7 blB (fun hq => by have := (HO1'.out.rng B hq).1; omega), frA.old g7 (fun q hq => (HO1'.out.rng q hq).1), blA.trans blB, hl2⟩)
      have HEN := Lib.hid (endN_snoc (t.length : Int) l o)
      clear o7 o7' in7 g7 bl7 HO1' HX' HNW HM6 HW6 dcA frA blA blB
      go_wp2
      go_roundw
      case rel => exact ⟨k - 1, l ++ [o], b7, by simp; omega, by rw [Int.natCast_sub (by omega)]; rfl, by rw [HEN.out], by simpa using HM7.out⟩
      case measure => simp [intOf]; omega
    · obtain rfl : k = 0 := by omega
      go_wp2_with fail
      refine (specDraw_d B B t.length _ HM.out.dc (by omega)).mono ?_
      rintro e w5 ⟨o, vo, ko, rfl, oo, so1, so2, so3, smo, owo, dc5, fr5, bl5⟩
      obtain ⟨Ao, co, rfl⟩ := sliceP owo.read
      have HWO := Lib.hid owo
      have HO := Lib.hid (And.intro oo (And.intro so1 (And.intro so2 so3)))
      clear owo oo so1
      go_wp2
      go_ret3
      have hsm : SmPP l := ⟨by omega, by have := HM.out.bk; omega⟩
      exact ⟨t, l, o, _, _, _, rfl, okText_of HTA.out (by omega), by omega, HM.out.ch, hll, by have := HM.out.le; omega, HO.out.1, HO.out.2.1, by have := HO.out.2.2.1; omega, HO.out.2.2.2, hsm, smo, read_fr HT.out (HM.out.fr.trans fr5) hg1, read_fr HM.out.ow fr5 hl2, HWO.out.read, by rw [hBB]; exact (D2.trans HM.out.bl).trans bl5⟩
end Go.Proofs.Ytfpjoncaccbnmaa.low


/-
  Operations one behind the other: composing them all, leading one past them all.
-/
namespace Go.Proofs.Ytfpjoncaccbnmaa.low
open Go.RowKit
set_option linter.unusedVariables false

theorem okOp_nil : okOp [] = true := by decide
theorem keepL_ok {n : Nat} (h : n ≤ 200) : okOp (keepL (n : Int)) = true ∧ normL (keepL (n : Int)) = keepL (n : Int) ∧ units (keepL (n : Int)) = List.replicate n .k ∧ sumK (keepL (n : Int)) + sumD (keepL (n : Int)) = (n : Int) ∧ sumK (keepL (n : Int)) + sumP (keepL (n : Int)) = (n : Int) := by
  have hu : units (keepL (n : Int)) = List.replicate n .k := by
    unfold keepL
    split
    · simp [units, unitsP]
    · obtain rfl : n = 0 := by omega
      rfl
  have hok : okOp (keepL (n : Int)) = true := by
    unfold keepL
    split
    · refine of_okOp ?_ (by simp) (by simp [sumOf, keepOf, dropOf]; omega) (by simp [sumOf, keepOf, putOf]; omega)
      simp [okPs, okPt]
      omega
    · exact okOp_nil
  obtain ⟨u1, u2, _⟩ := op_units hok
  rw [hu, (src_rk n).1] at u1
  rw [hu, (src_rk n).2] at u2
  refine ⟨hok, ?_, hu, u1.symm, u2.symm⟩
  refine norm_normal ?_ hok
  unfold keepL
  split
  · refine ⟨fun p hp => ?_, trivial⟩
    simp at hp
    subst hp
    exact .inl ⟨rfl, by simp; omega, rfl⟩
  · exact ⟨fun p hp => by simp at hp, trivial⟩
theorem applyU_keep : ∀ (n : Nat) (t : List Int), n = t.length → applyU (List.replicate n .k) t = t := fun n t h => by
  have := applyU_ks n [] t
  rw [List.append_nil] at this
  rw [this, h]
  simp [applyU]
/-- composing goes through, and has the effect of the operations in order -/
theorem chain_co : ∀ (l : List (List Pt)) (cur : List Pt) (n : Int) (t u : List Int), okOp cur = true → normL cur = cur → sumK cur + sumD cur = (t.length : Int) → okText t = true → applyT cur t = u → chain (sumK cur + sumP cur) l →
    ∃ c u', l.foldl stepCo (some cur) = some c ∧ l.foldl stepAll (some u) = some u' ∧ okOp c = true ∧ normL c = c ∧ sumK c + sumD c = (t.length : Int) ∧ applyT c t = u' ∧ okText u' = true ∧ fitsB c t = true
  | [], cur, n, t, u, ho, hn, hs, ht, hu, _ => by
    obtain ⟨a1, _, a3, _⟩ := apply_ok ho ht hs
    exact ⟨cur, u, rfl, rfl, ho, hn, hs, hu, by rw [← hu]; exact a3, a1⟩
  | o :: l, cur, n, t, u, ho, hn, hs, ht, hu, hc => by
    obtain ⟨c1, c2, _, c3⟩ := hc
    obtain ⟨k1, k2, k3, k4, k5, k6, k7, k8⟩ := compose_ok ho c1 c2.symm
    obtain ⟨a1, a2, a3, a4, a5⟩ := apply_ok ho ht hs
    have hf := (apply_ok c1 a3 (by omega)).1
    have ha := compose_apply ho c1 c2.symm ht hs
    have s1 : stepCo (some cur) o = some (composeT cur o) := by simp [stepCo, k1]
    have s2 : stepAll (some u) o = some (applyT o u) := by rw [← hu]; simp [stepAll, hf]
    rw [List.foldl_cons, List.foldl_cons, s1, s2]
    exact chain_co l (composeT cur o) n t (applyT o u) k3 k4 (by omega) ht (by rw [ha, hu]) (by rw [k7]; exact c3)
theorem composeAll_ok {l : List (List Pt)} {t : List Int} (ht : okText t = true) (hc : chain (t.length : Int) l) : composeAllB l (t.length : Int) = true ∧ applyAllB l t = true ∧ fitsB (composeAllT l (t.length : Int)) t = true ∧ applyAllT l t = applyT (composeAllT l (t.length : Int)) t ∧ okOp (composeAllT l (t.length : Int)) = true ∧ normL (composeAllT l (t.length : Int)) = composeAllT l (t.length : Int) ∧ okText (applyAllT l t) = true := by
  have htl := okText_len' ht
  obtain ⟨p1, p2, p3, p4, p5⟩ := keepL_ok htl
  have hap : applyT (keepL (t.length : Int)) t = t := by
    rw [(apply_ok p1 ht p4).2.1, p3, applyU_keep _ _ rfl]
  obtain ⟨c, u, f1, f2, h1, h2, h3, h4, h5, h6⟩ := chain_co l (keepL (t.length : Int)) 0 t t p1 p2 p4 ht hap (by rw [p5]; exact hc)
  have e1 : composeAllB l (t.length : Int) = true := by
    unfold composeAllB foldCo
    rw [f1, inB_t (by omega)]
    rfl
  have e2 : composeAllT l (t.length : Int) = c := by
    unfold composeAllT
    rw [if_pos e1]
    unfold foldCo
    rw [f1]
    rfl
  have e3 : applyAllB l t = true := by
    unfold applyAllB foldAll
    rw [f2, ht]
    rfl
  have e4 : applyAllT l t = u := by
    unfold applyAllT
    rw [if_pos e3]
    unfold foldAll
    rw [f2]
    rfl
  rw [e2, e4]
  exact ⟨e1, e3, h6, h4.symm, h1, h2, h5⟩
theorem chain3 {n : Int} {l : List (List Pt)} {a b c : List Pt} (h : chain n l) (ha : l[0]? = some a) (hb : l[1]? = some b) (hc : l[2]? = some c) : okOp a = true ∧ okOp b = true ∧ okOp c = true ∧ sumK a + sumP a = sumK b + sumD b ∧ sumK b + sumP b = sumK c + sumD c := by
  match l, h, ha, hb, hc with
  | x :: y :: z :: r, h, ha, hb, hc =>
    simp at ha hb hc
    subst ha
    subst hb
    subst hc
    obtain ⟨q1, q2, _, q3, q4, _, q5, q6, _⟩ := h
    exact ⟨q1, q3, q5, q4.symm, q6.symm⟩
end Go.Proofs.Ytfpjoncaccbnmaa.low


/-
  Operations one behind the other, and one operation led past them.
-/
namespace Go.Proofs.Ytfpjoncaccbnmaa.low
open Go.RowKit
set_option linter.unusedVariables false

/-- leading one past many -/
theorem chain_past : ∀ (l : List (List Pt)) (cur : List Pt) (xs : List (List Pt)) (s : List Int) (B : Int), okOp cur = true → okText s = true → sumK cur + sumD cur = (s.length : Int) → chain (s.length : Int) l → sumK cur + sumP cur ≤ B → B + 12 * (l.length : Int) ≤ 200 →
    ∃ ys c s', l.foldl stepPast (some (xs, cur)) = some (xs ++ ys, c) ∧ l.foldl stepAll (some s) = some s' ∧ ys.foldl stepAll (some (applyT cur s)) = some (applyT c s') ∧ okOp c = true ∧ okText s' = true ∧ sumK c + sumD c = (s'.length : Int) ∧ ys.length = l.length ∧ (∀ y ∈ ys, okOp y = true)
  | [], cur, xs, s, B, ho, ht, hs, _, _, _ => ⟨[], cur, s, by simp, rfl, rfl, ho, ht, hs, rfl, by simp⟩
  | o :: l, cur, xs, s, B, ho, ht, hs, hc, hB, hB2 => by
    obtain ⟨c1, c2, c3, c4⟩ := hc
    have hl : ((o :: l).length : Int) = (l.length : Int) + 1 := by simp
    obtain ⟨m1, m2, m3, m4, m5, m6, m7, m8, m9, m10, m11, m12⟩ := xform_ok c1 ho ht c2 hs (by omega)
    obtain ⟨a1, a2, a3, a4, a5⟩ := apply_ok c1 ht c2
    obtain ⟨b1, b2, b3, b4, b5⟩ := apply_ok ho ht hs
    have hf := (apply_ok m2 b3 (by omega)).1
    have s1 : stepPast (some (xs, cur)) o = some (xs ++ [xformA o cur], xformB o cur) := by simp [stepPast, m1]
    have s2 : stepAll (some s) o = some (applyT o s) := by simp [stepAll, a1]
    obtain ⟨ys, c, s', i1, i2, i3, i4, i5, i6, i7, i8⟩ := chain_past l (xformB o cur) (xs ++ [xformA o cur]) (applyT o s) (B + 12) m3 a3 (by omega) (by rw [a4]; exact c4) (by omega) (by omega)
    refine ⟨xformA o cur :: ys, c, s', ?_, ?_, ?_, i4, i5, i6, by simp [i7], fun y hy => ?_⟩
    · rw [List.foldl_cons, s1, i1]
      simp
    · rw [List.foldl_cons, s2, i2]
    · have s3 : stepAll (some (applyT cur s)) (xformA o cur) = some (applyT (xformA o cur) (applyT cur s)) := by simp [stepAll, hf]
      rw [List.foldl_cons, s3, ← m12, i3]
    · rcases List.mem_cons.1 hy with rfl | hy
      · exact m2
      · exact i8 y hy
theorem bulk_le : ∀ (l : List (List Pt)), (∀ o ∈ l, okOp o = true) → bulk l ≤ 130000 * l.length
  | [], _ => by simp [bulk]
  | o :: l, h => by
    have i := bulk_le l (fun q hq => h q (by simp [hq]))
    have b := op_bulk (h o (by simp))
    have e : bulk (o :: l) = (o.length + signsIn o) + bulk l := by simp [bulk]
    rw [e, List.length_cons]
    omega
theorem past_ok {l : List (List Pt)} {b : List Pt} {t : List Int} (ht : okText t = true) (hc : chain (t.length : Int) l) (hl : l.length ≤ 4) (hb : okOp b = true) (hs : sumK b + sumD b = (t.length : Int)) (hp : sumK b + sumP b ≤ 20) : pastB l b = true ∧ applyAllB l t = true ∧ fitsB (pastT l b) (applyAllT l t) = true ∧ okOp (pastT l b) = true ∧ okText (applyAllT l t) = true ∧ okText (applyT b t) = true ∧ fitsB b t = true ∧ applyAllB (pastAllT l b) (applyT b t) = true ∧ applyAllT (pastAllT l b) (applyT b t) = applyT (pastT l b) (applyAllT l t) ∧ (pastAllT l b).length = l.length ∧ SmPP (pastAllT l b) ∧ okText (applyT (pastT l b) (applyAllT l t)) = true := by
  obtain ⟨n1, n2, n3, n4, n5⟩ := norm_ok hb
  obtain ⟨t1, t2, t3⟩ := sum_t (okOp_partsB hb)
  obtain ⟨q1, q2, q3⟩ := sum_t (okOp_partsB n1)
  obtain ⟨b1, b2, b3, b4, b5⟩ := apply_ok hb ht hs
  have hsn : sumK (normL b) + sumD (normL b) = (t.length : Int) := by rw [q1, q3, n3, n5, ← t1, ← t3]; exact hs
  have hpn : sumK (normL b) + sumP (normL b) ≤ 20 := by rw [q1, q2, n3, n4, ← t1, ← t2]; exact hp
  have hap : applyT (normL b) t = applyT b t := by
    rw [(apply_ok n1 ht hsn).2.1, b2, norm_made hb, units_made, apply_nf]
  obtain ⟨ys, c, s', f1, f2, f3, f4, f5, f6, f7, f8⟩ := chain_past l (normL b) [] t 20 n1 ht hsn hc hpn (by omega)
  rw [hap] at f3
  have eS : pastS l b = some (ys, c) := by unfold pastS foldPast; rw [if_pos hb, f1]; simp
  obtain ⟨e1, e2, e3⟩ := past_t eS
  have e4 : applyAllB l t = true := by unfold applyAllB foldAll; rw [f2, ht]; rfl
  have e5 : applyAllT l t = s' := by unfold applyAllT; rw [if_pos e4]; unfold foldAll; rw [f2]; rfl
  have e6 : applyAllB ys (applyT b t) = true := by unfold applyAllB foldAll; rw [f3, b3]; rfl
  have e7 : applyAllT ys (applyT b t) = applyT c s' := by unfold applyAllT; rw [if_pos e6]; unfold foldAll; rw [f3]; rfl
  obtain ⟨c1, _, c3, _⟩ := apply_ok f4 f5 f6
  have hbk := bulk_le ys f8
  rw [e1, e2, e3, e5]
  exact ⟨rfl, e4, c1, f4, f5, b3, b1, e6, e7, f7, ⟨by omega, by omega⟩, c3⟩
end Go.Proofs.Ytfpjoncaccbnmaa.low

