
/-
  Words for the laws' walks: small data, objects with their blocks, and the laws' own functions on them.
-/
import Derived.Test.YtemhhjagdfkmfaaHelpMk
namespace Go.Proofs.Ytemhhjagdfkmfaa.low
open Go.RowKit
set_option linter.unusedVariables false

/-- a datum of the caller's own with its blocks b, in [lo, hi) -/
structure OwB (lo hi : Nat) (w : World) (d : Dat) (v : Value) (b : List Nat) : Prop where
  ow : OwC w d v b
  nd : b.Nodup
  rng : ∀ x ∈ b, lo ≤ x ∧ x < hi
  top : hi ≤ w.heap.size
  le : lo ≤ hi
theorem Own.blocks {lo hi : Nat} {w : World} {d : Dat} {v : Value} (h : Own lo hi w d v) : ∃ b, OwB lo hi w d v b := by
  obtain ⟨b, h1, h2, h3, h4, h5⟩ := h
  exact ⟨b, h1, h2, h3, h4, h5⟩
theorem OwB.past {lo hi : Nat} {w w' : World} {d : Dat} {v : Value} {b : List Nat} (h : OwB lo hi w d v b) (hb : Below w.heap.size w w') : OwB lo hi w' d v b :=
  ⟨OwC.keep d v b h.ow (fun x hx => hb.block x (OwC.lt d v b h.ow x hx)), h.nd, h.rng, Nat.le_trans h.top hb.size, h.le⟩
theorem OwB.touch {lo hi : Nat} {w w' : World} {d : Dat} {v : Value} {b : List Nat} {T : Nat → Prop} (h : OwB lo hi w d v b) (ht : Touch T w w') (hn : ∀ x ∈ b, ¬ T x) : OwB lo hi w' d v b :=
  ⟨OwC.keep d v b h.ow (fun x hx => ht.block x (hn x hx)), h.nd, h.rng, by rw [ht.size]; exact h.top, h.le⟩
theorem OwB.apart {lo hi lo' hi' : Nat} {w w' : World} {d d' : Dat} {v v' : Value} {b b' : List Nat} {w0 : World} (h : OwB lo hi w d v b) (h' : OwB lo' hi' w0 d' v' b') (ht : Touch (fun x => x ∈ b') w w') (hd : hi ≤ lo' ∨ hi' ≤ lo) : OwB lo hi w' d v b :=
  h.touch ht (fun x hx hx' => by have := h.rng x hx; have := h'.rng x hx'; omega)
theorem OwB.read {lo hi : Nat} {w : World} {d : Dat} {v : Value} {b : List Nat} (h : OwB lo hi w d v b) : RdC w w.heap.size d v := OwC.read d v b h.ow (fun x hx => OwC.lt d v b h.ow x hx)
theorem OwB.marked {lo hi : Nat} {w w' : World} {d d' : Dat} {v : Value} {b : List Nat} (h : OwB lo hi w d v b) (o : OwC w' d' v b) (ht : Touch (fun x => x ∈ b) w w') : OwB lo hi w' d' v b := ⟨o, h.nd, h.rng, by rw [ht.size]; exact h.top, h.le⟩
theorem OwB.under {lo hi B : Nat} {w w' : World} {d : Dat} {v : Value} {b : List Nat} (h : OwB lo hi w d v b) (ht : Touch (fun x => x ∈ b) w w') (hB : B ≤ lo) : Below B w w' := ht.below (fun x hx => Nat.le_trans hB (h.rng x hx).1)

/-- small data -/
def SmI (zs : List Int) : Prop := zs.length ≤ 1048576
def SmP (ps : List Pt) : Prop := ps.length ≤ 1048576 ∧ signsIn ps ≤ 1048576
def SmPP (l : List (List Pt)) : Prop := l.length ≤ 1048576 ∧ bulk l ≤ 1048576
theorem SmP.all {ps : List Pt} (h : SmP ps) : ∀ p ∈ ps, p.signs.length ≤ 1048576 := fun p hp => by
  obtain ⟨i, hi⟩ := List.getElem?_of_mem hp
  exact Nat.le_trans (signsIn_at hi) h.2
theorem SmPP.all {l : List (List Pt)} (h : SmPP l) : ∀ ps ∈ l, SmP ps := fun ps hp => by
  obtain ⟨i, hi⟩ := List.getElem?_of_mem hp
  have := bulk_at hi
  have := h.2
  exact ⟨by omega, by omega⟩
theorem cnt_pss : ∀ l : List (List Pt), cntC (encPss l) ≤ 2 * bulk l
  | [] => Nat.le_refl _
  | ps :: l => by
    have ih := cnt_pss l
    have e1 : cntC (encPss (ps :: l)) = cntC (encPs ps) + cntC (encPss l) := by
      show cntR ([encPs ps] :: (l.map fun ps => [encPs ps])) = _
      rw [cntR, cntL, cntL]
      rfl
    have e2 : bulk (ps :: l) = (ps.length + signsIn ps) + bulk l := by simp [bulk]
    rw [e1, e2, cntC_parts]
    omega

theorem toI (v : Value) (zs : List Int) (w : World) (h : RdC w w.heap.size (encInts zs) v) (hs : SmI zs) : Calls Try.prog 10 #[v] w (OwnPost (encInts zs) w) := toIntS_d v zs w h (by unfold SmI at hs; omega)
theorem toP (v : Value) (ps : List Pt) (w : World) (h : RdC w w.heap.size (encPs ps) v) (hs : SmP ps) : Calls Try.prog 15 #[v] w (OwnPost (encPs ps) w) := toPartS_d v ps w h hs.1 hs.all
theorem toPP (v : Value) (l : List (List Pt)) (w : World) (h : RdC w w.heap.size (encPss l) v) (hs : SmPP l) : Calls Try.prog 28 #[v] w (OwnPost (encPss l) w) := toPartSS_d v l w h hs.1 (fun ps hp => ⟨(hs.all ps hp).1, (hs.all ps hp).all⟩)
theorem eqI (v v' : Value) (zs : List Int) (w : World) (h : RdC w w.heap.size (encInts zs) v) (h' : RdC w w.heap.size (encInts zs) v') (hs : SmI zs) : Calls Try.prog 12 #[v, v'] w (Tells true w) := eqIntS_d v v' zs w h h' (by unfold SmI at hs; omega)
theorem eqP (v v' : Value) (ps : List Pt) (w : World) (h : RdC w w.heap.size (encPs ps) v) (h' : RdC w w.heap.size (encPs ps) v') (hs : SmP ps) : Calls Try.prog 17 #[v, v'] w (Tells true w) := eqPartS_d v v' ps w h h' (by have := hs.1; omega) (fun p hp => by have := hs.all p hp; omega)
theorem eqPP (v v' : Value) (l : List (List Pt)) (w : World) (h : RdC w w.heap.size (encPss l) v) (h' : RdC w w.heap.size (encPss l) v') (hs : SmPP l) : Calls Try.prog 30 #[v, v'] w (Tells true w) :=
  eqPartSS_d v v' l w h h' (by have := hs.1; omega) (fun ps hp => by have := hs.all ps hp; exact ⟨by have := this.1; omega, fun p hp' => by have := this.all p hp'; omega⟩)
theorem markI (v : Value) (zs : List Int) (b : List Nat) (k : Int) (w : World) (h : OwC w (encInts zs) v b) (hnd : b.Nodup) (h0 : 0 ≤ k) (h1 : k ≤ 1073741824) (hs : SmI zs) : Calls Try.prog 19 #[v, .int .i64 k] w (MarkP k (encInts zs) v b w) := markIntS_d v zs b k w h h0 (by omega) (by unfold SmI at hs; omega)
theorem markP (v : Value) (ps : List Pt) (b : List Nat) (k : Int) (w : World) (h : OwC w (encPs ps) v b) (hnd : b.Nodup) (h0 : 0 ≤ k) (h1 : k ≤ 1073741824) (hs : SmP ps) : Calls Try.prog 18 #[v, .int .i64 k] w (MarkP k (encPs ps) v b w) := markPartS_d v ps b k w h hnd h0 (by rw [cntC_parts]; have := hs.1; have := hs.2; omega)
theorem markPP (v : Value) (l : List (List Pt)) (b : List Nat) (k : Int) (w : World) (h : OwC w (encPss l) v b) (hnd : b.Nodup) (h0 : 0 ≤ k) (h1 : k ≤ 1073741824) (hs : SmPP l) : Calls Try.prog 31 #[v, .int .i64 k] w (MarkP k (encPss l) v b w) := markPartSS_d v l b k w h hnd h0 (by have := cnt_pss l; have := hs.2; omega) (by have := hs.1; omega)
theorem heldI (v : Value) (zs : List Int) (k : Int) (w : World) (h : RdC w w.heap.size (mkC k (encInts zs)) v) (h0 : 0 ≤ k) (h1 : k ≤ 1073741824) (hs : SmI zs) : Calls Try.prog 20 #[v, .int .i64 k] w (HeldP k (encInts zs) w) := heldIntS_d v zs k w h h0 (by omega) (by unfold SmI at hs; omega)
theorem heldP (v : Value) (ps : List Pt) (k : Int) (w : World) (h : RdC w w.heap.size (mkC k (encPs ps)) v) (h0 : 0 ≤ k) (h1 : k ≤ 1073741824) (hs : SmP ps) : Calls Try.prog 23 #[v, .int .i64 k] w (HeldP k (encPs ps) w) := heldPartS_d v ps k w h h0 (by rw [cntC_parts]; have := hs.1; have := hs.2; omega)
theorem cntI {zs : List Int} (hs : SmI zs) : cntC (encInts zs) ≤ 4194304 := by rw [cntC_ints]; unfold SmI at hs; omega
theorem cntP {ps : List Pt} (hs : SmP ps) : cntC (encPs ps) ≤ 4194304 := by rw [cntC_parts]; have := hs.1; have := hs.2; omega
theorem cntPP {l : List (List Pt)} (hs : SmPP l) : cntC (encPss l) ≤ 4194304 := by have := cnt_pss l; have := hs.2; omega
theorem szP (v : Value) (ps : List Pt) (left : Int) (w : World) (h : RdC w w.heap.size (encPs ps) v) (h0 : 0 ≤ left) (h1 : left ≤ 1048576) (hl : ps.length ≤ maxLen ∧ ∀ p ∈ ps, p.signs.length ≤ maxLen) :
    Calls Try.prog 13 #[v, .int .i64 left] w (Sized (ps.length + signsIn ps) left w) := by
  obtain ⟨A, c, rfl, hr, _⟩ := parts_rd h
  unfold maxLen at hl
  exact szPartS_any A c ps left w hr h0 h1 (by omega) (fun p hp => by have := hl.2 p hp; omega)
theorem szPP (v : Value) (l : List (List Pt)) (left : Int) (w : World) (h : RdC w w.heap.size (encPss l) v) (h0 : 0 ≤ left) (h1 : left ≤ 1048576) (hl : l.length ≤ maxLen ∧ ∀ ps ∈ l, ps.length ≤ maxLen ∧ ∀ p ∈ ps, p.signs.length ≤ maxLen) :
    Calls Try.prog 26 #[v, .int .i64 left] w (Sized (l.length + bulk l) left w) := by
  unfold maxLen at hl
  exact szPartSS_d v l left w h h0 h1 (by omega) (fun ps hp => by have := hl.2 ps hp; exact ⟨by omega, fun p hp' => by have := this.2 p hp'; omega⟩)

/-- two results of its own and a bool, or one and a bool -/
def ResB (d : Dat) (ok : Bool) (w : World) (e : Ending) (w' : World) : Prop := ∃ v, e = .returned (.tuple #[v, .bool ok]) ∧ Own w.heap.size w'.heap.size w' d v ∧ Below w.heap.size w w'
def Res2B (d d' : Dat) (ok : Bool) (w : World) (e : Ending) (w' : World) : Prop :=
  ∃ v v' b b', e = .returned (.tuple #[v, v', .bool ok]) ∧ OwB w.heap.size w'.heap.size w' d v b ∧ OwB w.heap.size w'.heap.size w' d' v' b' ∧ (∀ x ∈ b, x ∉ b') ∧ Below w.heap.size w w'
theorem sliceI {w : World} {B : Nat} {zs : List Int} {v : Value} (h : RdC w B (encInts zs) v) : ∃ A c, v = .slice A zs.length c := by obtain ⟨A, c, e, _⟩ := ints_rd h; exact ⟨A, c, e⟩
theorem sliceP {w : World} {B : Nat} {ps : List Pt} {v : Value} (h : RdC w B (encPs ps) v) : ∃ A c, v = .slice A ps.length c := by obtain ⟨A, c, e, _⟩ := parts_rd h; exact ⟨A, c, e⟩
theorem slicePP {w : World} {B : Nat} {l : List (List Pt)} {v : Value} (h : RdC w B (encPss l) v) : ∃ A c, v = .slice A l.length c := pss_len h
end Go.Proofs.Ytemhhjagdfkmfaa.low
