/-
  A module read, as the program reads it. Nothing here is a statement of the seed.
-/
import Derived.Test.YtdlinlkdielmkaaObjGetL
import Derived.Deep.CutRange
set_option linter.unusedSimpArgs false
set_option linter.unusedVariables false
namespace Go.Proofs.Ytdlinlkdielmkaa.OR
open Go.RowKit WM NR OM
set_option maxHeartbeats 4000000
set_option maxRecDepth 10000
theorem itr_short {α : Type} {f : Nat → List UInt8 → Nat × α × List UInt8} (hf : ∀ e l, (f e l).2.2.length ≤ l.length) : ∀ (k e : Nat) (l : List UInt8), (itr f k e l).2.2.length ≤ l.length
  | 0, _, _ => Nat.le_refl _
  | k + 1, e, l => Nat.le_trans (itr_short hf k _ _) (hf e l)
theorem getL_short {α : Type} {f : Nat → List UInt8 → Nat × α × List UInt8} (hf : ∀ e l, (f e l).2.2.length ≤ l.length) (most e : Nat) (l : List UInt8) : (getL f most e l).2.2.length ≤ l.length := Nat.le_trans (itr_short hf _ _ _) (stVar_short _ _ _)
/-- the reader's box, the result's, the module's, on the way -/
structure GJ (w : World) (p : Nat) (cs : Array Value) (e : Nat) (l : List UInt8) (u : World) : Prop where
  bx : Whole u w.heap.size 69 #[.pointer (some ⟨p, 0, none⟩)]
  Y : Whole u (w.heap.size + 1) 26 zCs
  X : Whole u (w.heap.size + 2) 26 cs
  G : w.grownBy u (some p)
  R : Rd u p l e
  sz : w.heap.size + 3 ≤ u.heap.size
theorem whole_turn {u u' : World} {p g : Nat} {t : TypeId} {cs : Array Value} (h : Whole u g t cs) (hg : u.grownBy u' (some p)) (hp : p ≠ g) : Whole u' g t cs := h.as (hg.block g h.lt (fun e => hp (Option.some.inj e).symm))
theorem GJ.turn {w u u' : World} {p : Nat} {cs : Array Value} {e e' : Nat} {l l' : List UInt8} (h : GJ w p cs e l u) (hp : p < w.heap.size) (hg : u.grownBy u' (some p)) (hr : Rd u' p l' e') : GJ w p cs e' l' u' :=
  ⟨whole_turn h.bx hg (by omega), whole_turn h.Y hg (by omega), whole_turn h.X hg (by omega), grown_trans h.G hg, hr, Nat.le_trans h.sz hg.size⟩
theorem grown_setCell {w u : World} {p : Nat} (h : w.grownBy u (some p)) {a : Addr} (ha : w.heap.size ≤ a.block) (v : Value) : w.grownBy (u.setCell a v) (some p) :=
  ⟨h.os, h.tape, h.output, Nat.le_trans h.size (by simp), fun i hi hr => (Below.heap_setCell _ _ _ _ (by omega)).trans (h.block i hi hr)⟩
theorem GJ.set_ {w u : World} {p : Nat} {cs : Array Value} {e : Nat} {l : List UInt8} (h : GJ w p cs e l u) (hp : p < w.heap.size) (i : Nat) (v : Value) : GJ w p (cs.setIfInBounds i v) e l (u.setCell ⟨w.heap.size + 2, i, none⟩ v) :=
  ⟨h.bx.far (by simp) v, h.Y.far (by simp) v, h.X.set_ i v, grown_setCell h.G (by simp) v, h.R.far (B := w.heap.size) ((Below.refl _ _).setCell (by simp) v) hp, by simpa using h.sz⟩
theorem GJ.new {w : World} {p : Nat} {e : Nat} {l : List UInt8} (h : Rd w p l e) : GJ w p zCs e l (((w.alloc (.cells #[.pointer (some ⟨p, 0, none⟩)] 69)).alloc (.cells zCs 26)).alloc (.cells zCs 26)) := by
  have b1 := below_new w (.cells #[.pointer (some ⟨p, 0, none⟩)] 69)
  have b2 := b1.alloc b1.size (.cells zCs 26)
  have b3 := b2.alloc b2.size (.cells zCs 26)
  refine ⟨((Whole.new w _ _).alloc _).alloc _, ?_, ?_, grown_below _ b3, h.keep b3, by simp⟩
  · have := (Whole.new (w.alloc (.cells #[.pointer (some ⟨p, 0, none⟩)] 69)) 26 zCs).alloc (.cells zCs 26)
    simpa using this
  · have := Whole.new ((w.alloc (.cells #[.pointer (some ⟨p, 0, none⟩)] 69)).alloc (.cells zCs 26)) 26 zCs
    simpa using this
/-- what getModule tells -/
def IsMod (w : World) (p : Nat) (r : Nat × Md × List UInt8) (en : Ending) (w' : World) : Prop :=
  ∃ ea en_ ec ia im ic ca cn cc da dn dc ra rn rc, en = .returned (mV (bs r.2.1.name) ea en_ ec ia im ic ca cn cc da dn dc ra rn rc) ∧ Own5 w.heap.size r.2.1 w' ea en_ ec ia im ic ca cn cc da dn dc ra rn rc ∧ w.grownBy w' (some p) ∧ Rd w' p r.2.2 r.1
theorem owns_len {w : World} {B : Nat} {e : TypeId} {size n k : Nat} {v : Value} {xs : List Value} (h : w.ownsRow B e size v n xs) (e2 : n = k) : w.ownsRow B e size v k xs := by subst e2; exact h
section
variable {w : World} {p : Nat} {l : List UInt8}
theorem getModule_any (h : Rd w p l 0) (hl : l.length ≤ 16384) :
    Calls Try.prog 41 #[.pointer (some ⟨p, 0, none⟩)] w (IsMod w p (pgBody l)) := by
  obtain ⟨e0, nm, l0, h0⟩ : ∃ e1 x l1, sT 0 l = (e1, x, l1) := ⟨_, _, _, rfl⟩
  obtain ⟨e1, ex, l1, h1⟩ : ∃ y x z, getL sT 8 e0 l0 = (y, x, z) := ⟨_, _, _, rfl⟩
  obtain ⟨e2, im, l2, h2⟩ : ∃ y x z, getL sT 16 e1 l1 = (y, x, z) := ⟨_, _, _, rfl⟩
  obtain ⟨e3, cd, l3, h3⟩ : ∃ y x z, getL stWord 512 e2 l2 = (y, x, z) := ⟨_, _, _, rfl⟩
  obtain ⟨e4, dt, l4, h4⟩ : ∃ y x z, getL stWord 128 e3 l3 = (y, x, z) := ⟨_, _, _, rfl⟩
  obtain ⟨e5, rl, l5, h5⟩ : ∃ y x z, getL stRel 256 e4 l4 = (y, x, z) := ⟨_, _, _, rfl⟩
  have s0 := sT_short 0 l
  rw [h0] at s0
  have s1 := getL_short sT_short 8 e0 l0
  rw [h1] at s1
  have s2 := getL_short sT_short 16 e1 l1
  rw [h2] at s2
  have s3 := getL_short stWord_short 512 e2 l2
  rw [h3] at s3
  have s4 := getL_short stWord_short 128 e3 l3
  rw [h4] at s4
  have s5 := getL_short stRel_short 256 e4 l4
  rw [h5] at s5
  simp only at s0 s1 s2 s3 s4 s5
  have e : pgBody l = (e5, ⟨nm, ex, im, cd, dt, rl⟩, l5) := by
    unfold pgBody
    simp only [h0, h1, h2, h3, h4, h5]
  rw [e]
  have hp := h.lt
  have hmf := make_func
  have C0 := Lib.hid (fun (u : World) (hj : GJ w p zCs 0 l u) => textC_any (b := w.heap.size) (hj.bx.cell 0) hj.R hl)
  rw [h0] at C0
  have C1 : Hid (∀ (u : World) (cs : Array Value), GJ w p cs e0 l0 u → Calls Try.prog 68 #[.pointer (some ⟨p, 0, none⟩), .int .u32 8, .func (.func 62) #[] #[.pointer (some ⟨w.heap.size, 0, none⟩)]] u (IsList u p 9 1 ex.length (strs ex) e1 l1)) := fun u cs hj => by
    have := getListT_any (M := 8) ⟨by decide, by decide⟩ (b := w.heap.size) (hj.bx.cell 0) (by omega) hj.R (by omega)
    rw [show (8 : Int).toNat = 8 from rfl, h1] at this
    exact this
  have C2 : Hid (∀ (u : World) (cs : Array Value), GJ w p cs e1 l1 u → Calls Try.prog 68 #[.pointer (some ⟨p, 0, none⟩), .int .u32 16, .func (.func 62) #[] #[.pointer (some ⟨w.heap.size, 0, none⟩)]] u (IsList u p 9 1 im.length (strs im) e2 l2)) := fun u cs hj => by
    have := getListT_any (M := 16) ⟨by decide, by decide⟩ (b := w.heap.size) (hj.bx.cell 0) (by omega) hj.R (by omega)
    rw [show (16 : Int).toNat = 16 from rfl, h2] at this
    exact this
  have C3 : Hid (∀ (u : World) (cs : Array Value), GJ w p cs e2 l2 u → Calls Try.prog 69 #[.pointer (some ⟨p, 0, none⟩), .int .u32 512, .func (.func 64) #[] #[.pointer (some ⟨w.heap.size, 0, none⟩)]] u (IsList u p 43 1 cd.length (u32s cd) e3 l3)) := fun u cs hj => by
    have := getListW_any (M := 512) ⟨by decide, by decide⟩ (b := w.heap.size) (hj.bx.cell 0) (by omega) hj.R (by omega)
    rw [show (512 : Int).toNat = 512 from rfl, h3] at this
    exact this
  have C4 : Hid (∀ (u : World) (cs : Array Value), GJ w p cs e3 l3 u → Calls Try.prog 69 #[.pointer (some ⟨p, 0, none⟩), .int .u32 128, .func (.func 64) #[] #[.pointer (some ⟨w.heap.size, 0, none⟩)]] u (IsList u p 43 1 dt.length (u32s dt) e4 l4)) := fun u cs hj => by
    have := getListW_any (M := 128) ⟨by decide, by decide⟩ (b := w.heap.size) (hj.bx.cell 0) (by omega) hj.R (by omega)
    rw [show (128 : Int).toNat = 128 from rfl, h4] at this
    exact this
  have C5 : Hid (∀ (u : World) (cs : Array Value), GJ w p cs e4 l4 u → Calls Try.prog 70 #[.pointer (some ⟨p, 0, none⟩), .int .u32 256, .func (.func 66) #[] #[.pointer (some ⟨w.heap.size, 0, none⟩)]] u (IsList u p 48 3 rl.length (relC rl) e5 l5)) := fun u cs hj => by
    have := getListR_any (M := 256) ⟨by decide, by decide⟩ (b := w.heap.size) (hj.bx.cell 0) (by omega) hj.R (by omega)
    rw [show (256 : Int).toNat = 256 from rfl, h5] at this
    exact this
  have J0 := Lib.hid (GJ.new h)
  clear h0 h1 h2 h3 h4 h5 s0 s1 s2 s3 s4 s5 h hl e
  simp only at C0
  have HX : Hid (bs nm = bs nm) := rfl
  unfold IsMod
  simp only
  generalize bs nm = x at *
  go_enter Try.func41, Try.ntmps41
  go_upto_region 5 with fail
  generalize ((w.alloc (.cells #[.pointer (some ⟨p, 0, none⟩)] 69)).alloc (.cells zCs 26)).alloc (.cells zCs 26) = W0 at *
  have x0 := J0.out.X.cell 0
  simp at x0
  have b0 := J0.out.bx.cell 0
  simp at b0
  have t0 := J0.out.sz
  go_upto_region 6 with (go_at_call 62; (with_reducible refine (C0.out _ J0.out).mono ?_); rintro e u0 ⟨rfl, hg, hr⟩; have K0 := Lib.hid (J0.out.turn hp hg hr); have y0 := K0.out.X.cell 0; simp at y0; have f0 := K0.out.X.frozen 0; have lt0 := K0.out.X.lt; clear hg hr)
  have J1 : Hid (GJ w p #[.string x, .slice none 0 0, .slice none 0 0, .slice none 0 0, .slice none 0 0, .slice none 0 0] e0 l0 (u0.setCell ⟨w.heap.size + 2, 0, none⟩ (.string x))) := Lib.hid (K0.out.set_ hp 0 (.string x))
  clear C0 x0 y0 f0 lt0 K0 b0 t0 J0
  generalize u0.setCell ⟨w.heap.size + 2, 0, none⟩ (.string x) = W1 at *
  have x1 := J1.out.X.cell 1
  simp at x1
  have b1 := J1.out.bx.cell 0
  simp at b1
  have t1 := J1.out.sz
  go_upto_region 7 with (go_at_call 68; (with_reducible refine (C1.out _ _ J1.out).mono ?_); rintro e u1 ⟨v1, rfl, own, hg, hr⟩; obtain ⟨a1, q1, rfl⟩ := owns_form own; have K1 := Lib.hid (J1.out.turn hp hg hr); have y1 := K1.out.X.cell 1; simp at y1; have f1 := K1.out.X.frozen 1; have lt1 := K1.out.X.lt; have O1' := Lib.hid (owns_base own J1.out.sz); clear own hg hr)
  have J2 : Hid (GJ w p #[.string x, .slice a1 ex.length q1, .slice none 0 0, .slice none 0 0, .slice none 0 0, .slice none 0 0] e1 l1 (u1.setCell ⟨w.heap.size + 2, 1, none⟩ (.slice a1 ex.length q1))) := Lib.hid (K1.out.set_ hp 1 (.slice a1 ex.length q1))
  have O1 := Lib.hid (owns_set O1'.out (p := w.heap.size + 2) (i := 1) (by omega) (.slice a1 ex.length q1))
  clear C1 x1 y1 f1 lt1 K1 O1' b1 t1 J1 
  generalize u1.setCell ⟨w.heap.size + 2, 1, none⟩ (.slice a1 ex.length q1) = W2 at *
  have x2 := J2.out.X.cell 2
  simp at x2
  have b2 := J2.out.bx.cell 0
  simp at b2
  have t2 := J2.out.sz
  go_upto_region 8 with (go_at_call 68; (with_reducible refine (C2.out _ _ J2.out).mono ?_); rintro e u2 ⟨v2, rfl, own, hg, hr⟩; obtain ⟨a2, q2, rfl⟩ := owns_form own; have K2 := Lib.hid (J2.out.turn hp hg hr); have y2 := K2.out.X.cell 2; simp at y2; have f2 := K2.out.X.frozen 2; have lt2 := K2.out.X.lt; have O2' := Lib.hid (owns_base own J2.out.sz); have O1q2 := Lib.hid (owns_turn O1.out hg (by omega)); clear own hg hr)
  have J3 : Hid (GJ w p #[.string x, .slice a1 ex.length q1, .slice a2 im.length q2, .slice none 0 0, .slice none 0 0, .slice none 0 0] e2 l2 (u2.setCell ⟨w.heap.size + 2, 2, none⟩ (.slice a2 im.length q2))) := Lib.hid (K2.out.set_ hp 2 (.slice a2 im.length q2))
  have O1 := Lib.hid (owns_set O1q2.out (p := w.heap.size + 2) (i := 2) (by omega) (.slice a2 im.length q2))
  have O2 := Lib.hid (owns_set O2'.out (p := w.heap.size + 2) (i := 2) (by omega) (.slice a2 im.length q2))
  clear C2 x2 y2 f2 lt2 K2 O2' b2 t2 J2 O1q2
  generalize u2.setCell ⟨w.heap.size + 2, 2, none⟩ (.slice a2 im.length q2) = W3 at *
  have x3 := J3.out.X.cell 3
  simp at x3
  have b3 := J3.out.bx.cell 0
  simp at b3
  have t3 := J3.out.sz
  go_upto_region 9 with (go_at_call 69; (with_reducible refine (C3.out _ _ J3.out).mono ?_); rintro e u3 ⟨v3, rfl, own, hg, hr⟩; obtain ⟨a3, q3, rfl⟩ := owns_form own; have K3 := Lib.hid (J3.out.turn hp hg hr); have y3 := K3.out.X.cell 3; simp at y3; have f3 := K3.out.X.frozen 3; have lt3 := K3.out.X.lt; have O3' := Lib.hid (owns_base own J3.out.sz); have O1q3 := Lib.hid (owns_turn O1.out hg (by omega)); have O2q3 := Lib.hid (owns_turn O2.out hg (by omega)); clear own hg hr)
  have J4 : Hid (GJ w p #[.string x, .slice a1 ex.length q1, .slice a2 im.length q2, .slice a3 cd.length q3, .slice none 0 0, .slice none 0 0] e3 l3 (u3.setCell ⟨w.heap.size + 2, 3, none⟩ (.slice a3 cd.length q3))) := Lib.hid (K3.out.set_ hp 3 (.slice a3 cd.length q3))
  have O1 := Lib.hid (owns_set O1q3.out (p := w.heap.size + 2) (i := 3) (by omega) (.slice a3 cd.length q3))
  have O2 := Lib.hid (owns_set O2q3.out (p := w.heap.size + 2) (i := 3) (by omega) (.slice a3 cd.length q3))
  have O3 := Lib.hid (owns_set O3'.out (p := w.heap.size + 2) (i := 3) (by omega) (.slice a3 cd.length q3))
  clear C3 x3 y3 f3 lt3 K3 O3' b3 t3 J3 O1q3 O2q3
  generalize u3.setCell ⟨w.heap.size + 2, 3, none⟩ (.slice a3 cd.length q3) = W4 at *
  have x4 := J4.out.X.cell 4
  simp at x4
  have b4 := J4.out.bx.cell 0
  simp at b4
  have t4 := J4.out.sz
  go_upto_region 10 with (go_at_call 69; (with_reducible refine (C4.out _ _ J4.out).mono ?_); rintro e u4 ⟨v4, rfl, own, hg, hr⟩; obtain ⟨a4, q4, rfl⟩ := owns_form own; have K4 := Lib.hid (J4.out.turn hp hg hr); have y4 := K4.out.X.cell 4; simp at y4; have f4 := K4.out.X.frozen 4; have lt4 := K4.out.X.lt; have O4' := Lib.hid (owns_base own J4.out.sz); have O1q4 := Lib.hid (owns_turn O1.out hg (by omega)); have O2q4 := Lib.hid (owns_turn O2.out hg (by omega)); have O3q4 := Lib.hid (owns_turn O3.out hg (by omega)); clear own hg hr)
  have J5 : Hid (GJ w p #[.string x, .slice a1 ex.length q1, .slice a2 im.length q2, .slice a3 cd.length q3, .slice a4 dt.length q4, .slice none 0 0] e4 l4 (u4.setCell ⟨w.heap.size + 2, 4, none⟩ (.slice a4 dt.length q4))) := Lib.hid (K4.out.set_ hp 4 (.slice a4 dt.length q4))
  have O1 := Lib.hid (owns_set O1q4.out (p := w.heap.size + 2) (i := 4) (by omega) (.slice a4 dt.length q4))
  have O2 := Lib.hid (owns_set O2q4.out (p := w.heap.size + 2) (i := 4) (by omega) (.slice a4 dt.length q4))
  have O3 := Lib.hid (owns_set O3q4.out (p := w.heap.size + 2) (i := 4) (by omega) (.slice a4 dt.length q4))
  have O4 := Lib.hid (owns_set O4'.out (p := w.heap.size + 2) (i := 4) (by omega) (.slice a4 dt.length q4))
  clear C4 x4 y4 f4 lt4 K4 O4' b4 t4 J4 O1q4 O2q4 O3q4
  generalize u4.setCell ⟨w.heap.size + 2, 4, none⟩ (.slice a4 dt.length q4) = W5 at *
  have x5 := J5.out.X.cell 5
  simp at x5
  have b5 := J5.out.bx.cell 0
  simp at b5
  have t5 := J5.out.sz
  go_upto_region 11 with (go_at_call 70; (with_reducible refine (C5.out _ _ J5.out).mono ?_); rintro e u5 ⟨v5, rfl, own, hg, hr⟩; obtain ⟨a5, q5, rfl⟩ := owns_form own; have K5 := Lib.hid (J5.out.turn hp hg hr); have y5 := K5.out.X.cell 5; simp at y5; have f5 := K5.out.X.frozen 5; have lt5 := K5.out.X.lt; have O5' := Lib.hid (owns_base own J5.out.sz); have O1q5 := Lib.hid (owns_turn O1.out hg (by omega)); have O2q5 := Lib.hid (owns_turn O2.out hg (by omega)); have O3q5 := Lib.hid (owns_turn O3.out hg (by omega)); have O4q5 := Lib.hid (owns_turn O4.out hg (by omega)); clear own hg hr)
  have J6 : Hid (GJ w p #[.string x, .slice a1 ex.length q1, .slice a2 im.length q2, .slice a3 cd.length q3, .slice a4 dt.length q4, .slice a5 rl.length q5] e5 l5 (u5.setCell ⟨w.heap.size + 2, 5, none⟩ (.slice a5 rl.length q5))) := Lib.hid (K5.out.set_ hp 5 (.slice a5 rl.length q5))
  have O1 := Lib.hid (owns_set O1q5.out (p := w.heap.size + 2) (i := 5) (by omega) (.slice a5 rl.length q5))
  have O2 := Lib.hid (owns_set O2q5.out (p := w.heap.size + 2) (i := 5) (by omega) (.slice a5 rl.length q5))
  have O3 := Lib.hid (owns_set O3q5.out (p := w.heap.size + 2) (i := 5) (by omega) (.slice a5 rl.length q5))
  have O4 := Lib.hid (owns_set O4q5.out (p := w.heap.size + 2) (i := 5) (by omega) (.slice a5 rl.length q5))
  have O5 := Lib.hid (owns_set O5'.out (p := w.heap.size + 2) (i := 5) (by omega) (.slice a5 rl.length q5))
  clear C5 x5 y5 f5 lt5 K5 O5' b5 t5 J5 O1q5 O2q5 O3q5 O4q5
  generalize u5.setCell ⟨w.heap.size + 2, 5, none⟩ (.slice a5 rl.length q5) = W6 at *
  have z0 := J6.out.X.cell 0
  have z1 := J6.out.X.cell 1
  have z2 := J6.out.X.cell 2
  have z3 := J6.out.X.cell 3
  have z4 := J6.out.X.cell 4
  have z5 := J6.out.X.cell 5
  simp at z0 z1 z2 z3 z4 z5
  have t0 := J6.out.Y.cell 0
  have t1 := J6.out.Y.cell 1
  have t2 := J6.out.Y.cell 2
  have t3 := J6.out.Y.cell 3
  have t4 := J6.out.Y.cell 4
  have t5 := J6.out.Y.cell 5
  simp at t0 t1 t2 t3 t4 t5
  have r0 := J6.out.Y.frozen 0
  have r1 := J6.out.Y.frozen 1
  have r2 := J6.out.Y.frozen 2
  have r3 := J6.out.Y.frozen 3
  have r4 := J6.out.Y.frozen 4
  have r5 := J6.out.Y.frozen 5
  have rlt := J6.out.Y.lt
  have zlt := J6.out.X.lt
  have FY := Lib.hid (show Whole ((((((W6.setCell ⟨w.heap.size + 1, 0, none⟩ (.string x)).setCell ⟨w.heap.size + 1, 1, none⟩ (.slice a1 ex.length q1)).setCell ⟨w.heap.size + 1, 2, none⟩ (.slice a2 im.length q2)).setCell ⟨w.heap.size + 1, 3, none⟩ (.slice a3 cd.length q3)).setCell ⟨w.heap.size + 1, 4, none⟩ (.slice a4 dt.length q4)).setCell ⟨w.heap.size + 1, 5, none⟩ (.slice a5 rl.length q5)) (w.heap.size + 1) 26 (mCs x a1 ex.length q1 a2 im.length q2 a3 cd.length q3 a4 dt.length q4 a5 rl.length q5) from ((((((J6.out.Y.set_ 0 (.string x)).set_ 1 (.slice a1 ex.length q1)).set_ 2 (.slice a2 im.length q2)).set_ 3 (.slice a3 cd.length q3)).set_ 4 (.slice a4 dt.length q4)).set_ 5 (.slice a5 rl.length q5)))
  have FB := Lib.hid (((((((Below.refl w.heap.size W6).setCell (p := ⟨w.heap.size + 1, 0, none⟩) (by simp) (.string x)).setCell (p := ⟨w.heap.size + 1, 1, none⟩) (by simp) (.slice a1 ex.length q1)).setCell (p := ⟨w.heap.size + 1, 2, none⟩) (by simp) (.slice a2 im.length q2)).setCell (p := ⟨w.heap.size + 1, 3, none⟩) (by simp) (.slice a3 cd.length q3)).setCell (p := ⟨w.heap.size + 1, 4, none⟩) (by simp) (.slice a4 dt.length q4)).setCell (p := ⟨w.heap.size + 1, 5, none⟩) (by simp) (.slice a5 rl.length q5))
  have F1 := Lib.hid (owns_set (owns_set (owns_set (owns_set (owns_set (owns_set O1.out (p := w.heap.size + 1) (i := 0) (by omega) (.string x)) (p := w.heap.size + 1) (i := 1) (by omega) (.slice a1 ex.length q1)) (p := w.heap.size + 1) (i := 2) (by omega) (.slice a2 im.length q2)) (p := w.heap.size + 1) (i := 3) (by omega) (.slice a3 cd.length q3)) (p := w.heap.size + 1) (i := 4) (by omega) (.slice a4 dt.length q4)) (p := w.heap.size + 1) (i := 5) (by omega) (.slice a5 rl.length q5))
  have F2 := Lib.hid (owns_set (owns_set (owns_set (owns_set (owns_set (owns_set O2.out (p := w.heap.size + 1) (i := 0) (by omega) (.string x)) (p := w.heap.size + 1) (i := 1) (by omega) (.slice a1 ex.length q1)) (p := w.heap.size + 1) (i := 2) (by omega) (.slice a2 im.length q2)) (p := w.heap.size + 1) (i := 3) (by omega) (.slice a3 cd.length q3)) (p := w.heap.size + 1) (i := 4) (by omega) (.slice a4 dt.length q4)) (p := w.heap.size + 1) (i := 5) (by omega) (.slice a5 rl.length q5))
  have F3 := Lib.hid (owns_set (owns_set (owns_set (owns_set (owns_set (owns_set O3.out (p := w.heap.size + 1) (i := 0) (by omega) (.string x)) (p := w.heap.size + 1) (i := 1) (by omega) (.slice a1 ex.length q1)) (p := w.heap.size + 1) (i := 2) (by omega) (.slice a2 im.length q2)) (p := w.heap.size + 1) (i := 3) (by omega) (.slice a3 cd.length q3)) (p := w.heap.size + 1) (i := 4) (by omega) (.slice a4 dt.length q4)) (p := w.heap.size + 1) (i := 5) (by omega) (.slice a5 rl.length q5))
  have F4 := Lib.hid (owns_set (owns_set (owns_set (owns_set (owns_set (owns_set O4.out (p := w.heap.size + 1) (i := 0) (by omega) (.string x)) (p := w.heap.size + 1) (i := 1) (by omega) (.slice a1 ex.length q1)) (p := w.heap.size + 1) (i := 2) (by omega) (.slice a2 im.length q2)) (p := w.heap.size + 1) (i := 3) (by omega) (.slice a3 cd.length q3)) (p := w.heap.size + 1) (i := 4) (by omega) (.slice a4 dt.length q4)) (p := w.heap.size + 1) (i := 5) (by omega) (.slice a5 rl.length q5))
  have F5 := Lib.hid (owns_set (owns_set (owns_set (owns_set (owns_set (owns_set O5.out (p := w.heap.size + 1) (i := 0) (by omega) (.string x)) (p := w.heap.size + 1) (i := 1) (by omega) (.slice a1 ex.length q1)) (p := w.heap.size + 1) (i := 2) (by omega) (.slice a2 im.length q2)) (p := w.heap.size + 1) (i := 3) (by omega) (.slice a3 cd.length q3)) (p := w.heap.size + 1) (i := 4) (by omega) (.slice a4 dt.length q4)) (p := w.heap.size + 1) (i := 5) (by omega) (.slice a5 rl.length q5))
  have FG := Lib.hid (grown_on J6.out.G FB.out)
  have FR := Lib.hid (J6.out.R.far FB.out hp)
  clear J6 O1 O2 O3 O4 O5 FB
  go_wp2_with fail
  generalize ((((((W6.setCell ⟨w.heap.size + 1, 0, none⟩ (.string x)).setCell ⟨w.heap.size + 1, 1, none⟩ (.slice a1 ex.length q1)).setCell ⟨w.heap.size + 1, 2, none⟩ (.slice a2 im.length q2)).setCell ⟨w.heap.size + 1, 3, none⟩ (.slice a3 cd.length q3)).setCell ⟨w.heap.size + 1, 4, none⟩ (.slice a4 dt.length q4)).setCell ⟨w.heap.size + 1, 5, none⟩ (.slice a5 rl.length q5)) = WF at *
  obtain ⟨g0, g1, g2, g3, g4, g5⟩ := mod_cells FY.out
  exact bodyPost_ret (v := mV x a1 ex.length q1 a2 im.length q2 a3 cd.length q3 a4 dt.length q4 a5 rl.length q5) (by simp [results, Try.results41, go_sem, g0, g1, g2, g3, g4, g5]) rfl ⟨_, _, _, _, _, _, _, _, _, _, _, _, _, _, _, rfl, ⟨owns_base F1.out (by omega), owns_base F2.out (by omega), owns_base F3.out (by omega), owns_base F4.out (by omega), owns_base F5.out (by omega)⟩, FG.out, FR.out⟩
end
end Go.Proofs.Ytdlinlkdielmkaa.OR

