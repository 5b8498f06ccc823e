/-
  A module copied whole, as the program does. Nothing here is a statement of the seed.
-/
import Derived.Test.YtdlinlkdielmkaaObjCopyP
import Derived.Deep.CutRange
set_option linter.unusedSimpArgs false
set_option linter.unusedVariables false
namespace Go.Proofs.Ytdlinlkdielmkaa.OR
open Go.RowKit WM NR OM
set_option maxHeartbeats 4000000
set_option maxRecDepth 10000
theorem owns_form {w : World} {B : Nat} {e : TypeId} {size n : Nat} {v : Value} {xs : List Value} (h : w.ownsRow B e size v n xs) : ∃ a c, v = .slice a n c := by
  rcases h.2 with ⟨rfl, rfl⟩ | ⟨g, cap, cur, rfl, _⟩
  · exact ⟨none, 0, rfl⟩
  · exact ⟨_, cap, rfl⟩
theorem owns_set {w : World} {B : Nat} {e : TypeId} {size n : Nat} {v : Value} {xs : List Value} (h : w.ownsRow B e size v n xs) {p i : Nat} (hp : p < B) (u : Value) : (w.setCell ⟨p, i, none⟩ u).ownsRow B e size v n xs :=
  h.kept (w' := w.setCell ⟨p, i, none⟩ u) (row := some p) ⟨rfl, rfl, rfl, by simp, fun g hg hr => Below.heap_setCell _ _ _ _ (fun e => hr (by rw [e]))⟩ (by
    cases hv : v.ownBlock with
    | none => exact Or.inl rfl
    | some g =>
      refine Or.inr fun hh => ?_
      have h1 := (h.lt g hv).1
      have h2 := Option.some.inj hh
      omega)
abbrev zCs : Array Value := #[.string ⟨#[]⟩, .slice none 0 0, .slice none 0 0, .slice none 0 0, .slice none 0 0, .slice none 0 0]
/-- the copy's box and the result's, on the way -/
structure CJ (w : World) (cs : Array Value) (u : World) : Prop where
  X : Whole u w.heap.size 26 cs
  Y : Whole u (w.heap.size + 1) 26 zCs
  B : Below w.heap.size w u
  sz : w.heap.size + 2 ≤ u.heap.size
theorem CJ.belowS {w u u' : World} {cs : Array Value} (h : CJ w cs u) (hb : Below u.heap.size u u') : CJ w cs u' := ⟨h.X.belowS hb, h.Y.belowS hb, h.B.trans (hb.mono h.B.size), Nat.le_trans h.sz hb.size⟩
theorem CJ.set_ {w u : World} {cs : Array Value} (h : CJ w cs u) (i : Nat) (v : Value) : CJ w (cs.setIfInBounds i v) (u.setCell ⟨w.heap.size, i, none⟩ v) := ⟨h.X.set_ i v, h.Y.far (by simp) v, h.B.setCell (by simp) v, by simpa using h.sz⟩
theorem CJ.new (w : World) (cs : Array Value) : CJ w cs ((w.alloc (.cells cs 26)).alloc (.cells zCs 26)) := by
  obtain ⟨h1, h2, h3⟩ := two_mods w cs zCs
  exact ⟨h2, h3, h1, by simp⟩
/-- what a copy's lists are -/
structure Own5 (B : Nat) (m : Md) (w : World) (ea : Option Addr) (en ec : Nat) (ia : Option Addr) (im ic : Nat) (ca : Option Addr) (cn cc : Nat) (da : Option Addr) (dn dc : Nat) (ra : Option Addr) (rn rc : Nat) : Prop where
  ex : w.ownsRow B 9 1 (.slice ea en ec) en (strs m.exps)
  im : w.ownsRow B 9 1 (.slice ia im ic) im (strs m.imps)
  cd : w.ownsRow B 43 1 (.slice ca cn cc) cn (u32s m.code)
  dt : w.ownsRow B 43 1 (.slice da dn dc) dn (u32s m.data)
  rl : w.ownsRow B 48 3 (.slice ra rn rc) rn (relC m.rels)
theorem readsR_owns {B n : Nat} {w : World} {v : Value} {l : List Rl} (h : w.ownsRow B 48 3 v n (relC l)) : ReadsR (fun g => B ≤ g ∧ v.ownBlock = some g) w v l := by
  have e : l.length = n := by have := h.1; rw [relC_len] at this; omega
  subst e
  exact ReadsR.of_owns h
section
variable {w : World} {ea : Option Addr} {en ec : Nat} {ia : Option Addr} {im ic : Nat} {ca : Option Addr} {cn cc : Nat} {da : Option Addr} {dn dc : Nat} {ra : Option Addr} {rn rc : Nat} {m : Md}
theorem Own5.reads {B : Nat} (h : Own5 B m w ea en ec ia im ic ca cn cc da dn dc ra rn rc) : RdM (fun g => B ≤ g) w ea en ec ia im ic ca cn cc da dn dc ra rn rc m :=
  ⟨(Reads.of_owns h.ex).mono fun g hg => hg.1, (Reads.of_owns h.im).mono fun g hg => hg.1, (Reads.of_owns h.cd).mono fun g hg => hg.1, (Reads.of_owns h.dt).mono fun g hg => hg.1, (readsR_owns h.rl).mono fun g hg => hg.1⟩
theorem Own5.belowS {B : Nat} {w' : World} (h : Own5 B m w ea en ec ia im ic ca cn cc da dn dc ra rn rc) (hb : Below w.heap.size w w') : Own5 B m w' ea en ec ia im ic ca cn cc da dn dc ra rn rc := ⟨owns_below h.ex hb, owns_below h.im hb, owns_below h.cd hb, owns_below h.dt hb, owns_below h.rl hb⟩
theorem objCopy_any (h : RdM (· < w.heap.size) w ea en ec ia im ic ca cn cc da dn dc ra rn rc m) (hl : en ≤ 65536 ∧ im ≤ 65536 ∧ cn ≤ 65536 ∧ dn ≤ 65536 ∧ rn ≤ 65536) :
    Calls Try.prog 19 #[mV (bs m.name) ea en ec ia im ic ca cn cc da dn dc ra rn rc] w fun e w' => ∃ ea2 en2 ec2 ia2 im2 ic2 ca2 cn2 cc2 da2 dn2 dc2 ra2 rn2 rc2, e = .returned (mV (bs m.name) ea2 en2 ec2 ia2 im2 ic2 ca2 cn2 cc2 da2 dn2 dc2 ra2 rn2 rc2) ∧ Own5 w.heap.size m w' ea2 en2 ec2 ia2 im2 ic2 ca2 cn2 cc2 da2 dn2 dc2 ra2 rn2 rc2 ∧ Below w.heap.size w w' := by
  obtain ⟨hl1, hl2, hl3, hl4, hl5⟩ := hl
  have up := fun (u : World) (hb : Below w.heap.size w u) (g : Nat) (hg : g < w.heap.size) => Nat.lt_of_lt_of_le hg hb.size
  have C1 := Lib.hid (fun (u : World) (hb : Below w.heap.size w u) => cloneTexts_any ((h.ex.below hb).mono (up u hb)) hl1)
  have C2 := Lib.hid (fun (u : World) (hb : Below w.heap.size w u) => cloneTexts_any ((h.im.below hb).mono (up u hb)) hl2)
  have C3 := Lib.hid (fun (u : World) (hb : Below w.heap.size w u) => cloneWords_any ((h.cd.below hb).mono (up u hb)) hl3)
  have C4 := Lib.hid (fun (u : World) (hb : Below w.heap.size w u) => cloneWords_any ((h.dt.below hb).mono (up u hb)) hl4)
  have C5 := Lib.hid (fun (u : World) (hb : Below w.heap.size w u) => cloneRels_any ((h.rl.below hb).mono (up u hb)) hl5)
  have J0 := Lib.hid (CJ.new w (mCs (bs m.name) ea en ec ia im ic ca cn cc da dn dc ra rn rc))
  clear h up hl1 hl2 hl3 hl4 hl5
  generalize bs m.name = x at *
  go_enter Try.func19, Try.ntmps19
  go_upto_region 1 with fail
  generalize (w.alloc (.cells (mCs x ea en ec ia im ic ca cn cc da dn dc ra rn rc) 26)).alloc (.cells zCs 26) = W0 at *
  have b0 : w.heap.size < W0.heap.size := by have := J0.out.sz; omega
  have x0 := J0.out.X.cell 1
  simp at x0
  go_upto_region 2 with (go_at_call 48; (with_reducible refine (C1.out _ J0.out.B).mono ?_); rintro e u1 ⟨v1, rfl, own, hb⟩; obtain ⟨a1, q1, rfl⟩ := owns_form own; have K1 := Lib.hid (J0.out.belowS hb); have y1 := K1.out.X.cell 1; simp at y1; have f1 := K1.out.X.frozen 1; have lt1 := K1.out.X.lt; have O1' := Lib.hid (owns_base own J0.out.sz); clear own hb)
  have J1 : Hid (CJ w (mCs x a1 en q1 ia im ic ca cn cc da dn dc ra rn rc) (u1.setCell ⟨w.heap.size, 1, none⟩ (.slice a1 en q1))) := Lib.hid (K1.out.set_ 1 (.slice a1 en q1))
  have O1 := Lib.hid (owns_set O1'.out (p := w.heap.size) (i := 1) (by omega) (.slice a1 en q1))
  clear C1 x0 y1 f1 lt1 K1 O1' 
  generalize u1.setCell ⟨w.heap.size, 1, none⟩ (.slice a1 en q1) = W1 at *
  have b1 : w.heap.size < W1.heap.size := by have := J1.out.sz; omega
  have x1 := J1.out.X.cell 2
  simp at x1
  go_upto_region 3 with (go_at_call 48; (with_reducible refine (C2.out _ J1.out.B).mono ?_); rintro e u2 ⟨v2, rfl, own, hb⟩; obtain ⟨a2, q2, rfl⟩ := owns_form own; have K2 := Lib.hid (J1.out.belowS hb); have y2 := K2.out.X.cell 2; simp at y2; have f2 := K2.out.X.frozen 2; have lt2 := K2.out.X.lt; have O2' := Lib.hid (owns_base own J1.out.sz); have O1q2 := Lib.hid (owns_below O1.out hb); clear own hb)
  have J2 : Hid (CJ w (mCs x a1 en q1 a2 im q2 ca cn cc da dn dc ra rn rc) (u2.setCell ⟨w.heap.size, 2, none⟩ (.slice a2 im q2))) := Lib.hid (K2.out.set_ 2 (.slice a2 im q2))
  have O1 := Lib.hid (owns_set O1q2.out (p := w.heap.size) (i := 2) (by omega) (.slice a2 im q2))
  have O2 := Lib.hid (owns_set O2'.out (p := w.heap.size) (i := 2) (by omega) (.slice a2 im q2))
  clear C2 x1 y2 f2 lt2 K2 O2' O1q2
  generalize u2.setCell ⟨w.heap.size, 2, none⟩ (.slice a2 im q2) = W2 at *
  have b2 : w.heap.size < W2.heap.size := by have := J2.out.sz; omega
  have x2 := J2.out.X.cell 3
  simp at x2
  go_upto_region 4 with (go_at_call 49; (with_reducible refine (C3.out _ J2.out.B).mono ?_); rintro e u3 ⟨v3, rfl, own, hb⟩; obtain ⟨a3, q3, rfl⟩ := owns_form own; have K3 := Lib.hid (J2.out.belowS hb); have y3 := K3.out.X.cell 3; simp at y3; have f3 := K3.out.X.frozen 3; have lt3 := K3.out.X.lt; have O3' := Lib.hid (owns_base own J2.out.sz); have O1q3 := Lib.hid (owns_below O1.out hb); have O2q3 := Lib.hid (owns_below O2.out hb); clear own hb)
  have J3 : Hid (CJ w (mCs x a1 en q1 a2 im q2 a3 cn q3 da dn dc ra rn rc) (u3.setCell ⟨w.heap.size, 3, none⟩ (.slice a3 cn q3))) := Lib.hid (K3.out.set_ 3 (.slice a3 cn q3))
  have O1 := Lib.hid (owns_set O1q3.out (p := w.heap.size) (i := 3) (by omega) (.slice a3 cn q3))
  have O2 := Lib.hid (owns_set O2q3.out (p := w.heap.size) (i := 3) (by omega) (.slice a3 cn q3))
  have O3 := Lib.hid (owns_set O3'.out (p := w.heap.size) (i := 3) (by omega) (.slice a3 cn q3))
  clear C3 x2 y3 f3 lt3 K3 O3' O1q3 O2q3
  generalize u3.setCell ⟨w.heap.size, 3, none⟩ (.slice a3 cn q3) = W3 at *
  have b3 : w.heap.size < W3.heap.size := by have := J3.out.sz; omega
  have x3 := J3.out.X.cell 4
  simp at x3
  go_upto_region 5 with (go_at_call 49; (with_reducible refine (C4.out _ J3.out.B).mono ?_); rintro e u4 ⟨v4, rfl, own, hb⟩; obtain ⟨a4, q4, rfl⟩ := owns_form own; have K4 := Lib.hid (J3.out.belowS hb); have y4 := K4.out.X.cell 4; simp at y4; have f4 := K4.out.X.frozen 4; have lt4 := K4.out.X.lt; have O4' := Lib.hid (owns_base own J3.out.sz); have O1q4 := Lib.hid (owns_below O1.out hb); have O2q4 := Lib.hid (owns_below O2.out hb); have O3q4 := Lib.hid (owns_below O3.out hb); clear own hb)
  have J4 : Hid (CJ w (mCs x a1 en q1 a2 im q2 a3 cn q3 a4 dn q4 ra rn rc) (u4.setCell ⟨w.heap.size, 4, none⟩ (.slice a4 dn q4))) := Lib.hid (K4.out.set_ 4 (.slice a4 dn q4))
  have O1 := Lib.hid (owns_set O1q4.out (p := w.heap.size) (i := 4) (by omega) (.slice a4 dn q4))
  have O2 := Lib.hid (owns_set O2q4.out (p := w.heap.size) (i := 4) (by omega) (.slice a4 dn q4))
  have O3 := Lib.hid (owns_set O3q4.out (p := w.heap.size) (i := 4) (by omega) (.slice a4 dn q4))
  have O4 := Lib.hid (owns_set O4'.out (p := w.heap.size) (i := 4) (by omega) (.slice a4 dn q4))
  clear C4 x3 y4 f4 lt4 K4 O4' O1q4 O2q4 O3q4
  generalize u4.setCell ⟨w.heap.size, 4, none⟩ (.slice a4 dn q4) = W4 at *
  have b4 : w.heap.size < W4.heap.size := by have := J4.out.sz; omega
  have x4 := J4.out.X.cell 5
  simp at x4
  go_upto_region 6 with (go_at_call 50; (with_reducible refine (C5.out _ J4.out.B).mono ?_); rintro e u5 ⟨v5, rfl, own, hb⟩; obtain ⟨a5, q5, rfl⟩ := owns_form own; have K5 := Lib.hid (J4.out.belowS hb); have y5 := K5.out.X.cell 5; simp at y5; have f5 := K5.out.X.frozen 5; have lt5 := K5.out.X.lt; have O5' := Lib.hid (owns_base own J4.out.sz); have O1q5 := Lib.hid (owns_below O1.out hb); have O2q5 := Lib.hid (owns_below O2.out hb); have O3q5 := Lib.hid (owns_below O3.out hb); have O4q5 := Lib.hid (owns_below O4.out hb); clear own hb)
  have J5 : Hid (CJ w (mCs x a1 en q1 a2 im q2 a3 cn q3 a4 dn q4 a5 rn q5) (u5.setCell ⟨w.heap.size, 5, none⟩ (.slice a5 rn q5))) := Lib.hid (K5.out.set_ 5 (.slice a5 rn q5))
  have O1 := Lib.hid (owns_set O1q5.out (p := w.heap.size) (i := 5) (by omega) (.slice a5 rn q5))
  have O2 := Lib.hid (owns_set O2q5.out (p := w.heap.size) (i := 5) (by omega) (.slice a5 rn q5))
  have O3 := Lib.hid (owns_set O3q5.out (p := w.heap.size) (i := 5) (by omega) (.slice a5 rn q5))
  have O4 := Lib.hid (owns_set O4q5.out (p := w.heap.size) (i := 5) (by omega) (.slice a5 rn q5))
  have O5 := Lib.hid (owns_set O5'.out (p := w.heap.size) (i := 5) (by omega) (.slice a5 rn q5))
  clear C5 x4 y5 f5 lt5 K5 O5' O1q5 O2q5 O3q5 O4q5
  generalize u5.setCell ⟨w.heap.size, 5, none⟩ (.slice a5 rn q5) = W5 at *
  have b5 : w.heap.size < W5.heap.size := by have := J5.out.sz; omega
  obtain ⟨z0, z1, z2, z3, z4, z5⟩ := mod_cells J5.out.X
  have t0 := J5.out.Y.cell 0
  have t1 := J5.out.Y.cell 1
  have t2 := J5.out.Y.cell 2
  have t3 := J5.out.Y.cell 3
  have t4 := J5.out.Y.cell 4
  have t5 := J5.out.Y.cell 5
  simp at t0 t1 t2 t3 t4 t5
  have r0 := J5.out.Y.frozen 0
  have r1 := J5.out.Y.frozen 1
  have r2 := J5.out.Y.frozen 2
  have r3 := J5.out.Y.frozen 3
  have r4 := J5.out.Y.frozen 4
  have r5 := J5.out.Y.frozen 5
  have rlt := J5.out.Y.lt
  have FY : Whole ((((((W5.setCell ⟨w.heap.size + 1, 0, none⟩ (.string x)).setCell ⟨w.heap.size + 1, 1, none⟩ (.slice a1 en q1)).setCell ⟨w.heap.size + 1, 2, none⟩ (.slice a2 im q2)).setCell ⟨w.heap.size + 1, 3, none⟩ (.slice a3 cn q3)).setCell ⟨w.heap.size + 1, 4, none⟩ (.slice a4 dn q4)).setCell ⟨w.heap.size + 1, 5, none⟩ (.slice a5 rn q5)) (w.heap.size + 1) 26 (mCs x a1 en q1 a2 im q2 a3 cn q3 a4 dn q4 a5 rn q5) := ((((((J5.out.Y.set_ 0 (.string x)).set_ 1 (.slice a1 en q1)).set_ 2 (.slice a2 im q2)).set_ 3 (.slice a3 cn q3)).set_ 4 (.slice a4 dn q4)).set_ 5 (.slice a5 rn q5))
  have FB := Lib.hid ((((((J5.out.B.setCell (p := ⟨w.heap.size + 1, 0, none⟩) (by simp) (.string x)).setCell (p := ⟨w.heap.size + 1, 1, none⟩) (by simp) (.slice a1 en q1)).setCell (p := ⟨w.heap.size + 1, 2, none⟩) (by simp) (.slice a2 im q2)).setCell (p := ⟨w.heap.size + 1, 3, none⟩) (by simp) (.slice a3 cn q3)).setCell (p := ⟨w.heap.size + 1, 4, none⟩) (by simp) (.slice a4 dn q4)).setCell (p := ⟨w.heap.size + 1, 5, none⟩) (by simp) (.slice a5 rn q5))
  have F1 := Lib.hid (owns_set (owns_set (owns_set (owns_set (owns_set (owns_set O1.out (p := w.heap.size + 1) (i := 0) (by omega) (.string x)) (p := w.heap.size + 1) (i := 1) (by omega) (.slice a1 en q1)) (p := w.heap.size + 1) (i := 2) (by omega) (.slice a2 im q2)) (p := w.heap.size + 1) (i := 3) (by omega) (.slice a3 cn q3)) (p := w.heap.size + 1) (i := 4) (by omega) (.slice a4 dn q4)) (p := w.heap.size + 1) (i := 5) (by omega) (.slice a5 rn q5))
  have F2 := Lib.hid (owns_set (owns_set (owns_set (owns_set (owns_set (owns_set O2.out (p := w.heap.size + 1) (i := 0) (by omega) (.string x)) (p := w.heap.size + 1) (i := 1) (by omega) (.slice a1 en q1)) (p := w.heap.size + 1) (i := 2) (by omega) (.slice a2 im q2)) (p := w.heap.size + 1) (i := 3) (by omega) (.slice a3 cn q3)) (p := w.heap.size + 1) (i := 4) (by omega) (.slice a4 dn q4)) (p := w.heap.size + 1) (i := 5) (by omega) (.slice a5 rn q5))
  have F3 := Lib.hid (owns_set (owns_set (owns_set (owns_set (owns_set (owns_set O3.out (p := w.heap.size + 1) (i := 0) (by omega) (.string x)) (p := w.heap.size + 1) (i := 1) (by omega) (.slice a1 en q1)) (p := w.heap.size + 1) (i := 2) (by omega) (.slice a2 im q2)) (p := w.heap.size + 1) (i := 3) (by omega) (.slice a3 cn q3)) (p := w.heap.size + 1) (i := 4) (by omega) (.slice a4 dn q4)) (p := w.heap.size + 1) (i := 5) (by omega) (.slice a5 rn q5))
  have F4 := Lib.hid (owns_set (owns_set (owns_set (owns_set (owns_set (owns_set O4.out (p := w.heap.size + 1) (i := 0) (by omega) (.string x)) (p := w.heap.size + 1) (i := 1) (by omega) (.slice a1 en q1)) (p := w.heap.size + 1) (i := 2) (by omega) (.slice a2 im q2)) (p := w.heap.size + 1) (i := 3) (by omega) (.slice a3 cn q3)) (p := w.heap.size + 1) (i := 4) (by omega) (.slice a4 dn q4)) (p := w.heap.size + 1) (i := 5) (by omega) (.slice a5 rn q5))
  have F5 := Lib.hid (owns_set (owns_set (owns_set (owns_set (owns_set (owns_set O5.out (p := w.heap.size + 1) (i := 0) (by omega) (.string x)) (p := w.heap.size + 1) (i := 1) (by omega) (.slice a1 en q1)) (p := w.heap.size + 1) (i := 2) (by omega) (.slice a2 im q2)) (p := w.heap.size + 1) (i := 3) (by omega) (.slice a3 cn q3)) (p := w.heap.size + 1) (i := 4) (by omega) (.slice a4 dn q4)) (p := w.heap.size + 1) (i := 5) (by omega) (.slice a5 rn q5))
  have FYh := Lib.hid FY
  clear FY J5 O1 O2 O3 O4 O5
  go_wp2_with fail
  generalize ((((((W5.setCell ⟨w.heap.size + 1, 0, none⟩ (.string x)).setCell ⟨w.heap.size + 1, 1, none⟩ (.slice a1 en q1)).setCell ⟨w.heap.size + 1, 2, none⟩ (.slice a2 im q2)).setCell ⟨w.heap.size + 1, 3, none⟩ (.slice a3 cn q3)).setCell ⟨w.heap.size + 1, 4, none⟩ (.slice a4 dn q4)).setCell ⟨w.heap.size + 1, 5, none⟩ (.slice a5 rn q5)) = WF at *
  obtain ⟨g0, g1, g2, g3, g4, g5⟩ := mod_cells FYh.out
  exact bodyPost_ret (v := mV x a1 en q1 a2 im q2 a3 cn q3 a4 dn q4 a5 rn q5) (by simp [results, Try.results19, go_sem, g0, g1, g2, g3, g4, g5]) rfl ⟨_, _, _, _, _, _, _, _, _, _, _, _, _, _, _, rfl, ⟨owns_base F1.out (by omega), owns_base F2.out (by omega), owns_base F3.out (by omega), owns_base F4.out (by omega), owns_base F5.out (by omega)⟩, FB.out⟩
end
end Go.Proofs.Ytdlinlkdielmkaa.OR
