/-
  The program's Turn. Nothing here is a statement of the seed.
-/
import Derived.Test.YtigalcmhongleaaGtPE
set_option linter.unusedSimpArgs false
set_option linter.unusedVariables false
namespace Go.Proofs.Ytigalcmhongleaa.GK
open Go.RowKit WM NR OM OR GA GF
set_option maxHeartbeats 4000000
set_option maxRecDepth 10000
/-- the table, what is asked, the box of what is told, what has changed -/
structure PQ (w : World) (p : Nat) (f : Tb) (c : Array Value) (u : World) : Prop where
  X : Whole u p 53 (tC f)
  N : Whole u w.heap.size 35 c
  Y : Whole u (w.heap.size + 1) 35 zC
  F : Fr (fun i => i = p) w u
theorem PQ.belowS {w u u' : World} {p : Nat} {f : Tb} {c : Array Value} (h : PQ w p f c u) (hb : Below u.heap.size u u') : PQ w p f c u' := ⟨h.X.belowS hb, h.N.belowS hb, h.Y.belowS hb, h.F.then hb⟩
theorem PQ.new {w : World} {p : Nat} {f : Tb} (c : Array Value) (hW : Whole w p 53 (tC f)) : PQ w p f c ((w.alloc (.cells c 35)).alloc (.cells zC 35)) := by
  have b1 := below_new w (.cells c 35)
  have n1 := Whole.new w 35 c
  have s1 : (w.alloc (.cells c 35)).heap.size = w.heap.size + 1 := by simp
  have hW1 := hW.belowS b1
  generalize w.alloc (.cells c 35) = u1 at *
  have b2 := below_new u1 (.cells zC 35)
  have n2 := Whole.new u1 35 zC
  rw [s1] at n2
  exact ⟨hW1.belowS b2, n1.belowS b2, n2, ((Fr.refl _ _).then b1).then b2⟩
theorem tC_set2 (f : Tb) {g : Nat} (hg : g < 8) (b : Bd) (hn : b.nm = (f g).nm) : ((tC f).setIfInBounds (g * 3 + 1) (.int .u16 b.ow)).setIfInBounds (g * 3 + 2) (.int .u32 b.bs) = tC (setT f g b) := by
  obtain ⟨nm, o, k⟩ := b
  simp only at hn
  subst hn
  rcases below8 hg with rfl | rfl | rfl | rfl | rfl | rfl | rfl | rfl <;> rfl
theorem box_set2 {u : World} {p : Nat} {t : TypeId} {f : Tb} (h : Whole u p t (tC f)) {g : Nat} (hg : g < 8) (b : Bd) (hn : b.nm = (f g).nm) : Whole ((u.setCell ⟨p, g * 3 + 1, none⟩ (.int .u16 b.ow)).setCell ⟨p, g * 3 + 2, none⟩ (.int .u32 b.bs)) p t (tC (setT f g b)) := by
  have := (h.set_ (g * 3 + 1) (.int .u16 b.ow)).set_ (g * 3 + 2) (.int .u32 b.bs)
  rwa [tC_set2 f hg b hn] at this
section
variable {w : World} {f : Tb} {p : Nat} {X : ByteArray} {o k : Int}
abbrev nC (X : ByteArray) (o k : Int) : Array Value := #[.string X, .int .u16 o, .int .u32 k]
theorem turn_arg0 (h0 : (o == 0) = true) (hW : Whole w p 53 (tC f)) :
    Calls Try.prog 14 #[.pointer (some ⟨p, 0, none⟩), .agg #[.string X, .int .u16 o, .int .u32 k]] w fun e u => e = .returned (.tuple #[.int .i64 0, bdV b0, .int .i64 2]) ∧ Whole u p 53 (tC f) ∧ Fr (fun i => i = p) w u := by
  have J0 := Lib.hid (PQ.new (nC X o k) hW)
  have hpw := hW.lt
  clear hW
  go_enter Try.func14, Try.ntmps14
  go_upto_region 1 with fail
  generalize (w.alloc (.cells #[.string X, .int .u16 o, .int .u32 k] 35)).alloc (.cells #[.string ⟨#[]⟩, .int .u16 0, .int .u32 0] 35) = W at *
  obtain ⟨n0, n1, n2⟩ : W.cell? ⟨w.heap.size, 0, none⟩ = some (.string X) ∧ W.cell? ⟨w.heap.size, 1, none⟩ = some (.int .u16 o) ∧ W.cell? ⟨w.heap.size, 2, none⟩ = some (.int .u32 k) := ⟨J0.out.N.cell 0, J0.out.N.cell 1, J0.out.N.cell 2⟩
  have n6 := J0.out.N.lt
  have z6 := J0.out.Y.lt
  have f0 := J0.out.Y.frozen 0
  have f1 := J0.out.Y.frozen 1
  have f2 := J0.out.Y.frozen 2
  obtain ⟨v0, v1, v2, c0, c1, c2⟩ := box3 J0.out.Y rfl
  have HR := Lib.hid (putBd_whole (b := b0) J0.out.Y rfl)
  have HX := Lib.hid (putBd_far (b := b0) J0.out.X (show p ≠ w.heap.size + 1 by omega))
  have HF := Lib.hid (putBd_frb (b := b0) J0.out.F (show w.heap.size ≤ w.heap.size + 1 by omega))
  go_wp2_with fail
  rw [putBd_eq _ (w.heap.size + 1) ⟨#[]⟩ 0 0 b0 rfl rfl rfl]
  exact bodyPost_ret (v := .tuple #[.int .i64 0, bdV b0, .int .i64 2]) (res3P Try.results14 rfl rfl rfl HR.out) rfl ⟨rfl, HX.out, HF.out⟩
theorem turn_arg1 (h0 : (o == 0) = false) (h1 : (k == 0) = true) (hW : Whole w p 53 (tC f)) :
    Calls Try.prog 14 #[.pointer (some ⟨p, 0, none⟩), .agg #[.string X, .int .u16 o, .int .u32 k]] w fun e u => e = .returned (.tuple #[.int .i64 0, bdV b0, .int .i64 2]) ∧ Whole u p 53 (tC f) ∧ Fr (fun i => i = p) w u := by
  have J0 := Lib.hid (PQ.new (nC X o k) hW)
  have hpw := hW.lt
  clear hW
  go_enter Try.func14, Try.ntmps14
  go_upto_region 1 with fail
  generalize (w.alloc (.cells #[.string X, .int .u16 o, .int .u32 k] 35)).alloc (.cells #[.string ⟨#[]⟩, .int .u16 0, .int .u32 0] 35) = W at *
  obtain ⟨n0, n1, n2⟩ : W.cell? ⟨w.heap.size, 0, none⟩ = some (.string X) ∧ W.cell? ⟨w.heap.size, 1, none⟩ = some (.int .u16 o) ∧ W.cell? ⟨w.heap.size, 2, none⟩ = some (.int .u32 k) := ⟨J0.out.N.cell 0, J0.out.N.cell 1, J0.out.N.cell 2⟩
  have n6 := J0.out.N.lt
  have z6 := J0.out.Y.lt
  have f0 := J0.out.Y.frozen 0
  have f1 := J0.out.Y.frozen 1
  have f2 := J0.out.Y.frozen 2
  obtain ⟨v0, v1, v2, c0, c1, c2⟩ := box3 J0.out.Y rfl
  have HR := Lib.hid (putBd_whole (b := b0) J0.out.Y rfl)
  have HX := Lib.hid (putBd_far (b := b0) J0.out.X (show p ≠ w.heap.size + 1 by omega))
  have HF := Lib.hid (putBd_frb (b := b0) J0.out.F (show w.heap.size ≤ w.heap.size + 1 by omega))
  go_wp2_with fail
  rw [putBd_eq _ (w.heap.size + 1) ⟨#[]⟩ 0 0 b0 rfl rfl rfl]
  exact bodyPost_ret (v := .tuple #[.int .i64 0, bdV b0, .int .i64 2]) (res3P Try.results14 rfl rfl rfl HR.out) rfl ⟨rfl, HX.out, HF.out⟩
theorem turn_none {E G : Int} {FB : Bd} (h0 : (o == 0) = false) (h1 : (k == 0) = false) (hE : (E != 0) = true) (hW : Whole w p 53 (tC f)) (CF : ∀ u, Whole u p 53 (tC f) → Calls Try.prog 16 #[.pointer (some ⟨p, 0, none⟩), .string X] u fun e u2 => e = .returned (.tuple #[.int .i64 G, bdV FB, .int .i64 E]) ∧ Below u.heap.size u u2) :
    Calls Try.prog 14 #[.pointer (some ⟨p, 0, none⟩), .agg #[.string X, .int .u16 o, .int .u32 k]] w fun e u => e = .returned (.tuple #[.int .i64 0, bdV b0, .int .i64 E]) ∧ Whole u p 53 (tC f) ∧ Fr (fun i => i = p) w u := by
  have J0 := Lib.hid (PQ.new (nC X o k) hW)
  have hpw := hW.lt
  have CF := Lib.hid CF
  clear hW
  go_enter Try.func14, Try.ntmps14
  go_upto_region 1 with fail
  generalize (w.alloc (.cells #[.string X, .int .u16 o, .int .u32 k] 35)).alloc (.cells #[.string ⟨#[]⟩, .int .u16 0, .int .u32 0] 35) = W at *
  obtain ⟨n0, n1, n2⟩ : W.cell? ⟨w.heap.size, 0, none⟩ = some (.string X) ∧ W.cell? ⟨w.heap.size, 1, none⟩ = some (.int .u16 o) ∧ W.cell? ⟨w.heap.size, 2, none⟩ = some (.int .u32 k) := ⟨J0.out.N.cell 0, J0.out.N.cell 1, J0.out.N.cell 2⟩
  have n6 := J0.out.N.lt
  go_upto_region 7 with (first | (go_at_call 16; (with_reducible refine (CF.out _ J0.out.X).mono ?_); rintro e w1 ⟨rfl, hB⟩; have J1 := Lib.hid (J0.out.belowS hB); clear hB))
  clear n0 n1 n2 n6
  have b9 := below_new w1 (.cells (bdC FB) 35)
  have J3 := Lib.hid (J1.out.belowS b9)
  clear b9 J1 J0 CF
  generalize w1.alloc (.cells #[.string (bs FB.nm), .int .u16 FB.ow, .int .u32 FB.bs] 35) = W3 at *
  have z6 := J3.out.Y.lt
  have f0 := J3.out.Y.frozen 0
  have f1 := J3.out.Y.frozen 1
  have f2 := J3.out.Y.frozen 2
  obtain ⟨v0, v1, v2, c0, c1, c2⟩ := box3 J3.out.Y rfl
  have HR := Lib.hid (putBd_whole (b := b0) J3.out.Y rfl)
  have HX := Lib.hid (putBd_far (b := b0) J3.out.X (show p ≠ w.heap.size + 1 by omega))
  have HF := Lib.hid (putBd_frb (b := b0) J3.out.F (show w.heap.size ≤ w.heap.size + 1 by omega))
  go_wp2_with fail
  rw [putBd_eq _ (w.heap.size + 1) ⟨#[]⟩ 0 0 b0 rfl rfl rfl]
  exact bodyPost_ret (v := .tuple #[.int .i64 0, bdV b0, .int .i64 E]) (res3P Try.results14 rfl rfl rfl HR.out) rfl ⟨rfl, HX.out, HF.out⟩
theorem turn_there {E G : Int} {FB : Bd} (h0 : (o == 0) = false) (h1 : (k == 0) = false) (hE : (E != 0) = false) (hW : Whole w p 53 (tC f)) (CF : ∀ u, Whole u p 53 (tC f) → Calls Try.prog 16 #[.pointer (some ⟨p, 0, none⟩), .string X] u fun e u2 => e = .returned (.tuple #[.int .i64 G, bdV FB, .int .i64 E]) ∧ Below u.heap.size u u2)
    (CO : ∀ u, Whole u p 53 (tC f) → Calls Try.prog 27 #[.pointer (some ⟨p, 0, none⟩), .int .u16 o] u fun e u2 => e = .returned (.bool true) ∧ Below u.heap.size u u2) :
    Calls Try.prog 14 #[.pointer (some ⟨p, 0, none⟩), .agg #[.string X, .int .u16 o, .int .u32 k]] w fun e u => e = .returned (.tuple #[.int .i64 0, bdV b0, .int .i64 9]) ∧ Whole u p 53 (tC f) ∧ Fr (fun i => i = p) w u := by
  have J0 := Lib.hid (PQ.new (nC X o k) hW)
  have hpw := hW.lt
  have CF := Lib.hid CF
  have CO := Lib.hid CO
  clear hW
  go_enter Try.func14, Try.ntmps14
  go_upto_region 1 with fail
  generalize (w.alloc (.cells #[.string X, .int .u16 o, .int .u32 k] 35)).alloc (.cells #[.string ⟨#[]⟩, .int .u16 0, .int .u32 0] 35) = W at *
  have KN : Hid (∀ u, PQ w p f #[.string X, .int .u16 o, .int .u32 k] u → u.cell? ⟨w.heap.size, 0, none⟩ = some (.string X) ∧ u.cell? ⟨w.heap.size, 1, none⟩ = some (.int .u16 o) ∧ u.cell? ⟨w.heap.size, 2, none⟩ = some (.int .u32 k) ∧ w.heap.size < u.heap.size) := Lib.hid (fun u h => ⟨h.N.cell 0, h.N.cell 1, h.N.cell 2, h.N.lt⟩)
  obtain ⟨n0, n1, n2, n6⟩ := KN.out _ J0.out
  go_upto_region 7 with (first | (go_at_call 16; (with_reducible refine (CF.out _ J0.out.X).mono ?_); rintro e w1 ⟨rfl, hB⟩; have J1 := Lib.hid (J0.out.belowS hB); clear hB))
  clear n0 n1 n2 n6
  have b9 := below_new w1 (.cells (bdC FB) 35)
  have J3 := Lib.hid (J1.out.belowS b9)
  clear b9 J1 J0 CF
  generalize w1.alloc (.cells #[.string (bs FB.nm), .int .u16 FB.ow, .int .u32 FB.bs] 35) = W3 at *
  obtain ⟨n0, n1, n2, n6⟩ := KN.out _ J3.out
  go_upto_region 10 with (first | (go_at_call 27; (with_reducible refine (CO.out _ J3.out.X).mono ?_); rintro e w4 ⟨rfl, hB⟩; have J4 := Lib.hid (J3.out.belowS hB); clear hB))
  clear n0 n1 n2 n6
  have z6 := J4.out.Y.lt
  have f0 := J4.out.Y.frozen 0
  have f1 := J4.out.Y.frozen 1
  have f2 := J4.out.Y.frozen 2
  obtain ⟨v0, v1, v2, c0, c1, c2⟩ := box3 J4.out.Y rfl
  have HR := Lib.hid (putBd_whole (b := b0) J4.out.Y rfl)
  have HX := Lib.hid (putBd_far (b := b0) J4.out.X (show p ≠ w.heap.size + 1 by omega))
  have HF := Lib.hid (putBd_frb (b := b0) J4.out.F (show w.heap.size ≤ w.heap.size + 1 by omega))
  go_wp2_with fail
  rw [putBd_eq _ (w.heap.size + 1) ⟨#[]⟩ 0 0 b0 rfl rfl rfl]
  exact bodyPost_ret (v := .tuple #[.int .i64 0, bdV b0, .int .i64 9]) (res3P Try.results14 rfl rfl rfl HR.out) rfl ⟨rfl, HX.out, HF.out⟩
theorem turn_yes {E : Int} {FB : Bd} {kk : Nat} {g : Tb} (hkk : kk < 8) (h0 : (o == 0) = false) (h1 : (k == 0) = false) (hE : (E != 0) = false) (hg : ∀ u, Whole u p 53 (tC f) → Whole ((u.setCell ⟨p, kk * 3 + 1, none⟩ (.int .u16 o)).setCell ⟨p, kk * 3 + 2, none⟩ (.int .u32 k)) p 53 (tC g))
    (hW : Whole w p 53 (tC f)) (CF : ∀ u, Whole u p 53 (tC f) → Calls Try.prog 16 #[.pointer (some ⟨p, 0, none⟩), .string X] u fun e u2 => e = .returned (.tuple #[.int .i64 (kk : Int), bdV FB, .int .i64 E]) ∧ Below u.heap.size u u2)
    (CO : ∀ u, Whole u p 53 (tC f) → Calls Try.prog 27 #[.pointer (some ⟨p, 0, none⟩), .int .u16 o] u fun e u2 => e = .returned (.bool false) ∧ Below u.heap.size u u2) :
    Calls Try.prog 14 #[.pointer (some ⟨p, 0, none⟩), .agg #[.string X, .int .u16 o, .int .u32 k]] w fun e u => e = .returned (.tuple #[.int .i64 (kk : Int), bdV FB, .int .i64 0]) ∧ Whole u p 53 (tC g) ∧ Fr (fun i => i = p) w u := by
  have J0 := Lib.hid (PQ.new (nC X o k) hW)
  have hpw := hW.lt
  have CF := Lib.hid CF
  have CO := Lib.hid CO
  have HG := Lib.hid hg
  clear hW hg
  have kk8 : (kk : Int) < 8 := by omega
  go_enter Try.func14, Try.ntmps14
  go_upto_region 1 with fail
  generalize (w.alloc (.cells #[.string X, .int .u16 o, .int .u32 k] 35)).alloc (.cells #[.string ⟨#[]⟩, .int .u16 0, .int .u32 0] 35) = W at *
  have KN : Hid (∀ u, PQ w p f #[.string X, .int .u16 o, .int .u32 k] u → u.cell? ⟨w.heap.size, 0, none⟩ = some (.string X) ∧ u.cell? ⟨w.heap.size, 1, none⟩ = some (.int .u16 o) ∧ u.cell? ⟨w.heap.size, 2, none⟩ = some (.int .u32 k) ∧ w.heap.size < u.heap.size) := Lib.hid (fun u h => ⟨h.N.cell 0, h.N.cell 1, h.N.cell 2, h.N.lt⟩)
  obtain ⟨n0, n1, n2, n6⟩ := KN.out _ J0.out
  go_upto_region 7 with (first | (go_at_call 16; (with_reducible refine (CF.out _ J0.out.X).mono ?_); rintro e w1 ⟨rfl, hB⟩; have J1 := Lib.hid (J0.out.belowS hB); clear hB))
  clear n0 n1 n2 n6
  have b9 := below_new w1 (.cells (bdC FB) 35)
  have J3 := Lib.hid (J1.out.belowS b9)
  have T9 := Lib.hid (Whole.new w1 35 (bdC FB))
  have HP9 := Lib.hid (show w.heap.size + 1 < w1.heap.size from J1.out.Y.lt)
  clear b9 J1 J0 CF
  generalize w1.alloc (.cells #[.string (bs FB.nm), .int .u16 FB.ow, .int .u32 FB.bs] 35) = W3 at *
  generalize w1.heap.size = p9 at *
  obtain ⟨n0, n1, n2, n6⟩ := KN.out _ J3.out
  go_upto_region 11 with (first | (go_at_call 27; (with_reducible refine (CO.out _ J3.out.X).mono ?_); rintro e w4 ⟨rfl, hB⟩; have J4 := Lib.hid (J3.out.belowS hB); have T4 := Lib.hid (T9.out.belowS hB); clear hB))
  clear n0 n1 n2 n6
  obtain ⟨y0, y1, y2⟩ := box_at J4.out.X hkk
  have x6 := J4.out.X.lt
  have xf1 := J4.out.X.frozen (kk * 3 + 1)
  have xf2 := J4.out.X.frozen (kk * 3 + 2)
  have hbd : Below w4.heap.size w4 w4.drew := (Below.refl _ _).drew
  have K0 := J4.out.N.belowS hbd
  have hN1 := J4.out.N.far (p := ⟨p, kk * 3 + 1, none⟩) (show w.heap.size ≠ p by omega) (.int .u16 o)
  have hN2 := hN1.far (p := ⟨p, kk * 3 + 2, none⟩) (show w.heap.size ≠ p by omega) (.int .u32 k)
  have K1 := hN1.belowS ((Below.refl _ _).drew)
  have K2 := hN2.belowS ((Below.refl _ _).drew)
  have HX5 := Lib.hid (HG.out _ J4.out.X)
  have HY5 := Lib.hid ((J4.out.Y.far (p := ⟨p, kk * 3 + 1, none⟩) (show w.heap.size + 1 ≠ p by omega) (.int .u16 o)).far (p := ⟨p, kk * 3 + 2, none⟩) (show w.heap.size + 1 ≠ p by omega) (.int .u32 k))
  have HT5 := Lib.hid ((T4.out.far (p := ⟨p, kk * 3 + 1, none⟩) (show p9 ≠ p by have := HP9.out; omega) (.int .u16 o)).far (p := ⟨p, kk * 3 + 2, none⟩) (show p9 ≠ p by have := HP9.out; omega) (.int .u32 k))
  have HF5 := Lib.hid ((J4.out.F.set (p := ⟨p, kk * 3 + 1, none⟩) (Or.inl rfl) (.int .u16 o)).set (p := ⟨p, kk * 3 + 2, none⟩) (Or.inl rfl) (.int .u32 k))
  clear hN1 hN2
  refine wp_region_held_drew (S := fun u => Whole u w.heap.size 35 (nC X o k)) (by kernel_rfl) K0 (fun hHeld => ?_)
  refine wpAnyH_take (i := 0) (v := ?evv0) rfl (by kernel_rfl) (by kernel_rfl) (by kernel_rfl) (fun _ _ _ h => h) (Or.inl ⟨by rfl, ?ehy0⟩) (by assumption) ?erest0
  case ehy0 =>
    intro u hSu
    obtain ⟨s0, s1, s2⟩ : u.cell? ⟨w.heap.size, 0, none⟩ = some (.string X) ∧ u.cell? ⟨w.heap.size, 1, none⟩ = some (.int .u16 o) ∧ u.cell? ⟨w.heap.size, 2, none⟩ = some (.int .u32 k) := ⟨hSu.cell 0, hSu.cell 1, hSu.cell 2⟩; have s6 := hSu.lt
    go_simp
    try with_reducible rfl
  try simp only [Act.put, List.getElem_toArray, List.getElem_cons_succ, List.getElem_cons_zero, List.setIfInBounds_toArray, List.set_cons_zero, List.set_cons_succ]
  refine wpAnyH_take (i := 1) (v := ?evv1) rfl (by kernel_rfl) (by kernel_rfl) (by kernel_rfl) (fun _ _ _ h => h) (Or.inl ⟨by rfl, ?ehy1⟩) (by assumption) ?erest1
  case ehy1 =>
    intro u hSu
    obtain ⟨s0, s1, s2⟩ : u.cell? ⟨w.heap.size, 0, none⟩ = some (.string X) ∧ u.cell? ⟨w.heap.size, 1, none⟩ = some (.int .u16 o) ∧ u.cell? ⟨w.heap.size, 2, none⟩ = some (.int .u32 k) := ⟨hSu.cell 0, hSu.cell 1, hSu.cell 2⟩; have s6 := hSu.lt
    go_simp
    try with_reducible rfl
  try simp only [Act.put, List.getElem_toArray, List.getElem_cons_succ, List.getElem_cons_zero, List.setIfInBounds_toArray, List.set_cons_zero, List.set_cons_succ]
  refine wpAnyH_take (i := 2) (v := ?evv2) rfl (by kernel_rfl) (by kernel_rfl) (by kernel_rfl) (fun _ _ _ h => h) (Or.inl ⟨by rfl, ?ehy2⟩) (by assumption) ?erest2
  case ehy2 =>
    intro u hSu
    obtain ⟨s0, s1, s2⟩ : u.cell? ⟨w.heap.size, 0, none⟩ = some (.string X) ∧ u.cell? ⟨w.heap.size, 1, none⟩ = some (.int .u16 o) ∧ u.cell? ⟨w.heap.size, 2, none⟩ = some (.int .u32 k) := ⟨hSu.cell 0, hSu.cell 1, hSu.cell 2⟩; have s6 := hSu.lt
    go_simp
    try with_reducible rfl
  try simp only [Act.put, List.getElem_toArray, List.getElem_cons_succ, List.getElem_cons_zero, List.setIfInBounds_toArray, List.set_cons_zero, List.set_cons_succ]
  refine wpAnyH_take (i := 3) (v := ?evv3) rfl (by kernel_rfl) (by kernel_rfl) (by kernel_rfl) (fun _ _ _ h => h) (Or.inl ⟨by rfl, ?ehy3⟩) (by assumption) ?erest3
  case ehy3 =>
    intro u hSu
    obtain ⟨s0, s1, s2⟩ : u.cell? ⟨w.heap.size, 0, none⟩ = some (.string X) ∧ u.cell? ⟨w.heap.size, 1, none⟩ = some (.int .u16 o) ∧ u.cell? ⟨w.heap.size, 2, none⟩ = some (.int .u32 k) := ⟨hSu.cell 0, hSu.cell 1, hSu.cell 2⟩; have s6 := hSu.lt
    go_simp
    try with_reducible rfl
  try simp only [Act.put, List.getElem_toArray, List.getElem_cons_succ, List.getElem_cons_zero, List.setIfInBounds_toArray, List.set_cons_zero, List.set_cons_succ]
  refine wpAnyH_take (i := 4) (v := ?evv4) rfl (by kernel_rfl) (by kernel_rfl) (by kernel_rfl) (fun _ _ _ h => h) (Or.inl ⟨by rfl, ?ehy4⟩) (by assumption) ?erest4
  case ehy4 =>
    intro u hSu
    obtain ⟨s0, s1, s2⟩ : u.cell? ⟨w.heap.size, 0, none⟩ = some (.string X) ∧ u.cell? ⟨w.heap.size, 1, none⟩ = some (.int .u16 o) ∧ u.cell? ⟨w.heap.size, 2, none⟩ = some (.int .u32 k) := ⟨hSu.cell 0, hSu.cell 1, hSu.cell 2⟩; have s6 := hSu.lt
    go_simp
    try with_reducible rfl
  try simp only [Act.put, List.getElem_toArray, List.getElem_cons_succ, List.getElem_cons_zero, List.setIfInBounds_toArray, List.set_cons_zero, List.set_cons_succ]
  refine wpAnyH_take (i := 5) (v := ?evv5) rfl (by kernel_rfl) (by kernel_rfl) (by kernel_rfl) (fun _ _ _ h => h) (Or.inl ⟨by rfl, ?ehy5⟩) (by assumption) ?erest5
  case ehy5 =>
    intro u hSu
    obtain ⟨s0, s1, s2⟩ : u.cell? ⟨w.heap.size, 0, none⟩ = some (.string X) ∧ u.cell? ⟨w.heap.size, 1, none⟩ = some (.int .u16 o) ∧ u.cell? ⟨w.heap.size, 2, none⟩ = some (.int .u32 k) := ⟨hSu.cell 0, hSu.cell 1, hSu.cell 2⟩; have s6 := hSu.lt
    go_simp
    try with_reducible rfl
  try simp only [Act.put, List.getElem_toArray, List.getElem_cons_succ, List.getElem_cons_zero, List.setIfInBounds_toArray, List.set_cons_zero, List.set_cons_succ]
  refine wpAnyH_take (i := 6) (v := ?evv6) rfl (by kernel_rfl) (by kernel_rfl) (by kernel_rfl) (fun _ _ _ h => h) (Or.inl ⟨by rfl, ?ehy6⟩) (by assumption) ?erest6
  case ehy6 =>
    intro u hSu
    obtain ⟨s0, s1, s2⟩ : u.cell? ⟨w.heap.size, 0, none⟩ = some (.string X) ∧ u.cell? ⟨w.heap.size, 1, none⟩ = some (.int .u16 o) ∧ u.cell? ⟨w.heap.size, 2, none⟩ = some (.int .u32 k) := ⟨hSu.cell 0, hSu.cell 1, hSu.cell 2⟩; have s6 := hSu.lt
    go_simp
    try with_reducible rfl
  try simp only [Act.put, List.getElem_toArray, List.getElem_cons_succ, List.getElem_cons_zero, List.setIfInBounds_toArray, List.set_cons_zero, List.set_cons_succ]
  refine wpAnyH_take (i := 7) (v := ?evv7) rfl (by kernel_rfl) (by kernel_rfl) (by kernel_rfl) (fun _ _ _ h => h) (Or.inl ⟨by rfl, ?ehy7⟩) (by assumption) ?erest7
  case ehy7 =>
    intro u hSu
    obtain ⟨s0, s1, s2⟩ : u.cell? ⟨w.heap.size, 0, none⟩ = some (.string X) ∧ u.cell? ⟨w.heap.size, 1, none⟩ = some (.int .u16 o) ∧ u.cell? ⟨w.heap.size, 2, none⟩ = some (.int .u32 k) := ⟨hSu.cell 0, hSu.cell 1, hSu.cell 2⟩; have s6 := hSu.lt
    go_simp
    try with_reducible rfl
  try simp only [Act.put, List.getElem_toArray, List.getElem_cons_succ, List.getElem_cons_zero, List.setIfInBounds_toArray, List.set_cons_zero, List.set_cons_succ]
  refine wpAnyH_take (i := 8) (v := ?evv8) rfl (by kernel_rfl) (by kernel_rfl) (by kernel_rfl) (fun _ _ _ h => h) (Or.inl ⟨by rfl, ?ehy8⟩) (by assumption) ?erest8
  case ehy8 =>
    intro u hSu
    obtain ⟨s0, s1, s2⟩ : u.cell? ⟨w.heap.size, 0, none⟩ = some (.string X) ∧ u.cell? ⟨w.heap.size, 1, none⟩ = some (.int .u16 o) ∧ u.cell? ⟨w.heap.size, 2, none⟩ = some (.int .u32 k) := ⟨hSu.cell 0, hSu.cell 1, hSu.cell 2⟩; have s6 := hSu.lt
    go_simp
    try with_reducible rfl
  try simp only [Act.put, List.getElem_toArray, List.getElem_cons_succ, List.getElem_cons_zero, List.setIfInBounds_toArray, List.set_cons_zero, List.set_cons_succ]
  refine wpAnyH_take (i := 9) (v := ?evv9) rfl (by kernel_rfl) (by kernel_rfl) (by kernel_rfl) (fun _ _ _ h => h) (Or.inl ⟨by rfl, ?ehy9⟩) (by assumption) ?erest9
  case ehy9 =>
    intro u hSu
    obtain ⟨s0, s1, s2⟩ : u.cell? ⟨w.heap.size, 0, none⟩ = some (.string X) ∧ u.cell? ⟨w.heap.size, 1, none⟩ = some (.int .u16 o) ∧ u.cell? ⟨w.heap.size, 2, none⟩ = some (.int .u32 k) := ⟨hSu.cell 0, hSu.cell 1, hSu.cell 2⟩; have s6 := hSu.lt
    go_simp
    try with_reducible rfl
  try simp only [Act.put, List.getElem_toArray, List.getElem_cons_succ, List.getElem_cons_zero, List.setIfInBounds_toArray, List.set_cons_zero, List.set_cons_succ]
  refine wpAnyH_take (i := 10) (v := ?evv10) rfl (by kernel_rfl) (by kernel_rfl) (by kernel_rfl) (fun _ _ _ h => h) (Or.inl ⟨by rfl, ?ehy10⟩) (by assumption) ?erest10
  case ehy10 =>
    intro u hSu
    obtain ⟨s0, s1, s2⟩ : u.cell? ⟨w.heap.size, 0, none⟩ = some (.string X) ∧ u.cell? ⟨w.heap.size, 1, none⟩ = some (.int .u16 o) ∧ u.cell? ⟨w.heap.size, 2, none⟩ = some (.int .u32 k) := ⟨hSu.cell 0, hSu.cell 1, hSu.cell 2⟩; have s6 := hSu.lt
    go_simp
    try with_reducible rfl
  try simp only [Act.put, List.getElem_toArray, List.getElem_cons_succ, List.getElem_cons_zero, List.setIfInBounds_toArray, List.set_cons_zero, List.set_cons_succ]
  refine wpAnyH_take (i := 11) (v := ?evv11) rfl (by kernel_rfl) (by kernel_rfl) (by kernel_rfl) (fun _ _ _ h => h) (Or.inl ⟨by rfl, ?ehy11⟩) (by assumption) ?erest11
  case ehy11 =>
    intro u hSu
    obtain ⟨s0, s1, s2⟩ : u.cell? ⟨w.heap.size, 0, none⟩ = some (.string X) ∧ u.cell? ⟨w.heap.size, 1, none⟩ = some (.int .u16 o) ∧ u.cell? ⟨w.heap.size, 2, none⟩ = some (.int .u32 k) := ⟨hSu.cell 0, hSu.cell 1, hSu.cell 2⟩; have s6 := hSu.lt
    go_simp
    try with_reducible rfl
  try simp only [Act.put, List.getElem_toArray, List.getElem_cons_succ, List.getElem_cons_zero, List.setIfInBounds_toArray, List.set_cons_zero, List.set_cons_succ]
  refine wpAnyH_take (i := 13) (v := ?evv13) rfl (by kernel_rfl) (by kernel_rfl) (by kernel_rfl) (fun _ _ _ h => h) (Or.inl ⟨by rfl, ?ehy13⟩) (by assumption) ?erest13
  case ehy13 =>
    intro u hSu
    obtain ⟨s0, s1, s2⟩ : u.cell? ⟨w.heap.size, 0, none⟩ = some (.string X) ∧ u.cell? ⟨w.heap.size, 1, none⟩ = some (.int .u16 o) ∧ u.cell? ⟨w.heap.size, 2, none⟩ = some (.int .u32 k) := ⟨hSu.cell 0, hSu.cell 1, hSu.cell 2⟩; have s6 := hSu.lt
    go_simp
    try with_reducible rfl
  try simp only [Act.put, List.getElem_toArray, List.getElem_cons_succ, List.getElem_cons_zero, List.setIfInBounds_toArray, List.set_cons_zero, List.set_cons_succ]
  refine wpAnyH_take (i := 14) (v := ?evv14) rfl (by kernel_rfl) (by kernel_rfl) (by kernel_rfl) (fun _ _ _ h => h) (Or.inl ⟨by rfl, ?ehy14⟩) (by assumption) ?erest14
  case ehy14 =>
    intro u hSu
    obtain ⟨s0, s1, s2⟩ : u.cell? ⟨w.heap.size, 0, none⟩ = some (.string X) ∧ u.cell? ⟨w.heap.size, 1, none⟩ = some (.int .u16 o) ∧ u.cell? ⟨w.heap.size, 2, none⟩ = some (.int .u32 k) := ⟨hSu.cell 0, hSu.cell 1, hSu.cell 2⟩; have s6 := hSu.lt
    go_simp
    try with_reducible rfl
  try simp only [Act.put, List.getElem_toArray, List.getElem_cons_succ, List.getElem_cons_zero, List.setIfInBounds_toArray, List.set_cons_zero, List.set_cons_succ]
  refine wpAnyH_ready (rs := [12]) (by kernel_rfl) (by simp) ?_
  refine AllReadyH.cons rfl (fun K hK => ?_) AllReadyH.nil
  go_simp
  refine hK.out _ _ ?ehS12 (fun hHeld => ?erest12)
  case ehS12 => first | exact K2 | exact K1
  clear hK K
  try simp only [Act.put, List.getElem_toArray, List.getElem_cons_succ, List.getElem_cons_zero, List.setIfInBounds_toArray, List.set_cons_zero, List.set_cons_succ]
  refine wpAnyH_take (i := 15) (v := ?evv15) rfl (by kernel_rfl) (by kernel_rfl) (by kernel_rfl) (fun _ _ _ h => h) (Or.inl ⟨by rfl, ?ehy15⟩) (by assumption) ?erest15
  case ehy15 =>
    intro u hSu
    obtain ⟨s0, s1, s2⟩ : u.cell? ⟨w.heap.size, 0, none⟩ = some (.string X) ∧ u.cell? ⟨w.heap.size, 1, none⟩ = some (.int .u16 o) ∧ u.cell? ⟨w.heap.size, 2, none⟩ = some (.int .u32 k) := ⟨hSu.cell 0, hSu.cell 1, hSu.cell 2⟩; have s6 := hSu.lt
    go_simp
    try with_reducible rfl
  try simp only [Act.put, List.getElem_toArray, List.getElem_cons_succ, List.getElem_cons_zero, List.setIfInBounds_toArray, List.set_cons_zero, List.set_cons_succ]
  refine wpAnyH_take (i := 16) (v := ?evv16) rfl (by kernel_rfl) (by kernel_rfl) (by kernel_rfl) (fun _ _ _ h => h) (Or.inl ⟨by rfl, ?ehy16⟩) (by assumption) ?erest16
  case ehy16 =>
    intro u hSu
    obtain ⟨s0, s1, s2⟩ : u.cell? ⟨w.heap.size, 0, none⟩ = some (.string X) ∧ u.cell? ⟨w.heap.size, 1, none⟩ = some (.int .u16 o) ∧ u.cell? ⟨w.heap.size, 2, none⟩ = some (.int .u32 k) := ⟨hSu.cell 0, hSu.cell 1, hSu.cell 2⟩; have s6 := hSu.lt
    go_simp
    try with_reducible rfl
  try simp only [Act.put, List.getElem_toArray, List.getElem_cons_succ, List.getElem_cons_zero, List.setIfInBounds_toArray, List.set_cons_zero, List.set_cons_succ]
  refine wpAnyH_ready (rs := [17]) (by kernel_rfl) (by simp) ?_
  refine AllReadyH.cons rfl (fun K hK => ?_) AllReadyH.nil
  go_simp
  refine hK.out _ _ ?ehS17 (fun hHeld => ?erest17)
  case ehS17 => first | exact K2 | exact K1
  clear hK K
  try simp only [Act.put, List.getElem_toArray, List.getElem_cons_succ, List.getElem_cons_zero, List.setIfInBounds_toArray, List.set_cons_zero, List.set_cons_succ]
  refine wpAnyH_done (by kernel_rfl) ?_ _
  clear hHeld K0 K1 K2 hbd y0 y1 y2 x6 xf1 xf2
  have hsz : ((w4.setCell ⟨p, kk * 3 + 1, none⟩ (.int .u16 o)).setCell ⟨p, kk * 3 + 2, none⟩ (.int .u32 k)).heap.size = w4.heap.size := by simp
  generalize (w4.setCell ⟨p, kk * 3 + 1, none⟩ (.int .u16 o)).setCell ⟨p, kk * 3 + 2, none⟩ (.int .u32 k) = W5 at *
  go_upto_region 12 with fail
  have K0 := HT5.out.belowS ((Below.refl _ _).drew.drew)
  have hy := HY5.out
  have z6 := hy.lt
  have f0 := hy.frozen 0
  have f1 := hy.frozen 1
  have f2 := hy.frozen 2
  obtain ⟨v0, v1, v2, c0, c1, c2⟩ := box3 hy rfl
  have hbd2 : Below (putBd W5 (w.heap.size + 1) FB).heap.size (putBd W5 (w.heap.size + 1) FB) (putBd W5 (w.heap.size + 1) FB).drew.drew := (Below.refl _ _).drew.drew
  have K1 := (putBd_far (b := FB) HT5.out (show p9 ≠ w.heap.size + 1 by have := HP9.out; omega)).belowS hbd2
  have HR := Lib.hid ((putBd_whole (b := FB) hy rfl).belowS hbd2)
  have HX := Lib.hid ((putBd_far (b := FB) HX5.out (show p ≠ w.heap.size + 1 by omega)).belowS hbd2)
  have HF := Lib.hid (putBd_frb (b := FB) HF5.out (show w.heap.size ≤ w.heap.size + 1 by omega)).drew.drew
  clear hy
  refine wp_region_held_drew (S := fun u => Whole u p9 35 (bdC FB)) (by kernel_rfl) K0 (fun hHeld => ?_)
  refine wpAnyH_take (i := 0) (v := ?qvv0) rfl (by kernel_rfl) (by kernel_rfl) (by kernel_rfl) (fun _ _ _ h => h) (Or.inl ⟨by rfl, ?qhy0⟩) (by assumption) ?qrest0
  case qhy0 =>
    intro u hSu
    obtain ⟨s0, s1, s2⟩ := bd_cells hSu; have s6 := hSu.lt
    go_simp
    try with_reducible rfl
  try simp only [Act.put, List.getElem_toArray, List.getElem_cons_succ, List.getElem_cons_zero, List.setIfInBounds_toArray, List.set_cons_zero, List.set_cons_succ]
  refine wpAnyH_take (i := 1) (v := ?qvv1) rfl (by kernel_rfl) (by kernel_rfl) (by kernel_rfl) (fun _ _ _ h => h) (Or.inl ⟨by rfl, ?qhy1⟩) (by assumption) ?qrest1
  case qhy1 =>
    intro u hSu
    obtain ⟨s0, s1, s2⟩ := bd_cells hSu; have s6 := hSu.lt
    go_simp
    try with_reducible rfl
  try simp only [Act.put, List.getElem_toArray, List.getElem_cons_succ, List.getElem_cons_zero, List.setIfInBounds_toArray, List.set_cons_zero, List.set_cons_succ]
  refine wpAnyH_take (i := 2) (v := ?qvv2) rfl (by kernel_rfl) (by kernel_rfl) (by kernel_rfl) (fun _ _ _ h => h) (Or.inl ⟨by rfl, ?qhy2⟩) (by assumption) ?qrest2
  case qhy2 =>
    intro u hSu
    obtain ⟨s0, s1, s2⟩ := bd_cells hSu; have s6 := hSu.lt
    go_simp
    try with_reducible rfl
  try simp only [Act.put, List.getElem_toArray, List.getElem_cons_succ, List.getElem_cons_zero, List.setIfInBounds_toArray, List.set_cons_zero, List.set_cons_succ]
  refine wpAnyH_ready (rs := [3]) (by kernel_rfl) (by simp) ?_
  refine AllReadyH.cons rfl (fun K hK => ?_) AllReadyH.nil
  go_simp
  refine hK.out _ _ ?qhS3 (fun hHeld => ?qrest3)
  case qhS3 => exact K1
  clear hK K
  try simp only [Act.put, List.getElem_toArray, List.getElem_cons_succ, List.getElem_cons_zero, List.setIfInBounds_toArray, List.set_cons_zero, List.set_cons_succ]
  refine wpAnyH_take (i := 4) (v := ?qvv4) rfl (by kernel_rfl) (by kernel_rfl) (by kernel_rfl) (fun _ _ _ h => h) (Or.inl ⟨by rfl, ?qhy4⟩) (by assumption) ?qrest4
  case qhy4 =>
    intro u hSu
    obtain ⟨s0, s1, s2⟩ := bd_cells hSu; have s6 := hSu.lt
    go_simp
    try with_reducible rfl
  try simp only [Act.put, List.getElem_toArray, List.getElem_cons_succ, List.getElem_cons_zero, List.setIfInBounds_toArray, List.set_cons_zero, List.set_cons_succ]
  refine wpAnyH_done (by kernel_rfl) ?_ _
  clear hHeld K0 K1 z6 f0 f1 f2 c0 c1 c2 hbd2
  go_wp2_with fail
  rw [putBd_eq _ (w.heap.size + 1) _ _ _ FB rfl rfl rfl]
  exact bodyPost_ret (v := .tuple #[.int .i64 (kk : Int), bdV FB, .int .i64 0]) (res3P Try.results14 rfl rfl rfl HR.out) rfl ⟨rfl, HX.out, HF.out⟩
theorem turn_any (hW : Whole w p 53 (tC f)) (hok : Ok f) (b : Bd) : Calls Try.prog 14 #[.pointer (some ⟨p, 0, none⟩), bdV b] w fun e u => e = .returned (.tuple #[.int .i64 (turnM f b).g, bdV (turnM f b).b, .int .i64 (turnM f b).e]) ∧ Whole u p 53 (tC (turnM f b).t) ∧ Fr (fun i => i = p) w u := by
  have CF := fun u (h : Whole u p 53 (tC f)) => find_any h hok b.nm
  have CO := fun u (h : Whole u p 53 (tC f)) => hasOwner_any h b.ow
  by_cases h0 : b.ow = 0
  · rw [show turnM f b = ⟨f, 0, b0, 2⟩ from if_pos (Or.inl h0)]
    exact turn_arg0 (by simp [h0]) hW
  by_cases h1 : b.bs = 0
  · rw [show turnM f b = ⟨f, 0, b0, 2⟩ from if_pos (Or.inr h1)]
    exact turn_arg1 (by simp [h0]) (by simp [h1]) hW
  have hne : ¬ (b.ow = 0 ∨ b.bs = 0) := fun h => h.elim h0 h1
  rcases fst8_cases (hasB f b.nm) with ⟨hp, -⟩ | ⟨kk, hkk, hp, hh, -⟩
  · have hpl : place f b.nm = -1 := hp
    rw [show findM f b.nm = ⟨f, 0, b0, 8⟩ by simp only [findM, hpl]; rfl] at CF
    rw [show turnM f b = ⟨f, 0, b0, 8⟩ by unfold turnM; rw [if_neg hne, hpl]; rfl]
    exact turn_none (by simp [h0]) (by simp [h1]) (by rfl) hW CF
  · have hpl : place f b.nm = (kk : Int) := hp
    have hn : ¬ ((kk : Int) < 0) := by omega
    rw [show findM f b.nm = ⟨f, (kk : Int), f kk, 0⟩ by simp only [findM, hpl, if_neg hn, Int.toNat_natCast]] at CF
    cases how : ownB f b.ow
    · rw [show turnM f b = ⟨setT f kk b, (kk : Int), f kk, 0⟩ by unfold turnM; rw [if_neg hne, hpl, if_neg hn, how, if_neg (by decide)]; simp]
      rw [how] at CO
      exact turn_yes hkk (by simp [h0]) (by simp [h1]) rfl (fun u hu => box_set2 hu hkk b (by unfold hasB at hh; simp at hh; exact hh.2.symm)) hW CF CO
    · rw [show turnM f b = ⟨f, 0, b0, 9⟩ by unfold turnM; rw [if_neg hne, hpl, if_neg hn, how, if_pos rfl]]
      rw [how] at CO
      exact turn_there (by simp [h0]) (by simp [h1]) rfl hW CF CO
end
end Go.Proofs.Ytigalcmhongleaa.GK
