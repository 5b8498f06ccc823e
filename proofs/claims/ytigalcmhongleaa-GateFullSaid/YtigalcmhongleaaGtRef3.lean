/-
  The reference of layer 18: Turn, Close, Open. Nothing here is a statement of the seed.
-/
import Derived.Test.YtigalcmhongleaaGtRes
set_option linter.unusedSimpArgs false
set_option linter.unusedVariables false
namespace Go.Proofs.Ytigalcmhongleaa.GF
open Go.RowKit WM NR OM OR GA
set_option maxHeartbeats 4000000
set_option maxRecDepth 10000
/-- the boxes on the way of Turn: the table, the bind, the table told, the bind told -/
structure QJ (w : World) (f : Tb) (b : Bd) (u : World) : Prop where
  X : Whole u w.heap.size 32 (tC f)
  N : Whole u (w.heap.size + 1) 29 (bdC b)
  Y : Whole u (w.heap.size + 1 + 1) 32 tZ
  Z : Whole u (w.heap.size + 1 + 1 + 1) 29 #[.string ⟨#[]⟩, .int .u16 0, .int .u32 0]
  B : Below w.heap.size w u
theorem QJ.belowS {w u u' : World} {f : Tb} {b : Bd} (h : QJ w f b u) (hb : Below u.heap.size u u') : QJ w f b u' := ⟨h.X.belowS hb, h.N.belowS hb, h.Y.belowS hb, h.Z.belowS hb, h.B.trans (hb.mono h.B.size)⟩
theorem QJ.new (w : World) (f : Tb) (b : Bd) : QJ w f b ((((w.alloc (.cells (tC f) 32)).alloc (.cells (bdC b) 29)).alloc (.cells tZ 32)).alloc (.cells #[.string ⟨#[]⟩, .int .u16 0, .int .u32 0] 29)) := by
  have b1 := below_new w (.cells (tC f) 32)
  have b2 := below_new (w.alloc (.cells (tC f) 32)) (.cells (bdC b) 29)
  have b3 := below_new ((w.alloc (.cells (tC f) 32)).alloc (.cells (bdC b) 29)) (.cells tZ 32)
  have b4 := below_new (((w.alloc (.cells (tC f) 32)).alloc (.cells (bdC b) 29)).alloc (.cells tZ 32)) (.cells #[.string ⟨#[]⟩, .int .u16 0, .int .u32 0] 29)
  have n2 := Whole.new (w.alloc (.cells (tC f) 32)) 29 (bdC b)
  have n3 := Whole.new ((w.alloc (.cells (tC f) 32)).alloc (.cells (bdC b) 29)) 32 tZ
  have n4 := Whole.new (((w.alloc (.cells (tC f) 32)).alloc (.cells (bdC b) 29)).alloc (.cells tZ 32)) 29 #[.string ⟨#[]⟩, .int .u16 0, .int .u32 0]
  rw [show (w.alloc (.cells (tC f) 32)).heap.size = w.heap.size + 1 by simp] at n2
  rw [show ((w.alloc (.cells (tC f) 32)).alloc (.cells (bdC b) 29)).heap.size = w.heap.size + 1 + 1 by simp] at n3
  rw [show (((w.alloc (.cells (tC f) 32)).alloc (.cells (bdC b) 29)).alloc (.cells tZ 32)).heap.size = w.heap.size + 1 + 1 + 1 by simp] at n4
  exact ⟨(((Whole.new w 32 (tC f)).belowS b2).belowS b3).belowS b4, (n2.belowS b3).belowS b4, n3.belowS b4, n4, ((b1.trans (b2.mono b1.size)).trans (b3.mono (b1.trans (b2.mono b1.size)).size)).trans (b4.mono ((b1.trans (b2.mono b1.size)).trans (b3.mono (b1.trans (b2.mono b1.size)).size)).size)⟩
section
variable {w : World} {f : Tb}
/-- the end of each way that leaves the table as it was -/
theorem turn_no {b : Bd} {u : World} (h : QJ w f b u) : QJ w f b u ∧ Whole (putBd (putT u (w.heap.size + 1 + 1) f) (w.heap.size + 1 + 1 + 1) b0) (w.heap.size + 1 + 1) 32 (tC f) ∧ Whole (putBd (putT u (w.heap.size + 1 + 1) f) (w.heap.size + 1 + 1 + 1) b0) (w.heap.size + 1 + 1 + 1) 29 (bdC b0) ∧ Below w.heap.size w (putBd (putT u (w.heap.size + 1 + 1) f) (w.heap.size + 1 + 1 + 1) b0) ∧ Whole (putT u (w.heap.size + 1 + 1) f) (w.heap.size + 1 + 1 + 1) 29 #[.string ⟨#[]⟩, .int .u16 0, .int .u32 0] :=
  ⟨h, putBd_far (putT_whole h.Y rfl f) (by omega), putBd_whole (putT_far h.Z (by omega) f) rfl, putBd_below (putT_below h.B h.B.size (by omega) f) (by omega), putT_far h.Z (by omega) f⟩
theorem turn_arg0 (b : Bd) (h : b.ow = 0) : Calls Try.prog 19 #[tV f, bdV b] w fun e u => e = .returned (.tuple #[tV f, .int .i64 0, bdV b0, .int .i64 2]) ∧ Below w.heap.size w u := by
  have CP := Lib.hid (fun u => refPlace_any (w := u) (f := f) b.nm)
  have CO := Lib.hid (fun u => refOwned_any (w := u) (f := f) b.ow)
  have J0 := Lib.hid (QJ.new w f b)
  obtain ⟨nm, o, k⟩ := b
  have hh : (o == 0) = true := by simpa using h
  simp only at CP CO
  have HN := Lib.hid (fun u (h : QJ w f ⟨nm, o, k⟩ u) => turn_no h)
  show Calls _ _ #[tV f, .agg #[.string (bs nm), .int .u16 o, .int .u32 k]] w _
  obtain ⟨X, hX⟩ : ∃ X, X = bs nm := ⟨_, rfl⟩
  rw [← hX] at CP ⊢
  have HXX := Lib.hid hX
  have hc : bdC ⟨nm, o, k⟩ = #[.string X, .int .u16 o, .int .u32 k] := by rw [hX]
  have HC := Lib.hid hc
  clear hX hc
  go_enter Try.func19, Try.ntmps19
  go_upto_region 1 with fail
  have J0 : Hid (QJ w f ⟨nm, o, k⟩ ((((w.alloc (.cells (tC f) 32)).alloc (.cells #[.string X, .int .u16 o, .int .u32 k] 29)).alloc (.cells tZ 32)).alloc (.cells #[.string ⟨#[]⟩, .int .u16 0, .int .u32 0] 29))) := Lib.hid (by have := J0.out; rw [HC.out] at this; exact this)
  generalize (((w.alloc (.cells (tC f) 32)).alloc (.cells #[.string X, .int .u16 o, .int .u32 k] 29)).alloc (.cells tZ 32)).alloc (.cells #[.string ⟨#[]⟩, .int .u16 0, .int .u32 0] 29) = W at *
  have hn := J0.out.N
  rw [HC.out] at hn
  obtain ⟨n0, n1, n2⟩ : W.cell? ⟨w.heap.size + 1, 0, none⟩ = some (.string X) ∧ W.cell? ⟨w.heap.size + 1, 1, none⟩ = some (.int .u16 o) ∧ W.cell? ⟨w.heap.size + 1, 2, none⟩ = some (.int .u32 k) := ⟨hn.cell 0, hn.cell 1, hn.cell 2⟩
  have n6 := hn.lt
  clear hn
  have KN : Hid (∀ u, QJ w f ⟨nm, o, k⟩ u → u.cell? ⟨w.heap.size + 1, 0, none⟩ = some (.string X) ∧ u.cell? ⟨w.heap.size + 1, 1, none⟩ = some (.int .u16 o) ∧ u.cell? ⟨w.heap.size + 1, 2, none⟩ = some (.int .u32 k) ∧ w.heap.size + 1 < u.heap.size) := Lib.hid (fun u h => by have hn := h.N; rw [HC.out] at hn; exact ⟨hn.cell 0, hn.cell 1, hn.cell 2, hn.lt⟩)
  go_upto_region 2 with (first | (refine wl_T rfl (.tmp 2) rfl rfl J0.out.X ?_) | (go_at_call 30; (with_reducible refine (CP.out _).mono ?_); rintro e w1 ⟨rfl, hB⟩; have J1 := Lib.hid (J0.out.belowS hB); clear hB))
  clear n0 n1 n2 n6
  obtain ⟨n0, n1, n2, n6⟩ := KN.out _ J1.out
  obtain ⟨_, hY, hZ, hBB, hM⟩ := HN.out _ J1.out
  have HYY := Lib.hid J1.out.Y
  have HXW := Lib.hid J1.out.X
  have z6 := hM.lt
  have f0 := hM.frozen 0
  have f1 := hM.frozen 1
  have f2 := hM.frozen 2
  obtain ⟨v0, v1, v2, c0, c1, c2⟩ := box3 hM rfl
  have HYF := Lib.hid hY
  have HZF := Lib.hid hZ
  have HBB := Lib.hid hBB
  clear hY hZ hBB hM HN CP CO J0 HC KN
  go_upto_region 3 with fail
  go_wp2_with (first | (refine wl_T rfl (.tmp 2) rfl rfl HXW.out ?_) | (refine wst_T rfl (.tmp 4) (.tmp 23) rfl rfl rfl rfl HYY.out rfl ?_; generalize putT w1 (w.heap.size + 1 + 1) f = W2 at *))
  rw [putBd_eq _ (w.heap.size + 1 + 1 + 1) ⟨#[]⟩ 0 0 b0 rfl rfl rfl]
  exact bodyPost_ret (v := .tuple #[tV f, .int .i64 0, bdV b0, .int .i64 2]) (res4 Try.results19 rfl rfl rfl rfl HYF.out HZF.out) rfl ⟨rfl, HBB.out⟩
theorem turn_arg1 (b : Bd) (h : b.ow ≠ 0) (h2 : b.bs = 0) : Calls Try.prog 19 #[tV f, bdV b] w fun e u => e = .returned (.tuple #[tV f, .int .i64 0, bdV b0, .int .i64 2]) ∧ Below w.heap.size w u := by
  have CP := Lib.hid (fun u => refPlace_any (w := u) (f := f) b.nm)
  have CO := Lib.hid (fun u => refOwned_any (w := u) (f := f) b.ow)
  have J0 := Lib.hid (QJ.new w f b)
  obtain ⟨nm, o, k⟩ := b
  have hh : (o == 0) = false := by simpa using h
  have hk : (k == 0) = true := by simpa using h2
  simp only at CP CO
  have HN := Lib.hid (fun u (h : QJ w f ⟨nm, o, k⟩ u) => turn_no h)
  show Calls _ _ #[tV f, .agg #[.string (bs nm), .int .u16 o, .int .u32 k]] w _
  obtain ⟨X, hX⟩ : ∃ X, X = bs nm := ⟨_, rfl⟩
  rw [← hX] at CP ⊢
  have HXX := Lib.hid hX
  have hc : bdC ⟨nm, o, k⟩ = #[.string X, .int .u16 o, .int .u32 k] := by rw [hX]
  have HC := Lib.hid hc
  clear hX hc
  go_enter Try.func19, Try.ntmps19
  go_upto_region 1 with fail
  have J0 : Hid (QJ w f ⟨nm, o, k⟩ ((((w.alloc (.cells (tC f) 32)).alloc (.cells #[.string X, .int .u16 o, .int .u32 k] 29)).alloc (.cells tZ 32)).alloc (.cells #[.string ⟨#[]⟩, .int .u16 0, .int .u32 0] 29))) := Lib.hid (by have := J0.out; rw [HC.out] at this; exact this)
  generalize (((w.alloc (.cells (tC f) 32)).alloc (.cells #[.string X, .int .u16 o, .int .u32 k] 29)).alloc (.cells tZ 32)).alloc (.cells #[.string ⟨#[]⟩, .int .u16 0, .int .u32 0] 29) = W at *
  have hn := J0.out.N
  rw [HC.out] at hn
  obtain ⟨n0, n1, n2⟩ : W.cell? ⟨w.heap.size + 1, 0, none⟩ = some (.string X) ∧ W.cell? ⟨w.heap.size + 1, 1, none⟩ = some (.int .u16 o) ∧ W.cell? ⟨w.heap.size + 1, 2, none⟩ = some (.int .u32 k) := ⟨hn.cell 0, hn.cell 1, hn.cell 2⟩
  have n6 := hn.lt
  clear hn
  have KN : Hid (∀ u, QJ w f ⟨nm, o, k⟩ u → u.cell? ⟨w.heap.size + 1, 0, none⟩ = some (.string X) ∧ u.cell? ⟨w.heap.size + 1, 1, none⟩ = some (.int .u16 o) ∧ u.cell? ⟨w.heap.size + 1, 2, none⟩ = some (.int .u32 k) ∧ w.heap.size + 1 < u.heap.size) := Lib.hid (fun u h => by have hn := h.N; rw [HC.out] at hn; exact ⟨hn.cell 0, hn.cell 1, hn.cell 2, hn.lt⟩)
  go_upto_region 2 with (first | (refine wl_T rfl (.tmp 2) rfl rfl J0.out.X ?_) | (go_at_call 30; (with_reducible refine (CP.out _).mono ?_); rintro e w1 ⟨rfl, hB⟩; have J1 := Lib.hid (J0.out.belowS hB); clear hB))
  clear n0 n1 n2 n6
  obtain ⟨n0, n1, n2, n6⟩ := KN.out _ J1.out
  obtain ⟨_, hY, hZ, hBB, hM⟩ := HN.out _ J1.out
  have HYY := Lib.hid J1.out.Y
  have HXW := Lib.hid J1.out.X
  have z6 := hM.lt
  have f0 := hM.frozen 0
  have f1 := hM.frozen 1
  have f2 := hM.frozen 2
  obtain ⟨v0, v1, v2, c0, c1, c2⟩ := box3 hM rfl
  have HYF := Lib.hid hY
  have HZF := Lib.hid hZ
  have HBB := Lib.hid hBB
  clear hY hZ hBB hM HN CP CO J0 HC KN
  go_upto_region 3 with fail
  go_wp2_with (first | (refine wl_T rfl (.tmp 2) rfl rfl HXW.out ?_) | (refine wst_T rfl (.tmp 4) (.tmp 23) rfl rfl rfl rfl HYY.out rfl ?_; generalize putT w1 (w.heap.size + 1 + 1) f = W2 at *))
  rw [putBd_eq _ (w.heap.size + 1 + 1 + 1) ⟨#[]⟩ 0 0 b0 rfl rfl rfl]
  exact bodyPost_ret (v := .tuple #[tV f, .int .i64 0, bdV b0, .int .i64 2]) (res4 Try.results19 rfl rfl rfl rfl HYF.out HZF.out) rfl ⟨rfl, HBB.out⟩
theorem turn_none (b : Bd) (h : b.ow ≠ 0) (h2 : b.bs ≠ 0) (hpl : place f b.nm = -1) : Calls Try.prog 19 #[tV f, bdV b] w fun e u => e = .returned (.tuple #[tV f, .int .i64 0, bdV b0, .int .i64 8]) ∧ Below w.heap.size w u := by
  have CP := Lib.hid (fun u => refPlace_any (w := u) (f := f) b.nm)
  have CO := Lib.hid (fun u => refOwned_any (w := u) (f := f) b.ow)
  have J0 := Lib.hid (QJ.new w f b)
  obtain ⟨nm, o, k⟩ := b
  simp only at hpl CP
  rw [hpl] at CP
  have hd1 : decide ((-1 : Int) < 0) = true := by decide
  have hh : (o == 0) = false := by simpa using h
  have hk0 : (k == 0) = false := by simpa using h2
  try simp only at CO
  have HN := Lib.hid (fun u (h : QJ w f ⟨nm, o, k⟩ u) => turn_no h)
  show Calls _ _ #[tV f, .agg #[.string (bs nm), .int .u16 o, .int .u32 k]] w _
  obtain ⟨X, hX⟩ : ∃ X, X = bs nm := ⟨_, rfl⟩
  rw [← hX] at CP ⊢
  have HXX := Lib.hid hX
  have hc : bdC ⟨nm, o, k⟩ = #[.string X, .int .u16 o, .int .u32 k] := by rw [hX]
  have HC := Lib.hid hc
  clear hX hc
  go_enter Try.func19, Try.ntmps19
  go_upto_region 1 with fail
  have J0 : Hid (QJ w f ⟨nm, o, k⟩ ((((w.alloc (.cells (tC f) 32)).alloc (.cells #[.string X, .int .u16 o, .int .u32 k] 29)).alloc (.cells tZ 32)).alloc (.cells #[.string ⟨#[]⟩, .int .u16 0, .int .u32 0] 29))) := Lib.hid (by have := J0.out; rw [HC.out] at this; exact this)
  generalize (((w.alloc (.cells (tC f) 32)).alloc (.cells #[.string X, .int .u16 o, .int .u32 k] 29)).alloc (.cells tZ 32)).alloc (.cells #[.string ⟨#[]⟩, .int .u16 0, .int .u32 0] 29) = W at *
  have hn := J0.out.N
  rw [HC.out] at hn
  obtain ⟨n0, n1, n2⟩ : W.cell? ⟨w.heap.size + 1, 0, none⟩ = some (.string X) ∧ W.cell? ⟨w.heap.size + 1, 1, none⟩ = some (.int .u16 o) ∧ W.cell? ⟨w.heap.size + 1, 2, none⟩ = some (.int .u32 k) := ⟨hn.cell 0, hn.cell 1, hn.cell 2⟩
  have n6 := hn.lt
  clear hn
  have KN : Hid (∀ u, QJ w f ⟨nm, o, k⟩ u → u.cell? ⟨w.heap.size + 1, 0, none⟩ = some (.string X) ∧ u.cell? ⟨w.heap.size + 1, 1, none⟩ = some (.int .u16 o) ∧ u.cell? ⟨w.heap.size + 1, 2, none⟩ = some (.int .u32 k) ∧ w.heap.size + 1 < u.heap.size) := Lib.hid (fun u h => by have hn := h.N; rw [HC.out] at hn; exact ⟨hn.cell 0, hn.cell 1, hn.cell 2, hn.lt⟩)
  go_upto_region 2 with (first | (refine wl_T rfl (.tmp 2) rfl rfl J0.out.X ?_) | (go_at_call 30; (with_reducible refine (CP.out _).mono ?_); rintro e w1 ⟨rfl, hB⟩; have J1 := Lib.hid (J0.out.belowS hB); clear hB))
  clear n0 n1 n2 n6
  obtain ⟨n0, n1, n2, n6⟩ := KN.out _ J1.out
  obtain ⟨_, hY, hZ, hBB, hM⟩ := HN.out _ J1.out
  have HYY := Lib.hid J1.out.Y
  have HXW := Lib.hid J1.out.X
  have z6 := hM.lt
  have f0 := hM.frozen 0
  have f1 := hM.frozen 1
  have f2 := hM.frozen 2
  obtain ⟨v0, v1, v2, c0, c1, c2⟩ := box3 hM rfl
  have HYF := Lib.hid hY
  have HZF := Lib.hid hZ
  have HBB := Lib.hid hBB
  clear hY hZ hBB hM HN CP CO J0 HC KN
  go_upto_region 5 with fail
  go_wp2_with (first | (refine wl_T rfl (.tmp 2) rfl rfl HXW.out ?_) | (refine wst_T rfl (.tmp 4) (.tmp 28) rfl rfl rfl rfl HYY.out rfl ?_; generalize putT w1 (w.heap.size + 1 + 1) f = W2 at *))
  rw [putBd_eq _ (w.heap.size + 1 + 1 + 1) ⟨#[]⟩ 0 0 b0 rfl rfl rfl]
  exact bodyPost_ret (v := .tuple #[tV f, .int .i64 0, bdV b0, .int .i64 8]) (res4 Try.results19 rfl rfl rfl rfl HYF.out HZF.out) rfl ⟨rfl, HBB.out⟩
theorem turn_there (b : Bd) (h : b.ow ≠ 0) (h2 : b.bs ≠ 0) {kk : Nat} (hpl : place f b.nm = (kk : Nat)) (how : ownB f b.ow = true) : Calls Try.prog 19 #[tV f, bdV b] w fun e u => e = .returned (.tuple #[tV f, .int .i64 0, bdV b0, .int .i64 9]) ∧ Below w.heap.size w u := by
  have CP := Lib.hid (fun u => refPlace_any (w := u) (f := f) b.nm)
  have CO := Lib.hid (fun u => refOwned_any (w := u) (f := f) b.ow)
  have J0 := Lib.hid (QJ.new w f b)
  obtain ⟨nm, o, k⟩ := b
  simp only at hpl how CP CO
  rw [hpl] at CP
  rw [how] at CO
  have hd1 : decide ((kk : Int) < 0) = false := decide_eq_false (by omega)
  have hh : (o == 0) = false := by simpa using h
  have hk0 : (k == 0) = false := by simpa using h2
  have HN := Lib.hid (fun u (h : QJ w f ⟨nm, o, k⟩ u) => turn_no h)
  show Calls _ _ #[tV f, .agg #[.string (bs nm), .int .u16 o, .int .u32 k]] w _
  obtain ⟨X, hX⟩ : ∃ X, X = bs nm := ⟨_, rfl⟩
  rw [← hX] at CP ⊢
  have HXX := Lib.hid hX
  have hc : bdC ⟨nm, o, k⟩ = #[.string X, .int .u16 o, .int .u32 k] := by rw [hX]
  have HC := Lib.hid hc
  clear hX hc
  go_enter Try.func19, Try.ntmps19
  go_upto_region 1 with fail
  have J0 : Hid (QJ w f ⟨nm, o, k⟩ ((((w.alloc (.cells (tC f) 32)).alloc (.cells #[.string X, .int .u16 o, .int .u32 k] 29)).alloc (.cells tZ 32)).alloc (.cells #[.string ⟨#[]⟩, .int .u16 0, .int .u32 0] 29))) := Lib.hid (by have := J0.out; rw [HC.out] at this; exact this)
  generalize (((w.alloc (.cells (tC f) 32)).alloc (.cells #[.string X, .int .u16 o, .int .u32 k] 29)).alloc (.cells tZ 32)).alloc (.cells #[.string ⟨#[]⟩, .int .u16 0, .int .u32 0] 29) = W at *
  have hn := J0.out.N
  rw [HC.out] at hn
  obtain ⟨n0, n1, n2⟩ : W.cell? ⟨w.heap.size + 1, 0, none⟩ = some (.string X) ∧ W.cell? ⟨w.heap.size + 1, 1, none⟩ = some (.int .u16 o) ∧ W.cell? ⟨w.heap.size + 1, 2, none⟩ = some (.int .u32 k) := ⟨hn.cell 0, hn.cell 1, hn.cell 2⟩
  have n6 := hn.lt
  clear hn
  have KN : Hid (∀ u, QJ w f ⟨nm, o, k⟩ u → u.cell? ⟨w.heap.size + 1, 0, none⟩ = some (.string X) ∧ u.cell? ⟨w.heap.size + 1, 1, none⟩ = some (.int .u16 o) ∧ u.cell? ⟨w.heap.size + 1, 2, none⟩ = some (.int .u32 k) ∧ w.heap.size + 1 < u.heap.size) := Lib.hid (fun u h => by have hn := h.N; rw [HC.out] at hn; exact ⟨hn.cell 0, hn.cell 1, hn.cell 2, hn.lt⟩)
  go_upto_region 2 with (first | (refine wl_T rfl (.tmp 2) rfl rfl J0.out.X ?_) | (go_at_call 30; (with_reducible refine (CP.out _).mono ?_); rintro e w1 ⟨rfl, hB⟩; have J1 := Lib.hid (J0.out.belowS hB); clear hB))
  clear n0 n1 n2 n6
  obtain ⟨n0, n1, n2, n6⟩ := KN.out _ J1.out
  clear n0 n1 n2 n6
  obtain ⟨n0, n1, n2, n6⟩ := KN.out _ J1.out
  go_upto_region 7 with (first | (refine wl_T rfl (.tmp 2) rfl rfl J1.out.X ?_) | (go_at_call 31; (with_reducible refine (CO.out _).mono ?_); rintro e w2 ⟨rfl, hB⟩; have J2 := Lib.hid (J1.out.belowS hB); clear hB))
  obtain ⟨_, hY, hZ, hBB, hM⟩ := HN.out _ J2.out
  have HYY := Lib.hid J2.out.Y
  have HXW := Lib.hid J2.out.X
  have z6 := hM.lt
  have f0 := hM.frozen 0
  have f1 := hM.frozen 1
  have f2 := hM.frozen 2
  obtain ⟨v0, v1, v2, c0, c1, c2⟩ := box3 hM rfl
  have HYF := Lib.hid hY
  have HZF := Lib.hid hZ
  have HBB := Lib.hid hBB
  clear hY hZ hBB hM HN CP CO J0 HC KN
  go_wp2_with (first | (refine wl_T rfl (.tmp 2) rfl rfl HXW.out ?_) | (refine wst_T rfl (.tmp 4) (.tmp 35) rfl rfl rfl rfl HYY.out rfl ?_; generalize putT w2 (w.heap.size + 1 + 1) f = W2 at *))
  rw [putBd_eq _ (w.heap.size + 1 + 1 + 1) ⟨#[]⟩ 0 0 b0 rfl rfl rfl]
  exact bodyPost_ret (v := .tuple #[tV f, .int .i64 0, bdV b0, .int .i64 9]) (res4 Try.results19 rfl rfl rfl rfl HYF.out HZF.out) rfl ⟨rfl, HBB.out⟩
theorem turn_yes (b : Bd) (h : b.ow ≠ 0) (h2 : b.bs ≠ 0) {kk : Nat} (hkk : kk < 8) (hpl : place f b.nm = (kk : Nat)) (how : ownB f b.ow = false) : Calls Try.prog 19 #[tV f, bdV b] w fun e u => e = .returned (.tuple #[tV (setT f kk b), .int .i64 (kk : Int), bdV (f kk), .int .i64 0]) ∧ Below w.heap.size w u := by
  have CP := Lib.hid (fun u => refPlace_any (w := u) (f := f) b.nm)
  have CO := Lib.hid (fun u => refOwned_any (w := u) (f := f) b.ow)
  have J0 := Lib.hid (QJ.new w f b)
  obtain ⟨nm, o, k⟩ := b
  obtain ⟨FB, hFB⟩ : ∃ q, q = f kk := ⟨_, rfl⟩
  rw [← hFB]
  have HFB := Lib.hid hFB
  clear hFB
  obtain ⟨F, hF⟩ : ∃ q, q = setT f kk ⟨nm, o, k⟩ := ⟨_, rfl⟩
  rw [← hF]
  have HF := Lib.hid hF
  clear hF
  simp only at hpl how CP CO
  rw [hpl] at CP
  rw [how] at CO
  have hd1 : decide ((kk : Int) < 0) = false := decide_eq_false (by omega)
  have hh : (o == 0) = false := by simpa using h
  have hk0 : (k == 0) = false := by simpa using h2
  have HN := Lib.hid (fun u (h : QJ w f ⟨nm, o, k⟩ u) => turn_no h)
  show Calls _ _ #[tV f, .agg #[.string (bs nm), .int .u16 o, .int .u32 k]] w _
  obtain ⟨X, hX⟩ : ∃ X, X = bs nm := ⟨_, rfl⟩
  rw [← hX] at CP ⊢
  have HXX := Lib.hid hX
  have hc : bdC ⟨nm, o, k⟩ = #[.string X, .int .u16 o, .int .u32 k] := by rw [hX]
  have HC := Lib.hid hc
  clear hX hc
  go_enter Try.func19, Try.ntmps19
  go_upto_region 1 with fail
  have J0 : Hid (QJ w f ⟨nm, o, k⟩ ((((w.alloc (.cells (tC f) 32)).alloc (.cells #[.string X, .int .u16 o, .int .u32 k] 29)).alloc (.cells tZ 32)).alloc (.cells #[.string ⟨#[]⟩, .int .u16 0, .int .u32 0] 29))) := Lib.hid (by have := J0.out; rw [HC.out] at this; exact this)
  generalize (((w.alloc (.cells (tC f) 32)).alloc (.cells #[.string X, .int .u16 o, .int .u32 k] 29)).alloc (.cells tZ 32)).alloc (.cells #[.string ⟨#[]⟩, .int .u16 0, .int .u32 0] 29) = W at *
  have hn := J0.out.N
  rw [HC.out] at hn
  obtain ⟨n0, n1, n2⟩ : W.cell? ⟨w.heap.size + 1, 0, none⟩ = some (.string X) ∧ W.cell? ⟨w.heap.size + 1, 1, none⟩ = some (.int .u16 o) ∧ W.cell? ⟨w.heap.size + 1, 2, none⟩ = some (.int .u32 k) := ⟨hn.cell 0, hn.cell 1, hn.cell 2⟩
  have n6 := hn.lt
  clear hn
  have KN : Hid (∀ u, QJ w f ⟨nm, o, k⟩ u → u.cell? ⟨w.heap.size + 1, 0, none⟩ = some (.string X) ∧ u.cell? ⟨w.heap.size + 1, 1, none⟩ = some (.int .u16 o) ∧ u.cell? ⟨w.heap.size + 1, 2, none⟩ = some (.int .u32 k) ∧ w.heap.size + 1 < u.heap.size) := Lib.hid (fun u h => by have hn := h.N; rw [HC.out] at hn; exact ⟨hn.cell 0, hn.cell 1, hn.cell 2, hn.lt⟩)
  go_upto_region 2 with (first | (refine wl_T rfl (.tmp 2) rfl rfl J0.out.X ?_) | (go_at_call 30; (with_reducible refine (CP.out _).mono ?_); rintro e w1 ⟨rfl, hB⟩; have J1 := Lib.hid (J0.out.belowS hB); clear hB))
  clear n0 n1 n2 n6
  obtain ⟨n0, n1, n2, n6⟩ := KN.out _ J1.out
  clear n0 n1 n2 n6
  obtain ⟨n0, n1, n2, n6⟩ := KN.out _ J1.out
  go_upto_region 8 with (first | (refine wl_T rfl (.tmp 2) rfl rfl J1.out.X ?_) | (go_at_call 31; (with_reducible refine (CO.out _).mono ?_); rintro e w2 ⟨rfl, hB⟩; have J2 := Lib.hid (J1.out.belowS hB); clear hB))
  clear n0 n1 n2 n6
  obtain ⟨n0, n1, n2, n6⟩ := KN.out _ J2.out
  have kk8 : (kk : Int) < 8 := by omega
  obtain ⟨y0, y1, y2⟩ := box_at J2.out.X hkk
  have x6 := J2.out.X.lt
  rw [← HFB.out] at y0 y1 y2
  clear CP CO HN J0 J1
  go_upto_region 9 with fail
  have b9 := below_new w2 (.cells (bdC FB) 29)
  have J3 := Lib.hid (J2.out.belowS b9)
  have T9 := Lib.hid (Whole.new w2 29 (bdC FB))
  have HP9 := Lib.hid (show w.heap.size + 1 + 1 + 1 < w2.heap.size from J2.out.Z.lt)
  clear n0 n1 n2 n6 y0 y1 y2 x6 b9
  generalize w2.alloc (.cells #[.string (bs FB.nm), .int .u16 FB.ow, .int .u32 FB.bs] 29) = W3 at *
  generalize w2.heap.size = p9 at *
  obtain ⟨n0, n1, n2, n6⟩ := KN.out _ J3.out
  obtain ⟨y0, y1, y2⟩ := box_at J3.out.X hkk
  have x6 := J3.out.X.lt
  have xf0 := J3.out.X.frozen (kk * 3)
  have xf1 := J3.out.X.frozen (kk * 3 + 1)
  have xf2 := J3.out.X.frozen (kk * 3 + 2)
  have HX4 := Lib.hid (box_set J3.out.X hkk ⟨nm, o, k⟩)
  simp only at HX4
  rw [← HXX.out, ← HF.out] at HX4
  have far : ∀ q (t : TypeId) (cs : Array Value), w.heap.size ≠ q → Whole W3 q t cs → Whole (((W3.setCell ⟨w.heap.size, kk * 3, none⟩ (.string X)).setCell ⟨w.heap.size, kk * 3 + 1, none⟩ (.int .u16 o)).setCell ⟨w.heap.size, kk * 3 + 2, none⟩ (.int .u32 k)) q t cs := fun q t cs hq hw => ((hw.far (p := ⟨w.heap.size, kk * 3, none⟩) (Ne.symm hq) _).far (p := ⟨w.heap.size, kk * 3 + 1, none⟩) (Ne.symm hq) _).far (p := ⟨w.heap.size, kk * 3 + 2, none⟩) (Ne.symm hq) _
  have HY4 := Lib.hid (far _ _ _ (by omega) J3.out.Y)
  have HZ4 := Lib.hid (far _ _ _ (by omega) J3.out.Z)
  have HT4 := Lib.hid (far _ _ _ (by have := HP9.out; omega) T9.out)
  have HB4 := Lib.hid (((J3.out.B.setCell (p := ⟨w.heap.size, kk * 3, none⟩) (Nat.le_refl _) (.string X)).setCell (p := ⟨w.heap.size, kk * 3 + 1, none⟩) (Nat.le_refl _) (.int .u16 o)).setCell (p := ⟨w.heap.size, kk * 3 + 2, none⟩) (Nat.le_refl _) (.int .u32 k))
  clear far T9 J3 J2 KN HC
  go_upto_region 10 with fail
  clear n0 n1 n2 n6 y0 y1 y2 x6 xf0 xf1 xf2
  generalize ((W3.setCell ⟨w.heap.size, kk * 3, none⟩ (.string X)).setCell ⟨w.heap.size, kk * 3 + 1, none⟩ (.int .u16 o)).setCell ⟨w.heap.size, kk * 3 + 2, none⟩ (.int .u32 k) = W4 at *
  have hbd : Below W4.heap.size W4 W4.drew := (Below.refl _ _).drew
  have K0 := And.intro (HX4.out.belowS hbd) (HT4.out.belowS hbd)
  have hyd := HY4.out.belowS hbd
  have hzd := HZ4.out.belowS hbd
  have HYD := Lib.hid hyd
  have K1 := And.intro (putT_far (f := F) K0.1 (show w.heap.size ≠ w.heap.size + 1 + 1 by omega)) (putT_far (f := F) K0.2 (show p9 ≠ w.heap.size + 1 + 1 by have := HP9.out; omega))
  have hz5 := putT_far (f := F) hzd (show w.heap.size + 1 + 1 + 1 ≠ w.heap.size + 1 + 1 by omega)
  have hy5 := putT_whole hyd rfl F
  have hb5 := putT_below HB4.out.drew (by have := HB4.out.size; exact this) (show w.heap.size ≤ w.heap.size + 1 + 1 by omega) F
  have HS5 := Lib.hid hz5
  have HY6 := Lib.hid (putBd_far (b := FB) hy5 (show w.heap.size + 1 + 1 ≠ w.heap.size + 1 + 1 + 1 by omega))
  have HZ6 := Lib.hid (putBd_whole (b := FB) hz5 rfl)
  have HB6 := Lib.hid (putBd_below (b := FB) hb5 (show w.heap.size ≤ w.heap.size + 1 + 1 + 1 by omega))
  have K6 := And.intro (putBd_far (b := FB) K1.1 (show w.heap.size ≠ w.heap.size + 1 + 1 + 1 by omega)) (putBd_far (b := FB) K1.2 (show p9 ≠ w.heap.size + 1 + 1 + 1 by have := HP9.out; omega))
  have z6 := hz5.lt
  have f0 := hz5.frozen 0
  have f1 := hz5.frozen 1
  have f2 := hz5.frozen 2
  obtain ⟨v0, v1, v2, c0, c1, c2⟩ := box3 hz5 rfl
  clear hyd hzd hz5 hy5 hb5 hbd
  refine wp_region_held_drew (S := fun u => Whole u w.heap.size 32 (tC F) ∧ Whole u p9 29 (bdC FB)) (by kernel_rfl) K0 (fun hHeld => ?_)
  refine wpAnyH_take (i := 0) (v := _) rfl (by kernel_rfl) (by kernel_rfl) (by kernel_rfl) (fun _ _ _ h => h) ((yl_T rfl (.tmp 2) rfl rfl (fun u h => h.1))) (by assumption) ?yyrest0
  try simp only [Act.put, List.getElem_toArray, List.getElem_cons_succ, List.getElem_cons_zero, List.setIfInBounds_toArray, List.set_cons_zero, List.set_cons_succ]
  refine wpAnyH_take (i := 1) (v := ?yyvv1) rfl (by kernel_rfl) (by kernel_rfl) (by kernel_rfl) (fun _ _ _ h => h) (Or.inl ⟨by rfl, ?yyhy1⟩) (by assumption) ?yyrest1
  case yyhy1 =>
    intro u hSu
    obtain ⟨s0, s1, s2⟩ := bd_cells hSu.2; have s6 := hSu.2.lt
    go_simp
    try with_reducible rfl
  try simp only [Act.put, List.getElem_toArray, List.getElem_cons_succ, List.getElem_cons_zero, List.setIfInBounds_toArray, List.set_cons_zero, List.set_cons_succ]
  refine wpAnyH_take (i := 2) (v := ?yyvv2) rfl (by kernel_rfl) (by kernel_rfl) (by kernel_rfl) (fun _ _ _ h => h) (Or.inl ⟨by rfl, ?yyhy2⟩) (by assumption) ?yyrest2
  case yyhy2 =>
    intro u hSu
    obtain ⟨s0, s1, s2⟩ := bd_cells hSu.2; have s6 := hSu.2.lt
    go_simp
    try with_reducible rfl
  try simp only [Act.put, List.getElem_toArray, List.getElem_cons_succ, List.getElem_cons_zero, List.setIfInBounds_toArray, List.set_cons_zero, List.set_cons_succ]
  refine wpAnyH_ready (rs := [3]) (by kernel_rfl) (by simp) ?_
  refine AllReadyH.cons rfl (fun K hK => ?_) AllReadyH.nil
  (refine ws_T rfl rfl HYD.out rfl rfl rfl ?_; generalize putT W4.drew (w.heap.size + 1 + 1) F = W5 at *)
  refine hK.out _ _ ?yyhS3 (fun hHeld => ?yyrest3)
  case yyhS3 => first | exact K6 | exact K1
  clear hK K
  try simp only [Act.put, List.getElem_toArray, List.getElem_cons_succ, List.getElem_cons_zero, List.setIfInBounds_toArray, List.set_cons_zero, List.set_cons_succ]
  refine wpAnyH_take (i := 4) (v := ?yyvv4) rfl (by kernel_rfl) (by kernel_rfl) (by kernel_rfl) (fun _ _ _ h => h) (Or.inl ⟨by rfl, ?yyhy4⟩) (by assumption) ?yyrest4
  case yyhy4 =>
    intro u hSu
    obtain ⟨s0, s1, s2⟩ := bd_cells hSu.2; have s6 := hSu.2.lt
    go_simp
    try with_reducible rfl
  try simp only [Act.put, List.getElem_toArray, List.getElem_cons_succ, List.getElem_cons_zero, List.setIfInBounds_toArray, List.set_cons_zero, List.set_cons_succ]
  refine wpAnyH_ready (rs := [5]) (by kernel_rfl) (by simp) ?_
  refine AllReadyH.cons rfl (fun K hK => ?_) AllReadyH.nil
  go_simp
  refine hK.out _ _ ?yyhS5 (fun hHeld => ?yyrest5)
  case yyhS5 => first | exact K6 | exact K1
  clear hK K
  try simp only [Act.put, List.getElem_toArray, List.getElem_cons_succ, List.getElem_cons_zero, List.setIfInBounds_toArray, List.set_cons_zero, List.set_cons_succ]
  refine wpAnyH_take (i := 6) (v := ?yyvv6) rfl (by kernel_rfl) (by kernel_rfl) (by kernel_rfl) (fun _ _ _ h => h) (Or.inl ⟨by rfl, ?yyhy6⟩) (by assumption) ?yyrest6
  case yyhy6 =>
    intro u hSu
    obtain ⟨s0, s1, s2⟩ := bd_cells hSu.2; have s6 := hSu.2.lt
    go_simp
    try with_reducible rfl
  try simp only [Act.put, List.getElem_toArray, List.getElem_cons_succ, List.getElem_cons_zero, List.setIfInBounds_toArray, List.set_cons_zero, List.set_cons_succ]
  refine wpAnyH_done (by kernel_rfl) ?_ _
  clear K0 K1 K6 hHeld z6 f0 f1 f2 c0 c1 c2 HYD HS5
  go_wp2_with fail
  rw [putBd_eq _ (w.heap.size + 1 + 1 + 1) _ _ _ FB rfl rfl rfl]
  exact bodyPost_ret (v := .tuple #[tV F, .int .i64 (kk : Int), bdV FB, .int .i64 0]) (res4 Try.results19 rfl rfl rfl rfl HY6.out HZ6.out) rfl ⟨rfl, HB6.out⟩
end
end Go.Proofs.Ytigalcmhongleaa.GF
