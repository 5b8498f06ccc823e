/-
  The reference of layer 18: Open. Nothing here is a statement of the seed.
-/
import Derived.Test.YtigalcmhongleaaGtRef5
import Derived.Test.YtigalcmhongleaaNameL
set_option linter.unusedSimpArgs false
set_option linter.unusedVariables false
namespace Go.Proofs.Ytigalcmhongleaa.GF
open Go.RowKit WM NR OM OR GA
set_option maxHeartbeats 4000000
set_option maxRecDepth 10000
/-- the boxes on the way of Open: the table, the bind, the table told -/
structure QO (w : World) (f : Tb) (c : Array Value) (u : World) : Prop where
  X : Whole u w.heap.size 32 (tC f)
  N : Whole u (w.heap.size + 1) 29 c
  Y : Whole u (w.heap.size + 1 + 1) 32 tZ
  B : Below w.heap.size w u
theorem QO.belowS {w u u' : World} {f : Tb} {c : Array Value} (h : QO w f c u) (hb : Below u.heap.size u u') : QO w f c u' := ⟨h.X.belowS hb, h.N.belowS hb, h.Y.belowS hb, h.B.trans (hb.mono h.B.size)⟩
theorem QO.new (w : World) (f : Tb) (c : Array Value) : QO w f c (((w.alloc (.cells (tC f) 32)).alloc (.cells c 29)).alloc (.cells tZ 32)) := by
  have b1 := below_new w (.cells (tC f) 32)
  have b3 := below_new (w.alloc (.cells (tC f) 32)) (.cells c 29)
  have b4 := below_new ((w.alloc (.cells (tC f) 32)).alloc (.cells c 29)) (.cells tZ 32)
  have n3 := Whole.new (w.alloc (.cells (tC f) 32)) 29 c
  have n4 := Whole.new ((w.alloc (.cells (tC f) 32)).alloc (.cells c 29)) 32 tZ
  rw [show (w.alloc (.cells (tC f) 32)).heap.size = w.heap.size + 1 by simp] at n3
  rw [show ((w.alloc (.cells (tC f) 32)).alloc (.cells c 29)).heap.size = w.heap.size + 1 + 1 by simp] at n4
  exact ⟨((Whole.new w 32 (tC f)).belowS b3).belowS b4, n3.belowS b4, n4, (b1.trans (b3.mono b1.size)).trans (b4.mono (b1.trans (b3.mono b1.size)).size)⟩
section
variable {w : World} {f : Tb}
/-- a guarded load of the whole -/
theorem wl_Tg {w : World} {b : Nat} {t : TypeId} {f : Tb} {ops : Array Oper} {rest : List Oper} {op : Oper} {a : Act} {Q : Exit → Act → World → Prop} (hw : Region.wanted op (yielded ops a.tmps) = true) (x : Operand) (ho : op.op = .load 32 x) (hx : a.eval x = .pointer (some ⟨b, 0, none⟩)) (hW : Whole w b t (tC f)) (h : wpList Try.prog ops Q rest (a.put op.dst (tV f)) w) : wpList Try.prog ops Q (op :: rest) a w := by
  simp only [wpList, hw, if_true]
  exact Or.inl (wp_load_mid _ x ho b 0 hx (tC f).toList _ (range_T hW) Try.underlying32 rfl infoT h)
theorem open_no {c : Array Value} {u : World} (h : QO w f c u) : Whole (putT u (w.heap.size + 1 + 1) f) (w.heap.size + 1 + 1) 32 (tC f) ∧ Below w.heap.size w (putT u (w.heap.size + 1 + 1) f) :=
  ⟨putT_whole h.Y rfl f, putT_below h.B h.B.size (by omega) f⟩
section
variable {X : ByteArray} {o k : Int}
abbrev NV (X : ByteArray) (o k : Int) : Value := .agg #[.string X, .int .u16 o, .int .u32 k]
theorem open_name {c : Int} (hc : (c != 0) = true) (CK : ∀ u, Calls Try.prog 32 #[.string X] u fun e u2 => e = .returned (.int .i64 c) ∧ Below u.heap.size u u2) : Calls Try.prog 22 #[tV f, NV X o k] w fun e u => e = .returned (.tuple #[tV f, .int .i64 0, .int .i64 6]) ∧ Below w.heap.size w u := by
  have J0 := Lib.hid (QO.new w f #[.string X, .int .u16 o, .int .u32 k])
  have CK := Lib.hid CK
  have KN : Hid (∀ u, QO w f #[.string X, .int .u16 o, .int .u32 k] u → u.cell? ⟨w.heap.size + 1, 0, none⟩ = some (.string X) ∧ u.cell? ⟨w.heap.size + 1, 1, none⟩ = some (.int .u16 o) ∧ u.cell? ⟨w.heap.size + 1, 2, none⟩ = some (.int .u32 k) ∧ w.heap.size + 1 < u.heap.size) := Lib.hid (fun u h => ⟨h.N.cell 0, h.N.cell 1, h.N.cell 2, h.N.lt⟩)
  go_enter Try.func22, Try.ntmps22
  go_upto_region 1 with fail
  generalize ((w.alloc (.cells (tC f) 32)).alloc (.cells #[.string X, .int .u16 o, .int .u32 k] 29)).alloc (.cells tZ 32) = W at *
  obtain ⟨n0, n1, n2, n6⟩ := KN.out _ J0.out
  go_upto_region 2 with (first | (go_at_call 32; (with_reducible refine (CK.out _).mono ?_); rintro e w1 ⟨rfl, hB⟩; have J1 := Lib.hid (J0.out.belowS hB); clear hB))
  clear n0 n1 n2 n6
  obtain ⟨hY, hBB⟩ := open_no J1.out
  have HYY := Lib.hid J1.out.Y
  have HXW := Lib.hid J1.out.X
  have HYF := Lib.hid hY
  have HBB := Lib.hid hBB
  clear hY hBB KN J0
  go_wp2_with (first | (refine wl_T rfl (.tmp 2) rfl rfl HXW.out ?_) | (refine wst_T rfl (.tmp 4) (.tmp 13) rfl rfl rfl rfl HYY.out rfl ?_; generalize putT w1 (w.heap.size + 1 + 1) f = W2 at *))
  exact bodyPost_ret (v := .tuple #[tV f, .int .i64 0, .int .i64 6]) (res3 Try.results22 rfl rfl rfl HYF.out) rfl ⟨rfl, HBB.out⟩
theorem open_arg0 {c : Int} (hc : (c != 0) = false) (h1 : (o == 0) = true) (CK : ∀ u, Calls Try.prog 32 #[.string X] u fun e u2 => e = .returned (.int .i64 c) ∧ Below u.heap.size u u2) : Calls Try.prog 22 #[tV f, NV X o k] w fun e u => e = .returned (.tuple #[tV f, .int .i64 0, .int .i64 2]) ∧ Below w.heap.size w u := by
  have J0 := Lib.hid (QO.new w f #[.string X, .int .u16 o, .int .u32 k])
  have CK := Lib.hid CK
  have KN : Hid (∀ u, QO w f #[.string X, .int .u16 o, .int .u32 k] u → u.cell? ⟨w.heap.size + 1, 0, none⟩ = some (.string X) ∧ u.cell? ⟨w.heap.size + 1, 1, none⟩ = some (.int .u16 o) ∧ u.cell? ⟨w.heap.size + 1, 2, none⟩ = some (.int .u32 k) ∧ w.heap.size + 1 < u.heap.size) := Lib.hid (fun u h => ⟨h.N.cell 0, h.N.cell 1, h.N.cell 2, h.N.lt⟩)
  go_enter Try.func22, Try.ntmps22
  go_upto_region 1 with fail
  generalize ((w.alloc (.cells (tC f) 32)).alloc (.cells #[.string X, .int .u16 o, .int .u32 k] 29)).alloc (.cells tZ 32) = W at *
  obtain ⟨n0, n1, n2, n6⟩ := KN.out _ J0.out
  go_upto_region 3 with (first | (go_at_call 32; (with_reducible refine (CK.out _).mono ?_); rintro e w1 ⟨rfl, hB⟩; have J1 := Lib.hid (J0.out.belowS hB); clear hB))
  clear n0 n1 n2 n6
  obtain ⟨n0, n1, n2, n6⟩ := KN.out _ J1.out
  go_upto_region 4 with fail
  clear n0 n1 n2 n6
  obtain ⟨hY, hBB⟩ := open_no J1.out
  have HYY := Lib.hid J1.out.Y
  have HXW := Lib.hid J1.out.X
  have HYF := Lib.hid hY
  have HBB := Lib.hid hBB
  clear hY hBB KN J0
  go_wp2_with (first | (refine wl_T rfl (.tmp 2) rfl rfl HXW.out ?_) | (refine wst_T rfl (.tmp 4) (.tmp 23) rfl rfl rfl rfl HYY.out rfl ?_; generalize putT w1 (w.heap.size + 1 + 1) f = W2 at *))
  exact bodyPost_ret (v := .tuple #[tV f, .int .i64 0, .int .i64 2]) (res3 Try.results22 rfl rfl rfl HYF.out) rfl ⟨rfl, HBB.out⟩
theorem open_arg1 {c : Int} (hc : (c != 0) = false) (h1 : (o == 0) = false) (h2 : (k == 0) = true) (CK : ∀ u, Calls Try.prog 32 #[.string X] u fun e u2 => e = .returned (.int .i64 c) ∧ Below u.heap.size u u2) : Calls Try.prog 22 #[tV f, NV X o k] w fun e u => e = .returned (.tuple #[tV f, .int .i64 0, .int .i64 2]) ∧ Below w.heap.size w u := by
  have J0 := Lib.hid (QO.new w f #[.string X, .int .u16 o, .int .u32 k])
  have CK := Lib.hid CK
  have KN : Hid (∀ u, QO w f #[.string X, .int .u16 o, .int .u32 k] u → u.cell? ⟨w.heap.size + 1, 0, none⟩ = some (.string X) ∧ u.cell? ⟨w.heap.size + 1, 1, none⟩ = some (.int .u16 o) ∧ u.cell? ⟨w.heap.size + 1, 2, none⟩ = some (.int .u32 k) ∧ w.heap.size + 1 < u.heap.size) := Lib.hid (fun u h => ⟨h.N.cell 0, h.N.cell 1, h.N.cell 2, h.N.lt⟩)
  go_enter Try.func22, Try.ntmps22
  go_upto_region 1 with fail
  generalize ((w.alloc (.cells (tC f) 32)).alloc (.cells #[.string X, .int .u16 o, .int .u32 k] 29)).alloc (.cells tZ 32) = W at *
  obtain ⟨n0, n1, n2, n6⟩ := KN.out _ J0.out
  go_upto_region 3 with (first | (go_at_call 32; (with_reducible refine (CK.out _).mono ?_); rintro e w1 ⟨rfl, hB⟩; have J1 := Lib.hid (J0.out.belowS hB); clear hB))
  clear n0 n1 n2 n6
  obtain ⟨n0, n1, n2, n6⟩ := KN.out _ J1.out
  go_upto_region 4 with fail
  clear n0 n1 n2 n6
  obtain ⟨hY, hBB⟩ := open_no J1.out
  have HYY := Lib.hid J1.out.Y
  have HXW := Lib.hid J1.out.X
  have HYF := Lib.hid hY
  have HBB := Lib.hid hBB
  clear hY hBB KN J0
  go_wp2_with (first | (refine wl_T rfl (.tmp 2) rfl rfl HXW.out ?_) | (refine wst_T rfl (.tmp 4) (.tmp 23) rfl rfl rfl rfl HYY.out rfl ?_; generalize putT w1 (w.heap.size + 1 + 1) f = W2 at *))
  exact bodyPost_ret (v := .tuple #[tV f, .int .i64 0, .int .i64 2]) (res3 Try.results22 rfl rfl rfl HYF.out) rfl ⟨rfl, HBB.out⟩
theorem open_there0 {c : Int} (hc : (c != 0) = false) (h1 : (o == 0) = false) (h2 : (k == 0) = false) (CK : ∀ u, Calls Try.prog 32 #[.string X] u fun e u2 => e = .returned (.int .i64 c) ∧ Below u.heap.size u u2) {P : Int} (hp : decide (P ≥ 0) = true) (CP : ∀ u, Calls Try.prog 30 #[tV f, .string X] u fun e u2 => e = .returned (.int .i64 P) ∧ Below u.heap.size u u2) : Calls Try.prog 22 #[tV f, NV X o k] w fun e u => e = .returned (.tuple #[tV f, .int .i64 0, .int .i64 9]) ∧ Below w.heap.size w u := by
  have J0 := Lib.hid (QO.new w f #[.string X, .int .u16 o, .int .u32 k])
  have CK := Lib.hid CK
  have CP := Lib.hid CP
  have KN : Hid (∀ u, QO w f #[.string X, .int .u16 o, .int .u32 k] u → u.cell? ⟨w.heap.size + 1, 0, none⟩ = some (.string X) ∧ u.cell? ⟨w.heap.size + 1, 1, none⟩ = some (.int .u16 o) ∧ u.cell? ⟨w.heap.size + 1, 2, none⟩ = some (.int .u32 k) ∧ w.heap.size + 1 < u.heap.size) := Lib.hid (fun u h => ⟨h.N.cell 0, h.N.cell 1, h.N.cell 2, h.N.lt⟩)
  go_enter Try.func22, Try.ntmps22
  go_upto_region 1 with fail
  generalize ((w.alloc (.cells (tC f) 32)).alloc (.cells #[.string X, .int .u16 o, .int .u32 k] 29)).alloc (.cells tZ 32) = W at *
  obtain ⟨n0, n1, n2, n6⟩ := KN.out _ J0.out
  go_upto_region 3 with (first | (go_at_call 32; (with_reducible refine (CK.out _).mono ?_); rintro e w1 ⟨rfl, hB⟩; have J1 := Lib.hid (J0.out.belowS hB); clear hB))
  clear n0 n1 n2 n6
  obtain ⟨n0, n1, n2, n6⟩ := KN.out _ J1.out
  go_upto_region 5 with fail
  go_upto_region 6 with (first | (refine wl_T rfl (.tmp 2) rfl rfl J1.out.X ?_) | (go_at_call 30; (with_reducible refine (CP.out _).mono ?_); rintro e w2 ⟨rfl, hB⟩; have J2 := Lib.hid (J1.out.belowS hB); clear hB))
  clear n0 n1 n2 n6
  obtain ⟨hY, hBB⟩ := open_no J2.out
  have HYY := Lib.hid J2.out.Y
  have HXW := Lib.hid J2.out.X
  have HYF := Lib.hid hY
  have HBB := Lib.hid hBB
  clear hY hBB KN J0
  go_wp2_with (first | (refine wl_T rfl (.tmp 2) rfl rfl HXW.out ?_) | (refine wst_T rfl (.tmp 4) (.tmp 36) rfl rfl rfl rfl HYY.out rfl ?_; generalize putT w2 (w.heap.size + 1 + 1) f = W2 at *))
  exact bodyPost_ret (v := .tuple #[tV f, .int .i64 0, .int .i64 9]) (res3 Try.results22 rfl rfl rfl HYF.out) rfl ⟨rfl, HBB.out⟩
theorem open_there1 {c : Int} (hc : (c != 0) = false) (h1 : (o == 0) = false) (h2 : (k == 0) = false) (CK : ∀ u, Calls Try.prog 32 #[.string X] u fun e u2 => e = .returned (.int .i64 c) ∧ Below u.heap.size u u2) {P : Int} (hp : decide (P ≥ 0) = false) (CP : ∀ u, Calls Try.prog 30 #[tV f, .string X] u fun e u2 => e = .returned (.int .i64 P) ∧ Below u.heap.size u u2) {B : Bool} (hb : B = true) (CO : ∀ u, Calls Try.prog 31 #[tV f, .int .u16 o] u fun e u2 => e = .returned (.bool B) ∧ Below u.heap.size u u2) : Calls Try.prog 22 #[tV f, NV X o k] w fun e u => e = .returned (.tuple #[tV f, .int .i64 0, .int .i64 9]) ∧ Below w.heap.size w u := by
  have J0 := Lib.hid (QO.new w f #[.string X, .int .u16 o, .int .u32 k])
  have CK := Lib.hid CK
  have CP := Lib.hid CP
  have CO := Lib.hid CO
  have KN : Hid (∀ u, QO w f #[.string X, .int .u16 o, .int .u32 k] u → u.cell? ⟨w.heap.size + 1, 0, none⟩ = some (.string X) ∧ u.cell? ⟨w.heap.size + 1, 1, none⟩ = some (.int .u16 o) ∧ u.cell? ⟨w.heap.size + 1, 2, none⟩ = some (.int .u32 k) ∧ w.heap.size + 1 < u.heap.size) := Lib.hid (fun u h => ⟨h.N.cell 0, h.N.cell 1, h.N.cell 2, h.N.lt⟩)
  go_enter Try.func22, Try.ntmps22
  go_upto_region 1 with fail
  generalize ((w.alloc (.cells (tC f) 32)).alloc (.cells #[.string X, .int .u16 o, .int .u32 k] 29)).alloc (.cells tZ 32) = W at *
  obtain ⟨n0, n1, n2, n6⟩ := KN.out _ J0.out
  subst hb
  go_upto_region 3 with (first | (go_at_call 32; (with_reducible refine (CK.out _).mono ?_); rintro e w1 ⟨rfl, hB⟩; have J1 := Lib.hid (J0.out.belowS hB); clear hB))
  clear n0 n1 n2 n6
  obtain ⟨n0, n1, n2, n6⟩ := KN.out _ J1.out
  go_upto_region 5 with fail
  go_upto_region 6 with (first | (refine wl_T rfl (.tmp 2) rfl rfl J1.out.X ?_) | (go_at_call 30; (with_reducible refine (CP.out _).mono ?_); rintro e w2 ⟨rfl, hB⟩; have J2 := Lib.hid (J1.out.belowS hB); clear hB; clear n0 n1 n2 n6; obtain ⟨n0, n1, n2, n6⟩ := KN.out _ J2.out) | (refine wl_Tg rfl (.tmp 2) rfl rfl J2.out.X ?_) | (go_at_call 31; (with_reducible refine (CO.out _).mono ?_); rintro e w3 ⟨rfl, hB⟩; have J3 := Lib.hid (J2.out.belowS hB); clear hB))
  clear n0 n1 n2 n6
  obtain ⟨hY, hBB⟩ := open_no J3.out
  have HYY := Lib.hid J3.out.Y
  have HXW := Lib.hid J3.out.X
  have HYF := Lib.hid hY
  have HBB := Lib.hid hBB
  clear hY hBB KN J0
  go_wp2_with (first | (refine wl_T rfl (.tmp 2) rfl rfl HXW.out ?_) | (refine wst_T rfl (.tmp 4) (.tmp 36) rfl rfl rfl rfl HYY.out rfl ?_; generalize putT w3 (w.heap.size + 1 + 1) f = W2 at *))
  exact bodyPost_ret (v := .tuple #[tV f, .int .i64 0, .int .i64 9]) (res3 Try.results22 rfl rfl rfl HYF.out) rfl ⟨rfl, HBB.out⟩
end
end
end Go.Proofs.Ytigalcmhongleaa.GF
