/-
  The reference of layer 13: slots, entries found. Nothing here is a statement of the seed.
-/
import Derived.Test.YtajidaicojekdaaSymRef
set_option linter.unusedSimpArgs false
set_option linter.unusedVariables false
namespace Go.Proofs.Ytajidaicojekdaa.SF
open Go.RowKit WM NR OM OR SM SR
set_option maxHeartbeats 4000000
set_option maxRecDepth 10000
abbrev enA (e : En) : Array Value := #[.string (bs e.nm), .string (bs e.md), .int .i64 e.gate, .int .i64 e.idx, .int .i64 e.refs]
theorem five_cells {w : World} {b : Nat} {t : TypeId} {x0 x1 x2 x3 x4 : Value} (h : Whole w b t #[x0, x1, x2, x3, x4]) : w.cell? ⟨b, 0, none⟩ = some x0 ∧ w.cell? ⟨b, 1, none⟩ = some x1 ∧ w.cell? ⟨b, 2, none⟩ = some x2 ∧ w.cell? ⟨b, 3, none⟩ = some x3 ∧ w.cell? ⟨b, 4, none⟩ = some x4 := ⟨h.cell 0, h.cell 1, h.cell 2, h.cell 3, h.cell 4⟩
theorem five_free {w : World} {b : Nat} {t : TypeId} {cs : Array Value} (h : Whole w b t cs) : w.frozen? ⟨b, 0, none⟩ = false ∧ w.frozen? ⟨b, 1, none⟩ = false ∧ w.frozen? ⟨b, 2, none⟩ = false ∧ w.frozen? ⟨b, 3, none⟩ = false ∧ w.frozen? ⟨b, 4, none⟩ = false := ⟨h.frozen 0, h.frozen 1, h.frozen 2, h.frozen 3, h.frozen 4⟩
theorem refSlot_any (x y : ByteArray) (g i r : Int) (hg : 0 ≤ g ∧ g ≤ 7) (hi : 0 ≤ i ∧ i ≤ 7) (w : World) :
    Calls Try.prog 42 #[.agg #[.string x, .string y, .int .i64 g, .int .i64 i, .int .i64 r]] w fun e w' => e = .returned (.int .u32 (8 * g + i)) ∧ Below w.heap.size w w' := by
  have HB := Lib.hid (below_new w (.cells #[.string x, .string y, .int .i64 g, .int .i64 i, .int .i64 r] 92))
  have e1 : IntKind.i64.wrap (8 * g) = 8 * g := by rw [IntKind.wrap_i64]; omega
  have e2 : IntKind.i64.wrap (8 * g + i) = 8 * g + i := by rw [IntKind.wrap_i64]; omega
  have e3 : IntKind.u32.wrap (8 * g + i) = 8 * g + i := by rw [show ∀ x, IntKind.u32.wrap x = x % 4294967296 from fun x => rfl]; omega
  go_enter Try.func42, Try.ntmps42
  go_wp2_with fail
  go_ret
  exact ⟨by first | rfl | simp [e1, e2, e3], HB.out⟩
section
variable {w : World} {ma : Option Addr} {mn mc : Nat} {la : Option Addr} {ln lc : Nat} {t : Tb}
theorem refFind_any (h : RdT (· < w.heap.size) w ma mn mc la ln lc t) (s : List UInt8) :
    Calls Try.prog 41 #[tbV ma mn mc la ln lc, .string (bs s)] w fun e w' => e = .returned (.tuple #[enV (findM t.L s).1, .int .i64 (findM t.L s).2]) ∧ Below w.heap.size w w' := by
  obtain ⟨_, ll, _, lm⟩ := h.lens
  unfold maxLen at lm
  have hn : (ln : Int) ≤ 9223372036854775807 := by omega
  have b0 := below_new w (.cells (tbC ma mn mc la ln lc) 29)
  have b1 := below_new (w.alloc (.cells (tbC ma mn mc la ln lc) 29)) (.cells #[.string ⟨#[]⟩, .string ⟨#[]⟩, .int .i64 0, .int .i64 0, .int .i64 0] 92)
  have HX := Lib.hid ((Whole.new w 29 (tbC ma mn mc la ln lc)).belowS b1)
  have HB := Lib.hid (b0.trans (b1.mono b0.size))
  have HY := Whole.new (w.alloc (.cells (tbC ma mn mc la ln lc) 29)) 92 #[.string ⟨#[]⟩, .string ⟨#[]⟩, .int .i64 0, .int .i64 0, .int .i64 0]
  have s0 : (w.alloc (.cells (tbC ma mn mc la ln lc) 29)).heap.size = w.heap.size + 1 := by simp
  rw [s0] at HY
  have HY := Lib.hid HY
  have C := Lib.hid (refPlace_any (h.go (b0.trans (b1.mono b0.size)) (b0.trans (b1.mono b0.size)).size) s)
  have HE := Lib.hid h.en
  have h1 := plc_lt t.L s
  have h2 := plc_ge t.L s
  rw [ll] at h1
  clear s0 b0 b1 h ll
  unfold findM
  by_cases hp : plc t.L s < 0
  · rw [if_pos hp]
    simp only
    generalize plc t.L s = p at *
    generalize bs s = x at *
    clear h1 h2 HE
    go_enter Try.func41, Try.ntmps41
    go_upto_region 1 with fail
    generalize (w.alloc (.cells (tbC ma mn mc la ln lc) 29)).alloc (.cells #[.string ⟨#[]⟩, .string ⟨#[]⟩, .int .i64 0, .int .i64 0, .int .i64 0] 92) = W at *
    obtain ⟨c0, c1⟩ := two_cells HX.out
    have c6 := HX.out.lt
    go_wp2_with (go_at_call 37; (with_reducible refine (C.out).mono ?_); rintro e w1 ⟨rfl, hb⟩; have HX1 := Lib.hid (HX.out.belowS hb); have HY1 := Lib.hid (HY.out.belowS hb); have HB1 := Lib.hid (HB.out.trans (hb.mono HB.out.size)); clear c0 c1 c6; obtain ⟨c0, c1⟩ := two_cells HX1.out; have c6 := HX1.out.lt; obtain ⟨d0, d1, d2, d3, d4⟩ := five_cells HY1.out; have d6 := HY1.out.lt; obtain ⟨f0, f1, f2, f3, f4⟩ := five_free HY1.out; clear hb)
    have HZ := (((((HY1.out.set_ 0 (.string ⟨#[]⟩)).set_ 1 (.string ⟨#[]⟩)).set_ 2 (.int .i64 0)).set_ 3 (.int .i64 0)).set_ 4 (.int .i64 0))
    obtain ⟨z0, z1, z2, z3, z4⟩ := five_cells HZ
    exact bodyPost_ret (v := .tuple #[.agg #[.string ⟨#[]⟩, .string ⟨#[]⟩, .int .i64 0, .int .i64 0, .int .i64 0], .int .i64 8]) (by simp [results, Try.results41, go_sem, z0, z1, z2, z3, z4]) rfl ⟨rfl, ((((HB1.out.setCell (by simp) _).setCell (by simp) _).setCell (by simp) _).setCell (by simp) _).setCell (by simp) _⟩
  · rw [if_neg hp]
    simp only
    obtain ⟨k, hk⟩ : ∃ k : Nat, plc t.L s = (k : Int) := ⟨(plc t.L s).toNat, by omega⟩
    rw [hk] at C h1 ⊢
    rw [Int.toNat_natCast]
    have hlt : k < ln := by omega
    have hlt' : (k : Int) < (ln : Int) := by omega
    obtain ⟨g, off, rfl, q1, _⟩ := HE.out.at (Below.refl _ _) hlt
    have HF : Hid (∀ u, Below w.heap.size w u → EnAt u g (off + k * 5) (t.L.getD k e0)) := Lib.hid (fun u hb => by
      obtain ⟨g', off', e, _, e1⟩ := HE.out.at hb hlt
      simp only [Option.some.injEq, Addr.mk.injEq, and_true] at e
      obtain ⟨rfl, rfl⟩ := e
      exact e1)
    have q2 : (ln : Int) ≤ lc := by omega
    clear h1 h2 HE hp hk
    generalize t.L.getD k e0 = E at *
    obtain ⟨xn, xm, xg, xi, xr⟩ := E
    change Hid (∀ u, Below w.heap.size w u → EnAt u g (off + k * 5) ⟨xn, xm, xg, xi, xr⟩) at HF
    generalize bs s = x at *
    go_enter Try.func41, Try.ntmps41
    go_upto_region 1 with fail
    generalize (w.alloc (.cells (tbC ma mn mc (some ⟨g, off, none⟩) ln lc) 29)).alloc (.cells #[.string ⟨#[]⟩, .string ⟨#[]⟩, .int .i64 0, .int .i64 0, .int .i64 0] 92) = W at *
    obtain ⟨c0, c1⟩ := two_cells HX.out
    have c6 := HX.out.lt
    go_wp2_with (go_at_call 37; (with_reducible refine (C.out).mono ?_); rintro e w1 ⟨rfl, hb⟩; have HX1 := Lib.hid (HX.out.belowS hb); have HY1 := Lib.hid (HY.out.belowS hb); have HB1 := Lib.hid (HB.out.trans (hb.mono HB.out.size)); clear c0 c1 c6; obtain ⟨c0, c1⟩ := two_cells HX1.out; have c6 := HX1.out.lt; obtain ⟨d0, d1, d2, d3, d4⟩ := five_cells HY1.out; have d6 := HY1.out.lt; obtain ⟨f0, f1, f2, f3, f4⟩ := five_free HY1.out; obtain ⟨e0, e1, e2, e3, e4⟩ := HF.out _ HB1.out; clear hb)
    have HZ := (((((HY1.out.set_ 0 (.string (bs xn))).set_ 1 (.string (bs xm))).set_ 2 (.int .i64 xg)).set_ 3 (.int .i64 xi)).set_ 4 (.int .i64 xr))
    obtain ⟨z0, z1, z2, z3, z4⟩ := five_cells HZ
    exact bodyPost_ret (v := .tuple #[.agg #[.string (bs xn), .string (bs xm), .int .i64 xg, .int .i64 xi, .int .i64 xr], .int .i64 0]) (by simp [results, Try.results41, go_sem, z0, z1, z2, z3, z4]) rfl ⟨rfl, ((((HB1.out.setCell (by simp) _).setCell (by simp) _).setCell (by simp) _).setCell (by simp) _).setCell (by simp) _⟩
end
end Go.Proofs.Ytajidaicojekdaa.SF
