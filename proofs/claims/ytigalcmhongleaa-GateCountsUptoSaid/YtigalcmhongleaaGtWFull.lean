/-
  The walk of GateFull, over the interface and over what awake tells. Nothing here is a statement of the seed.
-/
import Derived.Test.YtigalcmhongleaaGtWPlays
import Derived.Test.YtigalcmhongleaaGtFullM
set_option linter.unusedSimpArgs false
set_option linter.unusedVariables false
namespace Go.Proofs.Ytigalcmhongleaa.GL
open Go.RowKit WM NR OM OR GA GF
set_option maxHeartbeats 4000000
set_option maxRecDepth 10000
/-- the program's table alone, since w -/
structure FJ (PT : Rep) (w : World) (u : World) (v : Value) (f : Tb) : Prop where
  P : ∃ S, PT S u v f ∧ ∀ g, S g → w.heap.size ≤ g
  B : Below w.heap.size w u
section
variable {PT : Rep} {w u u' : World} {v : Value} {f g : Tb}
theorem FJ.belowS (hP : GP PT) (h : FJ PT w u v f) (hb : Below u.heap.size u u') : FJ PT w u' v f := by
  obtain ⟨⟨S, h1, h2⟩, h3⟩ := h
  exact ⟨⟨S, hP.keep h1 hb.size (fun g hg => hb.block g (hP.lt h1 g hg)), h2⟩, h3.trans (hb.mono h3.size)⟩
theorem FJ.step (h : ∃ S, PT S u v f ∧ (∀ g, S g → w.heap.size ≤ g) ∧ Chg PT S u v g u') (hB : Below w.heap.size w u) : FJ PT w u' v g := by
  obtain ⟨S, h1, h2, S', h3, h4, h5⟩ := h
  refine ⟨⟨S', h3, fun i hi => ?_⟩, Below.fr hB h5 hB.size h2⟩
  rcases h4 i hi with h | h
  · exact h2 i h
  · have := hB.size; omega
theorem FJ.opn (hP : GP PT) (h : FJ PT w u v f) (b : Bd) (hb : BdOk b) (hl : b.nm.length ≤ 2097152) : Calls Try.prog 13 #[v, bdV b] u fun e u' => e = .returned (.tuple #[.int .i64 (openM f b).g, .int .i64 (openM f b).e]) ∧ FJ PT w u' v (openM f b).t := by
  obtain ⟨⟨S, h1, h2⟩, h3⟩ := h
  exact (hP.opn b h1 hb hl).mono fun e u' he => ⟨he.1, FJ.step ⟨S, h1, h2, he.2⟩ h3⟩
theorem FJ.cls (hP : GP PT) (h : FJ PT w u v f) (m : List UInt8) (hl : m.length ≤ 2097152) : Calls Try.prog 15 #[v, .string (bs m)] u fun e u' => e = .returned (.tuple #[.int .i64 (closeM f m).g, bdV (closeM f m).b, .int .i64 (closeM f m).e]) ∧ FJ PT w u' v (closeM f m).t := by
  obtain ⟨⟨S, h1, h2⟩, h3⟩ := h
  exact (hP.cls m h1 hl).mono fun e u' he => ⟨he.1, FJ.step ⟨S, h1, h2, he.2⟩ h3⟩
theorem FJ.fre (hP : GP PT) (h : FJ PT w u v f) : Calls Try.prog 18 #[v] u fun e u' => e = .returned (.int .i64 (freeM f)) ∧ Below u.heap.size u u' := by
  obtain ⟨⟨S, h1, h2⟩, h3⟩ := h
  exact hP.fre h1
/-- a call that opens leaves a box of the law's as it was -/
theorem FJ.opn2 (hP : GP PT) (h : FJ PT w u v f) {cs : Array Value} {t : TypeId} (b : Bd) (hb : BdOk b) (hl : b.nm.length ≤ 2097152) : Calls Try.prog 13 #[v, bdV b] (u.alloc (.cells cs t)) fun e u' => e = .returned (.tuple #[.int .i64 (openM f b).g, .int .i64 (openM f b).e]) ∧ FJ PT w u' v (openM f b).t ∧ Whole u' u.heap.size t cs := by
  obtain ⟨⟨S, h1, h2⟩, h3⟩ := h
  have bn := below_new u (.cells cs t)
  have h1' := hP.keep h1 bn.size (fun g hg => bn.block g (hP.lt h1 g hg))
  refine (hP.opn b h1' hb hl).mono fun e u' he => ⟨he.1, FJ.step ⟨S, h1', h2, he.2⟩ (h3.trans (bn.mono h3.size)), ?_⟩
  obtain ⟨S', q1, q2, q3⟩ := he.2
  exact (Whole.new u t cs).fr q3 (fun hh => by have := hP.lt h1 _ hh; omega)
theorem nm_conv (W : World) {k : Nat} (hk : k < 8) : (convert 49 9 (.slice (some ⟨W.heap.size, 0, none⟩) 1 1)).run Try.prog (W.alloc (.cells #[.int .u8 (97 + (k : Int))] 5)) = .ok (.string (bs (nmN k))) (W.alloc (.cells #[.int .u8 (97 + (k : Int))] 5)) := by
  have hr : Reads (fun _ => True) (W.alloc (.cells #[.int .u8 (97 + (k : Int))] 5)) (.slice (some ⟨W.heap.size, 0, none⟩) 1 1) (u8s (nmN k)) := by
    refine ⟨_, 1, rfl, Nat.le_refl _, by simp [maxLen], (fun h => by cases h), Or.inr ⟨W.heap.size, 0, rfl, trivial, fun j hj => ?_⟩⟩
    obtain rfl : j = 0 := by simp [nmN, u8s_len] at hj; omega
    rw [(Whole.new W 5 #[.int .u8 (97 + (k : Int))]).cell]
    rcases (show k = 0 ∨ k = 1 ∨ k = 2 ∨ k = 3 ∨ k = 4 ∨ k = 5 ∨ k = 6 ∨ k = 7 by omega) with rfl | rfl | rfl | rfl | rfl | rfl | rfl | rfl <;> rfl
  exact hr.text Try.underlying49 Try.underlying5 Try.underlying9
theorem GateFull_walk (hP : GP PT) (AW : ∀ w, Calls Try.prog 8 #[] w fun e u => e = .returned (.bool true) ∧ Below w.heap.size w u) (x : Int) (hx : 0 ≤ x ∧ x ≤ 255) :
    Calls Try.prog 6 #[.int .u8 x] w fun e w' => e = .returned (.bool true) ∧ Below w.heap.size w w' := by
  obtain ⟨q, hq, hqx⟩ : ∃ q : Nat, q < 8 ∧ x % 8 = (q : Int) := ⟨(x % 8).toNat, by omega, by omega⟩
  have hx8 : x.tmod 8 = (q : Int) := by rw [Int.tmod_eq_emod_of_nonneg hx.1]; exact hqx
  have AW := Lib.hid AW
  have HP := Lib.hid hP
  clear hP
  go_enter Try.func6, Try.ntmps6
  go_wp2_with (go_at_call 9; (with_reducible refine (HP.out.new _).mono ?_); rintro e w2 ⟨S, va, rfl, hp, hS, hb2⟩; have J0 : Hid (FJ PT w w2 (.pointer (some va)) (fillT 0)) := Lib.hid ⟨⟨S, hp, hS⟩, hb2⟩; clear hp hS hb2)
  go_loopw [4] (fun i wr => ∃ k : Nat, k ≤ 8 ∧ i = .int .i64 (k : Int) ∧ Hid (FJ PT w wr (.pointer (some va)) (fillT k))) (fun i _ => 8 - (intOf i).toNat)
  case atStart => exact ⟨0, by omega, rfl, J0⟩
  case round =>
    obtain ⟨k, hk, rfl, J⟩ := hrel
    clear J0
    by_cases hlt : k < 8
    · have hlt' : (k : Int) < 8 := by omega
      have hw8 : IntKind.u8.wrap (97 + (k : Int)) = 97 + (k : Int) := by rw [IntKind.wrap_u8]; omega
      have hw16 : IntKind.u16.wrap (1 + (k : Int)) = 1 + (k : Int) := by rw [IntKind.wrap_u16]; omega
      have hcv := nm_conv wr hlt
      obtain ⟨e1, e2⟩ := full_ge k hlt
      have e3 := full_t k hlt
      have CD := Lib.hid ((J.out.belowS HP.out (below_new wr (.cells #[.int .u8 (97 + (k : Int))] 5))).opn HP.out (fillB k) ⟨by show 0 ≤ 1 + (k : Int) ∧ 1 + (k : Int) ≤ 65535; omega, (show (0 : Int) ≤ 80 ∧ (80 : Int) ≤ 4294967295 by decide)⟩ (show 1 ≤ 2097152 by omega))
      rw [e1, e2, e3] at CD
      change Hid (Calls _ _ #[_, .agg #[.string (bs (nmN k)), .int .u16 (1 + (k : Int)), .int .u32 80]] _ _) at CD
      generalize bs (nmN k) = X at *
      clear e1 e2 e3 J
      go_wp2_with (go_at_call 13; (with_reducible refine (CD.out).mono ?_); rintro e w5 ⟨rfl, J5⟩; have J6 := Lib.hid J5; clear J5)
      go_roundw
      case rel => exact ⟨k + 1, by omega, by go_num, J6⟩
      case measure => simp [intOf]; omega
    · obtain rfl : k = 8 := by omega
      have hw8 : IntKind.u8.wrap (97 + (q : Int)) = 97 + (q : Int) := by rw [IntKind.wrap_u8]; omega
      have hw16 : IntKind.u16.wrap (1 + (q : Int)) = 1 + (q : Int) := by rw [IntKind.wrap_u16]; omega
      have hq0 : (q : Int) < 8 := by omega
      obtain ⟨e1, e2⟩ := full_z
      have CZ := Lib.hid (J.out.opn HP.out zB ⟨by decide, by decide⟩ (by decide))
      rw [e1, e2] at CZ
      obtain ⟨gz, hgz⟩ : ∃ y, y = (openM (fillT 8) zB).g := ⟨_, rfl⟩
      rw [← hgz] at CZ
      change Hid (Calls _ _ #[_, .agg #[.string ⟨#[122]⟩, .int .u16 99, .int .u32 80]] _ _) at CZ
      clear e1 e2 hgz
      have hbw := J.out.B
      clear J
      go_upto_region 10 with (go_at_call 13; (with_reducible refine (CZ.out).mono ?_); rintro e w5 ⟨rfl, J5⟩; have J6 := Lib.hid J5; clear J5)
      clear CZ hbw
      have hcv := nm_conv w5 hq
      obtain ⟨e1, e2⟩ := full_close q hq
      obtain ⟨e3, e4⟩ := full_close_t q hq
      have CC := Lib.hid ((J6.out.belowS HP.out (below_new w5 (.cells #[.int .u8 (97 + (q : Int))] 5))).cls HP.out (nmN q) (show 1 ≤ 2097152 by omega))
      rw [e1, e2, e3, e4] at CC
      change Hid (Calls _ _ #[_, .string (bs (nmN q))] _ fun e u' => e = .returned (.tuple #[.int .i64 q, .agg #[.string (bs (nmN q)), .int .u16 (1 + (q : Int)), .int .u32 80], .int .i64 0]) ∧ _) at CC
      generalize bs (nmN q) = X at *
      clear e1 e2 e3 e4 J6
      go_upto_region 11 with (go_at_call 15; (with_reducible refine (CC.out).mono ?_); rintro e w7 ⟨rfl, J7⟩; have J8 := Lib.hid J7; clear J7)
      clear CC hcv
      obtain ⟨e1, e2, e3⟩ := full_again q hq
      have e4 := full_again_t q hq
      have CO := Lib.hid (J8.out.opn2 (cs := #[.string X, .int .u16 (1 + (q : Int)), .int .u32 80]) (t := 35) HP.out zB ⟨by decide, by decide⟩ (by decide))
      rw [e1, e2, e4] at CO
      have HE3 := Lib.hid e3
      change Hid (Calls _ _ #[_, .agg #[.string ⟨#[122]⟩, .int .u16 99, .int .u32 80]] _ _) at CO
      clear e1 e2 e3 e4
      clear J8
      go_upto_region 12 with (go_at_call 13; (with_reducible refine (CO.out).mono ?_); rintro e w10 ⟨rfl, J10, W10⟩; have J11 := Lib.hid J10; have B11 := Lib.hid W10; clear J10 W10)
      have CF := Lib.hid (J11.out.fre HP.out)
      rw [HE3.out] at CF
      clear CO HE3
      have y1 : w10.cell? ⟨w7.heap.size, 1, none⟩ = some (.int .u16 (1 + (q : Int))) := B11.out.cell 1
      have y6 := B11.out.lt
      have HBW := Lib.hid J11.out.B
      clear J11 B11
      go_wp2_with (first | (go_at_call 18; (with_reducible refine (CF.out).mono ?_); rintro e w11 ⟨rfl, hB⟩; have B12 := Lib.hid (HBW.out.trans (hB.mono HBW.out.size)); clear hB) | (go_at_call 8; (with_reducible refine (AW.out _).mono ?_); rintro e w12 ⟨rfl, hB⟩; have B13 := Lib.hid (B12.out.trans (hB.mono B12.out.size)); clear hB))
      go_ret
      exact ⟨rfl, B13.out⟩
end
end Go.Proofs.Ytigalcmhongleaa.GL
