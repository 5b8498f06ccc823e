/-
  The closed case, over the interface. Nothing here is a statement of the seed.
-/
import Derived.Test.YtigalcmhongleaaGtRun
import Derived.BigRegion
set_option linter.unusedSimpArgs false
set_option linter.unusedVariables false
namespace Go.Proofs.Ytigalcmhongleaa.GL
open Go.RowKit WM NR OM OR GA GF
set_option maxHeartbeats 4000000
set_option maxRecDepth 10000
/-- a table made since w -/
def AWx (PT : Rep) (w : World) (v : Value) (f : Tb) (u : World) : Prop := ∃ S, PT S u v f ∧ (∀ g, S g → w.heap.size ≤ g) ∧ Below w.heap.size w u
section
variable {PT : Rep} {w u u' : World} {v : Value} {f g : Tb}
theorem AWx.keep (hP : GP PT) (h : AWx PT w v f u) (hb : Below u.heap.size u u') : AWx PT w v f u' := by
  obtain ⟨S, hp, hS, hB⟩ := h
  exact ⟨S, hP.keep hp hb.size (fun g hg => hb.block g (hP.lt hp g hg)), hS, hB.trans (hb.mono hB.size)⟩
theorem AWx.chg (h : AWx PT w v f u) (hc : ∀ S, PT S u v f → ∃ S', PT S' u' v g ∧ (∀ g, S' g → S g ∨ u.heap.size ≤ g) ∧ Fr S u u') : AWx PT w v g u' := by
  obtain ⟨S, hp, hS, hB⟩ := h
  obtain ⟨S', hp', hS', hF⟩ := hc S hp
  have hw := hB.size
  exact ⟨S', hp', fun g hg => (hS' g hg).elim (hS g) (fun h => by omega), Below.fr hB hF hB.size fun i hi => hS i hi⟩
theorem aw_open (hP : GP PT) (b : Bd) (hb : BdOk b) (hl : b.nm.length ≤ 2097152) {G : Int} (hg : (openM f b).g = G) (he : (openM f b).e = 0) (ht : (openM f b).t = g) (h : AWx PT w v f u) : Calls Try.prog 13 #[v, bdV b] u fun e u2 => e = .returned (.tuple #[.int .i64 G, .int .i64 0]) ∧ AWx PT w v g u2 := by
  subst hg ht
  rw [← he]
  obtain ⟨S, hp, hS, hB⟩ := h
  have hw := hB.size
  refine (hP.opn b hp hb hl).mono fun e u2 ⟨h1, S', hp', hS', hF⟩ => ⟨h1, S', hp', fun g hg => (hS' g hg).elim (hS g) (fun h => by omega), Below.fr hB hF hB.size fun i hi => hS i hi⟩
theorem aw_turn (hP : GP PT) (b : Bd) (hb : BdOk b) (hl : b.nm.length ≤ 2097152) {G : Int} {c : Bd} (hg : (turnM f b).g = G) (hc : (turnM f b).b = c) (he : (turnM f b).e = 0) (ht : (turnM f b).t = g) (h : AWx PT w v f u) : Calls Try.prog 14 #[v, bdV b] u fun e u2 => e = .returned (.tuple #[.int .i64 G, bdV c, .int .i64 0]) ∧ AWx PT w v g u2 := by
  subst hg ht hc
  rw [← he]
  obtain ⟨S, hp, hS, hB⟩ := h
  have hw := hB.size
  refine (hP.trn b hp hb hl).mono fun e u2 ⟨h1, S', hp', hS', hF⟩ => ⟨h1, S', hp', fun g hg => (hS' g hg).elim (hS g) (fun h => by omega), Below.fr hB hF hB.size fun i hi => hS i hi⟩
theorem aw_free (hP : GP PT) {n : Int} (hn : freeM f = n) (h : AWx PT w v f u) : Calls Try.prog 18 #[v] u fun e u2 => e = .returned (.int .i64 n) ∧ AWx PT w v f u2 := by
  subst hn
  have h0 := h
  obtain ⟨S, hp, hS, hB⟩ := h
  exact (hP.fre hp).mono fun e u2 ⟨h1, hb⟩ => ⟨h1, h0.keep hP hb⟩
abbrev bA : Bd := ⟨[109], 1, 80⟩
abbrev bB : Bd := ⟨[110], 2, 96⟩
abbrev bC : Bd := ⟨[109], 3, 160⟩
def T1 : Tb := (openM zeroT bA).t
def T2 : Tb := (openM T1 bB).t
def T3 : Tb := (turnM T2 bC).t
theorem awake_any (hP : GP PT) (w : World) : Calls Try.prog 8 #[] w fun e u => e = .returned (.bool true) ∧ Below w.heap.size w u := by
  have C0 := Lib.hid (hP.new w)
  have C1 : Hid (∀ (v : Value) (u : World), AWx PT w v zeroT u → Calls Try.prog 13 #[v, .agg #[.string ⟨#[109]⟩, .int .u16 1, .int .u32 80]] u fun e u2 => e = .returned (.tuple #[.int .i64 0, .int .i64 0]) ∧ AWx PT w v T1 u2) := Lib.hid (fun v u h => aw_open hP bA ⟨by decide, by decide⟩ (by decide) (by kernel_rfl) (by kernel_rfl) rfl h)
  have C2 : Hid (∀ (v : Value) (u : World), AWx PT w v T1 u → Calls Try.prog 13 #[v, .agg #[.string ⟨#[110]⟩, .int .u16 2, .int .u32 96]] u fun e u2 => e = .returned (.tuple #[.int .i64 1, .int .i64 0]) ∧ AWx PT w v T2 u2) := Lib.hid (fun v u h => aw_open hP bB ⟨by decide, by decide⟩ (by decide) (by kernel_rfl) (by kernel_rfl) rfl h)
  have C3 : Hid (∀ (v : Value) (u : World), AWx PT w v T2 u → Calls Try.prog 14 #[v, .agg #[.string ⟨#[109]⟩, .int .u16 3, .int .u32 160]] u fun e u2 => e = .returned (.tuple #[.int .i64 0, .agg #[.string ⟨#[109]⟩, .int .u16 1, .int .u32 80], .int .i64 0]) ∧ AWx PT w v T3 u2) := Lib.hid (fun v u h => aw_turn hP bC ⟨by decide, by decide⟩ (by decide) (c := bA) (by kernel_rfl) (by kernel_rfl) (by kernel_rfl) rfl h)
  have C4 : Hid (∀ (v : Value) (u : World), AWx PT w v T3 u → Calls Try.prog 18 #[v] u fun e u2 => e = .returned (.int .i64 6) ∧ AWx PT w v T3 u2) := Lib.hid (fun v u h => aw_free hP (by kernel_rfl) h)
  have HP := Lib.hid hP
  clear hP
  go_enter Try.func8, Try.ntmps8
  go_upto_region 5 with (first
    | (go_at_call 9; (with_reducible refine C0.out.mono ?_); rintro e w1 ⟨S, va, rfl, hp, hS, hb⟩; have J1 := Lib.hid (show AWx PT w _ _ _ from ⟨S, hp, hS, hb⟩); clear hp hS hb)
    | (go_at_call 13; (with_reducible refine (C1.out _ _ J1.out).mono ?_); rintro e w2 ⟨rfl, h⟩; have J2 := Lib.hid h; clear h)
    | (go_at_call 13; (with_reducible refine (C2.out _ _ J2.out).mono ?_); rintro e w3 ⟨rfl, h⟩; have J3 := Lib.hid h; clear h)
    | (go_at_call 14; (with_reducible refine (C3.out _ _ J3.out).mono ?_); rintro e w4 ⟨rfl, h⟩; have J4 := Lib.hid h; clear h))
  have b9 := below_new w4 (.cells #[.string ⟨#[109]⟩, .int .u16 1, .int .u32 80] 35)
  have J5 := Lib.hid (J4.out.keep HP.out b9)
  have hX := Whole.new w4 35 #[.string ⟨#[109]⟩, .int .u16 1, .int .u32 80]
  obtain ⟨x0, x1, x2⟩ : (w4.alloc (.cells #[.string ⟨#[109]⟩, .int .u16 1, .int .u32 80] 35)).cell? ⟨w4.heap.size, 0, none⟩ = some (.string ⟨#[109]⟩) ∧ (w4.alloc (.cells #[.string ⟨#[109]⟩, .int .u16 1, .int .u32 80] 35)).cell? ⟨w4.heap.size, 1, none⟩ = some (.int .u16 1) ∧ (w4.alloc (.cells #[.string ⟨#[109]⟩, .int .u16 1, .int .u32 80] 35)).cell? ⟨w4.heap.size, 2, none⟩ = some (.int .u32 80) := ⟨hX.cell 0, hX.cell 1, hX.cell 2⟩
  have x6 := hX.lt
  clear b9 hX C0 C1 C2 C3 J1 J2 J3 J4
  generalize w4.alloc (.cells #[.string ⟨#[109]⟩, .int .u16 1, .int .u32 80] 35) = W5 at *
  go_wp2_with (go_at_call 18; (with_reducible refine (C4.out _ _ J5.out).mono ?_); rintro e w6 ⟨rfl, h⟩; have J6 := Lib.hid h; clear h)
  go_ret
  obtain ⟨S, _, _, hB⟩ := J6.out
  exact ⟨rfl, hB⟩
end
end Go.Proofs.Ytigalcmhongleaa.GL
