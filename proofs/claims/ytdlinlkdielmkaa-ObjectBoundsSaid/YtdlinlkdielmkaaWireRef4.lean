/-
  The reference's reader: lists of words.
-/
import Derived.Test.YtdlinlkdielmkaaWireRef3
set_option linter.unusedSimpArgs false
set_option linter.unusedVariables false
namespace Go.Proofs.Ytdlinlkdielmkaa.NR
open Go.RowKit WM

def IsRefW (G : Nat → Prop) (w : World) (e : Nat) (l : List UInt8) (x : List Nat) (en : Ending) (w' : World) : Prop :=
  ∃ v v2, en = .returned (.tuple #[.agg #[v, .int .i64 (e : Int)], v2]) ∧ Reads G w' v (u8s l) ∧ w'.ownsRow w.heap.size 43 1 v2 x.length (u32s x) ∧ Below w.heap.size w w'
/-- a number that is not there: no words -/
theorem refWords_zero (G : Nat → Prop) (w : World) (v : Value) (b : List UInt8) (e k : Nat) (M : Int) (hG : ∀ g, G g → g < w.heap.size) (hr : ∃ xs, Reads G w v xs) (hk : k ≠ 0)
    (CV : ∀ u, Below w.heap.size w u → Calls Try.prog 73 #[.agg #[v, .int .i64 (e : Int)], .int .u32 (capM M : Nat)] u (IsRef G u k b (.int .u32 0))) (hM : -9223372036854775808 ≤ M ∧ M ≤ 9223372036854775807) :
    Calls Try.prog 46 #[.agg #[v, .int .i64 (e : Int)], .int .i64 M] w (IsRefW G w k b []) := by
  have hcap := capM_other M
  have hml := capM_lt M
  generalize capM M = m at *
  obtain ⟨hM1, hM2⟩ := hM
  have HG := Lib.hid hG
  have CV := Lib.hid CV
  obtain ⟨xs, hr⟩ := hr
  obtain ⟨av, nv, cv, rfl⟩ := hr.form
  have hml' : (m : Int) < 4294967296 := by omega
  have hk' : ((k : Int) == 0) = false := by simp; omega
  clear hr hG hml hk
  generalize hmz : (m : Int) = mz at *
  clear hmz
  go_enter Try.func46, Try.ntmps46
  go_wp2_with fail
  refine (CV.out _ ?hcb).mono ?_
  case hcb => exact below_new2 w _ _
  rintro en w1 ⟨v1, rfl, d1, hb1⟩
  obtain ⟨bA, bB⟩ := two_blocks hb1
  have cA0 : w1.cell? ⟨w.heap.size, 0, none⟩ = some (.slice av nv cv) := block_cell bA 0
  have cA1 : w1.cell? ⟨w.heap.size, 1, none⟩ = some (.int .i64 (e : Int)) := block_cell bA 1
  have cB0 : w1.cell? ⟨w.heap.size + 1, 0, none⟩ = some (.slice none 0 0) := block_cell bB 0
  have cB1 : w1.cell? ⟨w.heap.size + 1, 1, none⟩ = some (.int .i64 0) := block_cell bB 1
  have fA0 := block_free bA 0
  have fA1 := block_free bA 1
  have fB0 := block_free bB 0
  have fB1 := block_free bB 1
  have hz1 : w.heap.size + 1 < w1.heap.size := by have := hb1.size; simp at this; omega
  have hw1 : Below w.heap.size w w1 := (below_new2 w _ _).trans (hb1.mono (by simp; omega))
  have hb5 : Below w.heap.size w1 ((((w1.setCell ⟨w.heap.size, 0, none⟩ v1).setCell ⟨w.heap.size, 1, none⟩ (.int .i64 (k : Int))).setCell ⟨w.heap.size + 1, 0, none⟩ v1).setCell ⟨w.heap.size + 1, 1, none⟩ (.int .i64 (k : Int))) := below_sets (below_sets (Below.refl _ _) (Nat.le_refl _)) (by omega)
  have HB5 := Lib.hid hb5
  have HW1 := Lib.hid hw1
  have D1 := Lib.hid d1
  obtain ⟨a1, n1, c1, rfl⟩ := d1.form
  clear d1 bA bB hb1 hb5 hw1 CV
  go_wp2_with fail
  refine wp_loop_rounds 1 ?_
  rw [rounds_succ]
  go_wp2_with fail
  refine bodyPost_ret (v := .tuple #[.agg #[.slice a1 n1 c1, .int .i64 (k : Int)], .slice none 0 0]) (by simp [results, Try.results46, go_sem, cA0, cA1, cB0, cB1]) rfl ?_
  exact ⟨_, _, rfl, reads_on D1.out HG.out HB5.out, World.ownsRow_nil _ _ _ _, HW1.out.trans HB5.out⟩
/-- the same, of a text -/
theorem refText_dead (G : Nat → Prop) (w : World) (v : Value) (l : List UInt8) (e : Nat) (M : Int) (hG : ∀ g, G g → g < w.heap.size) (hr : Reads G w v (u8s l)) (he : e ≠ 0) (hM : -9223372036854775808 ≤ M ∧ M ≤ 9223372036854775807) :
    Calls Try.prog 44 #[.agg #[v, .int .i64 (e : Int)], .int .i64 M] w (IsRef G w e l (.string (bs []))) := by
  have CV := Lib.hid (fun (u : World) (hu : Below w.heap.size w u) (Mx : Int) => rrVar_dead G u v l e Mx (fun g hg => Nat.lt_of_lt_of_le (hG g hg) hu.size) (reads_on hr hG hu) he)
  obtain ⟨hM1, hM2⟩ := hM
  have HG := Lib.hid hG
  obtain ⟨av, nv, cv, rfl⟩ := hr.form
  have HE := Lib.hid he
  clear hr hG he
  go_enter Try.func44, Try.ntmps44
  go_wp2_with fail
  refine (CV.out _ ?hcb _).mono ?_
  case hcb => exact below_new2 w _ _
  rintro en w1 ⟨v1, rfl, d1, hb1⟩
  obtain ⟨bA, bB⟩ := two_blocks hb1
  have cA0 : w1.cell? ⟨w.heap.size, 0, none⟩ = some (.slice av nv cv) := block_cell bA 0
  have cA1 : w1.cell? ⟨w.heap.size, 1, none⟩ = some (.int .i64 (e : Int)) := block_cell bA 1
  have fA0 := block_free bA 0
  have fA1 := block_free bA 1
  have hz1 : w.heap.size + 1 < w1.heap.size := by have := hb1.size; simp at this; omega
  have hw1 : Below w.heap.size w w1 := (below_new2 w _ _).trans (hb1.mono (by simp; omega))
  have CT := Lib.hid (fun (u : World) (hu : Below w.heap.size w1 u) (Mx : Int) => refTake_dead G u v1 l e Mx (fun g hg => Nat.lt_of_lt_of_le (HG.out g hg) (Nat.le_trans hw1.size hu.size)) (reads_on d1 HG.out hu) HE.out)
  have HW1 := Lib.hid hw1
  have BA := Lib.hid bA
  have BB := Lib.hid bB
  obtain ⟨a1, n1, c1, rfl⟩ := d1.form
  clear d1 bA bB hb1 hw1 CV
  go_wp2_with fail
  refine (CT.out _ ?hcb _).mono ?_
  case hcb => exact below_sets (Below.refl _ _) (Nat.le_refl _)
  rintro en w3 ⟨v3, v4, rfl, d3, d4, hb3⟩
  obtain ⟨bA3, bB3⟩ := two_sets BA.out BB.out hb3
  have hw3 : Below w.heap.size w w3 := (below_sets HW1.out (Nat.le_refl _)).trans (hb3.mono (by simp; have := HW1.out.size; omega))
  have HW3 := Lib.hid hw3
  obtain ⟨a4, n4, c4, rfl⟩ := d4.form
  have hb4 : Below w.heap.size w3 (((w3.setCell ⟨w.heap.size, 0, none⟩ v3).setCell ⟨w.heap.size, 1, none⟩ (.int .i64 (e : Int))).drew) := (below_sets (Below.refl _ _) (Nat.le_refl _)).drew
  have kc := (reads_on d4 HG.out hb4).text (P := Try.prog) (dst := 9) Try.underlying30 Try.underlying5 Try.underlying9
  have hb5 : Below w.heap.size w3 (((((w3.setCell ⟨w.heap.size, 0, none⟩ v3).setCell ⟨w.heap.size, 1, none⟩ (.int .i64 (e : Int))).setCell ⟨w.heap.size + 1, 0, none⟩ v3).setCell ⟨w.heap.size + 1, 1, none⟩ (.int .i64 (e : Int))).drew) := (below_sets (below_sets (Below.refl _ _) (Nat.le_refl _)) (by omega)).drew
  have kc2 := (reads_on d4 HG.out hb5).text (P := Try.prog) (dst := 9) Try.underlying30 Try.underlying5 Try.underlying9
  have HB5 := Lib.hid hb5
  have D3 := Lib.hid d3
  obtain ⟨a3, n3, c3, rfl⟩ := d3.form
  clear d3 d4 hb4 hb5 hw3 hb3 cA0 cA1 fA0 fA1
  have cA0 : w3.cell? ⟨w.heap.size, 0, none⟩ = some (.slice a1 n1 c1) := block_cell bA3 0
  have cA1 : w3.cell? ⟨w.heap.size, 1, none⟩ = some (.int .i64 (e : Int)) := block_cell bA3 1
  have cB0 : w3.cell? ⟨w.heap.size + 1, 0, none⟩ = some (.slice none 0 0) := block_cell bB3 0
  have cB1 : w3.cell? ⟨w.heap.size + 1, 1, none⟩ = some (.int .i64 0) := block_cell bB3 1
  have fA0 := block_free bA3 0
  have fA1 := block_free bA3 1
  have fB0 := block_free bB3 0
  have fB1 := block_free bB3 1
  clear bA3 bB3
  go_wp2_with fail
  go_region
  go_wp2_with fail
  refine bodyPost_ret (v := .tuple #[.agg #[.slice a3 n3 c3, .int .i64 (e : Int)], .string (bs [])]) (by simp [results, Try.results44, go_sem, cA0, cA1, cB0, cB1]) rfl ?_
  exact ⟨_, rfl, reads_on D3.out HG.out HB5.out, HW3.out.trans HB5.out⟩
end Go.Proofs.Ytdlinlkdielmkaa.NR
