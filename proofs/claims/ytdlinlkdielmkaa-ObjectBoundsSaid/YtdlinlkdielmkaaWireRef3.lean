/-
  The reference's reader: words, and what it tells behind an error.
-/
import Derived.Test.YtdlinlkdielmkaaWireRef2
import Derived.BigRegion
set_option linter.unusedSimpArgs false
set_option linter.unusedVariables false
namespace Go.Proofs.Ytdlinlkdielmkaa.NR
open Go.RowKit WM

theorem four_parts (l : List UInt8) (h : l.length = 4) : ∃ c0 c1 c2 c3, l = [c0, c1, c2, c3] := by
  match l, h with
  | [a, b, c, d], _ => exact ⟨a, b, c, d, rfl⟩
theorem or4 (c0 c1 c2 c3 : UInt8) : bits .or .u32 (bits .or .u32 (bits .or .u32 (c0.toNat : Int) ((c1.toNat : Int) * 256)) ((c2.toNat : Int) * 65536)) ((c3.toNat : Int) * 16777216) = ((word4 [c0, c1, c2, c3] : Nat) : Int) := by
  have h0 := lt256 c0
  have h1 := lt256 c1
  have h2 := lt256 c2
  have h3 := lt256 c3
  have e1 : bits .or .u32 (c0.toNat : Int) ((c1.toNat : Int) * 256) = ((c0.toNat + c1.toNat * 256 : Nat) : Int) := by
    have := u32_or_nat c0.toNat (c1.toNat * 2 ^ 8) (by omega) (by omega)
    rw [or_add _ _ 8 (by omega)] at this
    simpa using this
  have e2 : bits .or .u32 ((c0.toNat + c1.toNat * 256 : Nat) : Int) ((c2.toNat : Int) * 65536) = ((c0.toNat + c1.toNat * 256 + c2.toNat * 65536 : Nat) : Int) := by
    have := u32_or_nat (c0.toNat + c1.toNat * 256) (c2.toNat * 2 ^ 16) (by omega) (by omega)
    rw [or_add _ _ 16 (by omega)] at this
    simpa using this
  have e3 : bits .or .u32 ((c0.toNat + c1.toNat * 256 + c2.toNat * 65536 : Nat) : Int) ((c3.toNat : Int) * 16777216) = ((c0.toNat + c1.toNat * 256 + c2.toNat * 65536 + c3.toNat * 16777216 : Nat) : Int) := by
    have := u32_or_nat (c0.toNat + c1.toNat * 256 + c2.toNat * 65536) (c3.toNat * 2 ^ 24) (by omega) (by omega)
    rw [or_add _ _ 24 (by omega)] at this
    simpa using this
  rw [e1, e2, e3]
  rfl
theorem or4w (c0 c1 c2 c3 : UInt8) : bits .or .u32 (bits .or .u32 (bits .or .u32 ((c0.toNat : Int) % 4294967296) ((c1.toNat : Int) % 4294967296 * 256 % 4294967296)) ((c2.toNat : Int) % 4294967296 * 65536 % 4294967296)) ((c3.toNat : Int) % 4294967296 * 16777216 % 4294967296) = ((word4 [c0, c1, c2, c3] : Nat) : Int) := by
  have h0 := lt256 c0
  have h1 := lt256 c1
  have h2 := lt256 c2
  have h3 := lt256 c3
  rw [show (c0.toNat : Int) % 4294967296 = c0.toNat by omega, show (c1.toNat : Int) % 4294967296 * 256 % 4294967296 = c1.toNat * 256 by omega,
    show (c2.toNat : Int) % 4294967296 * 65536 % 4294967296 = c2.toNat * 65536 by omega, show (c3.toNat : Int) % 4294967296 * 16777216 % 4294967296 = c3.toNat * 16777216 by omega]
  exact or4 c0 c1 c2 c3
theorem refWord_of (G : Nat → Prop) (w : World) (v : Value) (l b a : List UInt8) (e k : Nat) (hG : ∀ g, G g → g < w.heap.size) (hr : Reads G w v (u8s l)) (ha : a.length < 4)
    (CT : ∀ u, Below w.heap.size w u → Calls Try.prog 74 #[.agg #[v, .int .i64 (e : Int)], .int .i64 4] u (IsRefB G u k b a)) :
    Calls Try.prog 76 #[.agg #[v, .int .i64 (e : Int)]] w (IsRef G w k b (.int .u32 0)) := by
  obtain ⟨av, nv, cv, rfl⟩ := hr.form
  have HG := Lib.hid hG
  have CT := Lib.hid CT
  clear hr hG
  go_enter Try.func76, Try.ntmps76
  go_wp2_with fail
  refine (CT.out _ ?hcb).mono ?_
  case hcb => exact below_new2 w _ _
  rintro en w1 ⟨v3, v4, rfl, d3, d4, hb1⟩
  obtain ⟨bA, bB⟩ := two_blocks hb1
  have cA0 : w1.cell? ⟨w.heap.size, 0, none⟩ = some (.slice av nv cv) := block_cell bA 0
  have cA1 : w1.cell? ⟨w.heap.size, 1, none⟩ = some (.int .i64 (e : Int)) := block_cell bA 1
  have cB0 : w1.cell? ⟨w.heap.size + 1, 0, none⟩ = some (.slice none 0 0) := block_cell bB 0
  have cB1 : w1.cell? ⟨w.heap.size + 1, 1, none⟩ = some (.int .i64 0) := block_cell bB 1
  have fA0 := block_free bA 0
  have fA1 := block_free bA 1
  have fB0 := block_free bB 0
  have fB1 := block_free bB 1
  have hz1 : w.heap.size + 1 < w1.heap.size := by have := hb1.size; simp at this; omega
  have hw1 : Below w.heap.size w w1 := (below_new2 w _ _).trans (hb1.mono (by simp; omega))
  have hb5 : Below w.heap.size w1 ((((w1.setCell ⟨w.heap.size, 0, none⟩ v3).setCell ⟨w.heap.size, 1, none⟩ (.int .i64 (k : Int))).setCell ⟨w.heap.size + 1, 0, none⟩ v3).setCell ⟨w.heap.size + 1, 1, none⟩ (.int .i64 (k : Int))) := below_sets (below_sets (Below.refl _ _) (Nat.le_refl _)) (by omega)
  have HB5 := Lib.hid hb5
  have HW1 := Lib.hid hw1
  have D3 := Lib.hid d3
  obtain ⟨a3, n3, c3, rfl⟩ := d3.form
  obtain ⟨a4, c4, rfl, _, _⟩ := d4.shape
  rw [u8s_len] at *
  have ha' : (a.length : Int) < 4 := by omega
  clear d3 d4 bA bB hb1 hb5 hw1 CT ha
  generalize a.length = al at *
  go_wp2_with fail
  refine bodyPost_ret (v := .tuple #[.agg #[.slice a3 n3 c3, .int .i64 (k : Int)], .int .u32 0]) (by simp [results, Try.results76, go_sem, cA0, cA1, cB0, cB1]) rfl ?_
  exact ⟨_, rfl, reads_on D3.out HG.out HB5.out, HW1.out.trans HB5.out⟩
theorem refWord_four (G : Nat → Prop) (w : World) (v : Value) (l : List UInt8) (hG : ∀ g, G g → g < w.heap.size) (hr : Reads G w v (u8s l)) (hl : 4 ≤ l.length) :
    Calls Try.prog 76 #[.agg #[v, .int .i64 0]] w (IsRef G w 0 (l.drop 4) (.int .u32 (word4 (l.take 4) : Nat))) := by
  have CT := Lib.hid (fun (u : World) (hu : Below w.heap.size w u) => refTake_yes G u v l 4 (fun g hg => Nat.lt_of_lt_of_le (hG g hg) hu.size) (reads_on hr hG hu) hl)
  obtain ⟨c0, c1, c2, c3, h4⟩ := four_parts (l.take 4) (by simp; omega)
  rw [h4] at CT ⊢
  have OR := or4w c0 c1 c2 c3
  generalize word4 [c0, c1, c2, c3] = x at *
  obtain ⟨av, nv, cv, rfl⟩ := hr.form
  have HG := Lib.hid hG
  clear hr hG h4 hl
  go_enter Try.func76, Try.ntmps76
  go_wp2_with fail
  refine (CT.out _ ?hcb).mono ?_
  case hcb => exact below_new2 w _ _
  rintro en w1 ⟨v3, v4, rfl, d3, d4, hb1⟩
  obtain ⟨bA, bB⟩ := two_blocks hb1
  obtain ⟨U, hU⟩ : ∃ U, U = ((w1.setCell ⟨w.heap.size, 0, none⟩ v3).setCell ⟨w.heap.size, 1, none⟩ (.int .i64 0)) := ⟨_, rfl⟩
  have hbU : Below w.heap.size w1 U := by rw [hU]; exact below_sets (Below.refl _ _) (Nat.le_refl _)
  have hw1 : Below w.heap.size w w1 := (below_new2 w _ _).trans (hb1.mono (by simp; omega))
  have hzA : w.heap.size + 1 < w1.heap.size := by have := hb1.size; simp at this; omega
  obtain ⟨g, off, cap, rfl, hg, hcap, hcm, hcell⟩ := (reads_on d4 HG.out hbU).cells (by simp [u8s])
  have k0 : U.cell? ⟨g, off, none⟩ = some (.int .u8 (c0.toNat : Int)) := hcell 0 (by simp [u8s])
  have k1 : U.cell? ⟨g, off + 1, none⟩ = some (.int .u8 (c1.toNat : Int)) := hcell 1 (by simp [u8s])
  have k2 : U.cell? ⟨g, off + 2, none⟩ = some (.int .u8 (c2.toNat : Int)) := hcell 2 (by simp [u8s])
  have k3 : U.cell? ⟨g, off + 3, none⟩ = some (.int .u8 (c3.toNat : Int)) := hcell 3 (by simp [u8s])
  have hgl : g < w.heap.size := HG.out g hg
  have hUA : U.heap[w.heap.size]? = some (.cells #[v3, .int .i64 0] 75 (0, 0)) := by rw [hU]; exact block_set (block_set bA 0 v3) 1 _
  have hUB : U.heap[w.heap.size + 1]? = some (.cells #[.slice none 0 0, .int .i64 0] 75 (0, 0)) := by
    rw [hU, Below.heap_setCell _ _ _ _ (by simp), Below.heap_setCell _ _ _ _ (by simp)]; exact bB
  have cA0 : w1.cell? ⟨w.heap.size, 0, none⟩ = some (.slice av nv cv) := block_cell bA 0
  have cA1 : w1.cell? ⟨w.heap.size, 1, none⟩ = some (.int .i64 0) := block_cell bA 1
  have fA0 := block_free bA 0
  have fA1 := block_free bA 1
  have hw4 : (u8s [c0, c1, c2, c3]).length = 4 := rfl
  rw [hw4]
  clear hcell hcap hcm d4 hw4
  have D3 := Lib.hid (reads_on d3 HG.out hbU)
  obtain ⟨a3, n3, c3', rfl⟩ := d3.form
  have HU := Lib.hid hU
  have HUA := Lib.hid hUA
  have HUB := Lib.hid hUB
  have HBU := Lib.hid (hw1.trans hbU)
  clear hU hUA hUB hb1 bA bB hbU hw1 CT d3
  go_wp2_with fail
  rw [← HU.out]
  have uA0 : U.cell? ⟨w.heap.size, 0, none⟩ = some (.slice a3 n3 c3') := block_cell HUA.out 0
  have uA1 : U.cell? ⟨w.heap.size, 1, none⟩ = some (.int .i64 0) := block_cell HUA.out 1
  have uB0 : U.cell? ⟨w.heap.size + 1, 0, none⟩ = some (.slice none 0 0) := block_cell HUB.out 0
  have uB1 : U.cell? ⟨w.heap.size + 1, 1, none⟩ = some (.int .i64 0) := block_cell HUB.out 1
  have gB0 := block_free HUB.out 0
  have gB1 := block_free HUB.out 1
  clear cA0 cA1 fA0 fA1
  have hbb : Below w.heap.size U ((((U.setCell ⟨w.heap.size + 1, 0, none⟩ (.slice a3 n3 c3')).setCell ⟨w.heap.size + 1, 1, none⟩ (.int .i64 0))).drew) := (below_sets (Below.refl _ _) (by omega)).drew
  have HBB := Lib.hid hbb
  clear hbb
  go_region
  go_wp2_with fail
  refine bodyPost_ret (v := .tuple #[.agg #[.slice a3 n3 c3', .int .i64 0], .int .u32 (x : Int)]) (by simp [results, Try.results76, go_sem, uB0, uB1, uA0, uA1, OR]) rfl ?_
  exact ⟨_, rfl, reads_on D3.out HG.out HBB.out, HBU.out.trans HBB.out⟩
/-- the reference's Word: where nothing is wrong yet -/
theorem refWord_good (G : Nat → Prop) (w : World) (v : Value) (l b : List UInt8) (k n : Nat) (hG : ∀ g, G g → g < w.heap.size) (hr : Reads G w v (u8s l)) (hv : rdWord l = (k, n, b)) :
    Calls Try.prog 76 #[.agg #[v, .int .i64 0]] w (IsRef G w k b (.int .u32 (n : Int))) := by
  unfold rdWord at hv
  by_cases h4 : 4 ≤ l.length
  · rw [if_pos h4] at hv
    obtain ⟨rfl, hv2⟩ := Prod.mk.inj hv
    obtain ⟨rfl, rfl⟩ := Prod.mk.inj hv2
    exact refWord_four G w v l hG hr h4
  · rw [if_neg h4] at hv
    obtain ⟨rfl, hv2⟩ := Prod.mk.inj hv
    obtain ⟨rfl, rfl⟩ := Prod.mk.inj hv2
    exact refWord_of G w v l [] [] 0 3 hG hr (by simp) (fun u hu => refTake_no G u v l 4 (fun g hg => Nat.lt_of_lt_of_le (hG g hg) hu.size) (reads_on hr hG hu) (by omega))
theorem refWord_dead (G : Nat → Prop) (w : World) (v : Value) (l : List UInt8) (e : Nat) (hG : ∀ g, G g → g < w.heap.size) (hr : Reads G w v (u8s l)) (he : e ≠ 0) :
    Calls Try.prog 76 #[.agg #[v, .int .i64 (e : Int)]] w (IsRef G w e l (.int .u32 0)) :=
  refWord_of G w v l l [] e e hG hr (by simp) (fun u hu => refTake_dead G u v l e 4 (fun g hg => Nat.lt_of_lt_of_le (hG g hg) hu.size) (reads_on hr hG hu) he)
end Go.Proofs.Ytdlinlkdielmkaa.NR
