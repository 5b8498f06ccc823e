/-
  The reference's reader: lists of words that are there.
-/
import Derived.Test.YtdlinlkdielmkaaWireRef4
set_option linter.unusedSimpArgs false
set_option linter.unusedVariables false
set_option maxRecDepth 10000
namespace Go.Proofs.Ytdlinlkdielmkaa.NR
open Go.RowKit WM

theorem refWords_cut (G : Nat → Prop) (w : World) (v : Value) (l l' : List UInt8) (n : Nat) (M : Int) (hG : ∀ g, G g → g < w.heap.size) (hr : Reads G w v (u8s l)) (hM : -9223372036854775808 ≤ M ∧ M ≤ 9223372036854775807) (hv : rdVar (capM M) l = (0, n, l')) (hn : l'.length < 4 * n) :
    Calls Try.prog 46 #[.agg #[v, .int .i64 0], .int .i64 M] w (IsRefW G w 3 [] []) := by
  have hcap := capM_other M
  have hml := capM_lt M
  generalize capM M = m at *
  obtain ⟨hM1, hM2⟩ := hM
  have hnb : (n : Int) ≤ 4294967295 := by
    have h0 := rdVar_num m l
    rw [hv] at h0
    have h1 : n ≤ 4294967295 := h0
    omega
  have CV := Lib.hid (fun (u : World) (hu : Below w.heap.size w u) => rrVar_any G u v l m (fun g hg => Nat.lt_of_lt_of_le (hG g hg) hu.size) (reads_on hr hG hu) hml 0 n l' hv)
  have HG := Lib.hid hG
  obtain ⟨av, nv, cv, rfl⟩ := hr.form
  have hml' : (m : Int) < 4294967296 := by omega
  have HN := Lib.hid hn
  clear hr hG hml hv hn
  generalize hmz : (m : Int) = mz at *
  clear hmz
  go_enter Try.func46, Try.ntmps46
  go_wp2_with fail
  refine (CV.out _ ?hcb).mono ?_
  case hcb => exact below_new2 w _ _
  rintro en w1 ⟨v1, rfl, d1, hb1⟩
  obtain ⟨bA, bB⟩ := two_blocks hb1
  have cA0 : w1.cell? ⟨w.heap.size, 0, none⟩ = some (.slice av nv cv) := block_cell bA 0
  have cA1 : w1.cell? ⟨w.heap.size, 1, none⟩ = some (.int .i64 0) := block_cell bA 1
  have cB0 : w1.cell? ⟨w.heap.size + 1, 0, none⟩ = some (.slice none 0 0) := block_cell bB 0
  have cB1 : w1.cell? ⟨w.heap.size + 1, 1, none⟩ = some (.int .i64 0) := block_cell bB 1
  have fA0 := block_free bA 0
  have fA1 := block_free bA 1
  have fB0 := block_free bB 0
  have fB1 := block_free bB 1
  have hz1 : w.heap.size + 1 < w1.heap.size := by have := hb1.size; simp at this; omega
  have hw1 : Below w.heap.size w w1 := (below_new2 w _ _).trans (hb1.mono (by simp; omega))
  have HW1 := Lib.hid hw1
  obtain ⟨a1, c1, rfl, _, _⟩ := d1.shape
  rw [u8s_len] at *
  have hlt : (l'.length : Int) / 4 < (n : Int) := by have := HN.out; omega
  clear d1 bA bB hb1 hw1 CV
  generalize l'.length = L at *
  clear HN
  go_wp2_with (go_in)
  refine bodyPost_ret (v := .agg #[.slice none 0 0, .int .i64 3]) (by simp [results, Try.results75, go_sem]) rfl ?_
  go_wp2_with fail
  refine bodyPost_ret (v := .tuple #[.agg #[.slice none 0 0, .int .i64 3], .slice none 0 0]) (by simp [results, Try.results46, go_sem, cA0, cA1, cB0, cB1, hz1]) rfl ?_
  refine ⟨_, _, rfl, Reads.nil _ _, World.ownsRow_nil _ _ _ _, HW1.out.trans ?_⟩
  repeat (first | exact Below.refl _ _ | refine Below.alloc ?_ (by simp; try omega) _ | refine Below.setCell ?_ (by simp; try omega) _)
theorem takeW_succ : ∀ (k : Nat) (t : List UInt8), takeW (k + 1) t = takeW k t ++ [word4 ((t.drop (4 * k)).take 4)]
  | 0, t => rfl
  | k + 1, t => by
    rw [takeW, takeW_succ k (t.drop 4), takeW, List.drop_drop, show 4 + 4 * k = 4 * (k + 1) by omega]
    rfl
set_option maxHeartbeats 1000000 in
theorem refWords_loop (G : Nat → Prop) (w : World) (v : Value) (l l' : List UInt8) (n : Nat) (M : Int) (hG : ∀ g, G g → g < w.heap.size) (hr : Reads G w v (u8s l)) (hM : -9223372036854775808 ≤ M ∧ M ≤ 9223372036854775807) (hv : rdVar (capM M) l = (0, n, l')) (hn : 4 * n ≤ l'.length) (hl : l'.length ≤ 140737488351232) :
    Calls Try.prog 46 #[.agg #[v, .int .i64 0], .int .i64 M] w (IsRefW G w 0 (l'.drop (4 * n)) (takeW n l')) := by
  obtain ⟨i0, hi, hz0, hz1', hz2⟩ := info_parts infoWord
  have hcap := capM_other M
  have hml := capM_lt M
  generalize capM M = m at *
  obtain ⟨hM1, hM2⟩ := hM
  have hnb : (n : Int) ≤ 4294967295 := by
    have h0 := rdVar_num m l
    rw [hv] at h0
    have h1 : n ≤ 4294967295 := h0
    omega
  have CV := Lib.hid (fun (u : World) (hu : Below w.heap.size w u) => rrVar_any G u v l m (fun g hg => Nat.lt_of_lt_of_le (hG g hg) hu.size) (reads_on hr hG hu) hml 0 n l' hv)
  have HG := Lib.hid hG
  obtain ⟨av, nv, cv, rfl⟩ := hr.form
  have hml' : (m : Int) < 4294967296 := by omega
  have HN := Lib.hid hn
  have HL := Lib.hid hl
  clear hr hG hml hv hn hl
  generalize hmz : (m : Int) = mz at *
  clear hmz
  go_enter Try.func46, Try.ntmps46
  go_wp2_with fail
  refine (CV.out _ ?hcb).mono ?_
  case hcb => exact below_new2 w _ _
  rintro en w1 ⟨v1, rfl, d1, hb1⟩
  obtain ⟨bA, bB⟩ := two_blocks hb1
  have cA0 : w1.cell? ⟨w.heap.size, 0, none⟩ = some (.slice av nv cv) := block_cell bA 0
  have cA1 : w1.cell? ⟨w.heap.size, 1, none⟩ = some (.int .i64 0) := block_cell bA 1
  have fA0 := block_free bA 0
  have fA1 := block_free bA 1
  have hz1 : w.heap.size + 1 < w1.heap.size := by have := hb1.size; simp at this; omega
  have hw1 : Below w.heap.size w w1 := (below_new2 w _ _).trans (hb1.mono (by simp; omega))
  have hbs : Below w.heap.size w1 ((w1.setCell ⟨w.heap.size, 0, none⟩ v1).setCell ⟨w.heap.size, 1, none⟩ (.int .i64 0)) := below_sets (Below.refl _ _) (Nat.le_refl _)
  have HA1 := Lib.hid (block_set (block_set bA 0 v1) 1 (.int .i64 0))
  have hB1 : ((w1.setCell ⟨w.heap.size, 0, none⟩ v1).setCell ⟨w.heap.size, 1, none⟩ (.int .i64 0)).heap[w.heap.size + 1]? = some (.cells #[.slice none 0 0, .int .i64 0] 75 (0, 0)) := by
    rw [Below.heap_setCell _ _ _ _ (by simp), Below.heap_setCell _ _ _ _ (by simp)]; exact bB
  have HB1 := Lib.hid hB1
  have HW1 := Lib.hid (hw1.trans hbs)
  have D1 := Lib.hid (reads_on d1 HG.out hbs)
  obtain ⟨a1, c1, rfl, _, _⟩ := d1.shape
  rw [u8s_len] at *
  have hlt : (n : Int) ≤ (l'.length : Int) / 4 := by have := HN.out; omega
  have hl2 : (l'.length : Int) ≤ 140737488351232 := by have := HL.out; omega
  clear d1 bA bB hb1 hw1 CV hbs hB1
  generalize hLL : l'.length = L at *
  have HLL := Lib.hid hLL
  clear hLL
  go_wp2_with fail
  clear cA0 cA1 fA0 fA1 hlt
  go_loopw [7, 8] (fun s i wr => ∃ (k : Nat) (q vr : Value), k ≤ n ∧ i = .int .i64 (k : Int) ∧ q = s ∧ wr.ownsRow (w.heap.size + 2) 43 1 q k (u32s (takeW k l')) ∧ Below w.heap.size w wr ∧ w.heap.size + 2 ≤ wr.heap.size ∧ Hid (wr.heap[w.heap.size]? = some (.cells #[vr, .int .i64 0] 75 (0, 0))) ∧ Hid (wr.heap[w.heap.size + 1]? = some (.cells #[.slice none 0 0, .int .i64 0] 75 (0, 0))) ∧ Hid (Reads G wr vr (u8s (l'.drop (4 * k))))) (fun _ i _ => n - (intOf i).toNat)
  case atStart => exact ⟨0, _, _, by omega, rfl, rfl, World.ownsRow_nil _ _ _ _, HW1.out, by simp; omega, HA1.out, HB1.out, D1.out⟩
  case round =>
    obtain ⟨k, q, vr, hk, rfl, rfl, hown, hb, hsz, HA, HB, HD⟩ := hrel
    have cA0 : wr.cell? ⟨w.heap.size, 0, none⟩ = some vr := block_cell HA.out 0
    have cA1 : wr.cell? ⟨w.heap.size, 1, none⟩ = some (.int .i64 0) := block_cell HA.out 1
    by_cases hlt : k < n
    · have hlt' : (k : Int) < n := by omega
      have hW : rdWord (l'.drop (4 * k)) = (0, word4 ((l'.drop (4 * k)).take 4), l'.drop (4 * (k + 1))) := by
        unfold rdWord
        rw [if_pos (by rw [List.length_drop, HLL.out]; have := HN.out; omega), List.drop_drop]
        congr 3
      have CW := Lib.hid (refWord_good G wr vr _ _ _ _ (fun g hg => Nat.lt_of_lt_of_le (HG.out g hg) hb.size) HD.out hW)
      have HT := Lib.hid (takeW_succ k l')
      generalize word4 ((l'.drop (4 * k)).take 4) = x at *
      have hnm : k + 1 ≤ maxLen := by unfold maxLen; omega
      have hnb2 : (k + 1) * 4 ≤ 140737488355328 := by omega
      obtain ⟨ar, nr, cr, rfl⟩ := HD.out.form
      clear hW
      go_wp2_with fail
      refine CW.out.mono ?_
      rintro en w2 ⟨v2, rfl, d2, hb2⟩
      have hA2 : w2.heap[w.heap.size]? = some (.cells #[.slice ar nr cr, .int .i64 0] 75 (0, 0)) := by rw [hb2.block _ (by omega)]; exact HA.out
      have hB2 : w2.heap[w.heap.size + 1]? = some (.cells #[.slice none 0 0, .int .i64 0] 75 (0, 0)) := by rw [hb2.block _ (by omega)]; exact HB.out
      have dA0 : w2.cell? ⟨w.heap.size, 0, none⟩ = some (.slice ar nr cr) := block_cell hA2 0
      have dA1 : w2.cell? ⟨w.heap.size, 1, none⟩ = some (.int .i64 0) := block_cell hA2 1
      have fA0 := block_free hA2 0
      have fA1 := block_free hA2 1
      obtain ⟨U, hU⟩ : ∃ U, U = ((w2.setCell ⟨w.heap.size, 0, none⟩ v2).setCell ⟨w.heap.size, 1, none⟩ (.int .i64 0)) := ⟨_, rfl⟩
      have hbU : Below w.heap.size w2 U := by rw [hU]; exact below_sets (Below.refl _ _) (Nat.le_refl _)
      have HAU : U.heap[w.heap.size]? = some (.cells #[v2, .int .i64 0] 75 (0, 0)) := by rw [hU]; exact block_set (block_set hA2 0 v2) 1 _
      have HBU : U.heap[w.heap.size + 1]? = some (.cells #[.slice none 0 0, .int .i64 0] 75 (0, 0)) := by
        rw [hU, Below.heap_setCell _ _ _ _ (by simp), Below.heap_setCell _ _ _ _ (by simp)]; exact hB2
      have hUs : wr.heap.size ≤ U.heap.size := Nat.le_trans hb2.size hbU.size
      have hown2 : U.ownsRow (w.heap.size + 2) 43 1 q k (u32s (takeW k l')) := by
        have h1 := owns_below hown hb2
        rw [hU]
        have hq : ∀ a : Nat, a < w.heap.size + 2 → q.ownBlock ≠ some a := fun a ha e => by have := (hown.lt a e).1; omega
        exact ownsRow_setCell_other (ownsRow_setCell_other h1 (a := ⟨w.heap.size, 0, none⟩) (hq _ (by simp)) v2) (a := ⟨w.heap.size, 1, none⟩) (hq _ (by simp)) _
      have hDU : Hid (Reads G U v2 (u8s (l'.drop (4 * (k + 1))))) := Lib.hid (reads_on d2 HG.out hbU)
      have hWU : Below w.heap.size w U := (hb.trans (hb2.mono hb.size)).trans hbU
      obtain ⟨a2, n2, c2, rfl⟩ := d2.form
      have HU := Lib.hid hU
      have HAU' := Lib.hid HAU
      have HBU' := Lib.hid HBU
      have HWU := Lib.hid hWU
      clear hU HAU HBU hA2 hB2 hWU d2 hb2
      have hown2s : ((w2.setCell ⟨w.heap.size, 0, none⟩ (.slice a2 n2 c2)).setCell ⟨w.heap.size, 1, none⟩ (.int .i64 0)).ownsRow (w.heap.size + 2) 43 1 q k (u32s (takeW k l')) := by rw [← HU.out]; exact hown2
      have hs2 : w.heap.size + 2 ≤ w2.heap.size := by have := hUs; rw [HU.out] at this; simp at this; omega
      clear hown hown2
      go_wp2_with (at_builtin; refine wpList_append_own _ rfl _ _ 23 rfl (w.heap.size + 2) 43 i0 (.int .u32 0) 1 4 Try.underlying23 hi hz0 hz1' hz2 rfl (by decide) _ _ _ rfl (hown2s.alloc _) ⟨w2.heap.size, 0, none⟩ 1 1 [.int .u32 (x : Int)] rfl rfl ?c1 ?c2 hnm hnb2 ?c5 ?_)
      case c1 =>
        intro j u hj
        cases j with
        | zero => simp at hj; subst hj; exact cell_of_row _ w2.heap.size 0 #[_] _ (0, 0) (by have := heap_alloc_new ((w2.setCell ⟨w.heap.size, 0, none⟩ (.slice a2 n2 c2)).setCell ⟨w.heap.size, 1, none⟩ (.int .i64 0)) (.cells #[.int .u32 (x : Int)] 43); simpa using this)
        | succ j => simp at hj
      case c2 => first | rfl | (intro u hu; simp at hu; subst hu; rfl)
      case c5 => first | omega | (simp; omega)
      intro v' w3 hown3 hgrow _
      rw [← HU.out] at hgrow
      have hlt3 : ∀ a : Nat, a < w.heap.size + 2 → (some a) ≠ q.ownBlock := fun a ha e => by have := (hown2s.lt a e.symm).1; omega
      have hal := below_new U (.cells #[.int .u32 (x : Int)] 43)
      have hUs2 : w.heap.size + 2 ≤ U.heap.size := by omega
      have h3 : ∀ g, g < w.heap.size + 2 → w3.heap[g]? = U.heap[g]? := fun g hg => (hgrow.block g (by simp; omega) (hlt3 g hg)).trans (hal.block g (by omega))
      have H3 := Lib.hid h3
      have hb3 : Below w.heap.size w w3 := (HWU.out.trans (hal.mono (by omega))).trans ⟨hgrow.os, hgrow.tape, hgrow.output, hgrow.size, fun g hg => hgrow.block g (by simp; omega) (hlt3 g (by omega))⟩
      have HB3 := Lib.hid hb3
      have hs3 : w.heap.size + 2 ≤ w3.heap.size := by have := hgrow.size; simp at this; omega
      have HO3 : Hid (w3.ownsRow (w.heap.size + 2) 43 1 v' (k + 1) (u32s (takeW (k + 1) l'))) := by
        show World.ownsRow _ _ _ _ _ _ _
        rw [HT.out, u32s_append]
        exact hown3
      clear hown3 hgrow hlt3 hal h3 hb3 hown2s dA0 dA1 fA0 fA1 cA0 cA1
      go_wp2_with fail
      go_roundw
      case rel => exact ⟨k + 1, _, _, by omega, by go_num, rfl, HO3.out, HB3.out, hs3, (H3.out _ (by omega)).trans HAU'.out, (H3.out _ (by omega)).trans HBU'.out, hDU.out.keep fun g hg _ => H3.out g (by have := HG.out g hg; omega)⟩
      case measure => simp [intOf]; omega
    · have hkn : ¬ (k : Int) < n := by omega
      have hke : k = n := by omega
      subst hke
      have cB0 : wr.cell? ⟨w.heap.size + 1, 0, none⟩ = some (.slice none 0 0) := block_cell HB.out 0
      have cB1 : wr.cell? ⟨w.heap.size + 1, 1, none⟩ = some (.int .i64 0) := block_cell HB.out 1
      have fB0 := block_free HB.out 0
      have fB1 := block_free HB.out 1
      have hb5 : Below w.heap.size wr (((wr.setCell ⟨w.heap.size + 1, 0, none⟩ vr).setCell ⟨w.heap.size + 1, 1, none⟩ (.int .i64 0))) := below_sets (Below.refl _ _) (by omega)
      have hown2 : (((wr.setCell ⟨w.heap.size + 1, 0, none⟩ vr).setCell ⟨w.heap.size + 1, 1, none⟩ (.int .i64 0))).ownsRow (w.heap.size + 2) 43 1 q k (u32s (takeW k l')) := by
        have hq : ∀ a : Nat, a < w.heap.size + 2 → q.ownBlock ≠ some a := fun a ha e => by have := (hown.lt a e).1; omega
        exact ownsRow_setCell_other (ownsRow_setCell_other hown (a := ⟨w.heap.size + 1, 0, none⟩) (hq _ (by simp)) vr) (a := ⟨w.heap.size + 1, 1, none⟩) (hq _ (by simp)) _
      have HO2 := Lib.hid hown2
      have HB5 := Lib.hid hb5
      have HW := Lib.hid hb
      obtain ⟨ar, nr, cr, rfl⟩ := HD.out.form
      clear hown2 hb5 hb hown
      go_wp2_with fail
      refine bodyPost_ret (v := .tuple #[.agg #[.slice ar nr cr, .int .i64 0], q]) (by simp [results, Try.results46, go_sem, cA0, cA1, cB0, cB1]) rfl ?_
      refine ⟨_, _, rfl, reads_on HD.out HG.out HB5.out, ?_, HW.out.trans HB5.out⟩
      rw [takeW_length]
      exact owns_base HO2.out (by omega)
end Go.Proofs.Ytdlinlkdielmkaa.NR
