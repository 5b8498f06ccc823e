/-
  One call of Words, held against the reference's; any call.
-/
import Derived.Test.YtjmmkebnebhfoaaWireDo
set_option linter.unusedSimpArgs false
set_option linter.unusedVariables false
namespace Go.Proofs.Ytjmmkebnebhfoaa.NR
open Go.RowKit WM

theorem stWords_few {M e e' : Nat} {a : List Nat} {l l' : List UInt8} (hv : stWords M e l = (e', a, l')) : a.length ≤ l.length := by
  unfold stWords at hv
  split at hv
  · obtain ⟨k, b, b', hb⟩ : ∃ k b b', rdBytes M 4 l = (k, b, b') := ⟨_, _, _, rfl⟩
    obtain ⟨n, hn, h2⟩ := rdWords_bytes _ _ _ _ _ hb
    rw [hv] at h2
    obtain ⟨rfl, h3⟩ := Prod.mk.inj h2
    obtain ⟨rfl, rfl⟩ := Prod.mk.inj h3
    have h4 := rdBytes_short M 4 l
    rw [hb] at h4
    have h5 : b.length ≤ l.length := h4
    rw [takeW_length]
    omega
  · obtain ⟨rfl, h2⟩ := Prod.mk.inj hv
    obtain ⟨rfl, rfl⟩ := Prod.mk.inj h2
    simp
/-- the numbers from k on are as they were -/
def From (w : World) (g k n : Nat) (ws : List Nat) : Prop := ∃ cur, w.heap[g]? = some (.cells cur 22 (0, 0)) ∧ ∀ j, k ≤ j → j < n → cur[j]? = some (.int .u32 ((ws.getD j 0 : Nat) : Int))
set_option maxHeartbeats 1000000 in
theorem do_words (w : World) (p : Nat) (v : Value) (l : List UInt8) (e : Nat) (Kd Mo : Int) (h : Rd w p l e) (hr : Reads (· < p) w v (u8s l)) (hl : l.length ≤ 140737488351232) (hel : e ≠ 0 → l = [])
    (hK : 0 ≤ Kd ∧ Kd ≤ 255) (hMo : -2147483648 ≤ Mo ∧ Mo ≤ 2147483647) (hk : Kd % 4 = 3) :
    Calls Try.prog 19 #[.pointer (some ⟨p, 0, none⟩), .agg #[v, .int .i64 (e : Int)], .agg #[.int .u8 Kd, .int .i32 Mo]] w (DoPost w p l) := by
  obtain ⟨e', ws, l', hst⟩ : ∃ e' n l', stWords (capM Mo) e l = (e', n, l') := ⟨_, _, _, rfl⟩
  have hp := h.lt
  have CX := Lib.hid (fun (u : World) (hu : Below w.heap.size w u) => xWords_st (· < p) u v l l' ws e e' Mo (fun g hg => Nat.lt_of_lt_of_le (Nat.lt_trans hg hp) hu.size) (reads_on hr (fun g hg => Nat.lt_trans hg hp) hu) (by omega) hl hst)
  have CR := Lib.hid (fun (u : World) (hu : Below w.heap.size w u) => rWords_st u p l l' ws e e' Mo (h.keep hu) (by omega) hl hst)
  obtain ⟨av, nv, cv, rfl⟩ := hr.form
  obtain ⟨hK1, hK2⟩ := hK
  obtain ⟨hM1, hM2⟩ := hMo
  have hk0 : (Kd % 4 == 0) = false := by simp [hk]
  have hk1 : (Kd % 4 == 1) = false := by simp [hk]
  have hk2 : (Kd % 4 == 2) = false := by simp [hk]
  have HST := Lib.hid hst
  have HEL := Lib.hid hel
  clear hst hel hr h hk
  go_enter Try.func19, Try.ntmps19
  go_wp2_with fail
  refine (CX.out _ ?hcb).mono ?_
  case hcb => exact (below_new2 w _ _).alloc (by simp; omega) _
  rintro en w1 ⟨v1, v2, rfl, d1, hown2, hb1⟩
  obtain ⟨b0, b1, b2⟩ := three_blocks hb1
  have hz1 : w.heap.size + 2 < w1.heap.size := by have := hb1.size; simp at this; omega
  have hw1 : Below w.heap.size w w1 := ((below_new2 w _ _).alloc (by simp; omega) _).trans (hb1.mono (by simp; omega))
  have a0 : w1.cell? ⟨w.heap.size, 0, none⟩ = some (.slice av nv cv) := block_cell b0 0
  have a1 : w1.cell? ⟨w.heap.size, 1, none⟩ = some (.int .i64 (e : Int)) := block_cell b0 1
  have fa0 := block_free b0 0
  have fa1 := block_free b0 1
  have k1 : w1.cell? ⟨w.heap.size + 1, 1, none⟩ = some (.int .i32 Mo) := block_cell b1 1
  have hn1 : ¬ w.heap.size + 1 = p := by omega
  have hn2 : ¬ w.heap.size + 1 + 1 = p := by omega
  have hz0 : w.heap.size + 1 < w1.heap.size := by omega
  have hz2 : w.heap.size + 1 + 1 < w1.heap.size := by omega
  obtain ⟨U, hU⟩ : ∃ U, U = ((w1.setCell ⟨w.heap.size, 0, none⟩ v1).setCell ⟨w.heap.size, 1, none⟩ (.int .i64 (e' : Int))) := ⟨_, rfl⟩
  have hbU : Below w.heap.size w1 U := by rw [hU]; exact below_sets (Below.refl _ _) (Nat.le_refl _)
  have hUs : U.heap.size = w1.heap.size := by rw [hU]; simp
  have hA : U.heap[w.heap.size]? = some (.cells #[v1, .int .i64 (e' : Int)] 34 (0, 0)) := by rw [hU]; exact block_set (block_set b0 0 v1) 1 _
  have hR : U.heap[w.heap.size + 1 + 1]? = some (.cells #[.slice none 0 0, .int .i64 0] 34 (0, 0)) := by
    rw [hU, Below.heap_setCell _ _ _ _ (by simp; omega), Below.heap_setCell _ _ _ _ (by simp; omega)]; exact b2
  have hO2 : U.ownsRow (w.heap.size + 3) 22 1 v2 ws.length (u32s ws) := by
    have hq : v2.ownBlock ≠ some w.heap.size := fun e => by have := (hown2.lt _ e).1; simp at this; omega
    rw [hU]
    exact ownsRow_setCell_other (ownsRow_setCell_other (owns_base hown2 (by simp)) (a := ⟨w.heap.size, 0, none⟩) hq v1) (a := ⟨w.heap.size, 1, none⟩) hq _
  have HU := Lib.hid hU
  have HA := Lib.hid hA
  have HR := Lib.hid hR
  have HO2 := Lib.hid hO2
  have HWU := Lib.hid (hw1.trans hbU)
  have HDU := Lib.hid (reads_on d1 (fun g hg => Nat.lt_trans hg hp) hbU)
  obtain ⟨a3, n3, c3, rfl⟩ := d1.form
  obtain ⟨a4, c4, hv2, _, _⟩ := (Reads.of_owns hown2).shape
  rw [u32s_len] at hv2
  subst hv2
  clear hU hA hR hO2 hw1 hbU b0 b1 b2 hb1 d1 hown2 CX
  go_wp2_with fail
  rw [← HU.out]
  refine (CR.out _ HWU.out).mono ?_
  rintro en w2 ⟨v3, rfl, hown3, hg2, hr2⟩
  have hA2 : w2.heap[w.heap.size]? = some (.cells #[.slice a3 n3 c3, .int .i64 (e' : Int)] 34 (0, 0)) := by
    rw [hg2.block _ (by omega) (fun e => by have := Option.some.inj e; omega)]; exact HA.out
  have hR2 : w2.heap[w.heap.size + 1 + 1]? = some (.cells #[.slice none 0 0, .int .i64 0] 34 (0, 0)) := by
    rw [hg2.block _ (by omega) (fun e => by have := Option.some.inj e; omega)]; exact HR.out
  have hown3' : w2.ownsRow U.heap.size 22 1 v3 ws.length (u32s ws) := hown3
  have HG2 := Lib.hid (grown_from HWU.out hg2)
  have HR2' : Rd w2 p l' e' := hr2
  have HRR := Lib.hid HR2'
  have hA3 := Lib.hid hA2
  have hR3 := Lib.hid hR2
  have hO3 : w2.ownsRow (w.heap.size + 3) 22 1 (.slice a4 ws.length c4) ws.length (u32s ws) := HO2.out.kept hg2 (by
    rcases hv : (Value.slice a4 ws.length c4).ownBlock with _ | g
    · exact Or.inl rfl
    · refine Or.inr fun e => ?_
      have h1 := (HO2.out.lt g hv).1
      have := Option.some.inj e
      omega)
  have hlt2 : ∀ g, (Value.slice a4 ws.length c4).ownBlock = some g → g < U.heap.size := fun g hg => (HO2.out.lt g hg).2
  have HOO := Lib.hid hO3
  have HLT := Lib.hid hlt2
  have fin : ∀ F, Below w.heap.size w2 F → DoPost w p l (.returned (.tuple #[.agg #[.slice a3 n3 c3, .int .i64 (e' : Int)], .bool true])) F := fun F hF =>
    ⟨_, e', l', rfl, grown_then HG2.out hF, HRR.out.far hF hp, by
      refine HDU.out.keep fun g hgp hlt => ?_
      rw [hF.block g (Nat.lt_trans hgp hp), hg2.block g hlt (fun e => by have := Option.some.inj e; omega)], stWords_dead HEL.out HST.out, stWords_len HST.out⟩
  have FIN := Lib.hid fin
  have hs2 := hg2.size
  clear hA2 hR2 hown3 hg2 hr2 hO3 hlt2 fin HR2'
  by_cases h0 : ws = []
  · subst h0
    obtain ⟨a5, c5, rfl, _, _⟩ := (Reads.of_owns hown3').shape
    have cA0 : w2.cell? ⟨w.heap.size, 0, none⟩ = some (.slice a3 n3 c3) := block_cell hA3.out 0
    have cA1 : w2.cell? ⟨w.heap.size, 1, none⟩ = some (.int .i64 (e' : Int)) := block_cell hA3.out 1
    have cR0 : w2.cell? ⟨w.heap.size + 1 + 1, 0, none⟩ = some (.slice none 0 0) := block_cell hR3.out 0
    have cR1 : w2.cell? ⟨w.heap.size + 1 + 1, 1, none⟩ = some (.int .i64 0) := block_cell hR3.out 1
    have fR0 := block_free hR3.out 0
    have fR1 := block_free hR3.out 1
    clear hown3'
    go_wp2_with fail
    refine wp_loop_rounds 1 ?_
    rw [rounds_succ]
    go_wp2_with fail
    refine bodyPost_ret (v := .tuple #[.agg #[.slice a3 n3 c3, .int .i64 (e' : Int)], .bool true]) (by simp [results, Try.results19, go_sem, cA0, cA1, cR0, cR1, u32s]) rfl ?_
    exact FIN.out _ (below_sets (Below.refl _ _) (by omega))
  · rcases hown3'.2 with ⟨rfl, hn⟩ | ⟨gm, cap, cur, rfl, hgm, hcellm, hcap, hcm, hsz, hcur⟩
    · exact absurd (List.length_eq_zero_iff.1 hn) h0
    · rcases HOO.out.2 with ⟨_, hn⟩ | ⟨g2, cap2, cur2, e2, hg2, hcell2, hcap2, hcm2, hsz2, hcur2⟩
      · exact absurd (List.length_eq_zero_iff.1 hn) h0
      · simp only [Value.slice.injEq, true_and] at e2
        obtain ⟨rfl, rfl⟩ := e2
        have hfrom : From w2 gm 0 ws.length ws := ⟨cur, hcellm, fun j _ hj => by
          have h1 := hown3'.cellAt j (by omega)
          rw [block_cell hcellm j] at h1
          rw [h1, u32s_at ws j hj]
          simp [List.getD, hj]⟩
        have hg2l := HLT.out g2 rfl
        have HC2 : Hid (∀ j, j < ws.length → w2.cell? ⟨g2, j, none⟩ = some (.int .u32 ((ws.getD j 0 : Nat) : Int))) := fun j hj => by
          have h1 := HOO.out.cellAt j (by omega)
          rw [h1, u32s_at ws j hj]
          simp [List.getD, hj]
        have hln : (ws.length : Int) ≤ 140737488351232 := by have := stWords_few HST.out; omega
        have hnp : (0 : Int) < ws.length := by have := List.length_pos_iff.2 h0; omega
        have HFR := Lib.hid hfrom
        have hg2g : g2 < U.heap.size := hg2l
        have hgmU : U.heap.size ≤ gm := hgm
        clear hfrom hown3' hcellm hcell2 hcur hcur2 hsz hsz2 hcm hcm2 hcap hcap2 h0 hg2l hgm HO2 HLT
        generalize hN : ws.length = N at *
        have HN := Lib.hid hN
        clear hN
        go_wp2_with fail
        go_loopw [16] (fun i wr => ∃ k : Nat, k ≤ N ∧ i = .int .i64 (k : Int) ∧ Below U.heap.size w2 wr ∧ Hid (From wr gm k N ws)) (fun i _ => N - (intOf i).toNat)
        case atStart => exact ⟨0, by omega, rfl, Below.refl _ _, HFR.out⟩
        case round =>
          obtain ⟨k, hk, rfl, hb, HF⟩ := hrel
          have hbs := hb.size
          by_cases hlt : k < N
          · have hlt' : (k : Int) < N := by omega
            have hkn : ¬ N ≤ k := by omega
            obtain ⟨curk, hck, hcks⟩ := HF.out
            have kl : wr.cell? ⟨g2, k, none⟩ = some (.int .u32 ((ws.getD k 0 : Nat) : Int)) := (World.cell?_of_block (w := w2) (a := ⟨g2, k, none⟩) (hb.block g2 hg2g)).trans (HC2.out k (by first | exact hlt | (rw [HN.out]; exact hlt)))
            have km : wr.cell? ⟨gm, k, none⟩ = some (.int .u32 ((ws.getD k 0 : Nat) : Int)) := (block_cell hck k).trans (hcks k (Nat.le_refl _) hlt)
            have fm : wr.frozen? ⟨gm, k, none⟩ = false := block_free hck k
            have HCK := Lib.hid hck
            have HCKS := Lib.hid hcks
            generalize ws.getD k 0 = x at *
            have hdk : decide (N ≤ k) = false := by simp; omega
            clear hck hcks hkn
            go_wp2_with fail
            go_quiet (fail)
            go_wp2_with fail
            go_roundw
            case rel =>
              refine ⟨k + 1, by omega, by go_num, ?_, ?_⟩
              · exact Below.setCell (below_drewN hb _) (by simp; omega) _
              · exact ⟨_, block_set (w := World.drewN wr _) HCK.out k _, fun j hj hjn => by
                  rw [Array.getElem?_setIfInBounds, if_neg (by omega)]
                  exact HCKS.out j (by omega) hjn⟩
            case measure => simp [intOf]; omega
          · have hkn : ¬ (k : Int) < N := by omega
            have hA4 : wr.heap[w.heap.size]? = some (.cells #[.slice a3 n3 c3, .int .i64 (e' : Int)] 34 (0, 0)) := by rw [hb.block _ (by omega)]; exact hA3.out
            have hR4 : wr.heap[w.heap.size + 1 + 1]? = some (.cells #[.slice none 0 0, .int .i64 0] 34 (0, 0)) := by rw [hb.block _ (by omega)]; exact hR3.out
            have cA0 : wr.cell? ⟨w.heap.size, 0, none⟩ = some (.slice a3 n3 c3) := block_cell hA4 0
            have cA1 : wr.cell? ⟨w.heap.size, 1, none⟩ = some (.int .i64 (e' : Int)) := block_cell hA4 1
            have cR0 : wr.cell? ⟨w.heap.size + 1 + 1, 0, none⟩ = some (.slice none 0 0) := block_cell hR4 0
            have cR1 : wr.cell? ⟨w.heap.size + 1 + 1, 1, none⟩ = some (.int .i64 0) := block_cell hR4 1
            have fR0 := block_free hR4 0
            have fR1 := block_free hR4 1
            have hbw : Below w.heap.size w2 wr := hb.mono (by omega)
            have HBW := Lib.hid hbw
            clear hA4 hR4 hb hbw
            go_wp2_with fail
            refine bodyPost_ret (v := .tuple #[.agg #[.slice a3 n3 c3, .int .i64 (e' : Int)], .bool true]) (by simp [results, Try.results19, go_sem, cA0, cA1, cR0, cR1]) rfl ?_
            exact FIN.out _ (below_sets HBW.out (by omega))
/-- one call of both: they tell the same -/
theorem do_any (w : World) (p : Nat) (v : Value) (l : List UInt8) (e : Nat) (Kd Mo : Int) (h : Rd w p l e) (hr : Reads (· < p) w v (u8s l)) (hl : l.length ≤ 140737488351232) (hel : e ≠ 0 → l = [])
    (hK : 0 ≤ Kd ∧ Kd ≤ 255) (hMo : -2147483648 ≤ Mo ∧ Mo ≤ 2147483647) :
    Calls Try.prog 19 #[.pointer (some ⟨p, 0, none⟩), .agg #[v, .int .i64 (e : Int)], .agg #[.int .u8 Kd, .int .i32 Mo]] w (DoPost w p l) := by
  have h4 : Kd % 4 = 0 ∨ Kd % 4 = 1 ∨ Kd % 4 = 2 ∨ Kd % 4 = 3 := by omega
  rcases h4 with hk | hk | hk | hk
  · exact do_var w p v l e Kd Mo h hr hl hel hK hMo hk
  · exact do_text w p v l e Kd Mo h hr hl hel hK hMo hk
  · exact do_word w p v l e Kd Mo h hr hl hel hK hMo hk
  · exact do_words w p v l e Kd Mo h hr hl hel hK hMo hk
end Go.Proofs.Ytjmmkebnebhfoaa.NR
