/-
  The reference's reader: numbers, bytes.
-/
import Derived.Test.YtdlinlkdielmkaaWireRd3
set_option linter.unusedSimpArgs false
set_option linter.unusedVariables false
namespace Go.Proofs.Ytdlinlkdielmkaa.NR
open Go.RowKit WM

theorem stop_any (w : World) (k : Int) :
    Calls Try.prog 75 #[.int .i64 k] w fun en w' => en = .returned (.agg #[.slice none 0 0, .int .i64 k]) ∧ Below w.heap.size w w' := by
  go_enter Try.func75, Try.ntmps75
  go_wp2
  exact bodyPost_ret (v := .agg #[.slice none 0 0, .int .i64 k]) (by simp [results, Try.results75, go_sem]) rfl ⟨rfl, below_new w _⟩
/-- what the reference tells: the reader behind the call, and a value -/
def IsRef (G : Nat → Prop) (w : World) (e : Nat) (l : List UInt8) (x : Value) (en : Ending) (w' : World) : Prop :=
  ∃ v, en = .returned (.tuple #[.agg #[v, .int .i64 (e : Int)], x]) ∧ Reads G w' v (u8s l) ∧ Below w.heap.size w w'
theorem rrVar_dead (G : Nat → Prop) (w : World) (v : Value) (l : List UInt8) (e : Nat) (M : Int) (hG : ∀ g, G g → g < w.heap.size) (hr : Reads G w v (u8s l)) (he : e ≠ 0) :
    Calls Try.prog 73 #[.agg #[v, .int .i64 (e : Int)], .int .u32 M] w (IsRef G w e l (.int .u32 0)) := by
  have HR := Lib.hid hr
  obtain ⟨a, n, c, rfl⟩ := hr.form
  have he' : ((e : Int) != 0) = true := by simp; omega
  clear hr he
  go_enter Try.func73, Try.ntmps73
  go_wp2
  have hb := below_new2 w (.cells #[.slice a n c, .int .i64 (e : Int)] 75) (.cells #[.slice a n c, .int .i64 (e : Int)] 75)
  exact bodyPost_ret (v := .tuple #[.agg #[.slice a n c, .int .i64 (e : Int)], .int .u32 0]) (by simp [results, Try.results73, go_sem]) rfl ⟨_, rfl, HR.out.keep fun g hg _ => hb.block g (hG g hg), hb⟩
theorem vr_step (most f k N : Nat) (c : UInt8) (t : List UInt8) : vr most (f + 1) k N (c :: t) =
    if 128 ≤ c.toNat then vr most f (k + 1) (N + c.toNat % 128 * 128 ^ k) t
    else if 4294967295 < N + c.toNat % 128 * 128 ^ k ∨ (0 < k ∧ c.toNat = 0) then (4, 0, [])
    else if most < N + c.toNat % 128 * 128 ^ k then (5, 0, [])
    else (0, N + c.toNat % 128 * 128 ^ k, t) := rfl
theorem ref_step (N k : Nat) (Nz : Int) (y : UInt8) (hz : (N : Int) = Nz) (hN : N < 128 ^ k) (hk : k ≤ 4) :
    IntKind.u64.wrap (Nz + IntKind.u64.wrap ((y.toNat : Int) % 128 * 2 ^ (7 * k))) = ((N + y.toNat % 128 * 128 ^ k : Nat) : Int) ∧ N + y.toNat % 128 * 128 ^ k < 128 ^ (k + 1) := by
  have hy := lt256 y
  have hp : 128 ^ k ≤ 128 ^ 4 := Nat.pow_le_pow_right (by omega) hk
  have h1 : y.toNat % 128 * 128 ^ k ≤ 127 * 128 ^ k := Nat.mul_le_mul_right _ (by omega)
  have h2 : 127 * 128 ^ k ≤ 127 * 128 ^ 4 := Nat.mul_le_mul_left _ hp
  have e1 : (y.toNat : Int) % 128 * 2 ^ (7 * k) = ((y.toNat % 128 * 128 ^ k : Nat) : Int) := by
    rw [← pow7, Int.natCast_mul, Int.natCast_pow]
    rfl
  refine ⟨?_, by rw [Nat.pow_succ]; omega⟩
  rw [e1, wrap64_small ((y.toNat % 128 * 128 ^ k : Nat) : Int) (by omega) (by omega), ← hz, wrap64_small _ (by omega) (by omega)]
  omega
set_option maxHeartbeats 1000000 in
theorem rrVar_any (G : Nat → Prop) (w : World) (v : Value) (l : List UInt8) (most : Nat) (hG : ∀ g, G g → g < w.heap.size) (hr : Reads G w v (u8s l)) (hm : most < 4294967296) (e n : Nat) (l' : List UInt8) (hv : rdVar most l = (e, n, l')) :
    Calls Try.prog 73 #[.agg #[v, .int .i64 0], .int .u32 (most : Int)] w (IsRef G w e l' (.int .u32 (n : Int))) := by
  have HR := Lib.hid hr
  obtain ⟨a, c, rfl, hcap, hcm⟩ := hr.shape
  rw [u8s_len] at *
  unfold maxLen at hcm
  have hlm : (l.length : Int) ≤ 9223372036854775807 := by omega
  have HV := Lib.hid hv
  have HG := Lib.hid hG
  have HM := Lib.hid hm
  have hMm : (most : Int) < 4294967296 := by omega
  have hMm0 : (0 : Int) ≤ most := by omega
  clear hr hv hcap hcm hG hm
  generalize hMz : (most : Int) = M at *
  have HMz := Lib.hid hMz
  clear hMz
  generalize hL : l.length = L at *
  have HL := Lib.hid hL
  clear hL
  generalize hLz : (L : Int) = Lz at *
  have HLz := Lib.hid hLz
  clear hLz
  go_enter Try.func73, Try.ntmps73
  go_wp2_with fail
  go_loop [6, 7] (fun q i => ∃ (k N : Nat) (Nz : Int), k ≤ 5 ∧ i = .int .i64 (k : Int) ∧ q = .int .u64 Nz ∧ 0 ≤ Nz ∧ Nz < 34359738368 ∧ Hid ((N : Int) = Nz ∧ N < 128 ^ k ∧ k ≤ l.length ∧ vr most (5 - k) k N (l.drop k) = rdVar most l)) (fun _ i => 5 - (intOf i).toNat)
  case atStart => exact ⟨0, 0, 0, by omega, rfl, rfl, by omega, by omega, by omega, by simp, by simp, rfl⟩
  case round =>
    obtain ⟨k, N, Nz, hk, rfl, rfl, hN0, hN1, HN⟩ := hrel
    by_cases h5 : k < 5
    · have h5' : (k : Int) < 5 := by omega
      by_cases hkl : k < L
      · have hkl' : (k : Int) < Lz := by have := HLz.out; omega
        obtain ⟨g, off, cap', hv', hg, hcap', hcm', hcell⟩ := HR.out.cells (by intro h; have := congrArg List.length h; rw [u8s_len, HL.out] at this; simp at this; omega)
        rw [u8s_len, HL.out] at hv' hcap' hcell
        have hgl : g < w.heap.size := HG.out g hg
        simp only [Value.slice.injEq, true_and] at hv'
        obtain ⟨rfl, rfl⟩ := hv'
        have hkll : k < l.length := by rw [HL.out]; exact hkl
        have hck := (hcell k (by omega)).trans (u8s_get l l[k] k (by simp))
        have hdrop : l.drop k = l[k] :: l.drop (k + 1) := List.drop_eq_getElem_cons hkll
        generalize l[k] = y at *
        have HDR := Lib.hid hdrop
        clear hdrop hcell hcap' hcm'
        by_cases hy : 128 ≤ y.toNat
        · have hy' : (128 : Int) ≤ (y.toNat : Int) := by omega
          go_wp2_with fail
          go_roundw
          case rel =>
            refine ⟨k + 1, N + y.toNat % 128 * 128 ^ k, _, by omega, by go_num, rfl, ?_, ?_, ?_⟩
            · rw [(ref_step N k Nz y HN.out.1 HN.out.2.1 (by omega)).1]; omega
            · rw [(ref_step N k Nz y HN.out.1 HN.out.2.1 (by omega)).1]
              have h1 := (ref_step N k Nz y HN.out.1 HN.out.2.1 (by omega)).2
              have h2 : 128 ^ (k + 1) ≤ 128 ^ 5 := Nat.pow_le_pow_right (by omega) (by omega)
              omega
            · refine ⟨((ref_step N k Nz y HN.out.1 HN.out.2.1 (by omega)).1).symm, (ref_step N k Nz y HN.out.1 HN.out.2.1 (by omega)).2, hkll, ?_⟩
              have e4 := HN.out.2.2.2
              rw [HDR.out, show 5 - k = (5 - (k + 1)) + 1 by omega, vr_step, if_pos hy] at e4
              exact e4
          case measure => simp [intOf]; omega
        · have hy' : ¬ (128 : Int) ≤ (y.toNat : Int) := by omega
          have RS := ref_step N k Nz y HN.out.1 HN.out.2.1 (by omega)
          obtain ⟨J, hJ⟩ : ∃ J, J = N + y.toNat % 128 * 128 ^ k := ⟨_, rfl⟩
          rw [← hJ] at RS
          obtain ⟨RS1, RS2⟩ := RS
          have e4 := HN.out.2.2.2
          rw [HDR.out, show 5 - k = (5 - (k + 1)) + 1 by omega, vr_step, if_neg hy, ← hJ] at e4
          have hJ5 : J < 34359738368 := by
            have h2 : 128 ^ (k + 1) ≤ 128 ^ 5 := Nat.pow_le_pow_right (by omega) (by omega)
            omega
          have E4 := Lib.hid e4
          clear hJ RS2 e4 hN0 hN1
          have hJ0 : (0 : Int) ≤ (J : Int) := by omega
          have hJ1 : (J : Int) < 34359738368 := by omega
          clear hJ5
          generalize hJz : (J : Int) = Jz at *
          have HJz := Lib.hid hJz
          clear hJz
          by_cases hA : 4294967295 < Jz
          · have EV : Hid (rdVar most l = (4, 0, [])) := by
              show _ = _
              rw [← E4.out, if_pos (Or.inl (by have := HJz.out; omega))]
            clear hkll
            go_wp2_with (go_in)
            refine bodyPost_ret (v := .agg #[.slice none 0 0, .int .i64 4]) (by simp [results, Try.results75, go_sem]) rfl ?_
            go_wp2_with fail
            refine bodyPost_ret (v := .tuple #[.agg #[.slice none 0 0, .int .i64 4], .int .u32 0]) (by simp [results, Try.results73, go_sem]) rfl ?_
            have EE := EV.out.symm.trans HV.out
            obtain ⟨rfl, E2⟩ := Prod.mk.inj EE
            obtain ⟨rfl, rfl⟩ := Prod.mk.inj E2
            refine ⟨_, rfl, Reads.nil _ _, ?_⟩
            repeat (first | exact Below.refl _ _ | refine Below.alloc ?_ (by simp; try omega) _ | refine Below.setCell ?_ (by simp; try omega) _)
          · by_cases hB : 0 < k ∧ y.toNat = 0
            · have EV : Hid (rdVar most l = (4, 0, [])) := by
                show _ = _
                rw [← E4.out, if_pos (Or.inr hB)]
              obtain ⟨hB1, hB2⟩ := hB
              have hB1' : (0 : Int) < k := by omega
              have hy0 : ((y.toNat : Int) == 0) = true := by simp [hB2]
              clear hB1 hB2 hy
              go_wp2_with (go_in)
              refine bodyPost_ret (v := .agg #[.slice none 0 0, .int .i64 4]) (by simp [results, Try.results75, go_sem]) rfl ?_
              go_wp2_with fail
              refine bodyPost_ret (v := .tuple #[.agg #[.slice none 0 0, .int .i64 4], .int .u32 0]) (by simp [results, Try.results73, go_sem]) rfl ?_
              have EE := EV.out.symm.trans HV.out
              obtain ⟨rfl, E2⟩ := Prod.mk.inj EE
              obtain ⟨rfl, rfl⟩ := Prod.mk.inj E2
              refine ⟨_, rfl, Reads.nil _ _, ?_⟩
              repeat (first | exact Below.refl _ _ | refine Below.alloc ?_ (by simp; try omega) _ | refine Below.setCell ?_ (by simp; try omega) _)
            · have hnot : ¬ (4294967295 < J ∨ 0 < k ∧ y.toNat = 0) := by
                rintro (h | h)
                · have := HJz.out; omega
                · exact hB h
              by_cases hC : M < Jz
              · have EV : Hid (rdVar most l = (5, 0, [])) := by
                  show _ = _
                  rw [← E4.out, if_neg hnot, if_pos (by have := HJz.out; have := HMz.out; omega)]
                clear hnot
                by_cases hi : 0 < k
                · have hi' : (0 : Int) < k := by omega
                  have hcz : ((y.toNat : Int) == 0) = false := by
                    have : y.toNat ≠ 0 := fun h => hB ⟨hi, h⟩
                    simp; omega
                  clear hB hi
                  go_wp2_with (go_in)
                  refine bodyPost_ret (v := .agg #[.slice none 0 0, .int .i64 5]) (by simp [results, Try.results75, go_sem]) rfl ?_
                  go_wp2_with fail
                  refine bodyPost_ret (v := .tuple #[.agg #[.slice none 0 0, .int .i64 5], .int .u32 0]) (by simp [results, Try.results73, go_sem]) rfl ?_
                  have EE := EV.out.symm.trans HV.out
                  obtain ⟨rfl, E2⟩ := Prod.mk.inj EE
                  obtain ⟨rfl, rfl⟩ := Prod.mk.inj E2
                  refine ⟨_, rfl, Reads.nil _ _, ?_⟩
                  repeat (first | exact Below.refl _ _ | refine Below.alloc ?_ (by simp; try omega) _ | refine Below.setCell ?_ (by simp; try omega) _)
                · have hi' : ¬ (0 : Int) < k := by omega
                  clear hB
                  go_wp2_with (go_in)
                  refine bodyPost_ret (v := .agg #[.slice none 0 0, .int .i64 5]) (by simp [results, Try.results75, go_sem]) rfl ?_
                  go_wp2_with fail
                  refine bodyPost_ret (v := .tuple #[.agg #[.slice none 0 0, .int .i64 5], .int .u32 0]) (by simp [results, Try.results73, go_sem]) rfl ?_
                  have EE := EV.out.symm.trans HV.out
                  obtain ⟨rfl, E2⟩ := Prod.mk.inj EE
                  obtain ⟨rfl, rfl⟩ := Prod.mk.inj E2
                  refine ⟨_, rfl, Reads.nil _ _, ?_⟩
                  repeat (first | exact Below.refl _ _ | refine Below.alloc ?_ (by simp; try omega) _ | refine Below.setCell ?_ (by simp; try omega) _)
              · have EV : Hid (rdVar most l = (0, J, l.drop (k + 1))) := by
                  show _ = _
                  rw [← E4.out, if_neg hnot, if_neg (by have := HJz.out; have := HMz.out; omega)]
                clear hnot
                obtain ⟨v1, r1, d1⟩ := HR.out.drop (P := Try.prog) elemBytes sizeBytes (k + 1) (by rw [u8s_len]; omega)
                rw [← u8s_drop] at d1
                have D1 := Lib.hid d1
                obtain ⟨a1, m1, c1, rfl⟩ := d1.form
                clear d1
                have r1' : ∀ u, (Instr.slice 30 (.slice (some ⟨g, off, none⟩) L c) (some (.int .i64 ((k : Int) + 1))) none none).run Try.prog u = .ok (.slice a1 m1 c1) u := fun u => r1 .i64 u
                clear r1
                have JL : Jz % 4294967296 = Jz := Int.emod_eq_of_lt hJ0 (by omega)
                by_cases hi : 0 < k
                · have hi' : (0 : Int) < k := by omega
                  have hcz : ((y.toNat : Int) == 0) = false := by
                    have : y.toNat ≠ 0 := fun h => hB ⟨hi, h⟩
                    simp; omega
                  clear hB hi
                  go_wp2_with fail
                  refine bodyPost_ret (v := .tuple #[.agg #[.slice a1 m1 c1, .int .i64 0], .int .u32 Jz]) (by simp [results, Try.results73, go_sem]) rfl ?_
                  have EE := EV.out.symm.trans HV.out
                  obtain ⟨rfl, E2⟩ := Prod.mk.inj EE
                  obtain ⟨rfl, rfl⟩ := Prod.mk.inj E2
                  rw [← HJz.out]
                  have hbb := below_new2 w (.cells #[.slice (some ⟨g, off, none⟩) L c, .int .i64 0] 75) (.cells #[.slice a1 m1 c1, .int .i64 0] 75)
                  exact ⟨_, rfl, D1.out.keep fun g hg _ => hbb.block g (HG.out g hg), hbb⟩
                · have hi' : ¬ (0 : Int) < k := by omega
                  clear hB
                  go_wp2_with fail
                  refine bodyPost_ret (v := .tuple #[.agg #[.slice a1 m1 c1, .int .i64 0], .int .u32 Jz]) (by simp [results, Try.results73, go_sem]) rfl ?_
                  have EE := EV.out.symm.trans HV.out
                  obtain ⟨rfl, E2⟩ := Prod.mk.inj EE
                  obtain ⟨rfl, rfl⟩ := Prod.mk.inj E2
                  rw [← HJz.out]
                  have hbb := below_new2 w (.cells #[.slice (some ⟨g, off, none⟩) L c, .int .i64 0] 75) (.cells #[.slice a1 m1 c1, .int .i64 0] 75)
                  exact ⟨_, rfl, D1.out.keep fun g hg _ => hbb.block g (HG.out g hg), hbb⟩
      · have hkl' : ¬ (k : Int) < Lz := by have := HLz.out; omega
        have ekl : k = L := by have := HN.out.2.2.1; rw [HL.out] at this; omega
        have EV : Hid (rdVar most l = (3, 0, [])) := by
          show _ = _
          have e4 := HN.out.2.2.2
          rw [← e4, List.drop_of_length_le (by rw [HL.out]; omega), show 5 - k = (4 - k) + 1 by omega]
          rfl
        have EK := Lib.hid ekl
        clear ekl
        have hkl2 : L ≤ k := by omega
        clear hkl
        go_wp2_with (go_in)
        refine bodyPost_ret (v := .agg #[.slice none 0 0, .int .i64 3]) (by simp [results, Try.results75, go_sem]) rfl ?_
        go_wp2_with fail
        refine bodyPost_ret (v := .tuple #[.agg #[.slice none 0 0, .int .i64 3], .int .u32 0]) (by simp [results, Try.results73, go_sem]) rfl ?_
        have EE := EV.out.symm.trans HV.out
        obtain ⟨rfl, E2⟩ := Prod.mk.inj EE
        obtain ⟨rfl, rfl⟩ := Prod.mk.inj E2
        refine ⟨_, rfl, Reads.nil _ _, ?_⟩
        repeat (first | exact Below.refl _ _ | refine Below.alloc ?_ (by simp; try omega) _ | refine Below.setCell ?_ (by simp; try omega) _)
    · have h5' : ¬ (k : Int) < 5 := by omega
      have EV : Hid (rdVar most l = (4, 0, [])) := by
        show _ = _
        have e4 := HN.out.2.2.2
        rw [← e4, show 5 - k = 0 by omega]
        rfl
      go_wp2_with (go_in)
      refine bodyPost_ret (v := .agg #[.slice none 0 0, .int .i64 4]) (by simp [results, Try.results75, go_sem]) rfl ?_
      go_wp2_with fail
      refine bodyPost_ret (v := .tuple #[.agg #[.slice none 0 0, .int .i64 4], .int .u32 0]) (by simp [results, Try.results73, go_sem]) rfl ?_
      have EE := EV.out.symm.trans HV.out
      obtain ⟨rfl, E2⟩ := Prod.mk.inj EE
      obtain ⟨rfl, rfl⟩ := Prod.mk.inj E2
      refine ⟨_, rfl, Reads.nil _ _, ?_⟩
      repeat (first | exact Below.refl _ _ | refine Below.alloc ?_ (by simp; try omega) _ | refine Below.setCell ?_ (by simp; try omega) _)
end Go.Proofs.Ytdlinlkdielmkaa.NR
