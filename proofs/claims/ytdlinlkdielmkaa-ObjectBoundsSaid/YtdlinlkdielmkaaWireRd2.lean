/-
  A reader's inner calls: so many bytes, a number, so many things of a size.
-/
import Derived.Test.YtdlinlkdielmkaaWireRd
set_option linter.unusedSimpArgs false
set_option linter.unusedVariables false
namespace Go.Proofs.Ytdlinlkdielmkaa.NR
open Go.RowKit WM

theorem grown_set (w : World) (p i : Nat) (u : Value) : w.grownBy (w.setCell ⟨p, i, none⟩ u) (some p) := ⟨rfl, rfl, rfl, by simp, fun g hg hr => Below.heap_setCell _ _ _ _ (fun e => hr (by rw [e]))⟩
/-- behind 'r.rest = ..' -/
theorem Rd.rest {w : World} {p : Nat} {l' : List UInt8} {e : Nat} {v v' : Value} (h1 : w.heap[p]? = some (.cells #[v, .int .i64 (e : Int)] 95 (0, 0))) (h2 : Reads (· < p) w v' (u8s l')) : Rd (w.setCell ⟨p, 0, none⟩ v') p l' e :=
  ⟨v', block_set h1 0 v', h2.keep fun g hg _ => Below.heap_setCell _ _ _ _ (Nat.ne_of_lt hg)⟩
theorem take_yes (w : World) (p : Nat) (l : List UInt8) (e : Nat) (h : Rd w p l e) (n : Nat) (hn : n ≤ l.length) :
    Calls Try.prog 84 #[.pointer (some ⟨p, 0, none⟩), .int .u64 (n : Int)] w fun en w' => ∃ v', en = .returned v' ∧ Reads (· < p) w' v' (u8s (l.take n)) ∧ w.grownBy w' (some p) ∧ Rd w' p (l.drop n) e := by
  obtain ⟨v, h1, h2⟩ := h
  have hc0 : w.cell? ⟨p, 0, none⟩ = some v := block_cell h1 0
  have hf0 := block_free h1 0
  have H := Lib.hid h1
  obtain ⟨v1, r1, d1⟩ := h2.take (P := Try.prog) elemBytes sizeBytes n (by rw [u8s_len]; exact hn)
  obtain ⟨v2, r2, d2⟩ := h2.drop (P := Try.prog) elemBytes sizeBytes n (by rw [u8s_len]; exact hn)
  rw [← u8s_take] at d1
  rw [← u8s_drop] at d2
  have D1 := Lib.hid d1
  have D2 := Lib.hid d2
  obtain ⟨a, c, rfl, hcap, hcm⟩ := h2.shape
  obtain ⟨a1, m1, c1, rfl⟩ := d1.form
  obtain ⟨a2, m2, c2, rfl⟩ := d2.form
  rw [u8s_len] at *
  unfold maxLen at hcm
  have hl : (l.length : Int) ≤ 9223372036854775807 := by omega
  have hn' : ¬ (l.length : Int) < (n : Int) := by omega
  clear h1 h2 d1 d2 hcap hcm
  generalize hm : l.length = m at *
  clear hm hn
  go_enter Try.func84, Try.ntmps84
  go_wp2_with fail
  go_ret
  exact ⟨_, rfl, D1.out.keep fun g hg _ => Below.heap_setCell _ _ _ _ (Nat.ne_of_lt hg), grown_set _ _ _ _, Rd.rest H.out D2.out⟩
theorem take_no (w : World) (p : Nat) (l : List UInt8) (e : Nat) (h : Rd w p l e) (n : Nat) (hn : l.length < n) (hl : l.length ≤ 9223372036854775807) :
    Calls Try.prog 84 #[.pointer (some ⟨p, 0, none⟩), .int .u64 (n : Int)] w fun en w' => en = .returned (.slice none 0 0) ∧ w.grownBy w' (some p) ∧ Rd w' p [] 3 := by
  have C := Lib.hid (fail_any w p l e h 3)
  obtain ⟨v, h1, h2⟩ := h
  have hc0 : w.cell? ⟨p, 0, none⟩ = some v := block_cell h1 0
  obtain ⟨a, c, rfl, hcap, hcm⟩ := h2.shape
  rw [u8s_len] at *
  have hl' : (l.length : Int) ≤ 9223372036854775807 := by omega
  have hn' : (l.length : Int) < (n : Int) := by omega
  clear h1 h2 hcap hcm hl hn
  generalize l.length = m at *
  go_enter Try.func84, Try.ntmps84
  go_wp2_with (go_at_call 87; refine C.out.mono ?_; rintro e w' ⟨rfl, hg, hr⟩)
  go_ret
  exact ⟨rfl, hg, hr⟩
/-- so many bytes, told by a number ahead of them -/
def rdBytes (most size : Nat) (l : List UInt8) : Nat × List UInt8 × List UInt8 :=
  if (rdVar most l).1 = 0 then
    if (rdVar most l).2.1 * size ≤ (rdVar most l).2.2.length then (0, (rdVar most l).2.2.take ((rdVar most l).2.1 * size), (rdVar most l).2.2.drop ((rdVar most l).2.1 * size)) else (3, [], [])
  else ((rdVar most l).1, [], [])
/-- what number leaves: the error, what is left; and the number, if there is no error -/
def IsNumber (w : World) (p most : Nat) (l : List UInt8) (en : Ending) (w' : World) : Prop :=
  ∃ x : Nat, en = .returned (.int .u32 (x : Int)) ∧ w.grownBy w' (some p) ∧ Rd w' p (rdVar most l).2.2 (rdVar most l).1 ∧ ((rdVar most l).1 = 0 → x = (rdVar most l).2.1)
theorem Rd.drewN {w : World} {p : Nat} {l : List UInt8} {e : Nat} (h : Rd w p l e) (q : Nat) : Rd (w.drewN q) p l e := h.keep (below_drewN (Below.refl _ _) q)
theorem grown_drewN (w : World) (q : Nat) (row : Option Nat) : w.grownBy (w.drewN q) row := ⟨rfl, rfl, rfl, Nat.le_refl _, fun _ _ _ => rfl⟩
theorem rdVar_none (most : Nat) (l : List UInt8) (hy : ∀ y ∈ l.take 5, 128 ≤ y.toNat) : rdVar most l = (if (l.take 5).length = 5 then 4 else 3, 0, []) := by
  unfold rdVar
  have e : (l.take 5).length = min 5 l.length := List.length_take
  by_cases h5 : l.length < 5
  · rw [if_neg (by omega)]; exact vr_cut most 5 0 0 l (fun y h => hy y (by rw [List.take_of_length_le (by omega)]; exact h)) h5
  · rw [if_pos (by omega)]; exact vr_long most 5 0 0 l hy (by omega)
theorem number_none (w : World) (p most : Nat) (l : List UInt8) (h : Rd w p l 0) (hl : l.length ≤ 9223372036854775807) (hy : ∀ y ∈ l.take 5, 128 ≤ y.toNat) :
    Calls Try.prog 89 #[.pointer (some ⟨p, 0, none⟩), .int .u32 (most : Int)] w (IsNumber w p most l) := by
  have HV := Lib.hid (rdVar_none most l hy)
  obtain ⟨k, hk⟩ : ∃ k, k = if (l.take 5).length = 5 then 4 else 3 := ⟨_, rfl⟩
  have CF := Lib.hid (fun q => fail_any (w.drewN q) p l 0 (h.drewN q) k)
  obtain ⟨v, h1, h2⟩ := h
  have hc0 : w.cell? ⟨p, 0, none⟩ = some v := block_cell h1 0
  obtain ⟨v1, r1, d1⟩ := h2.take (P := Try.prog) elemBytes sizeBytes (min l.length 5) (by rw [u8s_len]; omega)
  rw [← u8s_take] at d1
  have et : l.take (min l.length 5) = l.take 5 := by rw [Nat.min_comm, ← List.take_take, List.take_length]
  rw [et] at d1
  have CI := Lib.hid (fun q => index_no (· < p) (l.take 5) v1 (w.drewN q) (d1.drewN q) hy)
  have CE := Lib.hid (fun q => endless_any (· < p) (l.take 5) v1 (w.drewN q) (d1.drewN q) (k : Int) (by rw [hk]; split <;> rfl))
  have HK := Lib.hid hk
  clear hk
  obtain ⟨a, c, rfl, hcap, hcm⟩ := h2.shape
  obtain ⟨a1, m1, c1, rfl⟩ := d1.form
  rw [u8s_len] at *
  have e5 : ((min l.length 5 : Nat) : Int) = min (l.length : Int) 5 := by omega
  have r1' : ∀ u, (Instr.slice 30 (.slice a l.length c) none (some (.int .i64 (min (l.length : Int) 5))) none).run Try.prog u = .ok (.slice a1 m1 c1) u := fun u => by rw [← e5]; exact r1 .i64 u
  have hmin : (0 : Int) ≤ min (l.length : Int) 5 := by omega
  clear h1 h2 hcap hcm hl hy r1 e5 et d1
  generalize l.length = m at *
  go_enter Try.func89, Try.ntmps89
  go_wp2_with fail
  go_quiet (fail)
  go_wp2_with (first | (go_at_call 90; refine (CI.out _).mono ?_; rintro e w' ⟨rfl, rfl⟩) | (go_at_call 92; refine (CE.out _).mono ?_; rintro e w' ⟨rfl, rfl⟩) | (go_at_call 87; refine (CF.out _).mono ?_; rintro e w' ⟨rfl, hg, hr⟩))
  go_ret
  refine ⟨0, rfl, grown_trans (grown_drewN _ _ _) hg, ?_, ?_⟩
  · rw [HV.out, ← HK.out]; exact hr
  · rw [HV.out]; exact fun _ => rfl
theorem number_some (w : World) (p most : Nat) (ys t : List UInt8) (c : UInt8) (h : Rd w p (ys ++ c :: t) 0) (hm : most < 4294967296) (hl : (ys ++ c :: t).length ≤ 9223372036854775807) (hy : ∀ y ∈ ys, 128 ≤ y.toNat) (hc : c.toNat < 128) (h5 : ys.length < 5) :
    Calls Try.prog 89 #[.pointer (some ⟨p, 0, none⟩), .int .u32 (most : Int)] w (IsNumber w p most (ys ++ c :: t)) := by
  have hv := vr_run most ys 5 0 0 c t hy hc h5
  simp only [Nat.pow_zero, Nat.one_mul, Nat.zero_add] at hv
  have HV : Hid (rdVar most (ys ++ c :: t) = _) := hv
  clear hv
  have CT := Lib.hid (fun q => take_yes (w.drewN q) p (ys ++ c :: t) 0 (h.drewN q) (ys.length + 1) (by simp))
  have et1 : (ys ++ c :: t).take (ys.length + 1) = ys ++ [c] := by
    rw [show ys ++ c :: t = (ys ++ [c]) ++ t by simp]; exact List.take_left' (by simp)
  have et2 : (ys ++ c :: t).drop (ys.length + 1) = t := by
    rw [show ys ++ c :: t = (ys ++ [c]) ++ t by simp]; exact List.drop_left' (by simp)
  rw [et1, et2, show ((ys.length + 1 : Nat) : Int) = (ys.length : Int) + 1 by omega] at CT
  obtain ⟨v, h1, h2⟩ := h
  have hc0 : w.cell? ⟨p, 0, none⟩ = some v := block_cell h1 0
  have hlen : (ys ++ c :: t).length = ys.length + (t.length + 1) := by simp
  obtain ⟨v1, r1, d1⟩ := h2.take (P := Try.prog) elemBytes sizeBytes (min (ys ++ c :: t).length 5) (by rw [u8s_len]; omega)
  rw [← u8s_take] at d1
  have et : (ys ++ c :: t).take (min (ys ++ c :: t).length 5) = ys ++ c :: (t.take (4 - ys.length)) := by
    rw [Nat.min_comm, ← List.take_take, List.take_length, List.take_append, List.take_of_length_le (by omega), show 5 - ys.length = (4 - ys.length) + 1 by omega, List.take_succ_cons]
  rw [et] at d1
  have CI := Lib.hid (fun q => index_yes (· < p) ys (t.take (4 - ys.length)) c v1 (w.drewN q) (d1.drewN q) hy hc)
  obtain ⟨a, cp, rfl, hcap, hcm⟩ := h2.shape
  obtain ⟨a1, m1, c1, rfl⟩ := d1.form
  rw [u8s_len] at *
  have e5 : (((min (ys ++ c :: t).length 5 : Nat)) : Int) = min ((ys ++ c :: t).length : Int) 5 := by omega
  have r1' : ∀ u, (Instr.slice 30 (.slice a (ys ++ c :: t).length cp) none (some (.int .i64 (min ((ys ++ c :: t).length : Int) 5))) none).run Try.prog u = .ok (.slice a1 m1 c1) u := fun u => by rw [← e5]; exact r1 .i64 u
  have hmin : (0 : Int) ≤ min ((ys ++ c :: t).length : Int) 5 := by omega
  have hjl := joinL_lt (ys ++ [c])
  have hp5 : 128 ^ (ys ++ [c]).length ≤ 128 ^ 5 := Nat.pow_le_pow_right (by omega) (by simp; omega)
  have hj : (joinL (ys ++ [c]) : Int) < 34359738368 := by omega
  have hne : u8s (ys ++ [c]) ≠ [] := by simp [u8s]
  have hll : (u8s (ys ++ [c])).length = ys.length + 1 := by simp [u8s]
  have hat : (u8s (ys ++ [c]))[ys.length]? = some (.int .u8 (c.toNat : Int)) := by simp [u8s]
  have CJ := Lib.hid (fun (u : World) (v : Value) (hr : Reads (· < p) u v (u8s (ys ++ [c]))) => joined_any (· < p) (ys ++ [c]) v u hr (by simp) (by simp; omega))
  have HS := Lib.hid (⟨hne, hll, hat⟩ : _ ∧ _ ∧ _)
  clear h1 h2 hcap hcm hl hy r1 e5 et d1 et1 et2 hlen hjl hp5 hne hll hat
  have h5' : (ys.length : Int) < 5 := by omega
  have hm' : (most : Int) < 4294967296 := by omega
  generalize (ys ++ c :: t).length = m at *
  have hj0 : (0 : Int) ≤ (joinL (ys ++ [c]) : Int) := by omega
  have hm0 : (0 : Int) ≤ (most : Int) := by omega
  generalize joinL (ys ++ [c]) = J at *
  generalize hJz : (J : Int) = Jz at *
  generalize hMz : (most : Int) = M at *
  have HJ := Lib.hid hJz
  have HM := Lib.hid hMz
  clear hJz hMz h5 hm
  generalize ys.length = i at *
  go_enter Try.func89, Try.ntmps89
  go_wp2_with fail
  go_quiet (fail)
  go_wp2_with (first | (go_at_call 90; refine (CI.out _).mono ?_; rintro e w' ⟨rfl, rfl⟩))
  refine (CT.out _).mono ?_
  rintro e w2 ⟨v2, rfl, hd, hg, hr⟩
  have HG := grown_trans (grown_drewN w _ (some p)) hg
  have CJ2 := Lib.hid (CJ.out w2 v2 hd)
  have CF := Lib.hid (fun k => fail_any w2 p t 0 hr k)
  obtain ⟨g2, off2, cap2, rfl, hgp, hcap2, hcm2, hcell2⟩ := hd.cells HS.out.1
  have hc2 : w2.cell? ⟨g2, off2 + i, none⟩ = some (.int .u8 (c.toNat : Int)) := (hcell2 i (by rw [HS.out.2.1]; omega)).trans HS.out.2.2
  rw [HS.out.2.1] at *
  have HR := Lib.hid hr
  clear hd hg hr hcell2 hcm2 CT CI r1' CJ hc0 hmin
  have fin : ∀ (k : Nat) (z : Int) (w3 : World), 0 ≤ z → w2.grownBy w3 (some p) → Rd w3 p [] k → k ≠ 0 → rdVar most (ys ++ c :: t) = (k, 0, []) → IsNumber w p most (ys ++ c :: t) (.returned (.int .u32 z)) w3 := fun k z w3 hz h3 h4 h5 h6 =>
    ⟨z.toNat, ret_int (by omega), grown_trans HG h3, by rw [h6]; exact h4, by rw [h6]; exact fun h => absurd h h5⟩
  have FIN := Lib.hid fin
  clear fin
  have HI := Lib.hid h5'
  have e7 : Hid ((J : Int) = Jz) := HJ
  by_cases hA : 4294967295 < Jz
  · have HE : Hid (rdVar most (ys ++ c :: t) = (4, 0, [])) := by
      show _ = _
      rw [HV.out, if_pos (Or.inl (by have := HJ.out; omega))]
    have hA2 : Jz % 4294967296 ≥ 0 := by omega
    have HA2 := Lib.hid hA2
    clear hA2
    go_wp2_with (first | (go_at_call 93; refine CJ2.out.mono ?_; rintro e w3 ⟨rfl, rfl⟩) | (go_at_call 87; refine (CF.out 4).mono ?_; rintro e w3 ⟨rfl, hg3, hr3⟩))
    go_ret
    exact FIN.out 4 _ w3 HA2.out hg3 hr3 (by omega) HE.out
  · by_cases hB : 0 < i ∧ c.toNat = 0
    · have HE : Hid (rdVar most (ys ++ c :: t) = (4, 0, [])) := by
        show _ = _
        rw [HV.out, if_pos (Or.inr hB)]
      obtain ⟨hB1, hB2⟩ := hB
      have hB1' : (0 : Int) < i := by omega
      rw [hB2] at hc2
      have HB2 := Lib.hid hB2
      clear hB2
      go_wp2_with (first | (go_at_call 93; refine CJ2.out.mono ?_; rintro e w3 ⟨rfl, rfl⟩) | (go_at_call 87; refine (CF.out 4).mono ?_; rintro e w3 ⟨rfl, hg3, hr3⟩))
      go_ret
      exact FIN.out 4 _ w3 (by first | exact hj0 | omega) hg3 hr3 (by omega) HE.out
    · have hnot : ¬ (4294967295 < J ∨ 0 < i ∧ c.toNat = 0) := by
        rintro (h | h)
        · have := HJ.out; omega
        · exact hB h
      by_cases hC : M < Jz
      · have HE : Hid (rdVar most (ys ++ c :: t) = (5, 0, [])) := by
          show _ = _
          rw [HV.out, if_neg hnot, if_pos (by have := HJ.out; have := HM.out; omega)]
        have HN := Lib.hid hnot
        clear hnot
        by_cases hi : 0 < i
        · have hi' : (0 : Int) < i := by omega
          have hcz : ((c.toNat : Int) == 0) = false := by
            have : c.toNat ≠ 0 := fun h => hB ⟨hi, h⟩
            simp; omega
          clear hB
          go_wp2_with (first | (go_at_call 93; refine CJ2.out.mono ?_; rintro e w3 ⟨rfl, rfl⟩) | (go_at_call 87; refine (CF.out 5).mono ?_; rintro e w3 ⟨rfl, hg3, hr3⟩))
          go_ret
          exact FIN.out 5 _ w3 (by first | exact hj0 | omega) hg3 hr3 (by omega) HE.out
        · have hi' : ¬ (0 : Int) < i := by omega
          clear hB
          go_wp2_with (first | (go_at_call 93; refine CJ2.out.mono ?_; rintro e w3 ⟨rfl, rfl⟩) | (go_at_call 87; refine (CF.out 5).mono ?_; rintro e w3 ⟨rfl, hg3, hr3⟩))
          go_ret
          exact FIN.out 5 _ w3 (by first | exact hj0 | omega) hg3 hr3 (by omega) HE.out
      · have HE : Hid (rdVar most (ys ++ c :: t) = (0, J, t)) := by
          show _ = _
          rw [HV.out, if_neg hnot, if_neg (by have := HJ.out; have := HM.out; omega)]
        have HN := Lib.hid hnot
        clear hnot
        have FIN2 : Hid (IsNumber w p most (ys ++ c :: t) (.returned (.int .u32 Jz)) w2) :=
          ⟨J, ret_int HJ.out.symm, HG, by rw [HE.out]; exact HR.out, by rw [HE.out]; exact fun _ => rfl⟩
        by_cases hi : 0 < i
        · have hi' : (0 : Int) < i := by omega
          have hcz : ((c.toNat : Int) == 0) = false := by
            have : c.toNat ≠ 0 := fun h => hB ⟨hi, h⟩
            simp; omega
          clear hB
          go_wp2_with (first | (go_at_call 93; refine CJ2.out.mono ?_; rintro e w3 ⟨rfl, rfl⟩))
          go_ret
          exact FIN2.out
        · have hi' : ¬ (0 : Int) < i := by omega
          clear hB
          go_wp2_with (first | (go_at_call 93; refine CJ2.out.mono ?_; rintro e w3 ⟨rfl, rfl⟩))
          go_ret
          exact FIN2.out
end Go.Proofs.Ytdlinlkdielmkaa.NR
