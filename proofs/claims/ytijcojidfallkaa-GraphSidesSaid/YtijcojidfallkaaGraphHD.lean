/-
  The library's down over the program's heap. Nothing here is a statement of the seed.
-/
import Derived.Test.YtijcojidfallkaaGraphHC
set_option linter.unusedSimpArgs false
set_option linter.unusedVariables false
namespace Go.Proofs.Ytijcojidfallkaa.GH
open Go.RowKit WM NR OM OR GM GR MV GF GP
set_option maxHeartbeats 4000000
set_option maxRecDepth 10000
section
variable {B : Nat} {w : World} {ss : List Tx}
theorem lowC1 {n : Nat} {l : List Tx} {i : Nat} (h1 : 2 * i + 1 < n) (h2 : ¬ 2 * i + 2 < n) : LowC n l i (2 * i + 1) :=
  ⟨h1, by omega, by omega, fun c hc hcn hp => by
    obtain rfl : c = 2 * i + 1 := by omega
    exact less_irr _⟩
theorem lowC2 {n : Nat} {l : List Tx} {i : Nat} (h2 : 2 * i + 2 < n) (hl : Op.bytesLess (l.getD (2 * i + 2) []) (l.getD (2 * i + 1) []) = false) : LowC n l i (2 * i + 1) :=
  ⟨by omega, by omega, by omega, fun c hc hcn hp => by
    rcases (show c = 2 * i + 1 ∨ c = 2 * i + 2 by omega) with rfl | rfl
    · exact less_irr _
    · exact hl⟩
theorem lowC3 {n : Nat} {l : List Tx} {i : Nat} (h2 : 2 * i + 2 < n) (hl : Op.bytesLess (l.getD (2 * i + 2) []) (l.getD (2 * i + 1) []) = true) : LowC n l i (2 * i + 2) :=
  ⟨by omega, by omega, by omega, fun c hc hcn hp => by
    rcases (show c = 2 * i + 1 ∨ c = 2 * i + 2 by omega) with rfl | rfl
    · exact less_asym _ _ hl
    · exact less_irr _⟩
theorem down_any {p : Nat} {v : Value} (h : HpR B w p v ss) (hs : ss.length ≤ 80000) {n : Nat} (hn : n ≤ ss.length) (hu : DnI n ss 0) :
    Calls Try.prog 76 #[hif p, .int .i64 0, .int .i64 n] w fun e u => ∃ r, e = .returned (.bool r) ∧ ∃ ss', HpR B u p v ss' ∧ ss'.Perm ss ∧ HeapL n ss' ∧ (∀ k, n ≤ k → ss'.getD k [] = ss.getD k []) ∧ Fr (fun g => v.ownBlock = some g) w u := by
  obtain ⟨a, c, rfl⟩ := h.form
  have HH := Lib.hid h
  have HU := Lib.hid hu
  have hsz : (ss.length : Int) ≤ 80000 := by omega
  obtain ⟨m, hm⟩ : ∃ m, m = ss.length := ⟨_, rfl⟩
  rw [← hm] at HH hsz hn ⊢
  have HM := Lib.hid hm
  have hnl := hn
  have hnz : (n : Int) ≤ 80000 := by omega
  clear h hu hs hm hn
  go_enter Try.func76, Try.ntmps76
  go_wp2_with fail
  go_loopw [7] (fun v7 wr => ∃ (i : Nat) (s : List Tx), v7 = .int .i64 (i : Int) ∧ i ≤ n ∧ Hid (HpR B wr p (.slice a m c) s) ∧ Hid (s.Perm ss) ∧ Hid (DnI n s i) ∧ Hid (∀ k, n ≤ k → s.getD k [] = ss.getD k []) ∧ Hid (Fr (fun g => (Value.slice a m c).ownBlock = some g) w wr)) (fun v7 _ => n - (intOf v7).toNat)
  case atStart => exact ⟨0, ss, by go_num, by omega, HH, Lib.hid (List.Perm.refl _), HU, Lib.hid (fun _ _ => rfl), Lib.hid (Fr.refl _ _)⟩
  case round =>
    obtain ⟨i, s, rfl, hi, HR, HP, HUI, HT, HF⟩ := hrel
    have HSL := Lib.hid (show s.length = m by rw [HP.out.length_eq, HM.out])
    have c0 := HR.out.bx.cell 0
    have hiz : (i : Int) ≤ 80000 := by omega
    by_cases h1 : 2 * i + 1 < n
    · have h1z : ¬ (n : Int) ≤ 2 * (i : Int) + 1 := by omega
      have h1n : ¬ 2 * (i : Int) + 1 < 0 := by omega
      have hin : i < m := by omega
      have hL := m_less p wr a m c c0
      have CLX := Lib.hid (fun (u : World) (hu : Below wr.heap.size wr u) (x y : Nat) (hx : x < m) (hy : y < m) => less_any (show u.ownsRow B 9 1 (.slice a m c) m (strs s) by have := owns_below HR.out.ow hu; rw [HSL.out] at this; exact this) HSL.out (by omega) hx hy)
      by_cases h2 : 2 * i + 2 < n
      · have h2z : 2 * (i : Int) + 1 + 1 < (n : Int) := by omega
        have C1 := Lib.hid (CLX.out wr (Below.refl _ _) (2 * i + 2) (2 * i + 1) (by omega) (by omega))
        rw [show ((2 * i + 2 : Nat) : Int) = 2 * (i : Int) + 1 + 1 by omega, show ((2 * i + 1 : Nat) : Int) = 2 * (i : Int) + 1 by omega] at C1
        cases hb1 : Op.bytesLess (s.getD (2 * i + 2) []) (s.getD (2 * i + 1) []) with
        | false =>
          rw [hb1] at C1
          have LC := Lib.hid (lowC2 (l := s) h2 hb1)
          clear hb1
          have CJ := Lib.hid (fun (u : World) (hu : Below wr.heap.size wr u) => CLX.out u hu (2 * i + 1) i (by omega) hin)
          rw [show ((2 * i + 1 : Nat) : Int) = 2 * (i : Int) + 1 by omega] at CJ
          cases hb : Op.bytesLess (s.getD (2 * i + 1) []) (s.getD i []) with
          | false =>
            rw [hb] at CJ
            have R := Lib.hid (LC.out.end_ HUI.out hb)
            clear hb LC
            go_wp2_with (first
              | (go_at_call 102; (with_reducible refine C1.out.mono ?_); rintro e w1 ⟨rfl, B0⟩; have c1 := (HR.out.bx.belowS B0).cell 0; have hL1 := m_less p w1 a m c c1)
              | (go_at_call 102; (with_reducible refine (CJ.out _ B0).mono ?_); rintro e w2 ⟨rfl, hb2⟩; have B2 := below_of B0 hb2))
            go_ret
            exact ⟨_, rfl, s, ⟨HR.out.lt, HR.out.bx.belowS B2, owns_below HR.out.ow B2⟩, HP.out, R.out, HT.out, HF.out.then B2⟩
          | true =>
            rw [hb] at CJ
            have HS1 := Lib.hid (LC.out.step HUI.out (by rw [HSL.out]; exact hnl) hb)
            clear hb LC
            have CS := Lib.hid (fun (u : World) (hu : Below wr.heap.size wr u) => swap_any (show u.ownsRow B 9 1 (.slice a m c) m (strs s) by have := owns_below HR.out.ow hu; rw [HSL.out] at this; exact this) HSL.out (by omega) (i := i) (j := 2 * i + 1) (by omega) (by omega))
            rw [show ((2 * i + 1 : Nat) : Int) = 2 * (i : Int) + 1 by omega] at CS
            go_wp2_with (first
              | (go_at_call 102; (with_reducible refine C1.out.mono ?_); rintro e w1 ⟨rfl, B0⟩; have c1 := (HR.out.bx.belowS B0).cell 0; have hL1 := m_less p w1 a m c c1)
              | (go_at_call 102; (with_reducible refine (CJ.out _ B0).mono ?_); rintro e w2 ⟨rfl, hb2⟩; have B2 := below_of B0 hb2; have c2 := (HR.out.bx.belowS B2).cell 0; have hL2 := m_swap p w2 a m c c2)
              | (go_at_call 103; (with_reducible refine (CS.out _ B2).mono ?_); rintro e w3 ⟨rfl, ho3, hg3⟩; have HO3 := Lib.hid ho3; have HG3 := Lib.hid hg3; clear ho3 hg3))
            go_roundw
            case rel =>
              have hb0 := HR.out.bx.belowS B2
              refine ⟨2 * i + 1, sw s i (2 * i + 1), by go_num, by omega, Lib.hid ⟨HR.out.lt, hb0.as (HG3.out.block p hb0.lt (fun e => by have := (HR.out.ow.lt p e.symm).1; have := HR.out.lt; omega)), by rw [sw_len, HSL.out]; exact HO3.out⟩, Lib.hid ((sw_perm s (by rw [HSL.out]; omega) (by rw [HSL.out]; omega)).trans HP.out), HS1, Lib.hid (fun k hk => by rw [sw_at s (by rw [HSL.out]; omega) (by rw [HSL.out]; omega), if_neg (by omega), if_neg (by omega)]; exact HT.out k hk), Lib.hid (Fr_grown' (HF.out.then B2) HG3.out (fun i hi => Or.inl hi))⟩
            case measure => simp [intOf]; omega
        | true =>
          rw [hb1] at C1
          have LC := Lib.hid (lowC3 (l := s) h2 hb1)
          clear hb1
          have CJ := Lib.hid (fun (u : World) (hu : Below wr.heap.size wr u) => CLX.out u hu (2 * i + 2) i (by omega) hin)
          rw [show ((2 * i + 2 : Nat) : Int) = 2 * (i : Int) + 1 + 1 by omega] at CJ
          cases hb : Op.bytesLess (s.getD (2 * i + 2) []) (s.getD i []) with
          | false =>
            rw [hb] at CJ
            have R := Lib.hid (LC.out.end_ HUI.out hb)
            clear hb LC
            go_wp2_with (first
              | (go_at_call 102; (with_reducible refine C1.out.mono ?_); rintro e w1 ⟨rfl, B0⟩; have c1 := (HR.out.bx.belowS B0).cell 0; have hL1 := m_less p w1 a m c c1)
              | (go_at_call 102; (with_reducible refine (CJ.out _ B0).mono ?_); rintro e w2 ⟨rfl, hb2⟩; have B2 := below_of B0 hb2))
            go_ret
            exact ⟨_, rfl, s, ⟨HR.out.lt, HR.out.bx.belowS B2, owns_below HR.out.ow B2⟩, HP.out, R.out, HT.out, HF.out.then B2⟩
          | true =>
            rw [hb] at CJ
            have HS1 := Lib.hid (LC.out.step HUI.out (by rw [HSL.out]; exact hnl) hb)
            clear hb LC
            have CS := Lib.hid (fun (u : World) (hu : Below wr.heap.size wr u) => swap_any (show u.ownsRow B 9 1 (.slice a m c) m (strs s) by have := owns_below HR.out.ow hu; rw [HSL.out] at this; exact this) HSL.out (by omega) (i := i) (j := 2 * i + 2) (by omega) (by omega))
            rw [show ((2 * i + 2 : Nat) : Int) = 2 * (i : Int) + 1 + 1 by omega] at CS
            go_wp2_with (first
              | (go_at_call 102; (with_reducible refine C1.out.mono ?_); rintro e w1 ⟨rfl, B0⟩; have c1 := (HR.out.bx.belowS B0).cell 0; have hL1 := m_less p w1 a m c c1)
              | (go_at_call 102; (with_reducible refine (CJ.out _ B0).mono ?_); rintro e w2 ⟨rfl, hb2⟩; have B2 := below_of B0 hb2; have c2 := (HR.out.bx.belowS B2).cell 0; have hL2 := m_swap p w2 a m c c2)
              | (go_at_call 103; (with_reducible refine (CS.out _ B2).mono ?_); rintro e w3 ⟨rfl, ho3, hg3⟩; have HO3 := Lib.hid ho3; have HG3 := Lib.hid hg3; clear ho3 hg3))
            go_roundw
            case rel =>
              have hb0 := HR.out.bx.belowS B2
              refine ⟨2 * i + 2, sw s i (2 * i + 2), by go_num, by omega, Lib.hid ⟨HR.out.lt, hb0.as (HG3.out.block p hb0.lt (fun e => by have := (HR.out.ow.lt p e.symm).1; have := HR.out.lt; omega)), by rw [sw_len, HSL.out]; exact HO3.out⟩, Lib.hid ((sw_perm s (by rw [HSL.out]; omega) (by rw [HSL.out]; omega)).trans HP.out), HS1, Lib.hid (fun k hk => by rw [sw_at s (by rw [HSL.out]; omega) (by rw [HSL.out]; omega), if_neg (by omega), if_neg (by omega)]; exact HT.out k hk), Lib.hid (Fr_grown' (HF.out.then B2) HG3.out (fun i hi => Or.inl hi))⟩
            case measure => simp [intOf]; omega
      · have h2z : ¬ 2 * (i : Int) + 1 + 1 < (n : Int) := by omega
        have LC := Lib.hid (lowC1 (l := s) h1 h2)
        have B0 := Below.refl wr.heap.size wr
        have CJ := Lib.hid (fun (u : World) (hu : Below wr.heap.size wr u) => CLX.out u hu (2 * i + 1) i (by omega) hin)
        rw [show ((2 * i + 1 : Nat) : Int) = 2 * (i : Int) + 1 by omega] at CJ
        cases hb : Op.bytesLess (s.getD (2 * i + 1) []) (s.getD i []) with
        | false =>
          rw [hb] at CJ
          have R := Lib.hid (LC.out.end_ HUI.out hb)
          clear hb LC
          go_wp2_with (first
            | (go_at_call 102; (with_reducible refine (CJ.out _ B0).mono ?_); rintro e w2 ⟨rfl, hb2⟩; have B2 := below_of B0 hb2))
          go_ret
          exact ⟨_, rfl, s, ⟨HR.out.lt, HR.out.bx.belowS B2, owns_below HR.out.ow B2⟩, HP.out, R.out, HT.out, HF.out.then B2⟩
        | true =>
          rw [hb] at CJ
          have HS1 := Lib.hid (LC.out.step HUI.out (by rw [HSL.out]; exact hnl) hb)
          clear hb LC
          have CS := Lib.hid (fun (u : World) (hu : Below wr.heap.size wr u) => swap_any (show u.ownsRow B 9 1 (.slice a m c) m (strs s) by have := owns_below HR.out.ow hu; rw [HSL.out] at this; exact this) HSL.out (by omega) (i := i) (j := 2 * i + 1) (by omega) (by omega))
          rw [show ((2 * i + 1 : Nat) : Int) = 2 * (i : Int) + 1 by omega] at CS
          go_wp2_with (first
            | (go_at_call 102; (with_reducible refine (CJ.out _ B0).mono ?_); rintro e w2 ⟨rfl, hb2⟩; have B2 := below_of B0 hb2; have c2 := (HR.out.bx.belowS B2).cell 0; have hL2 := m_swap p w2 a m c c2)
            | (go_at_call 103; (with_reducible refine (CS.out _ B2).mono ?_); rintro e w3 ⟨rfl, ho3, hg3⟩; have HO3 := Lib.hid ho3; have HG3 := Lib.hid hg3; clear ho3 hg3))
          go_roundw
          case rel =>
            have hb0 := HR.out.bx.belowS B2
            refine ⟨2 * i + 1, sw s i (2 * i + 1), by go_num, by omega, Lib.hid ⟨HR.out.lt, hb0.as (HG3.out.block p hb0.lt (fun e => by have := (HR.out.ow.lt p e.symm).1; have := HR.out.lt; omega)), by rw [sw_len, HSL.out]; exact HO3.out⟩, Lib.hid ((sw_perm s (by rw [HSL.out]; omega) (by rw [HSL.out]; omega)).trans HP.out), HS1, Lib.hid (fun k hk => by rw [sw_at s (by rw [HSL.out]; omega) (by rw [HSL.out]; omega), if_neg (by omega), if_neg (by omega)]; exact HT.out k hk), Lib.hid (Fr_grown' (HF.out.then B2) HG3.out (fun i hi => Or.inl hi))⟩
          case measure => simp [intOf]; omega
    · have h1z : (n : Int) ≤ 2 * (i : Int) + 1 := by omega
      have R := Lib.hid (HUI.out.stop fun c hc hcn hp => by omega)
      go_wp2_with fail
      go_ret
      exact ⟨_, rfl, s, HR.out, HP.out, R.out, HT.out, HF.out⟩
end
end Go.Proofs.Ytijcojidfallkaa.GH
