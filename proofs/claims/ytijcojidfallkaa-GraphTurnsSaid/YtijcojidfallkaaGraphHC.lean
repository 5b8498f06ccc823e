/-
  The library's up and down over the program's heap. Nothing here is a statement of the seed.
-/
import Derived.Test.YtijcojidfallkaaGraphHB
import Derived.Test.YtijcojidfallkaaGraphHM
set_option linter.unusedSimpArgs false
set_option linter.unusedVariables false
namespace Go.Proofs.Ytijcojidfallkaa.GH
open Go.RowKit WM NR OM OR GM GR MV GF GP
set_option maxHeartbeats 4000000
set_option maxRecDepth 10000
abbrev hif (p : Nat) : Value := .iface 90 (ptr p)
section
variable {B : Nat} {w : World} {ss : List Tx}
theorem up_any {p : Nat} {v : Value} (h : HpR B w p v ss) (hs : ss.length ≤ 80000) {j : Nat} (hj : j < ss.length) (hu : UpI ss j) :
    Calls Try.prog 75 #[hif p, .int .i64 j] w fun e u => e = .returned (.tuple #[]) ∧ ∃ ss', HpR B u p v ss' ∧ ss'.Perm ss ∧ HeapL ss'.length ss' ∧ Fr (fun g => v.ownBlock = some g) w u := by
  obtain ⟨a, c, rfl⟩ := h.form
  have HH := Lib.hid h
  have HU := Lib.hid hu
  have hsz : (ss.length : Int) ≤ 80000 := by omega
  obtain ⟨n, hn⟩ : ∃ n, n = ss.length := ⟨_, rfl⟩
  rw [← hn] at HH hsz hj ⊢
  have HN := Lib.hid hn
  clear h hu hs hn
  go_enter Try.func75, Try.ntmps75
  go_wp2_with fail
  go_loopw [1] (fun v1 wr => ∃ (j : Nat) (s : List Tx), v1 = .int .i64 (j : Int) ∧ j < n ∧ Hid (HpR B wr p (.slice a n c) s) ∧ Hid (s.Perm ss) ∧ Hid (UpI s j) ∧ Hid (Fr (fun g => (Value.slice a n c).ownBlock = some g) w wr)) (fun v1 _ => (intOf v1).toNat)
  case atStart => exact ⟨j, ss, rfl, hj, HH, Lib.hid (List.Perm.refl _), HU, Lib.hid (Fr.refl _ _)⟩
  case round =>
    clear hj
    obtain ⟨j, s, rfl, hj, HR, HP, HUI, HF⟩ := hrel
    have HSL := Lib.hid (show s.length = n by rw [HP.out.length_eq, HN.out])
    have c0 := HR.out.bx.cell 0
    by_cases h0 : j = 0
    · subst h0
      have R := Lib.hid (HUI.out.stop (Or.inl rfl))
      go_wp2_with fail
      go_end0
      exact ⟨rfl, s, HR.out, HP.out, R.out, HF.out⟩
    · obtain ⟨q, hqd⟩ : ∃ q, q = (j - 1) / 2 := ⟨_, rfl⟩
      have hq : ((j : Int) - 1) / 2 = (q : Int) := by omega
      have hqj : ¬ (q : Int) = (j : Int) := by omega
      have hqn : q < n := by omega
      have hL := m_less p wr a n c c0
      have ho := HR.out.ow
      rw [HSL.out] at ho
      have CL := Lib.hid (less_any ho HSL.out (by omega) hj hqn)
      have HQD := Lib.hid hqd
      have H0 := Lib.hid h0
      clear hqd h0 ho
      cases hb : Op.bytesLess (s.getD j []) (s.getD q []) with
      | false =>
        rw [hb] at CL
        have R := Lib.hid (HUI.out.stop (Or.inr (by rw [← HQD.out]; exact hb)))
        clear hb
        go_wp2_with (go_at_call 102; (with_reducible refine CL.out.mono ?_); rintro e w1 ⟨rfl, hb1⟩)
        go_end0
        exact ⟨rfl, s, ⟨HR.out.lt, HR.out.bx.belowS hb1, owns_below HR.out.ow hb1⟩, HP.out, R.out, HF.out.then hb1⟩
      | true =>
        rw [hb] at CL
        have HS1 := Lib.hid (show UpI (sw s q j) q from by
          have := HUI.out.step (by have := H0.out; omega) (by rw [HSL.out]; exact hj) (by rw [← HQD.out]; exact hb)
          rw [← HQD.out] at this
          exact this)
        clear hb
        have CS := Lib.hid (fun (u : World) (hu : Below wr.heap.size wr u) => swap_any (show u.ownsRow B 9 1 (.slice a n c) n (strs s) by have := owns_below HR.out.ow hu; rw [HSL.out] at this; exact this) HSL.out (by omega) hqn hj)
        go_wp2_with (first
          | (go_at_call 102; (with_reducible refine CL.out.mono ?_); rintro e w1 ⟨rfl, hb1⟩; have c1 := (HR.out.bx.belowS hb1).cell 0; have hL1 := m_swap p w1 a n c c1)
          | (go_at_call 103; (with_reducible refine (CS.out _ hb1).mono ?_); rintro e w2 ⟨rfl, ho2, hg2⟩; have HO2 := Lib.hid ho2; have HG2 := Lib.hid hg2; clear ho2 hg2))
        go_roundw
        case rel =>
          have hb0 := HR.out.bx.belowS hb1
          refine ⟨q, sw s q j, by go_num, hqn, Lib.hid ⟨HR.out.lt, hb0.as (HG2.out.block p hb0.lt (fun e => by have := (HR.out.ow.lt p e.symm).1; have := HR.out.lt; omega)), by rw [sw_len, HSL.out]; exact HO2.out⟩, Lib.hid ((sw_perm s (by rw [HSL.out]; exact hqn) (by rw [HSL.out]; exact hj)).trans HP.out), HS1, Lib.hid (Fr_grown' (HF.out.then hb1) HG2.out (fun i hi => Or.inl hi))⟩
        case measure => simp [intOf]; omega
end
end Go.Proofs.Ytijcojidfallkaa.GH
