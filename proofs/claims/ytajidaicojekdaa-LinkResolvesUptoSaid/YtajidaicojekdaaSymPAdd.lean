/-
  The program's Add. Nothing here is a statement of the seed.
-/
import Derived.Test.YtajidaicojekdaaSymPB
set_option linter.unusedSimpArgs false
set_option linter.unusedVariables false
namespace Go.Proofs.Ytajidaicojekdaa.SP
open Go.RowKit WM NR OM OR SM SR MV
set_option maxHeartbeats 4000000
set_option maxRecDepth 10000
theorem Pt.far {S : Nat → Prop} {w u : World} {xs : List Value} {v : Value} (hx : Reads (fun g => ¬ S g ∧ g < w.heap.size) w v xs) (hb : Below w.heap.size w u) : Reads (fun g => ¬ S g ∧ g < u.heap.size) u v xs :=
  (hx.keep fun g hg _ => hb.block g hg.2).mono fun g hg => ⟨hg.1, Nat.lt_of_lt_of_le hg.2 hb.size⟩
theorem add_any {S : Nat → Prop} {w : World} {v : Value} {t : Tb} (h : PT S w v t) (hg : SM.Good t) (hb : t.mods.length ≤ 10000 ∧ t.L.length ≤ 80000) (m : List UInt8) (hm : m.length ≤ 9223372036854775807) (g : Int) (hgt : -9223372036854775808 ≤ g ∧ g ≤ 9223372036854775807) {na : Option Addr} {nn nc : Nat} {xs : List (List UInt8)} (hx : Reads (fun g => ¬ S g ∧ g < w.heap.size) w (.slice na nn nc) (strs xs)) (hxs : ∀ x ∈ xs, x.length ≤ 9223372036854775807) :
    Calls Try.prog 11 #[v, .string (bs m), .int .i64 g, .slice na nn nc] w fun e u => e = .returned (.int .i64 (addM t m g xs).2) ∧ Chg S w v (addM t m g xs).1 u := by
  obtain ⟨a, be, bm, fm, rfl, h⟩ := h
  obtain ⟨n1, m1, m2⟩ := reads_len hx
  rw [strs_len] at n1
  unfold maxLen at m2
  have hnn : (nn : Int) ≤ 9223372036854775807 := by omega
  have hnc : (nn : Int) ≤ nc := by omega
  have HH := Lib.hid h
  have HG := Lib.hid hg
  have HX := Lib.hid hx
  have HL := Lib.hid n1
  have HB := Lib.hid hb
  have HXS := Lib.hid hxs
  have C1 := Lib.hid (isNoName_any m hm w)
  have C2 := Lib.hid (fun (u : World) (hu : Below w.heap.size w u) (q : Bool) (hq : q = true ↔ ∃ k, k < nn ∧ decide (NM.chk (xs.getD k []) ≠ 0) = true) => any_names (w := u) ((Pt.far HX.out hu).mono fun g hg => hg.2) (p := fun k => decide (NM.chk (xs.getD k []) ≠ 0)) (fun k hk u' _ => isNoName_any (xs.getD k []) (HXS.out _ (getD_mem' (by rw [HL.out]; exact hk))) u') hq)
  have C3 := Lib.hid (fun (u : World) (hu : Below w.heap.size w u) => twice_any (w := u) ((Pt.far HX.out hu).mono fun g hg => hg.2))
  have C4 := Lib.hid (fun (u : World) (hu : Below w.heap.size w u) => has_any ⟨a, be, bm, fm, rfl, HH.out.below hu⟩ HG.out HB.out m hm)
  have C5 := Lib.hid (fun (u : World) (hu : Below w.heap.size w u) (q : Bool) (hq : q = true ↔ ∃ k, k < nn ∧ decide (0 ≤ plc t.L (xs.getD k [])) = true) => any_there (w := u) (ta := a) ((Pt.far HX.out hu).mono fun g hg => hg.2) (p := fun k => decide (0 ≤ plc t.L (xs.getD k []))) (fun k hk u' hu' => hasEntry_any ((HH.out.below hu).below hu') (xs.getD k []) (HXS.out _ (getD_mem' (by rw [HL.out]; exact hk)))) hq)
  have ex : ∀ p : List UInt8 → Prop, (∃ k, k < nn ∧ p (xs.getD k [])) ↔ ∃ x ∈ xs, p x := fun p => by
    constructor
    · rintro ⟨k, hk, h⟩
      exact ⟨_, getD_mem' (by rw [HL.out]; exact hk), h⟩
    · rintro ⟨x, hx, h⟩
      obtain ⟨k, hk, e⟩ := List.getElem_of_mem hx
      exact ⟨k, by rw [← HL.out]; exact hk, by rw [List.getD_eq_getElem?_getD, List.getElem?_eq_getElem hk]; simpa [e] using h⟩
  have EX := Lib.hid ex
  have HM := Lib.hid hm
  obtain ⟨M, hM⟩ : ∃ M, M = bs m := ⟨_, rfl⟩
  rw [← hM] at C1 C4 ⊢
  have HMM := Lib.hid hM
  unfold addM
  clear h hg hx n1 m1 m2 hb hxs ex hM hm
  by_cases h1 : NM.chk m ≠ 0
  · rw [if_pos (Or.inl h1)]
    rw [decide_eq_true h1] at C1
    clear h1
    go_enter Try.func11, Try.ntmps11
    go_wp2_with (first | (go_at_call 29; (with_reducible refine C1.out.mono ?_); rintro e w1 ⟨rfl, hb1⟩; have B := Lib.hid hb1; clear hb1 C1))
    go_ret
    exact ⟨rfl, HH.out.chg_below B.out⟩
  · rw [decide_eq_false h1] at C1
    by_cases h2 : ∃ x ∈ xs, NM.chk x ≠ 0
    · rw [if_pos (Or.inr h2)]
      have D2 := Lib.hid (fun u hu => C2.out u hu true (by simp only [decide_eq_true_eq]; exact ⟨fun _ => (EX.out (fun x => NM.chk x ≠ 0)).2 h2, fun _ => trivial⟩))
      clear h1 h2
      go_enter Try.func11, Try.ntmps11
      go_wp2_with (first | (go_at_call 29; (with_reducible refine C1.out.mono ?_); rintro e w1 ⟨rfl, hb1⟩; have B := Lib.hid hb1; clear hb1 C1) | (go_at_call 30; (with_reducible refine (D2.out _ B.out).mono ?_); rintro e w2 ⟨rfl, hb1⟩; have B := Lib.hid (below_of B.out hb1); clear hb1 D2))
      go_ret
      exact ⟨rfl, HH.out.chg_below B.out⟩
    · rw [if_neg (fun h => h.elim h1 h2)]
      have D2 := Lib.hid (fun u hu => C2.out u hu false (by simp only [decide_eq_true_eq]; exact ⟨fun h => (by cases h), fun h => absurd ((EX.out (fun x => NM.chk x ≠ 0)).1 h) h2⟩))
      have H1 := Lib.hid h1
      have H2 := Lib.hid h2
      clear h1 h2
      by_cases h3 : g < 0
      · rw [if_pos (Or.inl h3)]
        go_enter Try.func11, Try.ntmps11
        go_wp2_with (first | (go_at_call 29; (with_reducible refine C1.out.mono ?_); rintro e w1 ⟨rfl, hb1⟩; have B := Lib.hid hb1; clear hb1 C1) | (go_at_call 30; (with_reducible refine (D2.out _ B.out).mono ?_); rintro e w2 ⟨rfl, hb1⟩; have B := Lib.hid (below_of B.out hb1); clear hb1 D2))
        go_ret
        exact ⟨rfl, HH.out.chg_below B.out⟩
      · by_cases h4 : 7 < g
        · rw [if_pos (Or.inr (Or.inl h4))]
          have h4z : (8 : Int) ≤ g := by omega
          go_enter Try.func11, Try.ntmps11
          go_wp2_with (first | (go_at_call 29; (with_reducible refine C1.out.mono ?_); rintro e w1 ⟨rfl, hb1⟩; have B := Lib.hid hb1; clear hb1 C1) | (go_at_call 30; (with_reducible refine (D2.out _ B.out).mono ?_); rintro e w2 ⟨rfl, hb1⟩; have B := Lib.hid (below_of B.out hb1); clear hb1 D2))
          go_ret
          exact ⟨rfl, HH.out.chg_below B.out⟩
        · have h4z : ¬ (8 : Int) ≤ g := by omega
          by_cases h5 : 8 < xs.length
          · rw [if_pos (Or.inr (Or.inr (Or.inl h5)))]
            have h5z : (nn : Int) > 8 := by have := HL.out; omega
            clear h5
            go_enter Try.func11, Try.ntmps11
            go_wp2_with (first | (go_at_call 29; (with_reducible refine C1.out.mono ?_); rintro e w1 ⟨rfl, hb1⟩; have B := Lib.hid hb1; clear hb1 C1) | (go_at_call 30; (with_reducible refine (D2.out _ B.out).mono ?_); rintro e w2 ⟨rfl, hb1⟩; have B := Lib.hid (below_of B.out hb1); clear hb1 D2))
            go_ret
            exact ⟨rfl, HH.out.chg_below B.out⟩
          · have h5z : ¬ (nn : Int) > 8 := by have := HL.out; omega
            have H5 := Lib.hid h5
            clear h5
            cases h6 : dupB xs
            · rw [if_neg (fun h => by rcases h with h | h | h | h; exact h3 h; exact h4 h; exact H5.out h; cases h)]
              rw [h6] at C3
              have D3 := C3
              have H6 := Lib.hid h6
              clear h6
              cases h7 : hasM t m
              · rw [h7] at C4
                have D4 := C4
                have H7 := Lib.hid h7
                clear h7
                by_cases h8 : ∃ x ∈ xs, 0 ≤ plc t.L x
                · rw [if_pos (Or.inr h8)]
                  have D5 := Lib.hid (fun u hu => C5.out u hu true (by simp only [decide_eq_true_eq]; exact ⟨fun _ => (EX.out (fun x => 0 ≤ plc t.L x)).2 h8, fun _ => trivial⟩))
                  clear h8
                  go_enter Try.func11, Try.ntmps11
                  go_wp2_with (first | (go_at_call 29; (with_reducible refine C1.out.mono ?_); rintro e w1 ⟨rfl, hb1⟩; have B := Lib.hid hb1; clear hb1 C1) | (go_at_call 30; (with_reducible refine (D2.out _ B.out).mono ?_); rintro e w2 ⟨rfl, hb1⟩; have B := Lib.hid (below_of B.out hb1); clear hb1 D2) | (go_at_call 31; (with_reducible refine (D3.out _ B.out).mono ?_); rintro e w2 ⟨rfl, hb1⟩; have B := Lib.hid (below_of B.out hb1); clear hb1 D3) | (go_at_call 32; (with_reducible refine (D4.out _ B.out).mono ?_); rintro e w2 ⟨rfl, hb1⟩; have B := Lib.hid (below_of B.out hb1); clear hb1 D4) | (go_at_call 30; (with_reducible refine (D5.out _ B.out).mono ?_); rintro e w2 ⟨rfl, hb1⟩; have B := Lib.hid (below_of B.out hb1); clear hb1 D5))
                  go_ret
                  exact ⟨rfl, HH.out.chg_below B.out⟩
                · rw [if_neg (fun h => h.elim (fun h => by cases h) h8)]
                  have D5 := Lib.hid (fun u hu => C5.out u hu false (by simp only [decide_eq_true_eq]; exact ⟨fun h => (by cases h), fun h => absurd ((EX.out (fun x => 0 ≤ plc t.L x)).1 h) h8⟩))
                  have D6 := Lib.hid (fun (u : World) (hu : Below w.heap.size w u) => put_any (HH.out.below hu) HG.out HB.out m (Classical.byContradiction fun e => H1.out e) (fun hi => by have := H7.out; unfold hasM at this; simp [hi] at this) g ⟨by omega, by omega⟩ (Pt.far HX.out hu) (by have := H5.out; omega) (by have := H6.out; unfold dupB at this; simpa using this) (fun x hx => Classical.byContradiction fun e => H2.out ⟨x, hx, e⟩) (fun x hx e he hn => h8 ⟨x, hx, plc_mem.2 ⟨e, he, hn⟩⟩))
                  rw [← HMM.out] at D6
                  clear h8
                  go_enter Try.func11, Try.ntmps11
                  go_wp2_with (first | (go_at_call 29; (with_reducible refine C1.out.mono ?_); rintro e w1 ⟨rfl, hb1⟩; have B := Lib.hid hb1; clear hb1 C1) | (go_at_call 30; (with_reducible refine (D2.out _ B.out).mono ?_); rintro e w2 ⟨rfl, hb1⟩; have B := Lib.hid (below_of B.out hb1); clear hb1 D2) | (go_at_call 31; (with_reducible refine (D3.out _ B.out).mono ?_); rintro e w2 ⟨rfl, hb1⟩; have B := Lib.hid (below_of B.out hb1); clear hb1 D3) | (go_at_call 32; (with_reducible refine (D4.out _ B.out).mono ?_); rintro e w2 ⟨rfl, hb1⟩; have B := Lib.hid (below_of B.out hb1); clear hb1 D4) | (go_at_call 30; (with_reducible refine (D5.out _ B.out).mono ?_); rintro e w2 ⟨rfl, hb1⟩; have B := Lib.hid (below_of B.out hb1); clear hb1 D5) | (go_at_call 34; (with_reducible refine (D6.out _ B.out).mono ?_); rintro e w3 ⟨rfl, hc⟩; have CC := Lib.hid hc; clear hc))
                  go_ret
                  obtain ⟨S2, hp, hs, hf⟩ := CC.out
                  exact ⟨rfl, S2, hp, fun g hg => (hs g hg).imp id (fun h => Nat.le_trans B.out.size h), (Fr.of_below B.out).trans hf (fun i hi => Or.inl hi)⟩
              · rw [if_pos (Or.inl rfl)]
                rw [h7] at C4
                have D4 := C4
                clear h7
                go_enter Try.func11, Try.ntmps11
                go_wp2_with (first | (go_at_call 29; (with_reducible refine C1.out.mono ?_); rintro e w1 ⟨rfl, hb1⟩; have B := Lib.hid hb1; clear hb1 C1) | (go_at_call 30; (with_reducible refine (D2.out _ B.out).mono ?_); rintro e w2 ⟨rfl, hb1⟩; have B := Lib.hid (below_of B.out hb1); clear hb1 D2) | (go_at_call 31; (with_reducible refine (D3.out _ B.out).mono ?_); rintro e w2 ⟨rfl, hb1⟩; have B := Lib.hid (below_of B.out hb1); clear hb1 D3) | (go_at_call 32; (with_reducible refine (D4.out _ B.out).mono ?_); rintro e w2 ⟨rfl, hb1⟩; have B := Lib.hid (below_of B.out hb1); clear hb1 D4))
                go_ret
                exact ⟨rfl, HH.out.chg_below B.out⟩
            · rw [if_pos (Or.inr (Or.inr (Or.inr rfl)))]
              rw [h6] at C3
              have D3 := C3
              clear h6
              go_enter Try.func11, Try.ntmps11
              go_wp2_with (first | (go_at_call 29; (with_reducible refine C1.out.mono ?_); rintro e w1 ⟨rfl, hb1⟩; have B := Lib.hid hb1; clear hb1 C1) | (go_at_call 30; (with_reducible refine (D2.out _ B.out).mono ?_); rintro e w2 ⟨rfl, hb1⟩; have B := Lib.hid (below_of B.out hb1); clear hb1 D2) | (go_at_call 31; (with_reducible refine (D3.out _ B.out).mono ?_); rintro e w2 ⟨rfl, hb1⟩; have B := Lib.hid (below_of B.out hb1); clear hb1 D3))
              go_ret
              exact ⟨rfl, HH.out.chg_below B.out⟩
end Go.Proofs.Ytajidaicojekdaa.SP
