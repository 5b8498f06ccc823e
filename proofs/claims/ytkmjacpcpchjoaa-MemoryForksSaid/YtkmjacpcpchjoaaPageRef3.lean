/-
  Pages staged: the reference's. Nothing here is a statement of the seed.
-/
import Derived.Test.YtkmjacpcpchjoaaPageRef2
import Derived.Test.YtkmjacpcpchjoaaPageMath2
set_option linter.unusedSimpArgs false
set_option linter.unusedVariables false
namespace Go.Proofs.Ytkmjacpcpchjoaa.PF
open Go.RowKit PM PR

/-- what a call of a reference's table tells: a table that lies where this one did (g), or in memory of its own -/
def Rets (g : Nat) (x : Int) (l' : List Pg) (w : World) (e : Ending) (w' : World) : Prop := ∃ g' c, e = .returned (.tuple #[.agg #[.slice (some ⟨g', 0, none⟩) l'.length c], .int .i64 x]) ∧ Row w' g' l' ∧ l'.length ≤ 256 ∧ l'.length ≤ c ∧ c ≤ maxLen ∧ Below w.heap.size w w' ∧ (g' = g ∨ w.heap.size ≤ g')
section
variable {g c : Nat} {l : List Pg} {w : World}
theorem refStage_arg (hr : Row w g l) (h256 : l.length ≤ 256) (hlc : l.length ≤ c) (hcm : c ≤ maxLen) (a n o : Int) (hx : o = 0 ∨ n < 1) :
    Calls Try.prog 68 #[.agg #[.slice (some ⟨g, 0, none⟩) l.length c], .int .i64 a, .int .i64 n, .int .u16 o] w (Rets g 2 l w) := by
  have HR := Lib.hid hr
  clear hr
  by_cases ho : o = 0
  · subst ho
    clear hx
    go_enter Try.func68, Try.ntmps68
    go_wp2_with fail
    exact bodyPost_ret (v := .tuple #[.agg #[.slice (some ⟨g, 0, none⟩) l.length c], .int .i64 2]) (by simp [results, Try.results68, go_sem]) rfl ⟨g, c, rfl, HR.out.belowS (two_new _ _ _), h256, hlc, hcm, two_new _ _ _, Or.inl rfl⟩
  · have ho' : (o == 0) = false := by simpa using ho
    have hn : n < 1 := by omega
    clear hx ho
    go_enter Try.func68, Try.ntmps68
    go_wp2_with fail
    exact bodyPost_ret (v := .tuple #[.agg #[.slice (some ⟨g, 0, none⟩) l.length c], .int .i64 2]) (by simp [results, Try.results68, go_sem]) rfl ⟨g, c, rfl, HR.out.belowS (two_new _ _ _), h256, hlc, hcm, two_new _ _ _, Or.inl rfl⟩
theorem refStage_range (hr : Row w g l) (h256 : l.length ≤ 256) (hlc : l.length ≤ c) (hcm : c ≤ maxLen) (a n o : Int) (ho : o ≠ 0) (hn : 1 ≤ n) (hx : a < 0 ∨ (l.length : Int) - n < a) :
    Calls Try.prog 68 #[.agg #[.slice (some ⟨g, 0, none⟩) l.length c], .int .i64 a, .int .i64 n, .int .u16 o] w (Rets g 11 l w) := by
  have HR := Lib.hid hr
  clear hr
  have ho' : (o == 0) = false := by simpa using ho
  have hm0 : (0 : Int) ≤ l.length := by omega
  have hm1 : (l.length : Int) ≤ 256 := by omega
  clear ho
  by_cases h0 : a < 0
  · clear hx
    go_enter Try.func68, Try.ntmps68
    go_wp2_with fail
    exact bodyPost_ret (v := .tuple #[.agg #[.slice (some ⟨g, 0, none⟩) l.length c], .int .i64 11]) (by simp [results, Try.results68, go_sem]) rfl ⟨g, c, rfl, HR.out.belowS (two_new _ _ _), h256, hlc, hcm, two_new _ _ _, Or.inl rfl⟩
  · have h0' : 0 ≤ a := by omega
    by_cases h1 : (l.length : Int) < a
    · clear hx
      go_enter Try.func68, Try.ntmps68
      go_wp2_with fail
      exact bodyPost_ret (v := .tuple #[.agg #[.slice (some ⟨g, 0, none⟩) l.length c], .int .i64 11]) (by simp [results, Try.results68, go_sem]) rfl ⟨g, c, rfl, HR.out.belowS (two_new _ _ _), h256, hlc, hcm, two_new _ _ _, Or.inl rfl⟩
    · have h2 : (l.length : Int) - a < n := by omega
      have h1' : a ≤ (l.length : Int) := by omega
      clear hx
      go_enter Try.func68, Try.ntmps68
      go_wp2_with fail
      exact bodyPost_ret (v := .tuple #[.agg #[.slice (some ⟨g, 0, none⟩) l.length c], .int .i64 11]) (by simp [results, Try.results68, go_sem]) rfl ⟨g, c, rfl, HR.out.belowS (two_new _ _ _), h256, hlc, hcm, two_new _ _ _, Or.inl rfl⟩
theorem ref_end {W wr : World} {x : Int} {q : Nat} (u : Value) (o : Obj) (HR : Row W g l) (hb : Below W.heap.size W wr) (hWb : Below w.heap.size w W) (hg : g < w.heap.size) (hq : w.heap.size ≤ q) (h256 : l.length ≤ 256) (hlc : l.length ≤ c) (hcm : c ≤ maxLen) :
    Rets g x l w (.returned (.tuple #[.agg #[.slice (some ⟨g, 0, none⟩) l.length c], .int .i64 x])) ((wr.setCell ⟨q, 0, none⟩ u).alloc o) := by
  have hB := ((hWb.trans (hb.mono hWb.size)).setCell (p := ⟨q, 0, none⟩) hq u)
  refine ⟨g, c, rfl, ((HR.belowS hb).far (by show g ≠ q; omega) u).alloc o, h256, hlc, hcm, hB.alloc hB.size o, Or.inl rfl⟩
set_option maxHeartbeats 4000000 in
theorem refStage_there (hr : Row w g l) (h256 : l.length ≤ 256) (hlc : l.length ≤ c) (hcm : c ≤ maxLen) (hf : FineL l) (A N : Nat) (o : Int) (ho : o ≠ 0) (hn : 1 ≤ N) (hAN : A + N ≤ l.length) :
    Calls Try.prog 68 #[.agg #[.slice (some ⟨g, 0, none⟩) l.length c], .int .i64 (A : Int), .int .i64 (N : Int), .int .u16 o] w (Rets g (stageE l A N o) (stageL l A N o) w) := by
  have hyes : Hid (∀ j, j < l.length → inWay l A N o j → stageE l A N o = 9 ∧ stageL l A N o = l) := Lib.hid fun j hj h => by
    have ht := (ths_iff hf ho hAN).2 ⟨j, hj, h⟩
    have e : stageE l A N o = 9 := by unfold stageE; rw [if_neg (by omega), if_neg (by omega), ht]; rfl
    exact ⟨e, by unfold stageL; rw [e]; rfl⟩
  have hno : Hid ((∀ j, j < l.length → ¬ inWay l A N o j) → stageE l A N o = 0 ∧ stageL l A N o = fill l A N (stg o)) := Lib.hid fun h => by
    have ht : ths l A N o = false := by
      cases ht : ths l A N o
      · rfl
      · obtain ⟨j, hj, h'⟩ := (ths_iff hf ho hAN).1 ht
        exact absurd h' (h j hj)
    have e : stageE l A N o = 0 := by unfold stageE; rw [if_neg (by omega), if_neg (by omega), ht]; rfl
    exact ⟨e, by unfold stageL; rw [e]; rfl⟩
  generalize stageE l A N o = X at *
  generalize stageL l A N o = L' at *
  have ho' : (o == 0) = false := by simpa using ho
  have HR := Lib.hid ((hr.alloc (.cells #[.slice (some ⟨g, 0, none⟩) l.length c] 30)).alloc (.cells #[.slice none 0 0] 30))
  have HT := Lib.hid ((Whole.new w 30 #[.slice (some ⟨g, 0, none⟩) l.length c]).alloc (.cells #[.slice none 0 0] 30))
  have HQ := Lib.hid (Whole.new (w.alloc (.cells #[.slice (some ⟨g, 0, none⟩) l.length c] 30)) 30 #[.slice none 0 0])
  simp only [World.size_alloc] at HQ
  have hglt := hr.lt
  clear hr hf ho
  generalize hnn : l.length = n at *
  have HN := Lib.hid hnn
  clear hnn
  unfold maxLen at hcm
  have hN1 : (1 : Int) ≤ N := by omega
  have hA0 : (0 : Int) ≤ A := by omega
  have hNm : (A : Int) + N ≤ n := by omega
  have hm1 : (n : Int) ≤ 256 := by omega
  have d1 : decide ((N : Int) < 1) = false := by simp; omega
  have d2 : decide ((A : Int) < 0) = false := by simp
  have d3 : decide ((n : Int) - A < N) = false := by simp; omega
  have d4 : decide (n < A) = false := by simp; omega
  go_enter Try.func68, Try.ntmps68
  go_wp2_with fail
  generalize hW : (w.alloc (.cells #[.slice (some ⟨g, 0, none⟩) n c] 30)).alloc (.cells #[.slice none 0 0] 30) = W at *
  have hWb : Below w.heap.size w W := by subst hW; exact two_new _ _ _
  have hWs : W.heap.size = w.heap.size + 1 + 1 := by subst hW; simp
  have HWS := Lib.hid hWs
  clear hW hWs
  go_loopw [10] (fun i wr => ∃ k : Nat, k ≤ n ∧ i = .int .i64 (k : Int) ∧ Below W.heap.size W wr ∧ Hid (∀ j, j < k → ¬ inWay l A N o j)) (fun i _ => n - (intOf i).toNat)
  case atStart => exact ⟨0, by omega, rfl, Below.refl _ _, Lib.hid fun j hj => by omega⟩
  case round =>
    obtain ⟨k, hk, rfl, hb, hnone⟩ := hrel
    have hs : w.heap.size + 1 + 1 ≤ wr.heap.size := by have := hb.size; rw [HWS.out] at this; exact this
    have hs1 : w.heap.size + 1 < wr.heap.size := by omega
    have hs0 : w.heap.size < wr.heap.size := by omega
    have hT := (HT.out.belowS hb).cell 0
    have HQ2 := Lib.hid (HQ.out.belowS hb)
    have hq := HQ2.out.cell 0
    have hqf := HQ2.out.frozen 0
    simp only [List.getElem?_toArray, List.getElem?_cons_zero] at hT hq
    by_cases hlt : k < n
    · have hlt' : (k : Int) < n := by omega
      have hk0 : (0 : Int) ≤ k := by omega
      have hkl : k < l.length := by rw [HN.out]; exact hlt
      obtain ⟨c0, c1, c2, c3, c4⟩ := ((HR.out.belowS hb).five hkl rfl)
      have hin : Hid (inWay l A N o k ↔ (l.getD k zero).st ≠ 0 ∧ ((l.getD k zero).ow = o ∨ (A ≤ k ∧ k < A + N))) := Lib.hid Iff.rfl
      clear hkl
      generalize l.getD k zero = q at *
      obtain ⟨st, ex, wr', ow, ep⟩ := q
      simp only at c0 c1 c2 c3 c4 hin
      have hb1 := hb.alloc hb.size (.cells #[.int .u8 st, .bool ex, .bool wr', .int .u16 ow, .int .u64 ep] 69)
      by_cases h0 : st = 0
      · subst h0
        have HNO : Hid (¬ inWay l A N o k) := Lib.hid (fun h => (hin.out.1 h).1 rfl)
        go_wp2_with fail
        go_roundw
        case rel => exact ⟨k + 1, by omega, by go_num, hb1, Lib.hid fun j hj => by
          by_cases e : j = k
          · subst e; exact HNO.out
          · exact hnone.out j (by omega)⟩
        case measure => simp [intOf]; omega
      · have h0' : (st == 0) = false := by simpa using h0
        have h0n : (st != 0) = true := by simpa using h0
        have H0 := Lib.hid h0
        clear h0
        by_cases ho : ow = o
        · subst ho
          have HIN : Hid (inWay l A N ow k) := Lib.hid (hin.out.2 ⟨H0.out, Or.inl rfl⟩)
          go_wp2_with fail
          obtain ⟨rfl, rfl⟩ := hyes.out k hlt (HIN.out)
          refine bodyPost_ret (v := .tuple #[.agg #[.slice (some ⟨g, 0, none⟩) n c], .int .i64 9]) (by simp [results, Try.results68, go_sem, hq, hqf, hs1]) rfl ?_
          have E := ref_end (x := 9) (w := w) (.slice (some ⟨g, 0, none⟩) n c) (.cells #[.int .u8 st, .bool ex, .bool wr', .int .u16 ow, .int .u64 ep] 69) HR.out hb hWb hglt (Nat.le_succ _) (by rw [HN.out]; exact h256) (by rw [HN.out]; exact hlc) (by unfold maxLen; exact hcm)
          rw [HN.out] at E
          exact E
        · have ho1 : (ow == o) = false := by simpa using ho
          by_cases h1 : k < A
          · have h1' : (k : Int) < A := by omega
            have HNO : Hid (¬ inWay l A N o k) := Lib.hid (fun h => (hin.out.1 h).2.elim ho (fun h => by omega))
            clear ho
            go_wp2_with fail
            go_roundw
            case rel => exact ⟨k + 1, by omega, by go_num, hb1, Lib.hid fun j hj => by
              by_cases e : j = k
              · subst e; exact HNO.out
              · exact hnone.out j (by omega)⟩
            case measure => simp [intOf]; omega
          · have h1' : (A : Int) ≤ k := by omega
            by_cases h2 : k < A + N
            · have h2' : (k : Int) < A + N := by omega
              have HIN : Hid (inWay l A N o k) := Lib.hid (hin.out.2 ⟨H0.out, Or.inr ⟨by omega, h2⟩⟩)
              clear ho
              go_wp2_with fail
              obtain ⟨rfl, rfl⟩ := hyes.out k hlt (HIN.out)
              refine bodyPost_ret (v := .tuple #[.agg #[.slice (some ⟨g, 0, none⟩) n c], .int .i64 9]) (by simp [results, Try.results68, go_sem, hq, hqf, hs1]) rfl ?_
              have E := ref_end (x := 9) (w := w) (.slice (some ⟨g, 0, none⟩) n c) (.cells #[.int .u8 st, .bool ex, .bool wr', .int .u16 ow, .int .u64 ep] 69) HR.out hb hWb hglt (Nat.le_succ _) (by rw [HN.out]; exact h256) (by rw [HN.out]; exact hlc) (by unfold maxLen; exact hcm)
              rw [HN.out] at E
              exact E
            · have h2' : (A : Int) + N ≤ k := by omega
              have HNO : Hid (¬ inWay l A N o k) := Lib.hid (fun h => (hin.out.1 h).2.elim ho (fun h => by omega))
              clear ho
              go_wp2_with fail
              go_roundw
              case rel => exact ⟨k + 1, by omega, by go_num, hb1, Lib.hid fun j hj => by
                by_cases e : j = k
                · subst e; exact HNO.out
                · exact hnone.out j (by omega)⟩
              case measure => simp [intOf]; omega
    · obtain rfl : k = n := by omega
      obtain ⟨rfl, rfl⟩ := hno.out hnone.out
      have C := Lib.hid (copied_any (c := c) (HR.out.belowS hb) (by rw [HN.out]; exact h256))
      rw [HN.out] at C
      have hwr : Below w.heap.size w wr := hWb.trans (hb.mono hWb.size)
      clear hyes hno hnone
      go_wp2_with (go_at_call 86; (with_reducible refine C.out.mono ?_); rintro e w2 ⟨g', c', rfl, hr2, hg', hc1, hc2, hb2⟩; have HR2 := Lib.hid hr2; have hwb2 := hwr.trans (hb2.mono hwr.size); have hs2 := hb2.size; have HQ3 := Lib.hid (HQ2.out.belowS hb2); clear hr2)
      go_loopw [13] (fun i wz => ∃ m : Nat, m ≤ N ∧ i = .int .i64 ((A + m : Nat) : Int) ∧ Below w.heap.size w wz ∧ Hid (Row wz g' (fill l A m (stg o))) ∧ Hid (Whole wz w2.heap.size 30 #[.slice (some ⟨g', 0, none⟩) l.length c']) ∧ Hid (Whole wz (w.heap.size + 1) 30 #[.slice none 0 0])) (fun i _ => A + N - (intOf i).toNat)
      case atStart => exact ⟨0, by omega, rfl, hwb2.alloc hwb2.size _, Lib.hid (by rw [fill_zero]; exact HR2.out.alloc _), Lib.hid (Whole.new _ _ _), Lib.hid (HQ3.out.alloc _)⟩
      case round =>
        obtain ⟨m, hm, rfl, hu, hrow, hX, hQ⟩ := hrel
        have x0 := hX.out.cell 0
        simp only [List.getElem?_toArray, List.getElem?_cons_zero] at x0
        by_cases hlm : m < N
        · have hlm' : ((A + m : Nat) : Int) < (A : Int) + N := by omega
          have hm0 : (0 : Int) ≤ ((A + m : Nat) : Int) := by omega
          have hml : A + m < (fill l A m (stg o)).length := by rw [fill_len, HN.out]; omega
          have hmk : ((A + m : Nat) : Int) < l.length := by rw [HN.out]; omega
          have hlk : l.length ≤ 256 := by rw [HN.out]; exact h256
          obtain ⟨⟨v0, v1, v2, v3, v4, g0, g1, g2, g3, g4⟩, f0, f1, f2, f3, f4⟩ := hrow.out.there hml
          have P := Lib.hid (hrow.out.put hml (stg o))
          rw [fill_set (by rw [HN.out]; omega)] at P
          have hgB : w.heap.size ≤ g' := by omega
          have hF := Lib.hid (Fr.put (g := g') (Fr.refl (fun i => i = g') wr) (Or.inl rfl) ((A + m) * 5) 1 false false o 0)
          have nX : w2.heap.size ≠ g' := by have := HR2.out.lt; omega
          have nQ : w.heap.size + 1 ≠ g' := by omega
          have hX2 := Lib.hid (hX.out.fr hF.out nX)
          have hQ2 := Lib.hid (hQ.out.fr hF.out nQ)
          have hu2 := Lib.hid (Below.fr hu hF.out hu.size (by rintro i rfl; exact hgB))
          clear hml nX nQ
          generalize hAm : A + m = B at *
          have HAM := Lib.hid hAm
          clear hAm
          go_wp2_with fail
          rw [put_eq]
          clear g0 g1 g2 g3 g4 f0 f1 f2 f3 f4
          go_roundw
          case rel => exact ⟨m + 1, by omega, by rw [show A + (m + 1) = B + 1 by rw [← HAM.out]; omega]; go_num, hu2.out, P, hX2, hQ2⟩
          case measure => simp [intOf]; omega
        · obtain rfl : m = N := by omega
          have q0 := hQ.out.cell 0
          have qf := hQ.out.frozen 0
          simp only [List.getElem?_toArray, List.getElem?_cons_zero] at q0
          have ql := hQ.out.lt
          go_wp2_with fail
          refine bodyPost_ret (v := .tuple #[.agg #[.slice (some ⟨g', 0, none⟩) l.length c'], .int .i64 0]) (by simp [results, Try.results68, go_sem, q0, qf, ql]) rfl ?_
          refine ⟨g', c', by rw [fill_len], hrow.out.far (by show g' ≠ w.heap.size + 1; omega) _, by rw [fill_len, HN.out]; exact h256, by rw [fill_len]; exact hc1, hc2, hu.setCell (by simp) _, Or.inr (by omega)⟩
end
end Go.Proofs.Ytkmjacpcpchjoaa.PF
