/-
  The reference's memory: words, gates, what harts are told; a word, a gate turned. Nothing here is a statement of the seed.
-/
import Derived.Test.YtkmjacpcpchjoaaMemFork
set_option linter.unusedSimpArgs false
set_option linter.unusedVariables false
namespace Go.Proofs.Ytkmjacpcpchjoaa.MF
open Go.RowKit PM PR PF MM MR

section
variable {w : World} {gr c gw d : Nat} {M : Mm}
theorem refPeek_any (h : Rm w gr c gw d M) (ok : MOk M) (a : Int) (ha : 0 ≤ a ∧ a ≤ 4294967295) : Calls Try.prog 37 #[rV M.gt gr M.pg.length c gw M.ws.length d, .int .u32 a] w fun e w' => e = .returned (.int .u32 (peek M a)) ∧ Below w.heap.size w w' := by
  have h16 := ok.w16
  have h256 := ok.p256
  have hm : M.ws.length ≤ 4096 := by omega
  have hgw := h.lt.2
  have hb0 := below_new w (.cells (rCs M.gt gr M.pg.length c gw M.ws.length d) 33)
  unfold peek
  obtain ⟨ha0, ha1⟩ := ha
  by_cases h1 : a < 64
  · rw [if_pos h1]
    have C := Lib.hid (refEnc_says a ⟨ha0, h1⟩)
    clear h ok h16
    generalize slotW a = x at *
    generalize M.pg.length = n at *
    generalize M.ws.length = m at *
    go_enter Try.func37, Try.ntmps37
    go_wp2_with (go_at_call 29; (with_reducible refine (C.out.at _).mono ?_); rintro e w1 ⟨rfl, hb⟩)
    go_ret
    exact ⟨rfl, below_of hb0 hb⟩
  · rw [if_neg h1]
    by_cases h2 : a < 72
    · rw [if_pos h2]
      clear h ok h16
      generalize M.pg.length = n at *
      generalize M.ws.length = m at *
      generalize M.gt = G at *
      rcases (show a = 64 ∨ a = 65 ∨ a = 66 ∨ a = 67 ∨ a = 68 ∨ a = 69 ∨ a = 70 ∨ a = 71 by omega) with rfl | rfl | rfl | rfl | rfl | rfl | rfl | rfl <;> clear h1 h2 ha0 ha1
      all_goals
        go_enter Try.func37, Try.ntmps37
        go_wp2_with fail
        go_ret
        exact ⟨rfl, hb0⟩
    · rw [if_neg h2]
      have C := Lib.hid (refThere_any M.gt gr M.pg.length c gw M.ws.length d hm a ⟨ha0, ha1⟩)
      rw [show decide (80 ≤ a ∧ a < 80 + (M.ws.length : Int)) = thereB M a from rfl] at C
      cases ht : thereB M a
      · rw [if_neg (by decide)]
        rw [ht] at C
        clear h ok h16 ht
        generalize M.pg.length = n at *
        generalize M.ws.length = m at *
        generalize M.gt = G at *
        go_enter Try.func37, Try.ntmps37
        go_wp2_with (go_at_call 56; (with_reducible refine (C.out.at _).mono ?_); rintro e w1 ⟨rfl, hb⟩; obtain ⟨hc, hf⟩ := bcell hb)
        go_ret
        exact ⟨rfl, below_of hb0 hb⟩
      · rw [if_pos rfl]
        rw [ht] at C
        obtain ⟨t1, t2⟩ := there_at ht
        have cw := h.wr.cell t2
        change w.cell? ⟨gw, (a - 80).toNat, none⟩ = some (.int .u32 (word M a)) at cw
        clear h ok h16 ht h1 h2
        obtain ⟨k, rfl⟩ : ∃ k : Nat, a = 80 + k := ⟨(a - 80).toNat, by omega⟩
        rw [show (80 + (k : Int) - 80).toNat = k by omega] at *
        generalize word M (80 + (k : Int)) = y at *
        generalize M.pg.length = n at *
        generalize M.ws.length = m at *
        generalize M.gt = G at *
        have hk0 : (0 : Int) ≤ k := by omega
        have hk1 : (k : Int) < m := by omega
        have hm1 : (m : Int) ≤ 4096 := by omega
        clear t1 ha0 ha1 t2
        go_enter Try.func37, Try.ntmps37
        go_wp2_with (go_at_call 56; (with_reducible refine (C.out.at _).mono ?_); rintro e w1 ⟨rfl, hb⟩; obtain ⟨hc, hf⟩ := bcell hb; have cw1 := ((below_of hb0 hb).cell (p := ⟨gw, k, none⟩) hgw).trans cw)
        go_ret
        exact ⟨rfl, below_of hb0 hb⟩
end
end Go.Proofs.Ytkmjacpcpchjoaa.MF
