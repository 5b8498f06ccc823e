/-
  One call of both. Nothing here is a statement of the seed.
-/
import Derived.Test.YtkmjacpcpchjoaaPageRef5
set_option linter.unusedSimpArgs false
set_option linter.unusedVariables false
namespace Go.Proofs.Ytkmjacpcpchjoaa.PF
open Go.RowKit PM PR

abbrev acV (x : Ac) : Value := .agg #[.int .u8 x.kind, .int .i64 x.a, .int .i64 x.n, .int .u16 x.o, .int .u64 x.e]
/-- both have done the call: the table in its block, the reference's where it lay or in memory of its own -/
def DoR (p g gr : Nat) (l' : List Pg) (w : World) (e : Ending) (w' : World) : Prop := ∃ gr' c, e = .returned (.tuple #[.agg #[.slice (some ⟨gr', 0, none⟩) l'.length c], .bool true]) ∧ Tb w' p g l' ∧ Row w' gr' l' ∧ l'.length ≤ c ∧ c ≤ maxLen ∧ Fr (fun i => i = g) w w' ∧ (gr' = gr ∨ w.heap.size ≤ gr')
theorem refStage_any {g c : Nat} {l : List Pg} {w : World} (hr : Row w g l) (h256 : l.length ≤ 256) (hlc : l.length ≤ c) (hcm : c ≤ maxLen) (hf : FineL l) (a n o : Int) : Calls Try.prog 68 #[.agg #[.slice (some ⟨g, 0, none⟩) l.length c], .int .i64 a, .int .i64 n, .int .u16 o] w (Rets g (stageE l a n o) (stageL l a n o) w) := by
  by_cases h1 : o = 0 ∨ n < 1
  · have e : stageE l a n o = 2 := by unfold stageE; rw [if_pos h1]
    rw [show stageL l a n o = l by unfold stageL; rw [e]; rfl, e]
    exact refStage_arg hr h256 hlc hcm a n o h1
  · by_cases h2 : a < 0 ∨ (l.length : Int) - n < a
    · have e : stageE l a n o = 11 := by unfold stageE; rw [if_neg h1, if_pos h2]
      rw [show stageL l a n o = l by unfold stageL; rw [e]; rfl, e]
      exact refStage_range hr h256 hlc hcm a n o (by omega) (by omega) h2
    · obtain ⟨A, rfl⟩ := Int.eq_ofNat_of_zero_le (show 0 ≤ a by omega)
      obtain ⟨N, rfl⟩ := Int.eq_ofNat_of_zero_le (show 0 ≤ n by omega)
      exact refStage_there hr h256 hlc hcm hf A N o (by omega) (by omega) (by omega)
end Go.Proofs.Ytkmjacpcpchjoaa.PF
