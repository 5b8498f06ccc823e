/-
  The closed cases that each law of layer 4 asks beside its own: they hold.
-/
import Derived.Test.YtjbppnapfdapoaaIsaDec
set_option linter.unusedSimpArgs false
set_option linter.unusedVariables false
namespace Go.Proofs.Ytjbppnapfdapoaa.IF
open Go.RowKit WM IM WF

theorem awakeS : Says Try.prog 14 #[] (.bool true) := by
  intro w
  have h1 : InsOk 2 1 0 0 (-1) := by unfold InsOk; omega
  have e1 : enc 2 1 0 0 (-1) = 287309823 := by decide
  have e2 : hasB 4294967295 = false := by decide
  have C1 := Lib.hid (by have := encode_yes 2 1 0 0 (-1) h1; rw [e1] at this; exact this)
  have C2 := Lib.hid (by have := decode_any 4294967295 (by omega); unfold decV at this; rw [e2] at this; exact this)
  clear h1 e1 e2
  go_enter Try.func14, Try.ntmps14
  go_wp2_with (first | (go_at_call 15; refine (C1.out.at _).mono ?_; rintro e w1 ⟨rfl, hb⟩) | (go_at_call 17; refine (inw C2.out w _ hb).mono ?_; rintro e w2 ⟨rfl, hb2⟩))
  go_ret
  exact ⟨rfl, hb2.alloc hb2.size _⟩
end Go.Proofs.Ytjbppnapfdapoaa.IF
