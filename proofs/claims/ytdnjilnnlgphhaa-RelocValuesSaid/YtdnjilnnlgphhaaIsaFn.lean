/-
  What the small functions of package isa tell, call by call. Nothing here is a statement of the seed.
-/
import Derived.Test.YtdnjilnnlgphhaaWordFn
import Derived.Test.YtdnjilnnlgphhaaIsaMath
import Derived.Lib.OthersKept
import Derived.Lib.Strings
set_option linter.unusedSimpArgs false
set_option linter.unusedVariables false
namespace Go.Proofs.Ytdnjilnnlgphhaa.IF
open Go.RowKit WM IM WF

/-- a call tells a value, and nothing that was there turns -/
def Says (P : Program) (f : FuncId) (args : Array Value) (v : Value) : Prop := ∀ w : World, Calls P f args w fun e w' => e = .returned v ∧ Below w.heap.size w w'
theorem Says.at {P : Program} {f : FuncId} {args : Array Value} {v : Value} (h : Says P f args v) (w : World) : Calls P f args w fun e w' => e = .returned v ∧ Below w.heap.size w w' := h w
/-- the same, told of what was there when the law began -/
theorem inw {P : Program} {f : FuncId} {args : Array Value} {v : Value} (h : Says P f args v) (W0 u : World) (hb : Below W0.heap.size W0 u) :
    Calls P f args u fun e w' => e = .returned v ∧ Below W0.heap.size W0 w' := (h u).mono fun _ _ ⟨he, h2⟩ => ⟨he, hb.trans (h2.mono hb.size)⟩
theorem says_same {P : Program} {f : FuncId} {args : Array Value} {v : Value} (h : ∀ w : World, Calls P f args w fun e w' => e = .returned v ∧ w = w') : Says P f args v :=
  fun w => (h w).mono fun e w' ⟨he, hw⟩ => ⟨he, by subst hw; exact Below.refl _ _⟩
theorem below_drewN {B : Nat} {a w : World} (h : Below B a w) (n : Nat) : Below B a (w.drewN n) := ⟨h.os, h.tape, h.output, h.size, h.block⟩
theorem says_drew {P : Program} {f : FuncId} {args : Array Value} {v : Value} (h : ∀ w : World, Calls P f args w fun e w' => e = .returned v ∧ ∃ n, w' = w.drewN n) : Says P f args v :=
  fun w => (h w).mono fun e w' ⟨he, n, hw⟩ => ⟨he, by subst hw; exact below_drewN (Below.refl _ _) n⟩
theorem bcell {W w1 : World} (hb : Below W.heap.size W w1) : (∀ b o, b < W.heap.size → w1.cell? ⟨b, o, none⟩ = W.cell? ⟨b, o, none⟩) ∧ (∀ b o, b < W.heap.size → w1.frozen? ⟨b, o, none⟩ = W.frozen? ⟨b, o, none⟩) :=
  ⟨fun b o h => hb.cell (p := ⟨b, o, none⟩) h, fun b o h => hb.frozen (p := ⟨b, o, none⟩) h⟩
theorem ret_bool {a b : Bool} (h : a = b) : Ending.returned (.bool a) = .returned (.bool b) := by rw [h]

/-- an instruction as a value -/
abbrev insV (o d a b m : Int) : Value := .agg #[.int .u8 o, .int .u8 d, .int .u8 a, .int .u8 b, .int .i32 m]

theorem uses_any (o : Int) (w : World) (ho : 0 ≤ o ∧ o ≤ 255) :
    Calls Try.prog 45 #[.int .u8 o] w fun e w' => e = .returned (.tuple #[.bool (uD o), .bool (uA o), .bool (uB o), .bool (uI o)]) ∧ w = w' := by
  obtain ⟨h1, h2⟩ := ho
  go_enter Try.func45, Try.ntmps45
  go_wp2
  all_goals refine bodyPost_ret (v := .tuple #[.bool (uD o), .bool (uA o), .bool (uB o), .bool (uI o)]) ?_ rfl ⟨rfl, rfl⟩
  all_goals simp only [beq_iff_eq, beq_eq_false_iff_ne, ne_eq] at *
  all_goals simp [results, Try.results45, go_sem, uD, uA, uB, uI]
  all_goals omega
theorem regMay_any (u : Bool) (r : Int) (w : World) (hr : 0 ≤ r ∧ r ≤ 255) :
    Calls Try.prog 50 #[.bool u, .int .u8 r] w fun e w' => e = .returned (.bool (decide (r = 0 ∨ u = true ∧ r < 8))) ∧ w = w' := by
  obtain ⟨h1, h2⟩ := hr
  cases u
  all_goals
    go_enter Try.func50, Try.ntmps50
    go_wp2
  all_goals go_ret
  all_goals refine ⟨ret_bool ?_, rfl⟩
  all_goals rw [Bool.eq_iff_iff]
  all_goals simp
  all_goals omega
theorem immMay_any (o m : Int) (w : World) (ho : 0 ≤ o ∧ o ≤ 255) (hm : -2147483648 ≤ m ∧ m ≤ 2147483647) :
    Calls Try.prog 42 #[.int .u8 o, .int .i32 m] w fun e w' => e = .returned (.bool (!farB o m)) ∧ w = w' := by
  obtain ⟨h1, h2⟩ := ho
  obtain ⟨h3, h4⟩ := hm
  go_enter Try.func42, Try.ntmps42
  go_wp2_with (first | (go_at_call 51; refine (wordFits_yes _ _ _ ⟨by omega, by omega⟩ ⟨by omega, by omega⟩).mono ?_; rintro e w' ⟨rfl, rfl⟩))
  all_goals go_ret
  all_goals refine ⟨ret_bool ?_, rfl⟩
  all_goals simp only [beq_iff_eq, beq_eq_false_iff_ne, ne_eq] at *
  all_goals unfold farB
  all_goals try unfold fitB
  all_goals rw [Bool.eq_iff_iff]
  all_goals simp
  all_goals omega
theorem usesB_any (o : Int) (w : World) (ho : 0 ≤ o ∧ o ≤ 255) :
    Calls Try.prog 31 #[.int .u8 o] w fun e w' => e = .returned (.bool (uB o)) ∧ w = w' := by
  have C := Lib.hid (fun w => uses_any o w ho)
  go_enter Try.func31, Try.ntmps31
  go_wp2_with (first | (go_at_call 45; refine (C.out _).mono ?_; rintro e w' ⟨rfl, rfl⟩))
  go_ret
  exact ⟨rfl, rfl⟩
/-- bytes and a number with a sign -/
def Fit (o d a b m : Int) : Prop := (0 ≤ o ∧ o ≤ 255) ∧ (0 ≤ d ∧ d ≤ 255) ∧ (0 ≤ a ∧ a ≤ 255) ∧ (0 ≤ b ∧ b ≤ 255) ∧ -2147483648 ≤ m ∧ m ≤ 2147483647
theorem below_new (w : World) (o : Obj) : Below w.heap.size w (w.alloc o) := (Below.refl _ _).alloc (Nat.le_refl _) o
theorem end_alloc {w w' : World} {o : Obj} (h : Below (w.alloc o).heap.size (w.alloc o) w') : Below w.heap.size w w' := ((Below.refl _ _).alloc (Nat.le_refl _) o).trans (h.mono (by simp))
theorem partsMay_any (o d a b m : Int) (h : Fit o d a b m) :
    Says Try.prog 41 #[insV o d a b m] (.bool (!badP o d a b m)) := by
  intro w
  obtain ⟨h1, h2, h3, h4, h5⟩ := h
  have C := Lib.hid (fun w => uses_any o w h1)
  have R1 := Lib.hid (fun w => regMay_any (uD o) d w h2)
  have R2 := Lib.hid (fun w => regMay_any (uA o) a w h3)
  have R3 := Lib.hid (fun w => regMay_any (uB o) b w h4)
  go_enter Try.func41, Try.ntmps41
  go_wp2_with (first | (go_at_call 45; refine (C.out _).mono ?_; rintro e w' ⟨rfl, rfl⟩) | (go_at_call 50; (first | (with_reducible refine (R1.out _).mono ?_) | (with_reducible refine (R2.out _).mono ?_) | (with_reducible refine (R3.out _).mono ?_)); rintro e w' ⟨rfl, rfl⟩))
  all_goals clear C R1 R2 R3
  all_goals go_ret
  all_goals refine ⟨ret_bool ?_, below_new _ _⟩
  all_goals simp only [uD, uA, uB, uI, decide_eq_true_eq] at *
  all_goals unfold badP
  all_goals rw [Bool.eq_iff_iff]
  all_goals simp
  all_goals omega
theorem check_any (o d a b m : Int) (h : Fit o d a b m) :
    Says Try.prog 29 #[insV o d a b m] (.int .i64 (chk o d a b m)) := by
  intro w
  have C1 := Lib.hid (partsMay_any o d a b m h)
  have C2 := Lib.hid (fun w => immMay_any o m w h.1 h.2.2.2.2)
  have E : Hid (chk o d a b m = if (decide (21 < o) || badP o d a b m) = true then 10 else if farB o m = true then 11 else 0) := by show _ = _; rw [← badP_eq]; rfl
  obtain ⟨h1, h2⟩ := h.1
  clear h
  generalize chk o d a b m = K at *
  generalize badP o d a b m = P at *
  generalize farB o m = F at *
  cases P <;> cases F
  all_goals
    go_enter Try.func29, Try.ntmps29
    go_wp2_with (first | (go_at_call 41; refine (C1.out.at _).mono ?_; rintro e w1 ⟨rfl, hb⟩; obtain ⟨hc, hf⟩ := bcell hb) | (go_at_call 42; refine (C2.out _).mono ?_; rintro e w' ⟨rfl, rfl⟩))
  all_goals go_ret
  all_goals refine ⟨ret_int ?_, ?_⟩
  all_goals first | (rw [E.out]; simp; done) | (rw [E.out]; simp; omega) | exact below_new _ _ | exact end_alloc (by assumption)
end Go.Proofs.Ytdnjilnnlgphhaa.IF
