/-
  Where instructions go: the program's and the reference's. Nothing here is a statement of the seed.
-/
import Derived.Test.YtdnjilnnlgphhaaIsaEnc
set_option linter.unusedSimpArgs false
set_option linter.unusedVariables false
namespace Go.Proofs.Ytdnjilnnlgphhaa.IF
open Go.RowKit WM IM WF

/-- does it jump? -/
def goB (o d a b m : Int) : Bool := decide (chk o d a b m = 0 ∧ (o = 14 ∨ o = 15 ∨ o = 16 ∨ o = 17))
def goTo (t o m : Int) : Int := if o = 17 then m % 4294967296 else (t + 1 + m) % 4294967296
abbrev tgtV (t o d a b m : Int) : Value := .tuple #[.int .u32 (if goB o d a b m then goTo t o m else 0), .bool (goB o d a b m)]
theorem target_way (t o d a b m K u : Int) (r : Bool) (ht : 0 ≤ t ∧ t ≤ 4294967295) (hm : -2147483648 ≤ m ∧ m ≤ 2147483647) (C : Says Try.prog 29 #[insV o d a b m] (.int .i64 K))
    (h : (K != 0) = true ∧ r = false ∧ u = 0 ∨ K = 0 ∧ (o = 14 ∨ o = 15 ∨ o = 16) ∧ r = true ∧ u = (t + 1 + m) % 4294967296 ∨ K = 0 ∧ o = 17 ∧ r = true ∧ u = m % 4294967296 ∨
      K = 0 ∧ (o == 14) = false ∧ (o == 15) = false ∧ (o == 16) = false ∧ (o == 17) = false ∧ r = false ∧ u = 0) :
    Says Try.prog 19 #[.int .u32 t, insV o d a b m] (.tuple #[.int .u32 u, .bool r]) := by
  intro w
  obtain ⟨ht1, ht2⟩ := ht
  obtain ⟨hm1, hm2⟩ := hm
  rcases h with ⟨hk, rfl, rfl⟩ | ⟨rfl, (rfl | rfl | rfl), rfl, hu⟩ | ⟨rfl, rfl, rfl, hu⟩ | ⟨rfl, e1, e2, e3, e4, rfl, rfl⟩
  all_goals
    have C1 := Lib.hid C
    clear C
    try have HU := Lib.hid hu
    try clear hu
    go_enter Try.func19, Try.ntmps19
    go_wp2_with (first | (go_at_call 29; refine (C1.out.at _).mono ?_; rintro e w3 ⟨rfl, hb⟩; obtain ⟨hc, hf⟩ := bcell hb))
  · exact bodyPost_ret (v := .tuple #[.int .u32 0, .bool false]) (by simp [results, Try.results19, go_sem]) rfl ⟨rfl, end_alloc hb⟩
  · exact bodyPost_ret (v := .tuple #[.int .u32 (((t + 1) % 4294967296 + m % 4294967296) % 4294967296), .bool true]) (by simp [results, Try.results19, go_sem]) rfl ⟨by rw [HU.out, show ((t + 1) % 4294967296 + m % 4294967296) % 4294967296 = (t + 1 + m) % 4294967296 by omega], end_alloc hb⟩
  · exact bodyPost_ret (v := .tuple #[.int .u32 (((t + 1) % 4294967296 + m % 4294967296) % 4294967296), .bool true]) (by simp [results, Try.results19, go_sem]) rfl ⟨by rw [HU.out, show ((t + 1) % 4294967296 + m % 4294967296) % 4294967296 = (t + 1 + m) % 4294967296 by omega], end_alloc hb⟩
  · exact bodyPost_ret (v := .tuple #[.int .u32 (((t + 1) % 4294967296 + m % 4294967296) % 4294967296), .bool true]) (by simp [results, Try.results19, go_sem]) rfl ⟨by rw [HU.out, show ((t + 1) % 4294967296 + m % 4294967296) % 4294967296 = (t + 1 + m) % 4294967296 by omega], end_alloc hb⟩
  · exact bodyPost_ret (v := .tuple #[.int .u32 (m % 4294967296), .bool true]) (by simp [results, Try.results19, go_sem]) rfl ⟨by rw [HU.out], end_alloc hb⟩
  · exact bodyPost_ret (v := .tuple #[.int .u32 0, .bool false]) (by simp [results, Try.results19, go_sem]) rfl ⟨rfl, end_alloc hb⟩
theorem go_way (t o d a b m : Int) (h : Fit o d a b m) : (chk o d a b m != 0) = true ∧ goB o d a b m = false ∧ (if goB o d a b m then goTo t o m else 0) = 0 ∨
    chk o d a b m = 0 ∧ (o = 14 ∨ o = 15 ∨ o = 16) ∧ goB o d a b m = true ∧ (if goB o d a b m then goTo t o m else 0) = (t + 1 + m) % 4294967296 ∨ chk o d a b m = 0 ∧ o = 17 ∧ goB o d a b m = true ∧ (if goB o d a b m then goTo t o m else 0) = m % 4294967296 ∨
    chk o d a b m = 0 ∧ (o == 14) = false ∧ (o == 15) = false ∧ (o == 16) = false ∧ (o == 17) = false ∧ goB o d a b m = false ∧ (if goB o d a b m then goTo t o m else 0) = 0 := by
  by_cases hk : chk o d a b m = 0
  · by_cases h17 : o = 17
    · refine Or.inr (Or.inr (Or.inl ⟨hk, h17, ?_⟩))
      have hg : goB o d a b m = true := decide_eq_true ⟨hk, by omega⟩
      rw [hg]
      simp [goTo, h17]
    · by_cases hj : o = 14 ∨ o = 15 ∨ o = 16
      · refine Or.inr (Or.inl ⟨hk, hj, ?_⟩)
        have hg : goB o d a b m = true := decide_eq_true ⟨hk, by omega⟩
        rw [hg]
        simp [goTo, h17]
      · refine Or.inr (Or.inr (Or.inr ⟨hk, by simp; omega, by simp; omega, by simp; omega, by simp; omega, ?_⟩))
        have hg : goB o d a b m = false := decide_eq_false (fun hh => by omega)
        rw [hg]
        simp
  · refine Or.inl ⟨by simpa using hk, ?_⟩
    have hg : goB o d a b m = false := decide_eq_false (fun hh => hk hh.1)
    rw [hg]
    simp
theorem target_any (t o d a b m : Int) (ht : 0 ≤ t ∧ t ≤ 4294967295) (h : Fit o d a b m) : Says Try.prog 19 #[.int .u32 t, insV o d a b m] (tgtV t o d a b m) :=
  target_way t o d a b m _ _ _ ht h.2.2.2.2 (check_any o d a b m h) (go_way t o d a b m h)
end Go.Proofs.Ytdnjilnnlgphhaa.IF
