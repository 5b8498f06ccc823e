/-
  The laws of layer 4, walked, further: where instructions go, what operations use.
-/
import Derived.Test.YtjbppnapfdapoaaIsaWalks
import Derived.Deep.RegionHeld3
set_option linter.unusedSimpArgs false
set_option linter.unusedVariables false
namespace Go.Proofs.Ytjbppnapfdapoaa.WK
open Go.RowKit WM IM WF IF

theorem IsaJumps_walk (o d a b m s t : Int) (h : Fit o d a b m) (hs : 0 ≤ s ∧ s ≤ 4294967295) (ht : 0 ≤ t ∧ t ≤ 4294967295) (w : World) :
    Calls Try.prog 9 #[insV o d a b m, .int .u32 s, .int .u32 t] w fun e w' => e = .returned (.bool true) ∧ Below w.heap.size w w' := by
  have H1 := target_any s o d a b m hs h
  have H2 := target_any t o d a b m ht h
  unfold tgtV at H1 H2
  have tok1 : True := trivial
  have C3 := Lib.hid awakeS
  cases hg : goB o d a b m with
  | false =>
    rw [hg] at H1 H2
    have T1 := Lib.hid H1
    have T2 := Lib.hid H2
    clear H1 H2 hg h hs ht
    go_enter Try.func9, Try.ntmps9
    go_wp2_with (first | (go_at_call 19; first | ((with_reducible refine (T1.out.at _).mono ?_); have tok := tok1; rintro e w1 ⟨rfl, hb⟩; clear tok tok1; obtain ⟨hc, hf⟩ := bcell hb) | ((with_reducible refine (T2.out.at _).mono ?_); rintro e w2 ⟨rfl, hb2⟩; obtain ⟨hc2, hf2⟩ := bcell hb2; have hz : w.heap.size < w1.heap.size := (by have := hb.size; simp at this; omega))) | (go_at_call 14; refine (C3.out.at _).mono ?_; rintro e w5 ⟨rfl, hb5⟩))
    go_ret
    exact ⟨rfl, chain2 (chain2 (end_alloc hb) hb2) hb5⟩
  | true =>
    have hgo : o = 14 ∨ o = 15 ∨ o = 16 ∨ o = 17 := by
      unfold goB at hg
      rw [decide_eq_true_eq] at hg
      exact hg.2
    obtain ⟨hm1, hm2⟩ := h.2.2.2.2
    obtain ⟨hs1, hs2⟩ := hs
    obtain ⟨ht1, ht2⟩ := ht
    rw [hg] at H1 H2
    clear hg h
    by_cases h17 : o = 17
    · subst h17
      simp only [goTo, if_true] at H1 H2
      have T1 := Lib.hid H1
      have T2 := Lib.hid H2
      clear H1 H2 hgo
      go_enter Try.func9, Try.ntmps9
      go_wp2_with (first | (go_at_call 19; first | ((with_reducible refine (T1.out.at _).mono ?_); have tok := tok1; rintro e w1 ⟨rfl, hb⟩; clear tok tok1; obtain ⟨hc, hf⟩ := bcell hb) | ((with_reducible refine (T2.out.at _).mono ?_); rintro e w2 ⟨rfl, hb2⟩; obtain ⟨hc2, hf2⟩ := bcell hb2; have hz : w.heap.size < w1.heap.size := (by have := hb.size; simp at this; omega))) | (go_at_call 14; refine (C3.out.at _).mono ?_; rintro e w5 ⟨rfl, hb5⟩))
      go_ret
      exact ⟨rfl, chain2 (chain2 (end_alloc hb) hb2) hb5⟩
    · simp only [goTo, h17, if_true, if_false] at H1 H2
      have e1 : (((s + 1 + m) % 4294967296 - (t + 1 + m) % 4294967296) % 4294967296 == (s - t) % 4294967296) = true := by rw [beq_iff_eq]; omega
      have e2 : (((s + 1 + m) % 4294967296 - s) % 4294967296 == (1 + m) % 4294967296) = true := by rw [beq_iff_eq]; omega
      have e3 : (o == 17) = false := by simpa using h17
      have e4 : (o != 17) = true := by simpa using h17
      have T1 := Lib.hid H1
      have T2 := Lib.hid H2
      clear H1 H2 hgo h17
      generalize (s + 1 + m) % 4294967296 = X at *
      generalize (t + 1 + m) % 4294967296 = Y at *
      go_enter Try.func9, Try.ntmps9
      go_wp2_with (first | (go_at_call 19; first | ((with_reducible refine (T1.out.at _).mono ?_); have tok := tok1; rintro e w1 ⟨rfl, hb⟩; clear tok tok1; obtain ⟨hc, hf⟩ := bcell hb) | ((with_reducible refine (T2.out.at _).mono ?_); rintro e w2 ⟨rfl, hb2⟩; obtain ⟨hc2, hf2⟩ := bcell hb2; have hz : w.heap.size < w1.heap.size := (by have := hb.size; simp at this; omega))) | (go_at_call 14; refine (C3.out.at _).mono ?_; rintro e w5 ⟨rfl, hb5⟩))
      go_ret
      exact ⟨rfl, chain2 (chain2 (end_alloc hb) hb2) hb5⟩
theorem below_drew_iff {B : Nat} {a w : World} : Below B a w.drew ↔ Below B a w := ⟨fun h => ⟨h.os, h.tape, h.output, h.size, h.block⟩, fun h => h.drew⟩
theorem eqArr (x0 x1 x2 x3 : Bool) (w : World) : (binOp .eql 27 (.agg #[.bool x0, .bool x1, .bool x2, .bool x3]) (.agg #[.bool x0, .bool x1, .bool x2, .bool x3])).run Try.prog w = .ok (.bool true) w := by
  cases x0 <;> cases x1 <;> cases x2 <;> cases x3 <;> kernel_rfl
/-- an instruction's cells stand there, and all that was there -/
def Stood (w : World) (o d a b m : Int) (u : World) : Prop := u.cell? ⟨w.heap.size, 0, none⟩ = some (.int .u8 o) ∧ u.cell? ⟨w.heap.size, 1, none⟩ = some (.int .u8 d) ∧ u.cell? ⟨w.heap.size, 2, none⟩ = some (.int .u8 a) ∧ u.cell? ⟨w.heap.size, 3, none⟩ = some (.int .u8 b) ∧
  u.cell? ⟨w.heap.size, 4, none⟩ = some (.int .i32 m) ∧ w.heap.size < u.heap.size ∧ Below w.heap.size w u
theorem stood_in {f : FuncId} {args : Array Value} {v : Value} (C : Says Try.prog f args v) (w : World) (o d a b m : Int) (u : World) (h : Stood w o d a b m u) :
    Calls Try.prog f args u fun e w' => e = .returned v ∧ Stood w o d a b m w' :=
  (C u).mono fun e w' ⟨he, hb⟩ => ⟨he, by
    obtain ⟨h0, h1, h2, h3, h4, h5, h6⟩ := h
    have k : ∀ j : Nat, w'.cell? ⟨w.heap.size, j, none⟩ = u.cell? ⟨w.heap.size, j, none⟩ := fun j => hb.cell (p := ⟨w.heap.size, j, none⟩) h5
    exact ⟨(k 0).trans h0, (k 1).trans h1, (k 2).trans h2, (k 3).trans h3, (k 4).trans h4, Nat.lt_of_lt_of_le h5 hb.size, h6.trans (hb.mono h6.size)⟩⟩
theorem IsaUses_walk (o d a b m : Int) (h : Fit o d a b m) (w : World) :
    Calls Try.prog 3 #[insV o d a b m] w fun e w' => e = .returned (.bool true) ∧ Below w.heap.size w w' := by
  have CU := Lib.hid (fun w => uses_any o w h.1)
  have C1 := Lib.hid (refUses_any o h.1)
  have C2 := Lib.hid (check_any o d a b m h)
  have C3 := Lib.hid (refCheck_any o d a b m h)
  have C4 := Lib.hid awakeS
  generalize uD o = u0 at *
  generalize uA o = u1 at *
  generalize uB o = u2 at *
  generalize uI o = u3 at *
  generalize chk o d a b m = K at *
  have eA := eqArr u0 u1 u2 u3
  clear h
  go_enter Try.func3, Try.ntmps3
  go_wp2_with (first | (go_at_call 10; refine (CU.out _).mono ?_; rintro e w1 ⟨rfl, rfl⟩))
  go_region_held3 (fun u => u.cell? ⟨w.heap.size, 0, none⟩ = some (.int .u8 o) ∧ u.cell? ⟨w.heap.size, 1, none⟩ = some (.int .u8 d) ∧ u.cell? ⟨w.heap.size, 2, none⟩ = some (.int .u8 a) ∧ u.cell? ⟨w.heap.size, 3, none⟩ = some (.int .u8 b) ∧ u.cell? ⟨w.heap.size, 4, none⟩ = some (.int .i32 m) ∧ w.heap.size < u.heap.size ∧ Below w.heap.size w u)
    (first | (simp [*, World.cell?_alloc_some, below_drew_iff, below_new]; done) | (simp [*, World.cell?_alloc_some, below_drew_iff, below_new]; omega))
    (first | (go_at_call 11; refine (stood_in C1.out w o d a b m _ (by simp [Stood, *])).mono ?_; rintro e w' ⟨rfl, g0, g1, g2, g3, g4, g5, g6⟩) | (go_at_call 12; refine (stood_in C2.out w o d a b m _ (by simp [Stood, *])).mono ?_; rintro e w' ⟨rfl, g0, g1, g2, g3, g4, g5, g6⟩) | (go_at_call 13; refine (stood_in C3.out w o d a b m _ (by simp [Stood, *])).mono ?_; rintro e w' ⟨rfl, g0, g1, g2, g3, g4, g5, g6⟩) | (go_at_call 14; refine (stood_in C4.out w o d a b m _ (by simp [Stood, *])).mono ?_; rintro e w' ⟨rfl, g0, g1, g2, g3, g4, g5, g6⟩))
  go_wp2
  go_ret
  exact ⟨rfl, by assumption⟩
end Go.Proofs.Ytjbppnapfdapoaa.WK
