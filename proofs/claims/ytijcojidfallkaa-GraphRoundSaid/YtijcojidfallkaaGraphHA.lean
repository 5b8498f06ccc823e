/-
  The program's heap: its methods. Nothing here is a statement of the seed.
-/
import Derived.Test.YtijcojidfallkaaGraphPR
import Derived.Test.YtijcojidfallkaaGraphRef2
import Derived.Test.YtijcojidfallkaaGraphOut
import Derived.BigRegion
set_option linter.unusedSimpArgs false
set_option linter.unusedVariables false
namespace Go.Proofs.Ytijcojidfallkaa.GH
open Go.RowKit WM NR OM OR GM GR MV GF GP
set_option maxHeartbeats 4000000
set_option maxRecDepth 10000
abbrev ptr (p : Nat) : Value := .pointer (some ⟨p, 0, none⟩)
section
variable (p : Nat) (u : World)
theorem m_lenE : Sem.run Try.prog (method (239) 90 (ptr p) "Len") u = Sem.run Try.prog (loadVar 71 ⟨p, 0, none⟩ >>= fun x => pure (101, x)) u := by kernel_rfl
theorem m_lessE : Sem.run Try.prog (method (239) 90 (ptr p) "Less") u = Sem.run Try.prog (loadVar 71 ⟨p, 0, none⟩ >>= fun x => pure (102, x)) u := by kernel_rfl
theorem m_swapE : Sem.run Try.prog (method (239) 90 (ptr p) "Swap") u = Sem.run Try.prog (loadVar 71 ⟨p, 0, none⟩ >>= fun x => pure (103, x)) u := by kernel_rfl
theorem m_pop : Sem.run Try.prog (method (239) 90 (ptr p) "Pop") u = .ok (104, ptr p) u := by kernel_rfl
theorem m_push : Sem.run Try.prog (method (239) 90 (ptr p) "Push") u = .ok (105, ptr p) u := by kernel_rfl
variable (a : Option Addr) (n c : Nat) (h : u.cell? ⟨p, 0, none⟩ = some (.slice a n c))
include h
theorem m_len : Sem.run Try.prog (method (239) 90 (ptr p) "Len") u = .ok (101, .slice a n c) u := by
  rw [m_lenE]
  simp [go_sem, h]
theorem m_less : Sem.run Try.prog (method (239) 90 (ptr p) "Less") u = .ok (102, .slice a n c) u := by
  rw [m_lessE]
  simp [go_sem, h]
theorem m_swap : Sem.run Try.prog (method (239) 90 (ptr p) "Swap") u = .ok (103, .slice a n c) u := by
  rw [m_swapE]
  simp [go_sem, h]
end
/-- two elements in each other's place -/
def sw (l : List Tx) (i j : Nat) : List Tx := (l.set i (l.getD j [])).set j (l.getD i [])
theorem sw_len (l : List Tx) (i j : Nat) : (sw l i j).length = l.length := by simp [sw]
theorem sw_at (l : List Tx) {i j : Nat} (hi : i < l.length) (hj : j < l.length) (k : Nat) : (sw l i j).getD k [] = if k = j then l.getD i [] else if k = i then l.getD j [] else l.getD k [] := by
  unfold sw
  simp only [List.getD_eq_getElem?_getD, List.getElem?_set, List.length_set]
  by_cases h1 : k = j
  · subst h1
    simp [hj]
  · rw [if_neg (fun e => h1 e.symm), if_neg h1]
    by_cases h2 : k = i
    · subst h2
      simp [hi]
    · rw [if_neg (fun e => h2 e.symm), if_neg h2]
theorem sw_perm (l : List Tx) {i j : Nat} (hi : i < l.length) (hj : j < l.length) : (sw l i j).Perm l := by
  have h := Array.swap_perm (xs := l.toArray) (i := i) (j := j) (by simpa using hi) (by simpa using hj)
  have h2 := Array.perm_iff_toList_perm.1 h
  have e : (l.toArray.swap i j (by simpa using hi) (by simpa using hj)).toList = sw l i j := by
    unfold sw
    rw [Array.toList_swap]
    simp [List.getD_eq_getElem?_getD, hi, hj]
  rw [e] at h2
  simpa using h2
theorem len_any (a : Option Addr) (n c : Nat) (w : World) : Calls Try.prog 101 #[.slice a n c] w fun e w' => e = .returned (.int .i64 n) ∧ w' = w := by
  go_enter Try.func101, Try.ntmps101
  go_wp2_with fail
  go_ret
  exact ⟨rfl, rfl⟩
section
variable {B : Nat} {w : World} {a : Option Addr} {c : Nat} {ss : List Tx}
theorem less_any {n : Nat} (ho : w.ownsRow B 9 1 (.slice a n c) n (strs ss)) (hn : ss.length = n) (hs : n ≤ 80000) {i j : Nat} (hi : i < n) (hj : j < n) :
    Calls Try.prog 102 #[.slice a n c, .int .i64 i, .int .i64 j] w fun e w' => e = .returned (.bool (Op.bytesLess (ss.getD i []) (ss.getD j []))) ∧ Below w.heap.size w w' := by
  subst hn
  have hr := (Reads.of_owns (show w.ownsRow B 9 1 (.slice a ss.length c) (strs ss).length (strs ss) by rw [strs_len]; exact ho)).there
  obtain ⟨g, off, e1, q1, c1⟩ := reads_at (hr.mono (fun g hg => hg.2) : Reads (· < w.heap.size) w _ _) (Below.refl _ _) hi
  obtain ⟨g2, off2, e2, _, c2⟩ := reads_at (hr.mono (fun g hg => hg.2) : Reads (· < w.heap.size) w _ _) (Below.refl _ _) hj
  rw [e1] at e2
  simp only [Option.some.injEq, Addr.mk.injEq] at e2
  obtain ⟨rfl, rfl, _⟩ := e2
  subst e1
  rw [strs_at hi] at c1
  rw [strs_at hj] at c2
  have hiz : (i : Int) < ss.length := by omega
  have hjz : (j : Int) < ss.length := by omega
  have hlz : (ss.length : Int) ≤ 80000 := by omega
  have hlc : (ss.length : Int) ≤ c := by omega
  have hb1 : (bs (ss.getD i [])).toList = ss.getD i [] := bs_toList _
  have hb2 : (bs (ss.getD j [])).toList = ss.getD j [] := bs_toList _
  have HB1 := Lib.hid hb1
  have HB2 := Lib.hid hb2
  clear ho hr hs hi hj q1 hb1 hb2
  generalize bs (ss.getD i []) = x at *
  generalize bs (ss.getD j []) = y at *
  generalize ss.length = n at *
  go_enter Try.func102, Try.ntmps102
  go_wp2_with fail
  go_region
  go_wp2_with fail
  go_ret
  exact ⟨by rw [← HB1.out, ← HB2.out]; rfl, (Below.refl _ _).drew⟩
end
end Go.Proofs.Ytijcojidfallkaa.GH
