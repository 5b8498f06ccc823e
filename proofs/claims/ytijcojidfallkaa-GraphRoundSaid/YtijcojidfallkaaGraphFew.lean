/-
  Whether calls are few enough for a law of layer 14. Nothing here is a statement of the seed.
-/
import Derived.Test.YtijcojidfallkaaGraphAct
import Derived.Test.YtijcojidfallkaaGraphRef
set_option linter.unusedSimpArgs false
set_option linter.unusedVariables false
namespace Go.Proofs.Ytijcojidfallkaa.GF
open Go.RowKit WM NR OM OR GM GR
set_option maxHeartbeats 4000000
set_option maxRecDepth 10000
/-- how many names, each call's no more than 101 -/
def numN : List Ac → Nat
  | [] => 0
  | x :: l => min x.nn 101 + numN l
theorem numN_append : ∀ a b : List Ac, numN (a ++ b) = numN a + numN b
  | [], b => by simp [numN]
  | x :: a, b => by simp only [List.cons_append, numN, numN_append a b]; omega
theorem numN_take (l : List Ac) (k : Nat) (h : k < l.length) : numN (l.take (k + 1)) = numN (l.take k) + min (l.getD k ac0).nn 101 := by
  rw [take_succ_getD l ac0 k h, numN_append]
  simp [numN]
theorem numN_le (l : List Ac) (k : Nat) : numN (l.take k) ≤ 101 * k := by
  induction k with
  | zero => simp [numN]
  | succ k ih =>
    by_cases h : k < l.length
    · rw [numN_take l k h]; omega
    · rw [List.take_of_length_le (by omega)] at ih ⊢
      omega
theorem numN_mem {l : List Ac} {x : Ac} (h : x ∈ l) : min x.nn 101 ≤ numN l := by
  induction l with
  | nil => cases h
  | cons y l ih =>
    simp only [numN]
    rcases List.mem_cons.1 h with rfl | h
    · omega
    · have := ih h; omega
def fewB (l : List Ac) : Bool := decide (l.length ≤ 24) && decide (numN l ≤ 100)
theorem few_len {G : Nat → Prop} {w : World} {a : Option Addr} {n c : Nat} {l : List Ac} (h : ReadsA G w (.slice a n c) l) (hf : fewB l = true) (k : Nat) (hk : k < n) : (l.getD k ac0).ns.length ≤ 100 := by
  have hl := h.len.1
  have hm : l.getD k ac0 ∈ l := by rw [List.getD_eq_getElem?_getD, List.getElem?_eq_getElem (by omega)]; exact List.getElem_mem _
  obtain ⟨_, _, _, _, _, _, hok⟩ := h
  have h1 := (hok _ hm).len.1
  have h2 := numN_mem hm
  unfold fewB at hf
  rw [Bool.and_eq_true] at hf
  have h3 := of_decide_eq_true hf.2
  omega
theorem few_any {w : World} {a : Option Addr} {n c : Nat} {l : List Ac} (h : ReadsA (· < w.heap.size) w (.slice a n c) l) :
    Calls Try.prog 8 #[.slice a n c] w fun e w' => e = .returned (.bool (fewB l)) ∧ Below w.heap.size w w' := by
  obtain ⟨n1, m1, m2⟩ := h.len
  unfold maxLen at m2
  have hn : (n : Int) ≤ 9223372036854775807 := by omega
  have HA := Lib.hid h
  obtain ⟨R, hR⟩ : ∃ R, R = fewB l := ⟨_, rfl⟩
  rw [← hR]
  unfold fewB at hR
  by_cases h6 : n ≤ 24
  case neg =>
    have h6' : (24 : Int) < (n : Int) := by omega
    rw [decide_eq_false (by omega), Bool.false_and] at hR
    subst hR
    clear HA h m1 m2 n1 h6
    go_enter Try.func8, Try.ntmps8
    go_wp2_with fail
    go_ret
    exact ⟨rfl, Below.refl _ _⟩
  have h6' : ¬ (24 : Int) < (n : Int) := by omega
  rw [decide_eq_true (by omega), Bool.true_and] at hR
  have HR := Lib.hid hR
  have HB : Hid (∀ k, k ≤ n → numN (l.take k) ≤ 101 * k) := Lib.hid (fun k _ => numN_le l k)
  have HL := Lib.hid n1
  clear hR h m2 n1
  go_enter Try.func8, Try.ntmps8
  go_wp2_with fail
  go_loopw [3, 4] (fun s i wr => ∃ k : Nat, k ≤ n ∧ i = .int .i64 (k : Int) ∧ (∃ S : Nat, s = .int .i64 (S : Int) ∧ Hid (S = numN (l.take k))) ∧ Below w.heap.size w wr) (fun _ i _ => n - (intOf i).toNat)
  case atStart => exact ⟨0, by omega, rfl, ⟨0, rfl, Lib.hid rfl⟩, Below.refl _ _⟩
  case round =>
    obtain ⟨k, hk, rfl, ⟨S, rfl, hS⟩, hbl⟩ := hrel
    have hSb := HB.out k hk
    rw [← hS.out] at hSb
    by_cases hlt : k < n
    · have hlt' : (k : Int) < n := by omega
      obtain ⟨g, off, rfl, q1, ⟨e0, e1, e2⟩, hok⟩ := HA.out.at hbl hlt
      have q2 : (n : Int) ≤ c := by omega
      have hnt := numN_take l k (by rw [HL.out]; exact hlt)
      rw [← hS.out] at hnt
      have hln := hok.len
      unfold maxLen at hln
      have hS2 : Hid (S + min (l.getD k ac0).nn 101 = numN (l.take (k + 1))) := Lib.hid hnt.symm
      clear hnt hS e0 e1
      have hnb : ((l.getD k ac0).nn : Int) ≤ 9223372036854775807 := by omega
      clear hok hln
      generalize (l.getD k ac0).nn = z at *
      have hmin : (S : Int) + min (z : Int) 101 = ((S + min z 101 : Nat) : Int) := by omega
      have hw : IntKind.i64.wrap ((S : Int) + min (z : Int) 101) = (S : Int) + min (z : Int) 101 := by rw [IntKind.wrap_i64]; omega
      go_wp2_with fail
      go_roundw
      case rel => exact ⟨k + 1, by omega, by go_num, ⟨S + min z 101, by simp [hw]; try omega, hS2⟩, hbl⟩
      case measure => simp [intOf]; omega
    · obtain rfl : k = n := by omega
      have hS' := hS.out
      rw [List.take_of_length_le (by rw [HL.out]; omega)] at hS'
      have HS := Lib.hid hS'
      clear hS hS'
      go_wp2_with fail
      go_ret
      refine ⟨ret_bool ?_, hbl⟩
      rw [HR.out, ← HS.out]
      simp
      try omega
end Go.Proofs.Ytijcojidfallkaa.GF
