/-
  The program's heap: a text is added, the lowest is taken. Nothing here is a statement of the seed.
-/
import Derived.Test.YtijcojidfallkaaGraphHD
set_option linter.unusedSimpArgs false
set_option linter.unusedVariables false
namespace Go.Proofs.Ytijcojidfallkaa.GH
open Go.RowKit WM NR OM OR GM GR MV GF GP
set_option maxHeartbeats 4000000
set_option maxRecDepth 10000
theorem getD_left {l : List Tx} {x : Tx} {i : Nat} (h : i < l.length) : (l ++ [x]).getD i [] = l.getD i [] := by
  simp [List.getD_eq_getElem?_getD, List.getElem?_append_left h]
theorem UpI.snoc {l : List Tx} {x : Tx} (h : HeapL l.length l) : UpI (l ++ [x]) l.length := by
  refine ⟨fun i h0 hi hne => ?_, fun i h0 hi hp hj => ?_⟩
  · rw [List.length_append, List.length_singleton] at hi
    rw [getD_left (by omega), getD_left (by omega)]
    exact h i h0 (by omega)
  · rw [List.length_append, List.length_singleton] at hi
    omega
theorem DnI.swap {l : List Tx} {m : Nat} (hm : l.length = m + 1) (h : HeapL l.length l) : DnI m (sw l 0 m) 0 := by
  refine ⟨fun c h0 hc hp => ?_, fun c _ _ _ h => by omega⟩
  have hA := fun k => sw_at l (i := 0) (j := m) (by omega) (by omega) k
  rw [hA, hA, if_neg (by omega), if_neg (by omega), if_neg (by omega), if_neg hp]
  exact h c h0 (by omega)
theorem HeapL.take {l : List Tx} {m : Nat} (hm : l.length = m + 1) (h : HeapL m l) : HeapL (l.take m).length (l.take m) := fun i h0 hi => by
  rw [List.length_take] at hi
  have e : ∀ k, k < m → (l.take m).getD k [] = l.getD k [] := fun k hk => by
    simp [List.getD_eq_getElem?_getD, List.getElem?_take_of_lt hk]
  rw [e i (by omega), e _ (by omega)]
  exact h i h0 (by omega)
section
variable {B : Nat} {w : World} {ss : List Tx}
/-- a heap behind a box -/
def Hp (B : Nat) (w : World) (p : Nat) (v : Value) (ss : List Tx) : Prop := HpR B w p v ss ∧ HeapL ss.length ss
theorem hpush_any {p : Nat} {v : Value} (h : Hp B w p v ss) (hs : ss.length < 80000) (hB : B ≤ w.heap.size) (x : Tx) :
    Calls Try.prog 60 #[hif p, .iface 9 (.string (bs x))] w fun e u => e = .returned (.tuple #[]) ∧ ∃ v' s', Hp B u p v' s' ∧ s'.Perm (ss ++ [x]) ∧ Fr (fun g => g = p ∨ v.ownBlock = some g) w u ∧ (∀ g, v'.ownBlock = some g → v.ownBlock = some g ∨ w.heap.size ≤ g) := by
  obtain ⟨h1, h2⟩ := h
  have hP := m_push p w
  have C1 := Lib.hid (push_any h1 (by omega) hB x)
  have HU := Lib.hid (UpI.snoc (x := x) h2)
  have HL := Lib.hid (show (ss ++ [x]).length = ss.length + 1 by simp)
  have hsz : (ss.length : Int) + 1 ≤ 80000 := by omega
  clear h1 h2 hs hB
  generalize ss ++ [x] = S2 at *
  generalize bs x = X at *
  go_enter Try.func60, Try.ntmps60
  go_wp2_with (first
    | (go_at_call 105; (with_reducible refine C1.out.mono ?_); rintro e w1 ⟨rfl, v1, hr1, hf1, hv1⟩; obtain ⟨a1, c1, e1⟩ := hr1.form; rw [HL.out] at e1; subst e1; have HR1 := Lib.hid hr1; have HF1 := Lib.hid hf1; have HV1 := Lib.hid hv1; have k1 := hr1.bx.cell 0; have hL1 := m_len p w1 _ _ _ k1; clear hr1 hf1 hv1)
    | (go_at_call 101; (with_reducible refine (len_any a1 (ss.length + 1) c1 _).mono ?_); rintro e w2 ⟨rfl, hw2⟩; subst w2; have C2 := Lib.hid (up_any HR1.out (by rw [HL.out]; omega) (j := ss.length) (by rw [HL.out]; omega) HU.out))
    | (go_at_call 75; (with_reducible refine C2.out.mono ?_); rintro e w3 ⟨rfl, s3, hr3, hp3, hh3, hf3⟩; have R := Lib.hid (show ∃ v' s', Hp B w3 p v' s' ∧ s'.Perm S2 ∧ Fr (fun g => g = p ∨ v.ownBlock = some g) w w3 ∧ (∀ g, v'.ownBlock = some g → v.ownBlock = some g ∨ w.heap.size ≤ g) from ⟨_, s3, ⟨hr3, hh3⟩, hp3, HF1.out.trans hf3 (fun i hi => (HV1.out i hi).imp (fun h => Or.inr h) id), HV1.out⟩); clear hr3 hp3 hh3 hf3))
  go_end0
  exact ⟨rfl, R.out⟩
theorem hpop_any {p : Nat} {v : Value} (h : Hp B w p v ss) (hs : ss.length ≤ 80000) {m : Nat} (hm : ss.length = m + 1) :
    Calls Try.prog 61 #[hif p] w fun e u => e = .returned (.iface 9 (.string (bs (ss.getD 0 [])))) ∧ ∃ v' s', Hp B u p v' s' ∧ (s' ++ [ss.getD 0 []]).Perm ss ∧ Fr (fun g => g = p ∨ v.ownBlock = some g) w u ∧ v'.ownBlock = v.ownBlock := by
  obtain ⟨h1, h2⟩ := h
  obtain ⟨a, c, rfl⟩ := h1.form
  have c0 := h1.bx.cell 0
  have hL := m_len p w a _ c c0
  have hS := m_swap p w a _ c c0
  rw [hm] at hL hS
  have hpne : some p ≠ (Value.slice a ss.length c).ownBlock := fun e => by have := (h1.ow.lt p e.symm).1; have := h1.lt; omega
  have ho := h1.ow
  rw [hm] at ho
  have CS0 := swap_any ho hm (by omega) (i := 0) (j := m) (by omega) (by omega)
  rw [show ((0 : Nat) : Int) = 0 from rfl] at CS0
  have CS := Lib.hid CS0
  clear CS0
  have HS : Hid (∀ u : World, u.ownsRow B 9 1 (.slice a (m + 1) c) (m + 1) (strs (sw ss 0 m)) → w.grownBy u (Value.slice a (m + 1) c).ownBlock → HpR B u p (.slice a (m + 1) c) (sw ss 0 m)) := Lib.hid (fun u hu hg => ⟨h1.lt, by
    have := h1.bx.as (hg.block p h1.bx.lt (by rw [← hm]; exact hpne))
    rw [hm] at this
    exact this, by rw [sw_len, hm]; exact hu⟩)
  have HD := Lib.hid (DnI.swap hm h2)
  have HSL := Lib.hid (show (sw ss 0 m).length = m + 1 by rw [sw_len, hm])
  have HM := Lib.hid (show (sw ss 0 m).getD m [] = ss.getD 0 [] by rw [sw_at ss (by omega) (by omega), if_pos rfl])
  have HP := Lib.hid (sw_perm ss (i := 0) (j := m) (by omega) (by omega))
  rw [hm]
  have hsz : (m : Int) + 1 ≤ 80000 := by omega
  clear h1 h2 ho hpne hs hm c0
  generalize sw ss 0 m = S1 at *
  generalize ss.getD 0 [] = y at *
  go_enter Try.func61, Try.ntmps61
  go_wp2_with (first
    | (go_at_call 101; (with_reducible refine (len_any a (m + 1) c _).mono ?_); rintro e w1 ⟨rfl, hw1⟩; subst w1)
    | (go_at_call 103; (with_reducible refine CS.out.mono ?_); rintro e w2 ⟨rfl, ho2, hg2⟩; have HR2 := Lib.hid (HS.out w2 ho2 hg2); have HG2 := Lib.hid hg2; have C2 := Lib.hid (down_any HR2.out (by rw [HSL.out]; omega) (n := m) (by rw [HSL.out]; omega) HD.out); clear ho2 hg2)
    | (go_at_call 76; (with_reducible refine C2.out.mono ?_); rintro e w3 ⟨r3, rfl, s3, hr3, hp3, hh3, ht3, hf3⟩; have hl3 : s3.length = m + 1 := by rw [hp3.length_eq, HSL.out]
       have C3 := Lib.hid (pop_any hr3 (by rw [hl3]; omega) hl3); rw [ht3 m (Nat.le_refl _), HM.out] at C3; have hP3 := m_pop p w3
       have R3 := Lib.hid (show ∀ (u : World) (v' : Value), HpR B u p v' (s3.take m) → v'.ownBlock = (Value.slice a (m + 1) c).ownBlock → w3.grownBy u (some p) → ∃ v' s', Hp B u p v' s' ∧ (s' ++ [y]).Perm ss ∧ Fr (fun g => g = p ∨ (Value.slice a (m + 1) c).ownBlock = some g) w u ∧ v'.ownBlock = (Value.slice a (m + 1) c).ownBlock from fun u v' q1 q2 q3 => ⟨v', s3.take m, ⟨q1, hh3.take hl3⟩, by
         rw [← HM.out, ← ht3 m (Nat.le_refl _), ← take_succ_getD s3 [] m (by omega), List.take_of_length_le (by omega)]
         exact hp3.trans HP.out, Fr_grown' (((Fr_grown' (Fr.refl (fun g => g = p ∨ (Value.slice a (m + 1) c).ownBlock = some g) w) HG2.out (fun i hi => Or.inl (Or.inr hi)))).trans hf3 (fun i hi => Or.inl (Or.inr hi))) q3 (fun i hi => Or.inl (Or.inl (Option.some.inj hi).symm)), q2⟩)
       clear hr3 hp3 hh3 ht3 hf3 hl3)
    | (go_at_call 104; (with_reducible refine C3.out.mono ?_); rintro e w4 ⟨rfl, v4, q1, q2, q3⟩; have R := Lib.hid (R3.out w4 v4 q1 q2 q3); clear q1 q2 q3))
  go_ret
  exact ⟨rfl, R.out⟩
theorem add_any {p : Nat} {v : Value} (h : Hp B w p v ss) (hs : ss.length < 80000) (hB : B ≤ w.heap.size) (x : Tx) :
    Calls Try.prog 43 #[ptr p, .string (bs x)] w fun e u => e = .returned (.tuple #[]) ∧ ∃ v' s', Hp B u p v' s' ∧ s'.Perm (ss ++ [x]) ∧ Fr (fun g => g = p ∨ v.ownBlock = some g) w u ∧ (∀ g, v'.ownBlock = some g → v.ownBlock = some g ∨ w.heap.size ≤ g) := by
  have C := Lib.hid (hpush_any h hs hB x)
  clear h hs hB
  generalize bs x = X at *
  go_enter Try.func43, Try.ntmps43
  go_wp2_with (go_at_call 60; (with_reducible refine C.out.mono ?_); rintro e w1 ⟨rfl, hr⟩; have R := Lib.hid hr; clear hr)
  go_end0
  exact ⟨rfl, R.out⟩
theorem lowest_any {p : Nat} {v : Value} (h : Hp B w p v ss) (hs : ss.length ≤ 80000) {m : Nat} (hm : ss.length = m + 1) :
    Calls Try.prog 44 #[ptr p] w fun e u => e = .returned (.string (bs (ss.getD 0 []))) ∧ ∃ v' s', Hp B u p v' s' ∧ (s' ++ [ss.getD 0 []]).Perm ss ∧ Fr (fun g => g = p ∨ v.ownBlock = some g) w u ∧ v'.ownBlock = v.ownBlock := by
  have C := Lib.hid (hpop_any h hs hm)
  clear h hs hm
  generalize ss.getD 0 [] = y at *
  have HY := Lib.hid (rfl : bs y = bs y)
  have ht : ∀ u : World, (Instr.typeAssert (.iface 9 (.string (bs y))) 20 9 false).run Try.prog u = .ok (.string (bs y)) u := fun u => by kernel_rfl
  generalize bs y = Y at *
  go_enter Try.func44, Try.ntmps44
  go_wp2_with (go_at_call 61; (with_reducible refine C.out.mono ?_); rintro e w1 ⟨rfl, hr⟩; have R := Lib.hid hr; clear hr)
  go_ret
  exact ⟨rfl, R.out⟩
end
end Go.Proofs.Ytijcojidfallkaa.GH
