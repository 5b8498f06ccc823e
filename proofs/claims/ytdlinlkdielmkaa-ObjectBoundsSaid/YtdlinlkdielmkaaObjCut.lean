/-
  Bytes held against each other; a mark ahead of bytes. Nothing here is a statement of the seed.
-/
import Derived.Test.YtdlinlkdielmkaaObjPut
set_option linter.unusedSimpArgs false
set_option linter.unusedVariables false
namespace Go.Proofs.Ytdlinlkdielmkaa.OR
open Go.RowKit WM NR OM
set_option maxHeartbeats 4000000
set_option maxRecDepth 10000
theorem text_run {G : Nat → Prop} {w : World} {v : Value} {l : List UInt8} (h : Reads G w v (u8s l)) : (convert 30 9 v).run Try.prog w = .ok (.string (bs l)) w :=
  h.text (src := 30) (dst := 9) (e := 5) Try.underlying30 Try.underlying5 Try.underlying9
section
variable {G G' : Nat → Prop} {w : World} {v v2 : Value} {b q : List UInt8}
theorem bytesEqual_any (h1 : Reads G w v (u8s b)) (h2 : Reads G' w v2 (u8s q)) :
    Calls Try.prog 77 #[v, v2] w fun e w' => e = .returned (.bool (decide (b = q))) ∧ w = w' := by
  have c1 := text_run h1
  have c2 := text_run h2
  obtain ⟨a1, n1, k1, rfl⟩ := h1.form
  obtain ⟨a2, n2, k2, rfl⟩ := h2.form
  clear h1 h2
  by_cases e : b = q
  · subst e
    rw [decide_eq_true rfl]
    generalize bs b = x at *
    go_enter Try.func77, Try.ntmps77
    go_wp2_with fail
    go_ret
    exact ⟨rfl, rfl⟩
  · rw [decide_eq_false e]
    have exy : ((bs b).toList == (bs q).toList) = false := by rw [bs_toList, bs_toList]; simpa using e
    clear e
    generalize bs b = x at *
    generalize bs q = y at *
    go_enter Try.func77, Try.ntmps77
    go_wp2_with fail
    go_ret
    exact ⟨rfl, rfl⟩
theorem hasPrefix_any (h1 : Reads G w v (u8s b)) (h2 : Reads G' w v2 (u8s q)) (hb : b.length ≤ 140737488355328) (hq : q.length ≤ 140737488355328) :
    Calls Try.prog 60 #[v, v2] w fun e w' => e = .returned (.bool (decide (b.take q.length = q))) ∧ w = w' := by
  by_cases hl : q.length ≤ b.length
  · obtain ⟨v3, hr3, ht3⟩ := h1.take (P := Try.prog) elemBytes sizeBytes q.length (by rw [u8s_len]; exact hl)
    rw [← u8s_take] at ht3
    have C := Lib.hid (bytesEqual_any ht3 h2)
    obtain ⟨a1, c1, rfl, _, _⟩ := h1.shape
    obtain ⟨a2, c2, rfl, _, _⟩ := h2.shape
    simp only [u8s_len] at *
    have hl' : (q.length : Int) ≤ b.length := by omega
    have hsl : ∀ u, (Instr.slice 30 (.slice a1 b.length c1) none (some (.int .i64 (q.length : Int))) none).run Try.prog u = .ok v3 u := fun u => hr3 .i64 u
    obtain ⟨a3, n3, c3, rfl⟩ := ht3.form
    generalize decide (b.take q.length = q) = D at *
    clear h1 h2 ht3 hr3 hl hb hq
    generalize b.length = n at *
    generalize q.length = m at *
    go_enter Try.func60, Try.ntmps60
    go_wp2_with (go_at_call 77; (with_reducible refine C.out.mono ?_); rintro e w1 ⟨rfl, rfl⟩)
    go_ret
    exact ⟨rfl, rfl⟩
  · rw [decide_eq_false (fun e => hl (by rw [← e, List.length_take]; omega))]
    obtain ⟨a1, c1, rfl, _, _⟩ := h1.shape
    obtain ⟨a2, c2, rfl, _, _⟩ := h2.shape
    simp only [u8s_len] at *
    have hl' : (b.length : Int) < q.length := by omega
    clear h1 h2 hl hb hq
    generalize b.length = n at *
    generalize q.length = m at *
    go_enter Try.func60, Try.ntmps60
    go_wp2_with fail
    go_ret
    exact ⟨rfl, rfl⟩
theorem cutPrefix_yes (h1 : Reads G w v (u8s b)) (h2 : Reads G' w v2 (u8s q)) (hb : b.length ≤ 140737488355328) (hq : q.length ≤ 140737488355328) (he : b.take q.length = q) :
    Calls Try.prog 39 #[v, v2] w fun e w' => (∃ v3, e = .returned (.tuple #[v3, .bool true]) ∧ Reads G w v3 (u8s (b.drop q.length))) ∧ w = w' := by
  have hl : q.length ≤ b.length := by
    have := congrArg List.length he
    rw [List.length_take] at this
    omega
  have C := Lib.hid (hasPrefix_any h1 h2 hb hq)
  rw [decide_eq_true he] at C
  obtain ⟨v3, hr3, ht3⟩ := h1.drop (P := Try.prog) elemBytes sizeBytes q.length (by rw [u8s_len]; exact hl)
  rw [← u8s_drop] at ht3
  have HT := Lib.hid ht3
  obtain ⟨a1, c1, rfl, _, _⟩ := h1.shape
  obtain ⟨a2, c2, rfl, _, _⟩ := h2.shape
  simp only [u8s_len] at *
  have hsl : ∀ u, (Instr.slice 30 (.slice a1 b.length c1) (some (.int .i64 (q.length : Int))) none none).run Try.prog u = .ok v3 u := fun u => hr3 .i64 u
  obtain ⟨a3, n3, c3, rfl⟩ := ht3.form
  clear h1 h2 ht3 hr3 hl hb hq he
  generalize hN : b.length = n at *
  generalize hM : q.length = k at *
  clear hN hM
  go_enter Try.func39, Try.ntmps39
  go_wp2_with (go_at_call 60; (with_reducible refine C.out.mono ?_); rintro e w1 ⟨rfl, rfl⟩)
  exact bodyPost_ret (v := .tuple #[.slice a3 n3 c3, .bool true]) (by simp [results, Try.results39, go_sem]) rfl ⟨⟨_, rfl, HT.out⟩, rfl⟩
theorem cutPrefix_no (h1 : Reads G w v (u8s b)) (h2 : Reads G' w v2 (u8s q)) (hb : b.length ≤ 140737488355328) (hq : q.length ≤ 140737488355328) (he : b.take q.length ≠ q) :
    Calls Try.prog 39 #[v, v2] w fun e w' => e = .returned (.tuple #[v, .bool false]) ∧ w = w' := by
  have C := Lib.hid (hasPrefix_any h1 h2 hb hq)
  rw [decide_eq_false he] at C
  obtain ⟨a1, n1, c1, rfl⟩ := h1.form
  obtain ⟨a2, n2, c2, rfl⟩ := h2.form
  clear h1 h2 hb hq he
  go_enter Try.func39, Try.ntmps39
  go_wp2_with (go_at_call 60; (with_reducible refine C.out.mono ?_); rintro e w1 ⟨rfl, rfl⟩)
  exact bodyPost_ret (v := .tuple #[.slice a1 n1 c1, .bool false]) (by simp [results, Try.results39, go_sem]) rfl ⟨rfl, rfl⟩
end
end Go.Proofs.Ytdlinlkdielmkaa.OR
