/-
  The reference of layer 17: the least epoch, whether all have passed one. Nothing here is a statement of the seed.
-/
import Derived.Test.YtcpkiepdpmaeoaaEpRow
set_option linter.unusedSimpArgs false
set_option linter.unusedVariables false
namespace Go.Proofs.Ytcpkiepdpmaeoaa.EF
open Go.RowKit WM NR OM OR EM ER
set_option maxHeartbeats 4000000
set_option maxRecDepth 10000
section
variable {w : World} {a : Option Addr} {n c : Nat} {hs : List Hr}
theorem refPassed_any {G : Nat → Prop} (h : ReadsH G w (.slice a n c) hs) (e : Int) (he : 0 ≤ e ∧ e ≤ 18446744073709551615) :
    Calls Try.prog 15 #[.slice a n c, .int .u64 e] w fun r w' => r = .returned (.bool (pasB hs e)) ∧ w = w' := by
  obtain ⟨n1, m1, m2⟩ := h.len
  unfold maxLen at m2
  have hn : (n : Int) ≤ 9223372036854775807 := by omega
  have HE := Lib.hid h
  have HL := Lib.hid n1
  obtain ⟨R, hR⟩ : ∃ R, R = pasB hs e := ⟨_, rfl⟩
  rw [← hR]
  have HR := Lib.hid hR
  have q2 : (n : Int) ≤ c := by omega
  have HEP := Lib.hid he
  clear hR h n1 m1 m2 he
  go_enter Try.func15, Try.ntmps15
  go_wp2_with fail
  go_loopw [5] (fun i wr => ∃ k : Nat, k ≤ n ∧ i = .int .i64 (k : Int) ∧ Hid (pasB (hs.take k) e = true) ∧ wr = w) (fun i _ => n - (intOf i).toNat)
  case atStart => exact ⟨0, by omega, rfl, Lib.hid (by simp [pasB]), rfl⟩
  case round =>
    obtain ⟨k, hk, rfl, hp, rfl⟩ := hrel
    by_cases hlt : k < n
    · have hlt' : (k : Int) < n := by omega
      have kl : k < hs.length := by rw [HL.out]; exact hlt
      obtain ⟨g, off, rfl, q1, hat, hok⟩ := HE.out.at hlt
      have x1 := hat.why
      have x2 := hat.ep
      have HT := Lib.hid (pas_take hs e k kl)
      have HF := Lib.hid (pas_false (hs := hs) (e := e) kl)
      generalize hs.getD k h0 = x at *
      obtain ⟨hk1, hk2⟩ := hok
      have hb : behB x e = (decide (x.why = 0) && decide (x.ep < e)) := rfl
      clear hat kl
      by_cases b1 : x.why = 0
      · have b1' : (x.why == 0) = true := by simpa using b1
        by_cases b2 : x.ep < e
        · have hh := Lib.hid (show R = false by rw [HR.out]; exact HF.out (by rw [hb, decide_eq_true b1, decide_eq_true b2]; rfl))
          clear hp HT HF hb HR
          go_wp2_with fail
          go_ret
          exact ⟨ret_bool hh.out.symm, rfl⟩
        · have hp2 := Lib.hid (show pasB (hs.take (k + 1)) e = true by rw [HT.out, hp.out, hb, decide_eq_false b2, Bool.and_false]; rfl)
          clear hp HT HF hb HR
          go_wp2_with fail
          go_roundw
          case rel => exact ⟨k + 1, by omega, by go_num, hp2, by trivial⟩
          case measure => simp [intOf]; omega
      · have b1' : (x.why == 0) = false := by simpa using b1
        have hp2 := Lib.hid (show pasB (hs.take (k + 1)) e = true by rw [HT.out, hp.out, hb, decide_eq_false b1, Bool.false_and]; rfl)
        clear hp HT HF hb HR
        go_wp2_with fail
        go_roundw
        case rel => exact ⟨k + 1, by omega, by go_num, hp2, by trivial⟩
        case measure => simp [intOf]; omega
    · obtain rfl : k = n := by omega
      have hh := Lib.hid (show R = true by rw [HR.out]; have := hp.out; rw [List.take_of_length_le (by rw [HL.out]; omega)] at this; exact this)
      clear hp HR HE
      go_wp2_with fail
      go_ret
      exact ⟨ret_bool hh.out.symm, rfl⟩
theorem lstS_cases (q : Int × Bool) (x : Hr) : (x.why = 0 → q.2 = false → lstS q x = (x.ep, true)) ∧ (x.why = 0 → x.ep < q.1 → lstS q x = (x.ep, true)) ∧ (x.why = 0 → q.2 = true → ¬ x.ep < q.1 → lstS q x = q) ∧ (x.why ≠ 0 → lstS q x = q) := by
  unfold lstS
  refine ⟨fun h1 h2 => if_pos ⟨h1, Or.inl h2⟩, fun h1 h2 => if_pos ⟨h1, Or.inr h2⟩, fun h1 h2 h3 => if_neg ?_, fun h1 => if_neg (fun h => h1 h.1)⟩
  rintro ⟨_, h | h⟩
  · rw [h2] at h; cases h
  · exact h3 h
theorem lst_bd {hs : List Hr} (h : ∀ x ∈ hs, HrOk x) : 0 ≤ (lstM hs).1 ∧ (lstM hs).1 ≤ 18446744073709551615 := by
  have : ∀ (l : List Hr) (q : Int × Bool), (∀ x ∈ l, HrOk x) → (0 ≤ q.1 ∧ q.1 ≤ 18446744073709551615) → 0 ≤ (lstF q l).1 ∧ (lstF q l).1 ≤ 18446744073709551615 := by
    intro l
    induction l with
    | nil => intro q _ hq; exact hq
    | cons x l ih =>
      intro q hl hq
      refine ih (lstS q x) (fun y hy => hl y (List.mem_cons_of_mem _ hy)) ?_
      unfold lstS
      split
      · exact (hl x (List.mem_cons_self ..)).ep
      · exact hq
  exact this hs (0, false) h (by decide)
theorem refLeast_any {G : Nat → Prop} (h : ReadsH G w (.slice a n c) hs) :
    Calls Try.prog 13 #[.slice a n c] w fun r w' => r = .returned (.tuple #[.int .u64 (lstM hs).1, .bool (lstM hs).2]) ∧ w = w' := by
  obtain ⟨n1, m1, m2⟩ := h.len
  unfold maxLen at m2
  have hn : (n : Int) ≤ 9223372036854775807 := by omega
  have HE := Lib.hid h
  have HL := Lib.hid n1
  obtain ⟨R, hR⟩ : ∃ R, R = lstM hs := ⟨_, rfl⟩
  rw [← hR]
  have HR := Lib.hid hR
  have q2 : (n : Int) ≤ c := by omega
  clear hR h n1 m1 m2
  go_enter Try.func13, Try.ntmps13
  go_wp2_with fail
  go_loopw [4, 5, 6] (fun v4 v5 i wr => ∃ (k : Nat) (q1 : Int) (q2 : Bool), k ≤ n ∧ i = .int .i64 (k : Int) ∧ v4 = .int .u64 q1 ∧ v5 = .bool q2 ∧ Hid (lstF (0, false) (hs.take k) = (q1, q2)) ∧ wr = w) (fun _ _ i _ => n - (intOf i).toNat)
  case atStart => exact ⟨0, _, _, by omega, rfl, rfl, rfl, Lib.hid rfl, rfl⟩
  case round =>
    obtain ⟨k, l1, l2, hk, rfl, rfl, rfl, hp, rfl⟩ := hrel
    by_cases hlt : k < n
    · have hlt' : (k : Int) < n := by omega
      have kl : k < hs.length := by rw [HL.out]; exact hlt
      obtain ⟨g, off, rfl, q1, hat, hok⟩ := HE.out.at hlt
      have x1 := hat.why
      have x2 := hat.ep
      have HT := Lib.hid (lst_take hs (0, false) k kl)
      generalize hs.getD k h0 = x at *
      obtain ⟨hk1, hk2⟩ := hok
      obtain ⟨y1, y2, y3, y4⟩ := lstS_cases (l1, l2) x
      simp only at y1 y2 y3 y4
      have HT : Hid (lstF (0, false) (hs.take (k + 1)) = lstS (l1, l2) x) := Lib.hid (by rw [HT.out, hp.out])
      clear hat kl hp
      by_cases b1 : x.why = 0
      · have b1' : (x.why == 0) = true := by simpa using b1
        cases l2 with
        | false =>
          have hp2 := Lib.hid (HT.out.trans (y1 b1 rfl))
          clear HT HR y1 y2 y3 y4
          go_wp2_with fail
          go_roundw
          case rel => exact ⟨k + 1, _, _, by omega, by go_num, rfl, rfl, hp2, by trivial⟩
          case measure => simp [intOf]; omega
        | true =>
          by_cases b2 : x.ep < l1
          · have hp2 := Lib.hid (HT.out.trans (y2 b1 b2))
            clear HT HR y1 y2 y3 y4
            go_wp2_with fail
            go_roundw
            case rel => exact ⟨k + 1, _, _, by omega, by go_num, rfl, rfl, hp2, by trivial⟩
            case measure => simp [intOf]; omega
          · have hp2 := Lib.hid (HT.out.trans (y3 b1 rfl b2))
            clear HT HR y1 y2 y3 y4
            go_wp2_with fail
            go_roundw
            case rel => exact ⟨k + 1, _, _, by omega, by go_num, rfl, rfl, hp2, by trivial⟩
            case measure => simp [intOf]; omega
      · have b1' : (x.why == 0) = false := by simpa using b1
        have hp2 := Lib.hid (HT.out.trans (y4 b1))
        clear HT HR y1 y2 y3 y4
        go_wp2_with fail
        go_roundw
        case rel => exact ⟨k + 1, _, _, by omega, by go_num, rfl, rfl, hp2, by trivial⟩
        case measure => simp [intOf]; omega
    · obtain rfl : k = n := by omega
      have hh := Lib.hid (show R = (l1, l2) by rw [HR.out]; have := hp.out; rw [List.take_of_length_le (by rw [HL.out]; omega)] at this; exact this)
      clear hp HR HE
      go_wp2_with fail
      exact bodyPost_ret (v := .tuple #[.int .u64 l1, .bool l2]) (by simp [results, Try.results13, go_sem]) rfl ⟨by rw [hh.out], rfl⟩
end
end Go.Proofs.Ytcpkiepdpmaeoaa.EF
