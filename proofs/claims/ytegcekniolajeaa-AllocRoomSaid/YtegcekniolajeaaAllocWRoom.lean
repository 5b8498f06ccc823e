/-
  The walk of AllocRoom. Nothing here is a statement of the seed.
-/
import Derived.Test.YtegcekniolajeaaAllocWMore
set_option linter.unusedSimpArgs false
set_option linter.unusedVariables false
namespace Go.Proofs.Ytegcekniolajeaa.WK
open Go.RowKit AL NR AF

/-- is one of the n places from i on used? -/
def an (l : List Bool) (i n : Nat) : Bool := ((l.drop i).take n).any id
theorem an_zero (l : List Bool) (i : Nat) : an l i 0 = false := by simp [an]
theorem an_succ {l : List Bool} {i q : Nat} (h : i + q < l.length) : an l i (q + 1) = (an l i q || l.getD (i + q) false) := by
  unfold an
  rw [List.take_add_one, List.any_append, List.getElem?_drop, List.getElem?_eq_getElem h]
  simp [h]
theorem an_over {l : List Bool} {i q k : Nat} (h : l.length ≤ i + q) (hq : q ≤ k) : an l i q = an l i k := by
  unfold an
  rw [List.take_of_length_le (by rw [List.length_drop]; omega), List.take_of_length_le (by rw [List.length_drop]; omega)]
theorem room_facts {l : List Bool} {k a : Nat} (hk : 1 ≤ k) (h : F l k = some a) : a + k ≤ l.length ∧ (∀ i, i < a → an l i k = true) ∧ (∀ i, a ≤ i → i < a + k → l.getD i false = false) := by
  obtain ⟨h1, h2, h3⟩ := F_some hk h
  refine ⟨h1, fun i hi => ?_, fun i hi hi2 => ?_⟩
  · have hn := h3 i hi
    have hs := ld_stop (l.drop i) (by rw [List.length_drop]; omega)
    unfold an
    rw [List.any_eq_true]
    refine ⟨true, ?_, rfl⟩
    have : ((l.drop i).take k)[ld (l.drop i)]? = some true := by rw [List.getElem?_take_of_lt (by omega)]; exact hs
    exact List.mem_of_getElem? this
  · have := ld_at (l.drop a) (i - a) (by omega)
    rw [List.getElem?_drop, show a + (i - a) = i by omega] at this
    rw [List.getD_eq_getElem?_getD, this]
    rfl
set_option maxHeartbeats 4000000 in
theorem AllocRoom_nat (l : List Bool) (v : Value) (N : Nat) (hN : N ≤ 255) (w : World) (h : Reads (· < w.heap.size) w v (bls l)) :
    Calls Try.prog 6 #[v, .int .u8 (N : Int)] w fun e w' => e = .returned (.bool true) ∧ Below w.heap.size w w' := by
  by_cases hl : l.length ≤ 200
  · have CF := Lib.hid (find_any l v w h (by omega) ((1 + N % 20 : Nat) : Int) (by omega))
    have CL := Lib.hid (fun (u : World) (x : Value) (hx : Reads (· < u.heap.size) u x (bls l)) => longest_any l x u hx (by omega))
    have HA := Lib.hid awake_any
    have hbF := big_F l (1 + N % 20) (by omega)
    have hNk : 1 + N % 20 ≤ 20 := by omega
    have hNk1 : 1 ≤ 1 + N % 20 := by omega
    have hk : ((1 + N % 20 : Nat) : Int) = 1 + (N : Int) % 20 := by omega
    cases hF : F l (1 + N % 20) with
    | none =>
      rw [findV_none (by omega) hF] at CF
      rw [hF] at hbF
      have hb : ¬ (1 + N % 20 ≤ big (R l)) := fun e => by have := hbF.1 e; cases this
      have hb' : (big (R l) : Int) < 1 + (N : Int) % 20 := by omega
      rw [hk] at CF
      have H := Lib.hid h
      obtain ⟨a, c, rfl, _⟩ := h.shape
      clear h hF hbF hb hk
      rw [bls_len] at *
      generalize big (R l) = z at *
      generalize l.length = m at *
      have hm3 : (m : Int) ≤ 200 := by omega
      go_enter Try.func6, Try.ntmps6
      go_wp2_with fail
      (go_at_call 10; (with_reducible refine CF.out.mono ?_); rintro e2 w2 ⟨rfl, hb2⟩; have HJ2 := Lib.hid (next H.out hb2))
      go_wp2_with fail
      (go_at_call 15; (with_reducible refine (CL.out _ _ HJ2.out).mono ?_); rintro e3 w3 ⟨rfl, hb3⟩; have B3 := Lib.hid (below_of hb2 hb3); clear hb3)
      go_wp2_with fail
      (go_at_call 9; (with_reducible refine (HA.out _).mono ?_); rintro e8 w8 ⟨rfl, hb8⟩; have B8 := Lib.hid (below_of B3.out hb8); clear hb8)
      go_wp2_with fail
      go_ret
      exact ⟨rfl, B8.out⟩
    | some a =>
      rw [findV_some (by omega) hF] at CF
      rw [hF] at hbF
      have hb : 1 + N % 20 ≤ big (R l) := hbF.2 rfl
      obtain ⟨ha1, ha2, ha3⟩ := room_facts (by omega) hF
      have hl1 : l ≠ [] := fun e => by rw [e] at ha1; simp at ha1
      have hne : bls l ≠ [] := by intro e; have := congrArg List.length e; rw [bls_len] at this; simp at this; exact hl1 this
      obtain ⟨g, off, c, rfl, hg, hlc, hcm, hc⟩ := h.cells hne
      have C := Lib.hid (reads_cell (G := (· < w.heap.size)) hc)
      have H := Lib.hid h
      clear h hF hbF hc hne hl1
      rw [bls_len] at *
      generalize big (R l) = z at *
      have hAS := Lib.hid (fun i q hq => an_succ (l := l) (i := i) (q := q) hq)
      have hAO := Lib.hid (fun i q k h1 h2 => an_over (l := l) (i := i) (q := q) (k := k) h1 h2)
      have hAZ := Lib.hid (an_zero l)
      have HA2 := Lib.hid ha2
      have HA3 := Lib.hid ha3
      clear ha2 ha3
      generalize l.length = m at *
      unfold maxLen at hcm
      generalize hK : 1 + N % 20 = K at *
      have hm3 : (m : Int) ≤ 200 := by omega
      have hk2 : 1 + (N : Int) % 20 = K := by omega
      have hb' : (K : Int) ≤ z := by omega
      have hK1 : (1 : Int) ≤ K := by omega
      have haK : (a : Int) + K ≤ m := by omega
      clear hb hK hk
      go_enter Try.func6, Try.ntmps6
      go_wp2_with fail
      (go_at_call 10; (with_reducible refine CF.out.mono ?_); rintro e2 w2 ⟨rfl, hb2⟩; have HJ2 := Lib.hid (next H.out hb2))
      go_wp2_with fail
      (go_at_call 15; (with_reducible refine (CL.out _ _ HJ2.out).mono ?_); rintro e3 w3 ⟨rfl, hb3⟩; have B3 := Lib.hid (below_of hb2 hb3); clear hb3)
      go_wp2_with fail
      clear hk2
      have hz0 : (0 : Int) ≤ a := by omega
      go_loopw [8] (fun x wr => ∃ i : Nat, i ≤ a + K ∧ x = .int .i64 (i : Int) ∧ w3 = wr) (fun x _ => a + K - (intOf x).toNat)
      case atStart => exact ⟨0, by omega, rfl, rfl⟩
      case round =>
        obtain ⟨i, hi, rfl, rfl⟩ := hrel
        by_cases hlt : i < a + K
        · have hlt' : (i : Int) < (a : Int) + K := by omega
          have hi0 : (0 : Int) ≤ i := by omega
          have hAi := Lib.hid (HA2.out i)
          have hBi := Lib.hid (fun h => HA3.out i h hlt)
          have hci := (B3.out.cell (p := ⟨g, off + i, none⟩) hg).trans (C.out i (by omega))
          go_wp2_with fail
          go_loopw [9, 10] (fun x y wr => ∃ q : Nat, q ≤ K ∧ y = .int .i64 ((i + q : Nat) : Int) ∧ x = .bool (an l i q) ∧ w3 = wr) (fun _ y _ => i + K - (intOf y).toNat)
          case atStart => exact ⟨0, by omega, rfl, by rw [hAZ.out], rfl⟩
          case round =>
            obtain ⟨q, hq, rfl, rfl, rfl⟩ := hrel
            by_cases hql : q < K ∧ i + q < m
            · obtain ⟨hq1, hq2⟩ := hql
              have hs := hAS.out i q hq2
              have hcq := (B3.out.cell (p := ⟨g, off + (i + q), none⟩) hg).trans (C.out (i + q) hq2)
              have hq1' : (i : Int) + q < i + K := by omega
              have hq2' : (i : Int) + q < m := by omega
              have e : Hid (an l i (q + 1) = (an l i q || l.getD (i + q) false)) := Lib.hid hs
              clear hs
              generalize l.getD (i + q) false = b at *
              generalize an l i q = r0 at *
              cases r0
              · go_wp2_with fail
                go_roundw
                case rel => exact ⟨q + 1, by omega, by go_num, by first | (rw [e.out]; rfl) | (rw [e.out]; simp; done) | (have := e.out; simp_all; done), by first | rfl | trivial⟩
                case measure => simp [intOf]; omega
              · go_wp2_with fail
                go_roundw
                case rel => exact ⟨q + 1, by omega, by go_num, by first | (rw [e.out]; rfl) | (rw [e.out]; simp; done) | (have := e.out; simp_all; done), by first | rfl | trivial⟩
                case measure => simp [intOf]; omega
            · have e : an l i q = an l i K := by
                by_cases h1 : q = K
                · rw [h1]
                · exact hAO.out i q K (by omega) hq
              rw [e]
              have ht : Hid ((i < a ∧ an l i K = true) ∨ (a ≤ i ∧ l.getD i false = false)) := Lib.hid (by
                rcases Nat.lt_or_ge i a with h1 | h1
                · exact Or.inl ⟨h1, hAi.out h1⟩
                · exact Or.inr ⟨h1, hBi.out h1⟩)
              have hx : Hid (((i + q : Nat) : Int) = (i : Int) + K ∨ (((i + q : Nat) : Int) < (i : Int) + K ∧ (m : Int) ≤ ((i + q : Nat) : Int))) := Lib.hid (by omega)
              clear e hql
              generalize l.getD i false = b at *
              generalize an l i K = r at *
              rcases ht.out with ⟨h1, rfl⟩ | ⟨h1, rfl⟩
              · have h1' : (i : Int) < a := by omega
                rcases hx.out with h2 | ⟨h2, h3⟩
                · have h2' : ¬ ((i + q : Nat) : Int) < (i : Int) + K := by omega
                  clear h2
                  go_wp2_with fail
                  go_roundw
                  case rel => exact ⟨i + 1, by omega, by go_num, by first | rfl | trivial⟩
                  case measure => simp [intOf]; omega
                · exfalso; omega
              · have h1' : ¬ (i : Int) < a := by omega
                have h1'' : (a : Int) ≤ i := by omega
                have him : (i : Int) < m := by omega
                rcases hx.out with h2 | ⟨h2, h3⟩
                · have h2' : ¬ ((i + q : Nat) : Int) < (i : Int) + K := by omega
                  clear h2
                  go_wp2_with fail
                  go_roundw
                  case rel => exact ⟨i + 1, by omega, by go_num, by first | rfl | trivial⟩
                  case measure => simp [intOf]; omega
                · go_wp2_with fail
                  go_roundw
                  case rel => exact ⟨i + 1, by omega, by go_num, by first | rfl | trivial⟩
                  case measure => simp [intOf]; omega
        · obtain rfl : i = a + K := by omega
          go_wp2_with fail
          (go_at_call 9; (with_reducible refine (HA.out _).mono ?_); rintro e8 w8 ⟨rfl, hb8⟩; have B8 := Lib.hid (below_of B3.out hb8); clear hb8)
          go_wp2_with fail
          go_ret
          exact ⟨rfl, B8.out⟩
  · have HA := Lib.hid awake_any
    obtain ⟨a, c, rfl, _⟩ := h.shape
    rw [bls_len] at *
    have hl' : (200 : Int) < (l.length : Int) := by omega
    clear h hl
    generalize l.length = m at *
    go_enter Try.func6, Try.ntmps6
    go_wp2_with (go_at_call 9; (with_reducible refine (HA.out _).mono ?_); rintro e w4 ⟨rfl, hb⟩)
    go_ret
    exact ⟨rfl, hb⟩
theorem AllocRoom_walk (l : List Bool) (v : Value) (n : Int) (hn : 0 ≤ n ∧ n ≤ 255) (w : World) (h : Reads (· < w.heap.size) w v (bls l)) :
    Calls Try.prog 6 #[v, .int .u8 n] w fun e w' => e = .returned (.bool true) ∧ Below w.heap.size w w' := by
  obtain ⟨N, rfl⟩ := Int.eq_ofNat_of_zero_le hn.1
  exact AllocRoom_nat l v N (by omega) w h
end Go.Proofs.Ytegcekniolajeaa.WK
