/-
  The walk of AllocMore. Nothing here is a statement of the seed.
-/
import Derived.Test.YtegcekniolajeaaAllocWFinds
set_option linter.unusedSimpArgs false
set_option linter.unusedVariables false
namespace Go.Proofs.Ytegcekniolajeaa.WK
open Go.RowKit AL NR AF

theorem findV_some {l : List Bool} {n k : Nat} (hn : 1 ≤ n) (h : F l n = some k) : findV l (n : Int) = .tuple #[.int .i64 (k : Int), .int .i64 0] := by
  unfold findV; rw [if_neg (by omega), Int.toNat_natCast, h]
theorem findV_none {l : List Bool} {n : Nat} (hn : 1 ≤ n) (h : F l n = none) : findV l (n : Int) = .tuple #[.int .i64 0, .int .i64 7] := by
  unfold findV; rw [if_neg (by omega), Int.toNat_natCast, h]
theorem owns_succ' {W : World} {base : Nat} {e : TypeId} {size : Nat} {v : Value} {k : Nat} {xs : List Value} (hk : 1 ≤ k) (h : W.ownsRow base e size v k xs) : ∃ g cap, v = .slice (some ⟨g, 0, none⟩) k cap := by
  rcases h.2 with ⟨_, h0⟩ | ⟨g, cap, _, rfl, _⟩
  · omega
  · exact ⟨g, cap, rfl⟩
/-- both answers -/
theorem more_ways (l : List Bool) (n p : Nat) (hn : 1 ≤ n) : ∃ i e j f : Int, findV l (n : Int) = .tuple #[.int .i64 i, .int .i64 e] ∧ findV (l.set p false) (n : Int) = .tuple #[.int .i64 j, .int .i64 f] ∧ ((e = 7) ∨ (e = 0 ∧ f = 0 ∧ j ≤ i)) := by
  cases h : F l n with
  | none =>
    obtain ⟨a, b, hf⟩ := findV_form (l.set p false) n
    exact ⟨_, _, a, b, findV_none hn h, hf, Or.inl rfl⟩
  | some k =>
    obtain ⟨j, hj, hle⟩ := F_set p hn h
    exact ⟨_, _, _, _, findV_some hn h, findV_some hn hj, Or.inr ⟨rfl, rfl, by omega⟩⟩
set_option maxHeartbeats 2000000 in
theorem AllocMore_nat (l : List Bool) (v : Value) (A N : Nat) (hA : A ≤ 255) (hN : N ≤ 255) (w : World) (h : Reads (· < w.heap.size) w v (bls l)) :
    Calls Try.prog 8 #[v, .int .u8 (A : Int), .int .u8 (N : Int)] w fun e w' => e = .returned (.bool true) ∧ Below w.heap.size w w' := by
  by_cases hl : l.length ≤ 200 ∧ 1 ≤ l.length
  · obtain ⟨hl, hl1⟩ := hl
    obtain ⟨i0, hi, hz0, hz1, hz2⟩ := info_parts infoB
    obtain ⟨i, e, j, f, hf1, hf2, hw⟩ := more_ways l (1 + N % 20) (A % l.length) (by omega)
    have CF := Lib.hid (fun (u : World) (x : Value) (hx : Reads (· < u.heap.size) u x (bls l)) => find_any l x u hx (by omega) ((1 + N % 20 : Nat) : Int) (by omega))
    have CF2 := Lib.hid (fun (u : World) (x : Value) (hx : Reads (· < u.heap.size) u x (bls (l.set (A % l.length) false))) => find_any _ x u hx (by simp; omega) ((1 + N % 20 : Nat) : Int) (by omega))
    have CG := Lib.hid (fun (u : World) (x : Value) (hx : Reads (· < u.heap.size) u x (bls l)) => free_any l x u hx (by omega))
    have CG2 := Lib.hid (fun (u : World) (x : Value) (hx : Reads (· < u.heap.size) u x (bls (l.set (A % l.length) false))) => free_any _ x u hx (by simp; omega))
    have CL := Lib.hid (fun (u : World) (x : Value) (hx : Reads (· < u.heap.size) u x (bls l)) => longest_any l x u hx (by omega))
    have CL2 := Lib.hid (fun (u : World) (x : Value) (hx : Reads (· < u.heap.size) u x (bls (l.set (A % l.length) false))) => longest_any _ x u hx (by simp; omega))
    have hfs := fre_set l (A % l.length)
    have hbs := big_set l (A % l.length)
    have HA := Lib.hid awake_any
    rw [hf1] at CF
    rw [hf2] at CF2
    clear hf1 hf2
    generalize fre (l.set (A % l.length) false) = f2 at *
    generalize fre l = f1 at *
    generalize big (R (l.set (A % l.length) false)) = g2 at *
    generalize big (R l) = g1 at *
    have hfs' : (f1 : Int) ≤ f2 := by omega
    have hbs' : (g1 : Int) ≤ g2 := by omega
    clear hfs hbs
    have hA0 := below_new w (.cells #[] 4)
    have HR := Lib.hid (next h hA0)
    have HO := Lib.hid (own_empty w 4)
    have h0 := h
    obtain ⟨a, c, rfl, _⟩ := h0.shape
    have H := Lib.hid h
    clear h h0
    rw [bls_len] at *
    have h1 := Lib.hid (bls_one l)
    have hl3 : (l.length : Int) ≤ 200 := by omega
    have hl4 : (1 : Int) ≤ (l.length : Int) := by omega
    have hlz : ((l.length : Int) == 0) = false := beq_eq_false_iff_ne.2 (by omega)
    have hlz2 : decide ((200 : Int) < (l.length : Int)) = false := decide_eq_false (by omega)
    have hk : ((1 + N % 20 : Nat) : Int) = 1 + (N : Int) % 20 := by omega
    rw [hk] at CF CF2
    clear hk
    have hAp : A % l.length < l.length := Nat.mod_lt _ (by omega)
    go_enter Try.func8, Try.ntmps8
    go_wp2_with (at_builtin; refine wpList_append_reads _ rfl _ _ 22 rfl w.heap.size 4 i0 (.bool false) 1 Try.underlying22 hi hz0 hz1 hz2 rfl (.slice (some ⟨w.heap.size, 0, none⟩) 0 0) 0 [] rfl HO.out _ _ (bls l) rfl HR.out h1.out (by rw [bls_len]; unfold maxLen; omega) (by rw [bls_len]; omega) (by simp) ?_; intro v' w1 hown hgrow; replace hown := own_bls hown; have hb1 := hA0.grown hgrow (by simp) (fun g hg => by simp [Value.ownBlock] at hg; omega); obtain ⟨g, c', rfl⟩ := owns_succ' hl1 hown; have hst := hown.stored (A % l.length) (.bool false); have hcell := (hown.cellAt (A % l.length) (by omega)).trans (bls_at l _ hAp); have hfr := hown.frozenAt (A % l.length); have hbs1 := hb1.setCell (p := ⟨g, A % l.length, none⟩) (hown.lt g rfl).1 (.bool false); rw [bls_set] at hst; have HM := Lib.hid (copied_reads (w := w) hst.1); have HJ := Lib.hid (next H.out hbs1); clear hown hgrow hst)
    generalize w1.setCell ⟨g, A % l.length, none⟩ (.bool false) = W1 at *
    clear hcell hfr
    (go_at_call 10; (with_reducible refine (CF.out _ _ HJ.out).mono ?_); rintro e2 w2 ⟨rfl, hb⟩; have HJ2 := Lib.hid (next HJ.out hb); have HM2 := Lib.hid (next HM.out hb); have B2 := Lib.hid (below_of hbs1 hb); clear hb)
    go_wp2_with fail
    (go_at_call 10; (with_reducible refine (CF2.out _ _ HM2.out).mono ?_); rintro e3 w3 ⟨rfl, hb⟩; have HJ3 := Lib.hid (next HJ2.out hb); have HM3 := Lib.hid (next HM2.out hb); have B3 := Lib.hid (below_of B2.out hb); clear hb)
    rcases hw with rfl | ⟨rfl, rfl, hle⟩
    all_goals
      go_wp2_with fail
      (go_at_call 17; (with_reducible refine (CG2.out _ _ HM3.out).mono ?_); rintro e4 w4 ⟨rfl, hb⟩; have HJ4 := Lib.hid (next HJ3.out hb); have HM4 := Lib.hid (next HM3.out hb); have B4 := Lib.hid (below_of B3.out hb); clear hb)
      go_wp2_with fail
      (go_at_call 17; (with_reducible refine (CG.out _ _ HJ4.out).mono ?_); rintro e5 w5 ⟨rfl, hb⟩; have HJ5 := Lib.hid (next HJ4.out hb); have HM5 := Lib.hid (next HM4.out hb); have B5 := Lib.hid (below_of B4.out hb); clear hb)
      go_wp2_with fail
      (go_at_call 15; (with_reducible refine (CL2.out _ _ HM5.out).mono ?_); rintro e6 w6 ⟨rfl, hb⟩; have HJ6 := Lib.hid (next HJ5.out hb); have B6 := Lib.hid (below_of B5.out hb); clear hb)
      go_wp2_with fail
      (go_at_call 15; (with_reducible refine (CL.out _ _ HJ6.out).mono ?_); rintro e7 w7 ⟨rfl, hb⟩; have B7 := Lib.hid (below_of B6.out hb); clear hb)
      go_wp2_with fail
      (go_at_call 9; (with_reducible refine (HA.out _).mono ?_); rintro e8 w8 ⟨rfl, hb⟩; have B8 := Lib.hid (below_of B7.out hb); clear hb)
      go_wp2_with fail
      go_ret
      exact ⟨rfl, B8.out⟩
  · have HA := Lib.hid awake_any
    obtain ⟨a, c, rfl, _⟩ := h.shape
    rw [bls_len] at *
    have hl' : (200 : Int) < (l.length : Int) ∨ l.length = 0 := by omega
    clear h hl
    generalize l.length = m at *
    rcases hl' with hl' | rfl
    · go_enter Try.func8, Try.ntmps8
      go_wp2_with (go_at_call 9; (with_reducible refine (HA.out _).mono ?_); rintro e w4 ⟨rfl, hb⟩)
      go_ret
      exact ⟨rfl, hb⟩
    · go_enter Try.func8, Try.ntmps8
      go_wp2_with (go_at_call 9; (with_reducible refine (HA.out _).mono ?_); rintro e w4 ⟨rfl, hb⟩)
      go_ret
      exact ⟨rfl, hb⟩
theorem AllocMore_walk (l : List Bool) (v : Value) (a n : Int) (ha : 0 ≤ a ∧ a ≤ 255) (hn : 0 ≤ n ∧ n ≤ 255) (w : World) (h : Reads (· < w.heap.size) w v (bls l)) :
    Calls Try.prog 8 #[v, .int .u8 a, .int .u8 n] w fun e w' => e = .returned (.bool true) ∧ Below w.heap.size w w' := by
  obtain ⟨A, rfl⟩ := Int.eq_ofNat_of_zero_le ha.1
  obtain ⟨N, rfl⟩ := Int.eq_ofNat_of_zero_le hn.1
  exact AllocMore_nat l v A N (by omega) (by omega) w h
end Go.Proofs.Ytegcekniolajeaa.WK
