/-
  The walk of AllocRuns. Nothing here is a statement of the seed.
-/
import Derived.Test.YtegcekniolajeaaAllocWCounts
set_option linter.unusedSimpArgs false
set_option linter.unusedVariables false
namespace Go.Proofs.Ytegcekniolajeaa.WK
open Go.RowKit AL NR AF

theorem eq_arr_in (d : Nat) (f k : Int) (u : World) : (Op.equalIn (d + 1 + 1) 33 (.agg #[.int .i64 f, .int .i64 k]) (.agg #[.int .i64 f, .int .i64 k])).run Try.prog u = .ok true u := by
  have hs : (sizeOf 3).run Try.prog u = .ok 1 u := by kernel_rfl
  have h0 : ∀ a b : Value, (part 3 #[a, b] 0).run Try.prog u = .ok a u := by
    intro a b
    simp [part, sizeOf, typeInfo]
  have h1 : ∀ a b : Value, (part 3 #[a, b] 1).run Try.prog u = .ok b u := by
    intro a b
    simp [part, sizeOf, typeInfo]
  have he : ∀ a : Int, (Op.equalIn (d + 1) 3 (.int .i64 a) (.int .i64 a)).run Try.prog u = .ok true u := fun a => by
    rw [run_equalIn_int u d 3 .i64 .i64 a a Try.underlying3]; simp
  rw [Op.equalIn]
  simp only [Sem.run_bind, run_underlying Try.underlying33, Result.andThen_ok, hs]
  simp [List.range', h0, h1, he, Sem.run_bind]
theorem neq_arr (f k : Int) : ∀ u, (binOp .neq 33 (.agg #[.int .i64 f, .int .i64 k]) (.agg #[.int .i64 f, .int .i64 k])).run Try.prog u = .ok (.bool false) u := by
  intro u
  rw [run_neq_struct, show (10000 : Nat) = 9998 + 1 + 1 from rfl, eq_arr_in]
  rfl
set_option maxHeartbeats 4000000 in
theorem AllocRuns_walk (l : List Bool) (v : Value) (w : World) (h : Reads (· < w.heap.size) w v (bls l)) :
    Calls Try.prog 4 #[v] w fun e w' => e = .returned (.bool true) ∧ Below w.heap.size w w' := by
  by_cases hl : l.length ≤ 400
  · have CR := Lib.hid (allRuns_any l v w h hl)
    have CR2 := Lib.hid (fun (u : World) (x : Value) (hx : Reads (· < u.heap.size) u x (bls l)) => refRuns_any l x u hx hl)
    have CG := Lib.hid (fun (u : World) (x : Value) (hx : Reads (· < u.heap.size) u x (bls l)) => free_any l x u hx hl)
    have CG2 := Lib.hid (fun (u : World) (x : Value) (hx : Reads (· < u.heap.size) u x (bls l)) => refFree1_any l x u hx hl)
    have CL := Lib.hid (fun (u : World) (x : Value) (hx : Reads (· < u.heap.size) u x (bls l)) => longest_any l x u hx hl)
    have CL2 := Lib.hid (fun (u : World) (x : Value) (hx : Reads (· < u.heap.size) u x (bls l)) => refLongest_any l x u hx hl)
    have HA := Lib.hid awake_any
    have hRl := R_len l
    have H := Lib.hid h
    obtain ⟨a, c, rfl, _⟩ := h.shape
    clear h
    rw [bls_len] at *
    generalize big (R l) = z2 at *
    generalize fre l = z1 at *
    generalize hq : R l = rs at *
    have HQ := Lib.hid hq
    clear hq
    generalize hm : l.length = m at *
    clear hm
    have hm3 : (m : Int) ≤ 400 := by omega
    go_enter Try.func4, Try.ntmps4
    go_wp2_with fail
    (go_at_call 13; refine CR.out.mono ?_; rintro e w1 ⟨u, rfl, hown, hb⟩; rw [HQ.out] at hown; have hprs := Lib.hid (Prs.of_owns hown); obtain ⟨b, cap, rfl, hlc, hcm, hcs0⟩ := hprs.out.form; clear hcs0; have HJ := Lib.hid (next H.out hb); clear hown)
    go_wp2_with fail
    (go_at_call 14; refine (CR2.out _ _ HJ.out).mono ?_; rintro e w2 ⟨u, rfl, hown, hb'⟩; rw [HQ.out] at hown; have hprs2 := Lib.hid (Prs.of_owns hown); obtain ⟨b2, cap2, rfl, hlc2, hcm2, hcs2⟩ := hprs2.out.form; have HJ2 := Lib.hid (next HJ.out hb'); have B2 := Lib.hid (below_of hb hb'); obtain ⟨b1, cap1, e1, e2, e3, hcs1⟩ := (hprs.out.belowS hb').form; simp only [Value.slice.injEq, true_and] at e1; obtain ⟨rfl, rfl⟩ := e1; clear hown e2 e3)
    have HC1 := Lib.hid hcs1
    have HC2 := Lib.hid hcs2
    clear hcs1 hcs2 hprs hprs2
    unfold maxLen at hcm hcm2
    have hr3 : (rs.length : Int) ≤ 400 := by omega
    go_wp2_with fail
    go_loopw [5] (fun x wr => ∃ i : Nat, i ≤ rs.length ∧ x = .int .i64 (i : Int) ∧ Below w2.heap.size w2 wr) (fun x _ => rs.length - (intOf x).toNat)
    case atStart => exact ⟨0, by omega, rfl, Below.refl _ _⟩
    case round =>
      obtain ⟨i, hi, rfl, hbw⟩ := hrel
      by_cases hlt : i < rs.length
      · rcases HC1.out with h0 | ⟨g, rfl, hg, hc⟩
        · subst h0; simp at hlt
        · rcases HC2.out with h0 | ⟨g2, rfl, hg2, hc2⟩
          · subst h0; simp at hlt
          · obtain ⟨c0', c1'⟩ := hc i hlt
            have c0 := (hbw.cell (p := ⟨g, i * 2, none⟩) (by have := hb'.size; show g < _; omega)).trans c0'
            have c1 := (hbw.cell (p := ⟨g, i * 2 + 1, none⟩) (by have := hb'.size; show g < _; omega)).trans c1'
            obtain ⟨d0', d1'⟩ := hc2 i hlt
            have d0 := (hbw.cell (p := ⟨g2, i * 2, none⟩) hg2.2).trans d0'
            have d1 := (hbw.cell (p := ⟨g2, i * 2 + 1, none⟩) hg2.2).trans d1'
            clear hc hc2 c0' c1' d0' d1'
            have hlt' : (i : Int) < rs.length := by omega
            have hi0 : (0 : Int) ≤ i := by omega
            have g1 : decide (rs.length ≤ i) = false := decide_eq_false (by omega)
            generalize rs.getD i (0, 0) = p at *
            have hq := neq_arr p.1 p.2
            go_wp2_with fail
            go_quiet (fail)
            have hbw' := below_drewN hbw nq
            clear c0 c1 d0 d1
            generalize wr.drewN nq = W2 at *
            go_wp2_with fail
            go_roundw
            case rel => exact ⟨i + 1, by omega, by go_num, hbw'⟩
            case measure => simp [intOf]; omega
      · obtain rfl : i = rs.length := by omega
        have HW := Lib.hid (below_of B2.out hbw)
        have HJ3 := Lib.hid (next HJ2.out hbw)
        go_wp2_with fail
        (go_at_call 15; (with_reducible refine (CL.out _ _ HJ3.out).mono ?_); rintro e4 w4 ⟨rfl, hb4⟩; have HJ4 := Lib.hid (next HJ3.out hb4); have B4 := Lib.hid (below_of HW.out hb4); clear hb4)
        go_wp2_with fail
        (go_at_call 16; (with_reducible refine (CL2.out _ _ HJ4.out).mono ?_); rintro e5 w5 ⟨rfl, hb5⟩; have HJ5 := Lib.hid (next HJ4.out hb5); have B5 := Lib.hid (below_of B4.out hb5); clear hb5)
        go_wp2_with fail
        (go_at_call 17; (with_reducible refine (CG.out _ _ HJ5.out).mono ?_); rintro e6 w6 ⟨rfl, hb6⟩; have HJ6 := Lib.hid (next HJ5.out hb6); have B6 := Lib.hid (below_of B5.out hb6); clear hb6)
        go_wp2_with fail
        (go_at_call 18; (with_reducible refine (CG2.out _ _ HJ6.out).mono ?_); rintro e7 w7 ⟨rfl, rfl⟩)
        go_wp2_with fail
        (go_at_call 9; (with_reducible refine (HA.out _).mono ?_); rintro e8 w8 ⟨rfl, hb8⟩; have B8 := Lib.hid (below_of B6.out hb8); clear hb8)
        go_wp2_with fail
        go_ret
        exact ⟨rfl, B8.out⟩
  · have HA := Lib.hid awake_any
    obtain ⟨a, c, rfl, _⟩ := h.shape
    rw [bls_len] at *
    have hl' : (400 : Int) < (l.length : Int) := by omega
    clear h hl
    generalize l.length = m at *
    go_enter Try.func4, Try.ntmps4
    go_wp2_with (go_at_call 9; (with_reducible refine (HA.out _).mono ?_); rintro e w4 ⟨rfl, hb⟩)
    go_ret
    exact ⟨rfl, hb⟩
end Go.Proofs.Ytegcekniolajeaa.WK
