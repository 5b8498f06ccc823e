/-
  The walk of AllocCounts. Nothing here is a statement of the seed.
-/
import Derived.Test.YtegcekniolajeaaAllocWFinds
set_option linter.unusedSimpArgs false
set_option linter.unusedVariables false
namespace Go.Proofs.Ytegcekniolajeaa.WK
open Go.RowKit AL NR AF

theorem wrap_i64 {x : Int} (h1 : -9223372036854775808 ≤ x) (h2 : x ≤ 9223372036854775807) : IntKind.i64.wrap x = x := IntWalk.i64_in _ (by omega)
theorem rise_at {N : Nat} : ∀ (l : List Pr) (i : Nat) (e : Int), Rise N e (l.drop i) → i < l.length → e < ((l.getD i (0, 0)).1 : Int) ∧ 1 ≤ (l.getD i (0, 0)).2 ∧ (l.getD i (0, 0)).1 + (l.getD i (0, 0)).2 ≤ N ∧ Rise N (((l.getD i (0, 0)).1 : Int) + (l.getD i (0, 0)).2) (l.drop (i + 1)) := by
  intro l i e h hi
  rw [List.drop_eq_getElem_cons hi] at h
  have e1 : l.getD i (0, 0) = l[i] := by simp [hi]
  rw [e1]
  exact h
theorem sum_at (l : List Pr) (i : Nat) (h : i < l.length) : sum (l.take (i + 1)) = sum (l.take i) + (l.getD i (0, 0)).2 := by
  rw [List.take_add_one, sum_append, List.getElem?_eq_getElem h]
  simp [sum, h]
theorem sum_take_le : ∀ (l : List Pr) (i : Nat), sum (l.take i) ≤ sum l
  | [], i => by simp
  | p :: r, 0 => by simp [sum]
  | p :: r, i + 1 => by have := sum_take_le r i; simp only [List.take_succ_cons, sum]; omega
set_option maxHeartbeats 4000000 in
theorem AllocCounts_walk (l : List Bool) (v : Value) (w : World) (h : Reads (· < w.heap.size) w v (bls l)) :
    Calls Try.prog 7 #[v] w fun e w' => e = .returned (.bool true) ∧ Below w.heap.size w w' := by
  by_cases hl : l.length ≤ 400
  · have CR := Lib.hid (allRuns_any l v w h hl)
    have CG := Lib.hid (fun (u : World) (x : Value) (hx : Reads (· < u.heap.size) u x (bls l)) => free_any l x u hx hl)
    have CL := Lib.hid (fun (u : World) (x : Value) (hx : Reads (· < u.heap.size) u x (bls l)) => longest_any l x u hx hl)
    have HA := Lib.hid awake_any
    have hRl := R_len l
    have hs := sum_R l
    have hbs := big_le_sum (R l)
    have hfl := fre_le l
    have HRI := Lib.hid (rise_R l)
    have H := Lib.hid h
    obtain ⟨a, c, rfl, _⟩ := h.shape
    clear h
    rw [bls_len] at *
    generalize hq : R l = rs at *
    have HQ := Lib.hid hq
    clear hq
    generalize hm : l.length = m at *
    clear hm
    have hm3 : (m : Int) ≤ 400 := by omega
    have HS1 := Lib.hid (fun i hi => sum_at rs i hi)
    have HS2 := Lib.hid (fun i => sum_take_le rs i)
    have HRA := Lib.hid (fun i e => rise_at (N := m) rs i e)
    go_enter Try.func7, Try.ntmps7
    go_wp2_with (go_at_call 13; refine CR.out.mono ?_; rintro e w1 ⟨u, rfl, hown, hb⟩; rw [HQ.out] at hown; have hprs := Prs.of_owns hown; obtain ⟨b, cap, rfl, hlc, hcm, hcs⟩ := hprs.form; have HC := Lib.hid hcs; have HJ := Lib.hid (next H.out hb); clear hown hcs hprs)
    unfold maxLen at hcm
    have hr3 : (rs.length : Int) ≤ 400 := by omega
    go_loopw [4, 5, 6] (fun x y z wr => ∃ (i : Nat) (e : Int), i ≤ rs.length ∧ z = .int .i64 (i : Int) ∧ y = .int .i64 e ∧ x = .int .i64 ((sum (rs.take i) : Nat) : Int) ∧ Hid (Rise m e (rs.drop i)) ∧ Below w1.heap.size w1 wr) (fun _ _ z _ => rs.length - (intOf z).toNat)
    case atStart => exact ⟨0, -1, by omega, rfl, rfl, rfl, Lib.hid HRI.out, Below.refl _ _⟩
    case round =>
      obtain ⟨i, e, hi, rfl, rfl, rfl, hri, hbw⟩ := hrel
      by_cases hlt : i < rs.length
      · rcases HC.out with h0 | ⟨g, rfl, hg, hc⟩
        · subst h0; simp at hlt
        · obtain ⟨c0', c1'⟩ := hc i hlt
          have c0 := (hbw.cell (p := ⟨g, i * 2, none⟩) hg.2).trans c0'
          have c1 := (hbw.cell (p := ⟨g, i * 2 + 1, none⟩) hg.2).trans c1'
          obtain ⟨r1, r2, r3, r4⟩ := HRA.out i e hri.out hlt
          have HM1 := Lib.hid (HS1.out i hlt)
          have hsb := HS2.out (i + 1)
          rw [HM1.out] at hsb
          have hlt' : (i : Int) < rs.length := by omega
          have hi0 : (0 : Int) ≤ i := by omega
          clear hc c0' c1'
          generalize hp : rs.getD i (0, 0) = p at *
          clear hp
          obtain ⟨f, k⟩ := p
          simp only at c0 c1 r1 r2 r3 r4 hsb
          have g1 : decide ((f : Int) ≤ e) = false := decide_eq_false (by omega)
          have g2 : decide ((k : Int) < 1) = false := decide_eq_false (by omega)
          have g3 : decide ((f : Int) < 0) = false := decide_eq_false (by omega)
          have g4 : decide ((m : Int) - f < k) = false := decide_eq_false (by omega)
          have hfk : (f : Int) + k ≤ 400 := by omega
          have hf0 : (0 : Int) ≤ f := by omega
          have hk0 : (0 : Int) ≤ k := by omega
          have hsk : ((sum (rs.take i) : Nat) : Int) + k ≤ 400 := by omega
          have e1 : Hid (((sum (rs.take (i + 1)) : Nat) : Int) = (sum (rs.take i) : Nat) + k) := Lib.hid (by rw [HM1.out]; omega)
          have HR4 := Lib.hid r4
          clear r4 r1 r2 r3 hsb HM1
          go_wp2_with fail
          go_quiet (fail)
          have hbw' := below_drewN hbw nq
          have c0' : (wr.drewN nq).cell? ⟨g, i * 2, none⟩ = _ := c0
          have c1' : (wr.drewN nq).cell? ⟨g, i * 2 + 1, none⟩ = _ := c1
          clear c0 c1
          generalize wr.drewN nq = W2 at *
          go_wp2_with fail
          have hwr : IntKind.i64.wrap ((f : Int) + k) = f + k := wrap_i64 (by omega) (by omega)
          go_quiet (fail)
          have hbw2 := below_drewN hbw' nq
          clear c0' c1' hwr
          generalize W2.drewN nq = W3 at *
          go_wp2_with fail
          go_roundw
          case rel => exact ⟨i + 1, (f : Int) + k, by omega, by go_num, rfl, by rw [e1.out], HR4, hbw2⟩
          case measure => simp [intOf]; omega
      · obtain rfl : i = rs.length := by omega
        have HW := Lib.hid (below_of hb (hbw.mono (Nat.le_refl _)))
        have HJ2 := Lib.hid (next HJ.out hbw)
        have htk : rs.take rs.length = rs := List.take_length
        rw [htk]
        clear hri htk
        have hs1 : (sum rs : Int) = fre l := by omega
        have hs2 : (fre l : Int) ≤ m := by omega
        have hs3 : (big rs : Int) ≤ fre l := by omega
        rw [hs1, HQ.out] at *
        clear hs hbs hs1
        generalize fre l = z1 at *
        generalize big rs = z2 at *
        go_wp2_with fail
        (go_at_call 17; (with_reducible refine (CG.out _ _ HJ2.out).mono ?_); rintro e4 w4 ⟨rfl, hb4⟩; have HJ4 := Lib.hid (next HJ2.out hb4); have B4 := Lib.hid (below_of HW.out hb4); clear hb4)
        go_wp2_with fail
        (go_at_call 17; (with_reducible refine (CG.out _ _ HJ4.out).mono ?_); rintro e5 w5 ⟨rfl, hb5⟩; have HJ5 := Lib.hid (next HJ4.out hb5); have B5 := Lib.hid (below_of B4.out hb5); clear hb5)
        go_wp2_with fail
        (go_at_call 15; (with_reducible refine (CL.out _ _ HJ5.out).mono ?_); rintro e6 w6 ⟨rfl, hb6⟩; have B6 := Lib.hid (below_of B5.out hb6); clear hb6)
        go_wp2_with fail
        (go_at_call 9; (with_reducible refine (HA.out _).mono ?_); rintro e8 w8 ⟨rfl, hb8⟩; have B8 := Lib.hid (below_of B6.out hb8); clear hb8)
        go_wp2_with fail
        go_ret
        exact ⟨rfl, B8.out⟩
  · have HA := Lib.hid awake_any
    obtain ⟨a, c, rfl, _⟩ := h.shape
    rw [bls_len] at *
    have hl' : (400 : Int) < (l.length : Int) := by omega
    clear h hl
    generalize l.length = m at *
    go_enter Try.func7, Try.ntmps7
    go_wp2_with (go_at_call 9; (with_reducible refine (HA.out _).mono ?_); rintro e w4 ⟨rfl, hb⟩)
    go_ret
    exact ⟨rfl, hb⟩
end Go.Proofs.Ytegcekniolajeaa.WK
