/-
  The walk of AllocFits. Nothing here is a statement of the seed.
-/
import Derived.Test.YtegcekniolajeaaAllocFits
set_option linter.unusedSimpArgs false
set_option linter.unusedVariables false
namespace Go.Proofs.Ytegcekniolajeaa.WK
open Go.RowKit AL NR AF

theorem own_i64s {W : World} {B : Nat} {t : TypeId} {v : Value} {l : List Int} (h : W.ownsRow B t 1 v (0 + (i64s l).length) ([] ++ i64s l)) : W.ownsRow B t 1 v l.length (i64s l) := by
  rw [Nat.zero_add, List.nil_append, i64s_len] at h
  exact h
theorem AllocFits_high (a : Option Addr) (m c : Nat) (a2 : Option Addr) (n c2 : Nat) (hx : ¬ (m ≤ 200 ∧ n ≤ 20)) (w : World) :
    Calls Try.prog 5 #[.slice a m c, .slice a2 n c2] w fun e w' => e = .returned (.bool true) ∧ Below w.heap.size w w' := by
  have HA := Lib.hid awake_any
  by_cases h : (200 : Int) < (m : Int)
  · clear hx
    go_enter Try.func5, Try.ntmps5
    go_wp2_with (go_at_call 9; (with_reducible refine (HA.out _).mono ?_); rintro e w4 ⟨rfl, hb⟩)
    go_ret
    exact ⟨rfl, hb⟩
  · have h2 : (20 : Int) < (n : Int) := by omega
    have h1 : decide ((200 : Int) < (m : Int)) = false := decide_eq_false h
    clear hx h
    go_enter Try.func5, Try.ntmps5
    go_wp2_with (go_at_call 9; (with_reducible refine (HA.out _).mono ?_); rintro e w4 ⟨rfl, hb⟩)
    go_ret
    exact ⟨rfl, hb⟩
set_option maxHeartbeats 4000000 in
theorem AllocFits_walk (l : List Bool) (v : Value) (ns : List Int) (u : Value) (w : World) (hv : Reads (· < w.heap.size) w v (bls l)) (hu : Reads (· < w.heap.size) w u (i64s ns)) (hbn : ∀ z ∈ ns, -9223372036854775808 ≤ z ∧ z ≤ 9223372036854775807) :
    Calls Try.prog 5 #[v, u] w fun e w' => e = .returned (.bool true) ∧ Below w.heap.size w w' := by
  by_cases hl : l.length ≤ 200 ∧ ns.length ≤ 20
  · obtain ⟨hl, hns⟩ := hl
    have hbd : ∀ i, ns.getD i 0 ≤ 9223372036854775807 := fun i => by
      by_cases h : i < ns.length
      · have := (hbn ns[i] (List.getElem_mem h)).2
        simpa [h] using this
      · simp at h; simp [h]
    obtain ⟨i0, hi, hz0, hz1, hz2⟩ := info_parts infoB
    obtain ⟨j0, hj, hy0, hy1, hy2⟩ := info_parts infoI
    have CF := Lib.hid (fun (w1 : World) (x y : Value) (hx : Reads (· < w1.heap.size) w1 x (bls l)) (hy : Reads (· < w1.heap.size) w1 y (i64s ns)) => fits_any l x ns y w1 hx hy (by omega) hns)
    have CR := Lib.hid (fun (w1 : World) (x y : Value) (hx : Reads (· < w1.heap.size) w1 x (bls l)) (hy : Reads (· < w1.heap.size) w1 y (i64s ns)) => refFits_any l x ns y w1 hx hy hl hns hbd)
    have CS := Lib.hid (fun (u : World) (x y : Value) (hx : Reads (· < u.heap.size) u x (bls l)) (hy : Reads (· < u.heap.size) u y (bls l)) => same_any l x y u hx hy (by omega))
    have HA := Lib.hid awake_any
    have hA0 := below_new w (.cells #[] 4)
    have HR := Lib.hid (next hv hA0)
    have HO := Lib.hid (own_empty w 4)
    have HV := Lib.hid hv
    have HU := Lib.hid hu
    obtain ⟨a, c, rfl, _⟩ := hv.shape
    obtain ⟨a2, c2, rfl, hnc2, hcm2⟩ := hu.shape
    clear hv hu hbn hbd
    rw [bls_len] at *
    rw [i64s_len] at *
    have h1 := Lib.hid (bls_one l)
    have h2 := Lib.hid (i64s_one ns)
    have hl3 : (l.length : Int) ≤ 200 := by omega
    have hz3 : (ns.length : Int) ≤ 20 := by omega
    have hd1 : decide ((200 : Int) < (l.length : Int)) = false := decide_eq_false (by omega)
    have hd2 : decide ((20 : Int) < (ns.length : Int)) = false := decide_eq_false (by omega)
    generalize fitL l ns = ans at *
    unfold maxLen at hcm2
    go_enter Try.func5, Try.ntmps5
    go_wp2_with (first | (at_builtin; refine wpList_append_reads _ rfl (.tmp 18) (.tmp 19) 22 rfl w.heap.size 4 i0 (.bool false) 1 Try.underlying22 hi hz0 hz1 hz2 rfl (.slice (some ⟨w.heap.size, 0, none⟩) 0 0) 0 [] rfl HO.out _ _ (bls l) rfl HR.out h1.out (by rw [bls_len]; unfold maxLen; omega) (by rw [bls_len]; omega) (by simp) ?_; intro v' w1 hown hgrow; replace hown := own_bls hown; have hb1 := hA0.grown hgrow (by simp) (fun g hg => by simp [Value.ownBlock] at hg; omega); obtain ⟨a', c', rfl⟩ := owns_form' hown; have hA1 := below_new w1 (.cells #[] 3); have HI := Lib.hid (copied_reads (w := w) hown); have HV1 := Lib.hid (next HV.out hb1); have HUw := Lib.hid (next HU.out hb1); have HU1 := Lib.hid (next HUw.out hA1); have HO1 := Lib.hid (own_empty w1 3); clear hown hgrow) | (at_builtin; refine wpList_append_reads _ rfl (.tmp 21) (.tmp 22) 36 rfl w1.heap.size 3 j0 (.int .i64 0) 8 Try.underlying36 hj hy0 hy1 hy2 rfl (.slice (some ⟨w1.heap.size, 0, none⟩) 0 0) 0 [] rfl HO1.out _ _ (i64s ns) rfl HU1.out h2.out (by rw [i64s_len]; unfold maxLen; omega) (by rw [i64s_len]; omega) (by simp) ?_; intro v2 w2 hown hgrow; replace hown := own_i64s hown; have hbg := hA1.grown hgrow (by simp) (fun g hg => by simp [Value.ownBlock] at hg; omega); have HI2 := Lib.hid (next HI.out hbg); have HV2 := Lib.hid (next HV1.out hbg); have HU2 := Lib.hid (next HUw.out hbg); have hb2 := below_of hb1 hbg; obtain ⟨a3, c3, rfl⟩ := owns_form' hown; have HS := Lib.hid (copied_reads (w := w) hown); clear hown hgrow hbg))
    (go_at_call 19; (with_reducible refine (CF.out _ _ _ HI2.out HS.out).mono ?_); rintro e3 w3 ⟨rfl, hb⟩; have HI3 := Lib.hid (next HI2.out hb); have HV3 := Lib.hid (next HV2.out hb); have HU3 := Lib.hid (next HU2.out hb); have HS3 := Lib.hid (next HS.out hb); have B3 := Lib.hid (below_of hb2 hb); clear hb)
    go_wp2_with fail
    go_loopw [8] (fun x wr => ∃ i : Nat, i ≤ ns.length ∧ x = .int .i64 (i : Int) ∧ Below w3.heap.size w3 wr) (fun x _ => ns.length - (intOf x).toNat)
    case atStart => exact ⟨0, by omega, rfl, Below.refl _ _⟩
    case round =>
      obtain ⟨i, hi', rfl, hb⟩ := hrel
      by_cases hlt : i < ns.length
      · have hne : i64s ns ≠ [] := by intro e; have := congrArg List.length e; rw [i64s_len] at this; simp at this; rw [this] at hlt; simp at hlt
        obtain ⟨p, off, cp, e1, hp, hp1, hp2, hc⟩ := HS3.out.cells hne
        obtain ⟨p2, off2, cp2, e2, hpp, hpp1, hpp2, hc2⟩ := HU3.out.cells hne
        simp only [Value.slice.injEq] at e1 e2
        obtain ⟨rfl, e3, rfl⟩ := e1
        obtain ⟨rfl, e4, rfl⟩ := e2
        clear e3 e4 hp1 hp2 hpp1 hpp2
        have c1 := (hb.cell (p := ⟨p, off + i, none⟩) hp).trans (reads_num (G := (· < w3.heap.size)) hc i hlt)
        have c2 := (hb.cell (p := ⟨p2, off2 + i, none⟩) hpp).trans (reads_num (G := (· < w3.heap.size)) hc2 i hlt)
        have hlt' : (i : Int) < ns.length := by omega
        have hi0 : (0 : Int) ≤ i := by omega
        clear hc hc2 hne
        generalize ns.getD i 0 = n at *
        have hne : (n != n) = false := by simp
        go_wp2_with fail
        go_quiet (fail)
        go_wp2_with fail
        go_roundw
        case rel => exact ⟨i + 1, by omega, by go_num, below_drewN hb _⟩
        case measure => simp [intOf]; omega
      · obtain rfl : i = ns.length := by omega
        have HI4 := Lib.hid (next HI3.out hb)
        have HV4 := Lib.hid (next HV3.out hb)
        have HU4 := Lib.hid (next HU3.out hb)
        have B4 := Lib.hid (below_of B3.out hb)
        go_wp2_with fail
        (go_at_call 20; (with_reducible refine (CR.out _ _ _ HV4.out HU4.out).mono ?_); rintro e5 w5 ⟨rfl, hb5⟩; have HI5 := Lib.hid (next HI4.out hb5); have HV5 := Lib.hid (next HV4.out hb5); have B5 := Lib.hid (below_of B4.out hb5); clear hb5)
        have hself : (ans == ans) = true := by cases ans <;> rfl
        go_wp2_with fail
        (go_at_call 12; (with_reducible refine (CS.out _ _ _ HI5.out HV5.out).mono ?_); rintro e6 w6 ⟨rfl, hb6⟩; have B6 := Lib.hid (below_of B5.out hb6); clear hb6)
        go_wp2_with fail
        (go_at_call 9; (with_reducible refine (HA.out _).mono ?_); rintro e8 w8 ⟨rfl, hb8⟩; have B8 := Lib.hid (below_of B6.out hb8); clear hb8)
        go_wp2_with fail
        go_ret
        exact ⟨rfl, B8.out⟩
  · obtain ⟨a, c, rfl, _⟩ := hv.shape
    obtain ⟨a2, c2, rfl, _⟩ := hu.shape
    rw [bls_len]
    rw [i64s_len]
    exact AllocFits_high _ _ _ _ _ _ hl w
end Go.Proofs.Ytegcekniolajeaa.WK
