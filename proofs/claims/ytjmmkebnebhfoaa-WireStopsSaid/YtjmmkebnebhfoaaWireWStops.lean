/-
  The law of the first error, walked.
-/
import Derived.Test.YtjmmkebnebhfoaaWireAwake
import Derived.Test.YtjmmkebnebhfoaaWireAct
import Derived.Test.YtjmmkebnebhfoaaWireApp
set_option linter.unusedSimpArgs false
set_option linter.unusedVariables false
namespace Go.Proofs.Ytjmmkebnebhfoaa.WK
open Go.RowKit WM NR

theorem ff_var (l : List UInt8) : rdVar 4294967295 ([255, 255, 255, 255, 255] ++ l) = (4, 0, []) := by
  unfold rdVar
  exact vr_long _ 5 0 0 _ (by intro y hy; simp at hy; subst hy; decide) (by simp)
set_option maxHeartbeats 1000000 in
theorem WireStops_walk (l : List UInt8) (n : Nat) (v va : Value) (w : World) (hr : Reads (· < w.heap.size) w v (u8s l)) (ha : Acts w.heap.size w va n) (hl : l.length ≤ 140737488351232) :
    Calls Try.prog 7 #[v, va] w fun e w' => e = .returned (.bool true) ∧ Below w.heap.size w w' := by
  obtain ⟨i0, hi, hz0, hz1, hz2⟩ := info_parts infoByte
  have HAC := Lib.hid ha
  obtain ⟨a, c, rfl, _, _⟩ := hr.shape
  obtain ⟨aa, ca, rfl, hnca, hcam, _⟩ := ha
  have hn64 : (n : Int) ≤ 9223372036854775807 := by unfold maxLen at hcam; omega
  rw [u8s_len] at *
  have hown := World.ownsRow_lit (e := 5) (base := w.heap.size) (size := 1) w #[.int .u8 255, .int .u8 255, .int .u8 255, .int .u8 255, .int .u8 255] 5 (Nat.le_refl _) (by simp [maxLen]) rfl
  have hnm : 5 + (u8s l).length ≤ maxLen := by rw [u8s_len]; unfold maxLen; omega
  have hnb : (5 + (u8s l).length) * 1 ≤ 140737488355328 := by rw [u8s_len]; omega
  have hra := hr.alloc (.cells #[.int .u8 255, .int .u8 255, .int .u8 255, .int .u8 255, .int .u8 255] 5)
  clear hr hcam hnca
  go_enter Try.func7, Try.ntmps7
  go_wp2_with (at_builtin; refine wpList_append_reads _ rfl _ _ 24 rfl w.heap.size 5 i0 (.int .u8 0) 1 Try.underlying24 hi hz0 hz1 hz2 rfl _ _ _ rfl hown _ _ (u8s l) rfl hra (u8s_one _) hnm hnb (by simp) ?_)
  intro v1 w1 hown1 hgrow
  have hb1 : Below w.heap.size w w1 := (below_new w _).grown hgrow (by simp) (fun g hg => (hown.lt g hg).1)
  have hown1' : w1.ownsRow w.heap.size 5 1 v1 ([255, 255, 255, 255, 255] ++ l).length (u8s ([255, 255, 255, 255, 255] ++ l)) := by
    rw [u8s_len] at hown1
    have e : ([255, 255, 255, 255, 255] ++ l : List UInt8).length = 5 + l.length := by simp; omega
    rw [e, u8s_append]
    exact hown1
  have hrd1 : Reads (· < w1.heap.size) w1 v1 (u8s ([255, 255, 255, 255, 255] ++ l)) := (Reads.of_owns hown1').there.mono fun g hg => hg.2
  have CN := Lib.hid (new_any ([255, 255, 255, 255, 255] ++ l) v1 w1 hrd1 (by simp; omega))
  obtain ⟨a1, n1, c1, rfl⟩ := hrd1.form
  have HB1 := Lib.hid hb1
  clear hown1 hown1' hgrow hrd1 hb1 hown hra
  go_wp2_with fail
  refine CN.out.mono ?_
  rintro e w2 ⟨p, rfl, hp, hr2, hb2⟩
  have HB2 := Lib.hid (below_of HB1.out hb2)
  have HP : Hid (w.heap.size ≤ p) := Nat.le_trans HB1.out.size hp
  have CV := Lib.hid (rVar_st w2 p ([255, 255, 255, 255, 255] ++ l) [] 0 4 0 4294967295 hr2 (by omega) (by simp; omega) (by unfold stVar; rw [if_pos rfl]; exact ff_var l))
  clear hr2 hb2 hp CN
  go_wp2_with fail
  refine CV.out.mono ?_
  rintro e w3 ⟨rfl, hg3, hr3⟩
  have HB3 := Lib.hid (below_then HB2.out hg3 HP.out HB2.out.size)
  have HR3 := Lib.hid hr3
  have CE := Lib.hid (err_any w3 p [] 4 hr3)
  clear hg3 hr3 CV
  go_wp2_with (go_at_call 20; refine CE.out.mono ?_; rintro e w' ⟨rfl, rfl⟩)
  clear CE
  go_loopw [7] (fun i wr => ∃ k : Nat, k ≤ n ∧ i = .int .i64 (k : Int) ∧ Hid (Below w.heap.size w wr) ∧ Hid (Rd wr p [] 4)) (fun i _ => n - (intOf i).toNat)
  case atStart => exact ⟨0, by omega, rfl, HB3.out, HR3.out⟩
  case round =>
    obtain ⟨k, hk, rfl, HB, HR⟩ := hrel
    by_cases hlt : k < n
    · have hlt' : (k : Int) < n := by omega
      obtain ⟨aa', ca', ea, hca, _, hrest⟩ := HAC.out.keep HB.out
      simp only [Value.slice.injEq, true_and] at ea
      obtain ⟨rfl, rfl⟩ := ea
      rcases hrest with hn0 | ⟨ga, offa, rfl, hga, hcells⟩
      · omega
      · obtain ⟨K, Mo, k1, k2, k3, k4, ck0, ck1⟩ := hcells k hlt
        have D0 := Lib.hid (fun (u : World) (hu : Below wr.heap.size wr u) => dead_of (HR.out.keep hu) (show (4 : Nat) ≠ 0 by decide))
        have hb0 := Below.refl wr.heap.size wr
        have hq := Lib.hid HR.out.lt
        clear hcells hca
        go_wp2_with (first | (go_at_call 22; refine (rvar_dead _ _ 4 (D0.out _ hb0) _).mono ?_; rintro e w4 ⟨rfl, hb4⟩; have hb0 := below_of hb0 hb4; clear hb4) | (go_at_call 23; refine (rtext_dead _ _ 4 (D0.out _ hb0) _).mono ?_; rintro e w4 ⟨rfl, hb4⟩; have hb0 := below_of hb0 hb4; clear hb4) | (go_at_call 24; refine (rword_dead _ _ 4 (D0.out _ hb0)).mono ?_; rintro e w4 ⟨rfl, hb4⟩; have hb0 := below_of hb0 hb4; clear hb4) | (go_at_call 25; refine (rwords_dead _ _ 4 (D0.out _ hb0) _).mono ?_; rintro e w4 ⟨rfl, hb4⟩; have hb0 := below_of hb0 hb4; clear hb4) | (go_at_call 21; refine (rleft_dead _ _ 4 (D0.out _ hb0)).mono ?_; rintro e w4 ⟨rfl, hb4⟩; have hb0 := below_of hb0 hb4; clear hb4) | (go_at_call 20; refine (err_dead _ _ 4 (D0.out _ hb0)).mono ?_; rintro e w4 ⟨rfl, rfl⟩))
        go_roundw
        case rel => exact ⟨k + 1, by omega, by go_num, below_of HB.out hb0, HR.out.keep hb0⟩
        case measure => simp [intOf]; omega
    · have hnk : ¬ (k : Int) < n := by omega
      have D00 : ∀ u : World, Dead u none 1 := fun u => Or.inl ⟨rfl, rfl⟩
      have D0 := Lib.hid D00
      clear D00
      have hb0 := Below.refl wr.heap.size wr
      go_wp2_with (first | (go_at_call 22; refine (rvar_dead _ _ 1 (D0.out _) _).mono ?_; rintro e w4 ⟨rfl, hb4⟩; have hb0 := below_of hb0 hb4; clear hb4) | (go_at_call 23; refine (rtext_dead _ _ 1 (D0.out _) _).mono ?_; rintro e w4 ⟨rfl, hb4⟩; have hb0 := below_of hb0 hb4; clear hb4) | (go_at_call 24; refine (rword_dead _ _ 1 (D0.out _)).mono ?_; rintro e w4 ⟨rfl, hb4⟩; have hb0 := below_of hb0 hb4; clear hb4) | (go_at_call 25; refine (rwords_dead _ _ 1 (D0.out _) _).mono ?_; rintro e w4 ⟨rfl, hb4⟩; have hb0 := below_of hb0 hb4; clear hb4) | (go_at_call 21; refine (rleft_dead _ _ 1 (D0.out _)).mono ?_; rintro e w4 ⟨rfl, hb4⟩; have hb0 := below_of hb0 hb4; clear hb4) | (go_at_call 20; refine (err_dead _ _ 1 (D0.out _)).mono ?_; rintro e w4 ⟨rfl, rfl⟩) | (go_at_call 17; refine (awakeS _).mono ?_; rintro e w4 ⟨rfl, hb4⟩; have hb0 := below_of hb0 hb4; clear hb4))
      go_ret
      exact ⟨rfl, below_of HB.out hb0⟩
end Go.Proofs.Ytjmmkebnebhfoaa.WK
