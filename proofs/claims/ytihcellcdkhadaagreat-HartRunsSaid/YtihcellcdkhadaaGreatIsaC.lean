/-
  Joined texts: IsaEnc, IsaDec, IsaTgt. Nothing here is a statement of the seed.
-/
import Derived.Test.YtihcellcdkhadaaGreatIsaB
set_option linter.unusedSimpArgs false
set_option linter.unusedVariables false
/-
  The words of instructions: the program's and the reference's. Nothing here is a statement of the seed.
-/
namespace Go.Proofs.YtihcellcdkhadaaGreat.IF
open Go.RowKit WM IM WF

theorem fit_far (m : Int) : fitB m 21 = decide (-1048576 ≤ m ∧ m < 1048576) := by simp [fitB]
theorem refCheck_any (o d a b m : Int) (h : Fit o d a b m) :
    Says Tryz.prog 90 #[insV o d a b m] (.int .i64 (chk o d a b m)) := by
  have C := refUses_any o h.1
  obtain ⟨⟨h1, h2⟩, ⟨h3, h4⟩, ⟨h5, h6⟩, ⟨h7, h8⟩, h9, h10⟩ := h
  by_cases ho : 21 < o ∨ 7 < d ∨ 7 < a ∨ 7 < b
  · have e : chk o d a b m = 10 := by
      have : badB o d a b m = true := by unfold badB; rw [decide_eq_true_eq]; omega
      unfold chk
      rw [if_pos this]
    rw [e]
    exact refCheck_out o d a b m _ _ _ _ C ho
  · have hi : In7 o d a b m := by unfold In7; omega
    have hp : (o = 0 ∨ o = 1 ∨ o = 18 ∨ o = 20) ∨ o = 2 ∨ (3 ≤ o ∧ o ≤ 10) ∨ ((11 ≤ o ∧ o ≤ 13) ∨ o = 15 ∨ o = 16) ∨ (o = 14 ∨ o = 17 ∨ o = 21) ∨ o = 19 := by omega
    rcases hp with hp | hp | hp | hp | hp | hp
    · rw [show uD o = false by unfold uD; simp; omega, show uA o = false by unfold uA; simp; omega, show uB o = false by unfold uB; simp; omega, show uI o = false by unfold uI; simp; omega] at C
      refine refCheck_none o d a b m _ C hi (by simp; omega) (by simp; omega) ?_
      unfold chk badB farB
      rw [fit_far]
      simp only [decide_eq_true_eq]
      (repeat' split) <;> omega
    · rw [show uD o = true by unfold uD; simp; omega, show uA o = false by unfold uA; simp; omega, show uB o = false by unfold uB; simp; omega, show uI o = true by unfold uI; simp; omega] at C
      refine refCheck_li o d a b m _ C hi (by simp; omega) (by simp; omega) ?_
      unfold chk badB farB
      rw [fit_far]
      simp only [decide_eq_true_eq]
      (repeat' split) <;> omega
    · rw [show uD o = true by unfold uD; simp; omega, show uA o = true by unfold uA; simp; omega, show uB o = true by unfold uB; simp; omega, show uI o = false by unfold uI; simp; omega] at C
      refine refCheck_dab o d a b m _ C hi (by simp; omega) (by simp; omega) ?_
      unfold chk badB farB
      rw [fit_far]
      simp only [decide_eq_true_eq]
      (repeat' split) <;> omega
    · rw [show uD o = true by unfold uD; simp; omega, show uA o = true by unfold uA; simp; omega, show uB o = false by unfold uB; simp; omega, show uI o = true by unfold uI; simp; omega] at C
      refine refCheck_dai o d a b m _ C hi (by simp; omega) (by simp; omega) ?_
      unfold chk badB farB
      rw [fit_far]
      simp only [decide_eq_true_eq]
      (repeat' split) <;> omega
    · rw [show uD o = false by unfold uD; simp; omega, show uA o = false by unfold uA; simp; omega, show uB o = false by unfold uB; simp; omega, show uI o = true by unfold uI; simp; omega] at C
      refine refCheck_imm o d a b m _ C hi hp ?_
      unfold chk badB farB
      rw [fit_far]
      simp only [decide_eq_true_eq]
      (repeat' split) <;> omega
    · rw [show uD o = false by unfold uD; simp; omega, show uA o = true by unfold uA; simp; omega, show uB o = false by unfold uB; simp; omega, show uI o = false by unfold uI; simp; omega] at C
      refine refCheck_jr o d a b m _ C hi (by simp; omega) (by simp; omega) ?_
      unfold chk badB farB
      rw [fit_far]
      simp only [decide_eq_true_eq]
      (repeat' split) <;> omega
theorem withI (x a n v r : Int) (hx : 0 ≤ x ∧ x < 4294967296) (hv : 0 ≤ v) (h : 0 ≤ a ∧ 0 ≤ n ∧ a + n ≤ 32) (hr : ((putN x.toNat a.toNat n.toNat v.toNat : Nat) : Int) = r) (w : World) :
    Calls Tryz.prog 104 #[.int .u32 x, .int .i64 a, .int .i64 n, .int .u32 v] w fun e w' => e = .returned (.int .u32 r) ∧ w = w' := by
  subst hr
  obtain ⟨y, rfl⟩ := Int.eq_ofNat_of_zero_le hx.1
  obtain ⟨u, rfl⟩ := Int.eq_ofNat_of_zero_le hv
  exact (wordWith_yes y a n u w (by omega) h).mono fun e w' ⟨he, hw⟩ => ⟨by simpa using he, hw.symm⟩
theorem refWithI (x a n v r : Int) (hx : 0 ≤ x ∧ x < 4294967296) (hv : 0 ≤ v ∧ v < 4294967296) (h : 0 ≤ a ∧ 0 ≤ n ∧ a + n ≤ 32) (hr : ((putN x.toNat a.toNat n.toNat v.toNat : Nat) : Int) = r) (w : World) :
    Calls Tryz.prog 113 #[.int .u32 x, .int .i64 a, .int .i64 n, .int .u32 v] w fun e w' => e = .returned (.int .u32 r) ∧ w = w' := by
  subst hr
  obtain ⟨y, rfl⟩ := Int.eq_ofNat_of_zero_le hx.1
  obtain ⟨u, rfl⟩ := Int.eq_ofNat_of_zero_le hv.1
  exact (refWith_yes y a n u w (by omega) (by omega) h).mono fun e w' ⟨he, hw⟩ => ⟨by simpa using he, hw.symm⟩
/-- the word as far as the register A -/
theorem heads {o d a b m : Int} (h : InsOk o d a b m) : ((putN 0 27 5 o.toNat : Nat) : Int) = 134217728 * o ∧ ((putN (134217728 * o).toNat 24 3 d.toNat : Nat) : Int) = 134217728 * o + 16777216 * d ∧
    ((putN (134217728 * o + 16777216 * d).toNat 21 3 a.toNat : Nat) : Int) = 134217728 * o + 16777216 * d + 2097152 * a := by
  unfold InsOk at h
  refine ⟨?_, ?_, ?_⟩
  · rw [put1 _ (by omega)]; omega
  · rw [show (134217728 * o).toNat = 134217728 * o.toNat by omega, put2 _ _ (by omega) (by omega)]; omega
  · rw [show (134217728 * o + 16777216 * d).toNat = 16777216 * (8 * o.toNat + d.toNat) by omega, put3 _ _ (by omega) (by omega)]; omega
theorem tail_b {o d a b m : Int} (h : InsOk o d a b m) (hB : 3 ≤ o ∧ o ≤ 10) : ((putN (134217728 * o + 16777216 * d + 2097152 * a).toNat 0 3 b.toNat : Nat) : Int) = enc o d a b m ∧ ((putN (134217728 * o + 16777216 * d + 2097152 * a).toNat 0 21 b.toNat : Nat) : Int) = enc o d a b m := by
  unfold InsOk at h
  rw [show (134217728 * o + 16777216 * d + 2097152 * a).toNat = 2097152 * (64 * o.toNat + 8 * d.toNat + a.toNat) by omega, put4 _ _ (by omega) (by omega), put5 _ _ (by omega) (by omega)]
  unfold enc low
  rw [if_pos hB]
  omega
theorem tail_m {o d a b m : Int} (h : InsOk o d a b m) (hB : ¬ (3 ≤ o ∧ o ≤ 10)) : ((putN (134217728 * o + 16777216 * d + 2097152 * a).toNat 0 21 (cutI m 21).toNat : Nat) : Int) = enc o d a b m := by
  unfold InsOk at h
  rw [cutI_21, show (134217728 * o + 16777216 * d + 2097152 * a).toNat = 2097152 * (64 * o.toNat + 8 * d.toNat + a.toNat) by omega, put4 _ _ (by omega) (by omega)]
  unfold enc low
  rw [if_neg hB]
  omega
theorem good_fit {o d a b m : Int} (h : InsOk o d a b m) : Fit o d a b m := by unfold InsOk at h; unfold Fit; omega
theorem cutM (m : Int) (hm : -1048576 ≤ m ∧ m ≤ 1048575) : 0 ≤ cutI m 21 ∧ cutI m 21 < 4294967296 := by rw [cutI_21]; omega
theorem encode_yes (o d a b m : Int) (h : InsOk o d a b m) :
    Says Tryz.prog 73 #[insV o d a b m] (.tuple #[.int .u32 (enc o d a b m), .int .i64 0]) := by
  intro w
  have C0 := Lib.hid (by have := check_any o d a b m (good_fit h); rw [(chk_good h.1 h.2.2.1 h.2.2.2.2.1 h.2.2.2.2.2.2.1).2 h] at this; exact this)
  have hh := h
  unfold InsOk at hh
  obtain ⟨e1, e2, e3⟩ := heads h
  have C1 := Lib.hid (withI 0 27 5 o _ (by omega) (by omega) (by omega) e1)
  have C2 := Lib.hid (withI (134217728 * o) 24 3 d _ (by omega) (by omega) (by omega) e2)
  have C3 := Lib.hid (withI (134217728 * o + 16777216 * d) 21 3 a _ (by omega) (by omega) (by omega) e3)
  have CU := Lib.hid (fun w => usesB_any o w (by omega))
  have bo : 0 ≤ o ∧ o ≤ 21 := by omega
  have bd : 0 ≤ d ∧ d ≤ 7 := by omega
  have ba : 0 ≤ a ∧ a ≤ 7 := by omega
  have bb : 0 ≤ b ∧ b ≤ 7 := by omega
  have bm : -1048576 ≤ m ∧ m ≤ 1048575 := by omega
  obtain ⟨bo1, bo2⟩ := bo
  obtain ⟨bd1, bd2⟩ := bd
  obtain ⟨ba1, ba2⟩ := ba
  obtain ⟨bb1, bb2⟩ := bb
  obtain ⟨bm1, bm2⟩ := bm
  clear e1 e2 e3
  by_cases hB : 3 ≤ o ∧ o ≤ 10
  · have hu : uB o = true := by unfold uB; simpa using hB
    rw [hu] at CU
    have C4 := Lib.hid (withI (134217728 * o + 16777216 * d + 2097152 * a) 0 3 b _ (by omega) (by omega) (by omega) (tail_b h hB).1)
    clear hh h hB hu
    generalize enc o d a b m = E at *
    generalize 134217728 * o + 16777216 * d + 2097152 * a = x3 at *
    generalize 134217728 * o + 16777216 * d = x2 at *
    generalize 134217728 * o = x1 at *
    go_enter Tryz.func73, Tryz.ntmps73
    go_wp2_with (first | (go_at_call 103; refine (C0.out.at _).mono ?_; rintro e w1 ⟨rfl, hb⟩; obtain ⟨hc, hf⟩ := bcell hb) | (go_at_call 101; refine (CU.out _).mono ?_; rintro e w2 ⟨rfl, rfl⟩) | (go_at_call 104; (first | (with_reducible refine (C1.out _).mono ?_) | (with_reducible refine (C2.out _).mono ?_) | (with_reducible refine (C3.out _).mono ?_) | (with_reducible refine (C4.out _).mono ?_)); rintro e w2 ⟨rfl, rfl⟩))
    exact bodyPost_ret (v := .tuple #[.int .u32 E, .int .i64 0]) (by simp [results, Tryz.results73, go_sem]) rfl ⟨rfl, end_alloc hb⟩
  · have hu : uB o = false := by unfold uB; simpa using hB
    rw [hu] at CU
    have C4 := Lib.hid (withI (134217728 * o + 16777216 * d + 2097152 * a) 0 21 (cutI m 21) _ (by omega) (cutM m ⟨bm1, bm2⟩).1 (by omega) (tail_m h hB))
    have CC := Lib.hid (fun w => wordCut_any m 21 w (by omega) (by omega))
    clear hh h hB hu
    generalize cutI m 21 = c at *
    generalize enc o d a b m = E at *
    generalize 134217728 * o + 16777216 * d + 2097152 * a = x3 at *
    generalize 134217728 * o + 16777216 * d = x2 at *
    generalize 134217728 * o = x1 at *
    go_enter Tryz.func73, Tryz.ntmps73
    go_wp2_with (first | (go_at_call 103; refine (C0.out.at _).mono ?_; rintro e w1 ⟨rfl, hb⟩; obtain ⟨hc, hf⟩ := bcell hb) | (go_at_call 101; refine (CU.out _).mono ?_; rintro e w2 ⟨rfl, rfl⟩) | (go_at_call 105; refine (CC.out _).mono ?_; rintro e w2 ⟨rfl, kc, rfl⟩) | (go_at_call 104; (first | (with_reducible refine (C1.out _).mono ?_) | (with_reducible refine (C2.out _).mono ?_) | (with_reducible refine (C3.out _).mono ?_) | (with_reducible refine (C4.out _).mono ?_)); rintro e w2 ⟨rfl, rfl⟩))
    exact bodyPost_ret (v := .tuple #[.int .u32 E, .int .i64 0]) (by simp [results, Tryz.results73, go_sem]) rfl ⟨rfl, below_drewN (end_alloc hb) kc⟩
theorem encode_no (o d a b m K : Int) (h : Fit o d a b m) (hK : chk o d a b m = K) (h0 : K ≠ 0) :
    Says Tryz.prog 73 #[insV o d a b m] (.tuple #[.int .u32 0, .int .i64 K]) := by
  intro w
  have C0 := Lib.hid (by have := check_any o d a b m h; rw [hK] at this; exact this)
  have hn : (K != 0) = true := by simpa using h0
  clear hK h0 h
  go_enter Tryz.func73, Tryz.ntmps73
  go_wp2_with (first | (go_at_call 103; refine (C0.out.at _).mono ?_; rintro e w1 ⟨rfl, hb⟩; obtain ⟨hc, hf⟩ := bcell hb))
  exact bodyPost_ret (v := .tuple #[.int .u32 0, .int .i64 K]) (by simp [results, Tryz.results73, go_sem]) rfl ⟨rfl, end_alloc hb⟩
theorem indexB4 (x0 x1 x2 x3 : Bool) (w : World) : (Instr.index 139 (.agg #[.bool x0, .bool x1, .bool x2, .bool x3]) (.int .i64 2)).run Tryz.prog w = .ok (.bool x2) w := by kernel_rfl
theorem refEncode_yes (o d a b m : Int) (h : InsOk o d a b m) :
    Says Tryz.prog 89 #[insV o d a b m] (.tuple #[.int .u32 (enc o d a b m), .int .i64 0]) := by
  intro w
  have C0 := Lib.hid (by have := refCheck_any o d a b m (good_fit h); rw [(chk_good h.1 h.2.2.1 h.2.2.2.2.1 h.2.2.2.2.2.2.1).2 h] at this; exact this)
  have hh := h
  unfold InsOk at hh
  obtain ⟨e1, e2, e3⟩ := heads h
  have C1 := Lib.hid (refWithI 0 27 5 o _ (by omega) (by omega) (by omega) e1)
  have C2 := Lib.hid (refWithI (134217728 * o) 24 3 d _ (by omega) (by omega) (by omega) e2)
  have C3 := Lib.hid (refWithI (134217728 * o + 16777216 * d) 21 3 a _ (by omega) (by omega) (by omega) e3)
  have CU := Lib.hid (refUses_any o (by omega))
  have bo : 0 ≤ o ∧ o ≤ 21 := by omega
  have bd : 0 ≤ d ∧ d ≤ 7 := by omega
  have ba : 0 ≤ a ∧ a ≤ 7 := by omega
  have bb : 0 ≤ b ∧ b ≤ 7 := by omega
  have bm : -1048576 ≤ m ∧ m ≤ 1048575 := by omega
  obtain ⟨bo1, bo2⟩ := bo
  obtain ⟨bd1, bd2⟩ := bd
  obtain ⟨ba1, ba2⟩ := ba
  obtain ⟨bb1, bb2⟩ := bb
  obtain ⟨bm1, bm2⟩ := bm
  clear e1 e2 e3
  by_cases hB : 3 ≤ o ∧ o ≤ 10
  · have hu : uB o = true := by unfold uB; simpa using hB
    rw [hu] at CU
    have C4 := Lib.hid (refWithI (134217728 * o + 16777216 * d + 2097152 * a) 0 21 b _ (by omega) (by omega) (by omega) (tail_b h hB).2)
    clear hh h hB hu
    generalize enc o d a b m = E at *
    generalize 134217728 * o + 16777216 * d + 2097152 * a = x3 at *
    generalize 134217728 * o + 16777216 * d = x2 at *
    generalize 134217728 * o = x1 at *
    have ix := indexB4 (uD o) (uA o) true (uI o)
    go_enter Tryz.func89, Tryz.ntmps89
    go_wp2_with (first | (go_at_call 90; refine (C0.out.at _).mono ?_; rintro e w1 ⟨rfl, hb⟩; obtain ⟨hc, hf⟩ := bcell hb) | (go_at_call 87; refine (inw CU.out (w.alloc _) _ hb).mono ?_; rintro e w2 ⟨rfl, hb2⟩; obtain ⟨hc2, hf2⟩ := bcell hb2) | (go_at_call 113; (first | (with_reducible refine (C1.out _).mono ?_) | (with_reducible refine (C2.out _).mono ?_) | (with_reducible refine (C3.out _).mono ?_) | (with_reducible refine (C4.out _).mono ?_)); rintro e w2 ⟨rfl, rfl⟩))
    exact bodyPost_ret (v := .tuple #[.int .u32 E, .int .i64 0]) (by simp [results, Tryz.results89, go_sem]) rfl ⟨rfl, end_alloc hb2⟩
  · have hu : uB o = false := by unfold uB; simpa using hB
    rw [hu] at CU
    have C4 := Lib.hid (refWithI (134217728 * o + 16777216 * d + 2097152 * a) 0 21 (cutI m 21) _ (by omega) (cutM m ⟨bm1, bm2⟩) (by omega) (tail_m h hB))
    have CC := Lib.hid (fun w => refCut_any m 21 w (by omega) (by omega))
    clear hh h hB hu
    generalize cutI m 21 = c at *
    generalize enc o d a b m = E at *
    generalize 134217728 * o + 16777216 * d + 2097152 * a = x3 at *
    generalize 134217728 * o + 16777216 * d = x2 at *
    generalize 134217728 * o = x1 at *
    have ix := indexB4 (uD o) (uA o) false (uI o)
    go_enter Tryz.func89, Tryz.ntmps89
    go_wp2_with (first | (go_at_call 90; refine (C0.out.at _).mono ?_; rintro e w1 ⟨rfl, hb⟩; obtain ⟨hc, hf⟩ := bcell hb) | (go_at_call 87; refine (inw CU.out (w.alloc _) _ hb).mono ?_; rintro e w2 ⟨rfl, hb2⟩; obtain ⟨hc2, hf2⟩ := bcell hb2) | (go_at_call 114; refine (CC.out _).mono ?_; rintro e w3 ⟨rfl, hw⟩; subst hw) | (go_at_call 113; (first | (with_reducible refine (C1.out _).mono ?_) | (with_reducible refine (C2.out _).mono ?_) | (with_reducible refine (C3.out _).mono ?_) | (with_reducible refine (C4.out _).mono ?_)); rintro e w2 ⟨rfl, rfl⟩))
    exact bodyPost_ret (v := .tuple #[.int .u32 E, .int .i64 0]) (by simp [results, Tryz.results89, go_sem]) rfl ⟨rfl, end_alloc hb2⟩
theorem refEncode_no (o d a b m K : Int) (h : Fit o d a b m) (hK : chk o d a b m = K) (h0 : K ≠ 0) :
    Says Tryz.prog 89 #[insV o d a b m] (.tuple #[.int .u32 0, .int .i64 K]) := by
  intro w
  have C0 := Lib.hid (by have := refCheck_any o d a b m h; rw [hK] at this; exact this)
  have hn : (K != 0) = true := by simpa using h0
  clear hK h0 h
  go_enter Tryz.func89, Tryz.ntmps89
  go_wp2_with (first | (go_at_call 90; refine (C0.out.at _).mono ?_; rintro e w1 ⟨rfl, hb⟩; obtain ⟨hc, hf⟩ := bcell hb))
  exact bodyPost_ret (v := .tuple #[.int .u32 0, .int .i64 K]) (by simp [results, Tryz.results89, go_sem]) rfl ⟨rfl, end_alloc hb⟩
end Go.Proofs.YtihcellcdkhadaaGreat.IF

/-
  The instructions of words: the program's and the reference's. Nothing here is a statement of the seed.
-/
namespace Go.Proofs.YtihcellcdkhadaaGreat.IF
open Go.RowKit WM IM WF

theorem bitsS (x a n r : Int) (hx : 0 ≤ x ∧ x < 4294967296) (h : 0 ≤ a ∧ 0 ≤ n ∧ a + n ≤ 32) (hr : ((cutN x.toNat a.toNat n.toNat : Nat) : Int) = r) :
    Says Tryz.prog 100 #[.int .u32 x, .int .i64 a, .int .i64 n] (.int .u32 r) := by
  subst hr
  obtain ⟨y, rfl⟩ := Int.eq_ofNat_of_zero_le hx.1
  exact says_drew fun w => by simpa using wordBits_yes y a n w (by omega) h
theorem refBitsI (x a n r : Int) (hx : 0 ≤ x ∧ x < 4294967296) (h : 0 ≤ a ∧ 0 ≤ n ∧ a + n ≤ 32) (hr : ((cutN x.toNat a.toNat n.toNat : Nat) : Int) = r) (w : World) :
    Calls Tryz.prog 86 #[.int .u32 x, .int .i64 a, .int .i64 n] w fun e w' => e = .returned (.int .u32 r) ∧ w = w' := by
  subst hr
  obtain ⟨y, rfl⟩ := Int.eq_ofNat_of_zero_le hx.1
  exact (refBits_yes y a n w (by omega) h).mono fun e w' ⟨he, hw⟩ => ⟨by simpa using he, hw.symm⟩
theorem signedI (x n r : Int) (hx : 0 ≤ x ∧ x < 4294967296) (h : 1 ≤ n ∧ n ≤ 32) (hr : sgnI x.toNat n.toNat = r) (w : World) :
    Calls Tryz.prog 102 #[.int .u32 x, .int .i64 n] w fun e w' => e = .returned (.int .i32 r) ∧ w = w' := by
  subst hr
  obtain ⟨y, rfl⟩ := Int.eq_ofNat_of_zero_le hx.1
  exact (wordSigned_yes y n w (by omega) h).mono fun e w' ⟨he, hw⟩ => ⟨by simpa using he, hw.symm⟩
theorem refSignedI (x n r : Int) (hx : 0 ≤ x ∧ x < 4294967296) (h : 1 ≤ n ∧ n ≤ 32) (hr : sgnI x.toNat n.toNat = r) (w : World) :
    Calls Tryz.prog 88 #[.int .u32 x, .int .i64 n] w fun e w' => e = .returned (.int .i32 r) ∧ w = w' := by
  subst hr
  obtain ⟨y, rfl⟩ := Int.eq_ofNat_of_zero_le hx.1
  exact (refSigned_yes y n w (by omega) h).mono fun e w' ⟨he, hw⟩ => ⟨by simpa using he, hw.symm⟩
theorem split_any (x : Int) (hx : 0 ≤ x ∧ x ≤ 4294967295) :
    Says Tryz.prog 72 #[.int .u32 x] (insV (pO x) (pD x) (pA x) (pB x) (pM x)) := by
  intro w
  obtain ⟨y, rfl⟩ := Int.eq_ofNat_of_zero_le hx.1
  have hy : y < 4294967296 := by omega
  obtain ⟨⟨b1, b2⟩, ⟨b3, b4⟩, ⟨b5, b6⟩, ⟨b7, b8⟩, b9, b10⟩ := part_bd hx
  have C1 := Lib.hid (bitsS (y : Int) 27 5 (pO y) (by omega) (by omega) (by simpa using cut_O y hy))
  have C2 := Lib.hid (bitsS (y : Int) 24 3 (pD y) (by omega) (by omega) (by simpa using cut_D y))
  have C3 := Lib.hid (bitsS (y : Int) 21 3 (pA y) (by omega) (by omega) (by simpa using cut_A y))
  have CU := Lib.hid (fun w => usesB_any (pO y) w (by omega))
  by_cases hB : 3 ≤ pO y ∧ pO y ≤ 10
  · have hu : uB (pO y) = true := by unfold uB; simpa using hB
    rw [hu] at CU
    have hM : pM y = 0 := by unfold pM; rw [if_pos hB]
    rw [hM]
    have C4 := Lib.hid (bitsS (y : Int) 0 3 (pB y) (by omega) (by omega) (by simpa using cut_B y hB))
    clear hM hu hB hy b9 b10
    generalize pO y = o at *
    generalize pD y = d at *
    generalize pA y = a at *
    generalize pB y = b at *
    generalize (y : Int) = x at *
    go_enter Tryz.func72, Tryz.ntmps72
    go_wp2_with (first | (go_at_call 101; refine (CU.out _).mono ?_; rintro e w2 ⟨rfl, rfl⟩) | (go_at_call 100; first | ((with_reducible refine (C1.out.at _).mono ?_); rintro e w3 ⟨rfl, hb⟩) | ((with_reducible refine (inw C2.out (w.alloc _) _ hb).mono ?_); rintro e w3 ⟨rfl, hb⟩) | ((with_reducible refine (inw C3.out (w.alloc _) _ hb).mono ?_); rintro e w3 ⟨rfl, hb⟩; obtain ⟨hc, hf⟩ := bcell hb; have hz : w.heap.size < w3.heap.size := by (have := hb.size; simp at this; omega)) | ((with_reducible refine (C4.out.at _).mono ?_); rintro e w4 ⟨rfl, hb4⟩; obtain ⟨hc4, hf4⟩ := bcell hb4; have hz4 : w3.heap.size < w4.heap.size := by (have := hb4.size; simp at this; omega))))
    have hw : Below w.heap.size w w4 := (end_two hb hz).trans (hb4.mono (by simp; omega))
    exact bodyPost_ret (v := insV o d a b 0) (by have hn : w.heap.size < w3.heap.size + 1 := Nat.lt_succ_of_lt hz; have hn2 : w.heap.size ≠ w3.heap.size := Nat.ne_of_lt hz; simp [results, Tryz.results72, go_sem, hc, hc4, hz, hz4, hn, hn2]) rfl ⟨rfl, (((((hw.setCell (Nat.le_of_lt hz) _).setCell (Nat.le_refl _) _).setCell (Nat.le_refl _) _).setCell (Nat.le_refl _) _).setCell (Nat.le_refl _) _).setCell (Nat.le_refl _) _⟩
  · have hu : uB (pO y) = false := by unfold uB; simpa using hB
    rw [hu] at CU
    have hM : pB y = 0 := by unfold pB; rw [if_neg hB]
    rw [hM]
    have C4 := Lib.hid (bitsS (y : Int) 0 21 _ (by omega) (by omega) rfl)
    have C5 := Lib.hid (signedI ((cutN (y : Int).toNat (0 : Int).toNat (21 : Int).toNat : Nat) : Int) 21 (pM y) (by have := cutN_lt (y : Int).toNat (0 : Int).toNat (21 : Int).toNat; have e : 2 ^ (21 : Int).toNat = 2097152 := rfl; omega) (by omega) (by simpa using (sgn_M y hB).2))
    clear hM hu hB hy b7 b8
    generalize ((cutN (y : Int).toNat (0 : Int).toNat (21 : Int).toNat : Nat) : Int) = c at *
    generalize pO y = o at *
    generalize pD y = d at *
    generalize pA y = a at *
    generalize pM y = m at *
    generalize (y : Int) = x at *
    go_enter Tryz.func72, Tryz.ntmps72
    go_wp2_with (first | (go_at_call 101; refine (CU.out _).mono ?_; rintro e w2 ⟨rfl, rfl⟩) | (go_at_call 102; refine (C5.out _).mono ?_; rintro e w5 ⟨rfl, rfl⟩) | (go_at_call 100; first | ((with_reducible refine (C1.out.at _).mono ?_); rintro e w3 ⟨rfl, hb⟩) | ((with_reducible refine (inw C2.out (w.alloc _) _ hb).mono ?_); rintro e w3 ⟨rfl, hb⟩) | ((with_reducible refine (inw C3.out (w.alloc _) _ hb).mono ?_); rintro e w3 ⟨rfl, hb⟩; obtain ⟨hc, hf⟩ := bcell hb; have hz : w.heap.size < w3.heap.size := by (have := hb.size; simp at this; omega)) | ((with_reducible refine (C4.out.at _).mono ?_); rintro e w4 ⟨rfl, hb4⟩; obtain ⟨hc4, hf4⟩ := bcell hb4; have hz4 : w3.heap.size < w4.heap.size := by (have := hb4.size; simp at this; omega))))
    have hw : Below w.heap.size w w4 := (end_two hb hz).trans (hb4.mono (by simp; omega))
    exact bodyPost_ret (v := insV o d a 0 m) (by have hn : w.heap.size < w3.heap.size + 1 := Nat.lt_succ_of_lt hz; have hn2 : w.heap.size ≠ w3.heap.size := Nat.ne_of_lt hz; simp [results, Tryz.results72, go_sem, hc, hc4, hz, hz4, hn, hn2]) rfl ⟨rfl, (((((hw.setCell (Nat.le_of_lt hz) _).setCell (Nat.le_refl _) _).setCell (Nat.le_refl _) _).setCell (Nat.le_refl _) _).setCell (Nat.le_refl _) _).setCell (Nat.le_refl _) _⟩

theorem end_three {w w3 w4 : World} {o1 o2 : Obj} {p : Addr} {v : Value} (hb : Below ((w.alloc o1).alloc o2).heap.size ((w.alloc o1).alloc o2) w3) (hp : w.heap.size ≤ p.block) (hb4 : Below (w3.setCell p v).heap.size (w3.setCell p v) w4) : Below w.heap.size w w4 :=
  ((((below_new w o1).alloc (by simp) o2).trans (hb.mono (by simp; omega))).setCell hp v).trans (hb4.mono (by have := hb.size; simp at this ⊢; omega))

/-- isa.Decode, by what Encode makes of the word's parts -/
theorem decode_way (x o d a b m E K : Int) (r : Bool) (S : Says Tryz.prog 72 #[.int .u32 x] (insV o d a b m)) (C : Says Tryz.prog 73 #[insV o d a b m] (.tuple #[.int .u32 E, .int .i64 K]))
    (h : r = true ∧ E = x ∧ K = 0 ∨ r = false ∧ (E != x) = true ∧ K = 0 ∨ r = false ∧ (K != 0) = true) :
    Says Tryz.prog 30 #[.int .u32 x] (.tuple #[if r then insV o d a b m else insV 0 0 0 0 0, .int .i64 (if r then 0 else 10)]) := by
  intro w
  have S1 := Lib.hid S
  clear S
  rcases h with ⟨rfl, rfl, rfl⟩ | ⟨rfl, h, rfl⟩ | ⟨rfl, h⟩
  all_goals
    have C1 := Lib.hid C
    clear C
    go_enter Tryz.func30, Tryz.ntmps30
    go_wp2_with (first | (go_at_call 72; refine (S1.out.at _).mono ?_; rintro e w3 ⟨rfl, hb⟩; obtain ⟨hc, hf⟩ := bcell hb; have hz : w.heap.size < w3.heap.size := by (have := hb.size; simp at this; omega)) | (go_at_call 73; refine (C1.out.at _).mono ?_; rintro e w4 ⟨rfl, hb4⟩; obtain ⟨hc4, hf4⟩ := bcell hb4; have hz4 : w3.heap.size < w4.heap.size := by (have := hb4.size; simp at this; omega)))
  all_goals
    have hw : Below w.heap.size w w4 := (end_two hb hz).trans (hb4.mono (by simp; omega))
    have hn : w.heap.size < w3.heap.size + 1 := Nat.lt_succ_of_lt hz
    have hn2 : w.heap.size ≠ w3.heap.size := Nat.ne_of_lt hz
  · exact bodyPost_ret (v := .tuple #[insV o d a b m, .int .i64 0]) (by simp [results, Tryz.results30, go_sem, hc, hc4, hz, hz4, hn, hn2]) rfl ⟨rfl, ((((hw.setCell (Nat.le_refl _) _).setCell (Nat.le_refl _) _).setCell (Nat.le_refl _) _).setCell (Nat.le_refl _) _).setCell (Nat.le_refl _) _⟩
  all_goals exact bodyPost_ret (v := .tuple #[insV 0 0 0 0 0, .int .i64 10]) (by simp [results, Tryz.results30, go_sem, hc, hc4, hz, hz4, hn, hn2]) rfl ⟨rfl, ((((hw.setCell (Nat.le_refl _) _).setCell (Nat.le_refl _) _).setCell (Nat.le_refl _) _).setCell (Nat.le_refl _) _).setCell (Nat.le_refl _) _⟩
theorem part_fit {x : Int} (hx : 0 ≤ x ∧ x ≤ 4294967295) : Fit (pO x) (pD x) (pA x) (pB x) (pM x) := by
  have := part_bd hx
  unfold Fit
  omega
/-- what Encode makes of a word's parts -/
theorem parts_way {x : Int} (hx : 0 ≤ x ∧ x ≤ 4294967295) : ∃ E K : Int, (K = 0 ∧ InsOk (pO x) (pD x) (pA x) (pB x) (pM x) ∧ E = enc (pO x) (pD x) (pA x) (pB x) (pM x) ∨ K ≠ 0 ∧ chk (pO x) (pD x) (pA x) (pB x) (pM x) = K ∧ E = 0) ∧
    (hasB x = true ∧ E = x ∧ K = 0 ∨ hasB x = false ∧ (E != x) = true ∧ K = 0 ∨ hasB x = false ∧ (K != 0) = true) := by
  obtain ⟨⟨b1, _⟩, ⟨b3, _⟩, ⟨b5, _⟩, ⟨b7, _⟩, _, _⟩ := part_bd hx
  by_cases hk : chk (pO x) (pD x) (pA x) (pB x) (pM x) = 0
  · refine ⟨enc (pO x) (pD x) (pA x) (pB x) (pM x), 0, Or.inl ⟨rfl, (chk_good b1 b3 b5 b7).1 hk, rfl⟩, ?_⟩
    by_cases he : enc (pO x) (pD x) (pA x) (pB x) (pM x) = x
    · exact Or.inl ⟨decide_eq_true ⟨hk, he⟩, he, rfl⟩
    · exact Or.inr (Or.inl ⟨decide_eq_false (fun h => he h.2), by simpa using he, rfl⟩)
  · exact ⟨0, _, Or.inr ⟨hk, rfl, rfl⟩, Or.inr (Or.inr ⟨decide_eq_false (fun h => hk h.1), by simpa using hk⟩)⟩
abbrev decV (x : Int) : Value := .tuple #[if hasB x then insV (pO x) (pD x) (pA x) (pB x) (pM x) else insV 0 0 0 0 0, .int .i64 (if hasB x then 0 else 10)]
theorem decode_any (x : Int) (hx : 0 ≤ x ∧ x ≤ 4294967295) : Says Tryz.prog 30 #[.int .u32 x] (decV x) := by
  obtain ⟨E, K, h1, h2⟩ := parts_way hx
  refine decode_way x _ _ _ _ _ E K (hasB x) (split_any x hx) ?_ h2
  rcases h1 with ⟨rfl, h, rfl⟩ | ⟨h, hk, rfl⟩
  · exact encode_yes _ _ _ _ _ h
  · exact encode_no _ _ _ _ _ _ (part_fit hx) hk h

set_option maxHeartbeats 1000000 in
theorem refDecode_way (x E K : Int) (r : Bool) (hx : 0 ≤ x ∧ x ≤ 4294967295) (C : Says Tryz.prog 89 #[insV (pO x) (pD x) (pA x) (pB x) (pM x)] (.tuple #[.int .u32 E, .int .i64 K]))
    (h : r = true ∧ E = x ∧ K = 0 ∨ r = false ∧ (E != x) = true ∧ K = 0 ∨ r = false ∧ (K != 0) = true) :
    Says Tryz.prog 34 #[.int .u32 x] (.tuple #[if r then insV (pO x) (pD x) (pA x) (pB x) (pM x) else insV 0 0 0 0 0, .int .i64 (if r then 0 else 10)]) := by
  intro w
  obtain ⟨y, rfl⟩ := Int.eq_ofNat_of_zero_le hx.1
  have hy : y < 4294967296 := by omega
  obtain ⟨⟨b1, b2⟩, ⟨b3, b4⟩, ⟨b5, b6⟩, ⟨b7, b8⟩, b9, b10⟩ := part_bd hx
  have C1 := Lib.hid (refBitsI (y : Int) 27 5 (pO y) (by omega) (by omega) (by simpa using cut_O y hy))
  have C2 := Lib.hid (refBitsI (y : Int) 24 3 (pD y) (by omega) (by omega) (by simpa using cut_D y))
  have C3 := Lib.hid (refBitsI (y : Int) 21 3 (pA y) (by omega) (by omega) (by simpa using cut_A y))
  have CU := Lib.hid (refUses_any (pO y) (by omega))
  by_cases hB : 3 ≤ pO y ∧ pO y ≤ 10
  · have hu : uB (pO y) = true := by unfold uB; simpa using hB
    rw [hu] at CU
    have ix := indexB4 (uD (pO y)) (uA (pO y)) true (uI (pO y))
    have hM : pM y = 0 := by unfold pM; rw [if_pos hB]
    rw [hM] at C ⊢
    have C4 := Lib.hid (refBitsI (y : Int) 0 3 (pB y) (by omega) (by omega) (by simpa using cut_B y hB))
    clear hM hu hB hy b9 b10
    generalize pO y = o at *
    generalize pD y = d at *
    generalize pA y = a at *
    generalize pB y = b at *
    generalize (y : Int) = x at *
    rcases h with ⟨rfl, rfl, rfl⟩ | ⟨rfl, h, rfl⟩ | ⟨rfl, h⟩
    all_goals
      have CE := Lib.hid C
      clear C
      go_enter Tryz.func34, Tryz.ntmps34
      go_wp2_with (first | (go_at_call 87; refine (CU.out.at _).mono ?_; rintro e w3 ⟨rfl, hb⟩; obtain ⟨hc, hf⟩ := bcell hb; have hz : w.heap.size + 1 < w3.heap.size := (by have := hb.size; simp at this; omega); have hzz : w.heap.size < w3.heap.size := Nat.lt_of_succ_lt hz) | (go_at_call 86; (first | (with_reducible refine (C1.out _).mono ?_) | (with_reducible refine (C2.out _).mono ?_) | (with_reducible refine (C3.out _).mono ?_) | (with_reducible refine (C4.out _).mono ?_)); rintro e w2 ⟨rfl, rfl⟩) | (go_at_call 89; refine (CE.out.at _).mono ?_; rintro e w4 ⟨rfl, hb4⟩; obtain ⟨hc4, hf4⟩ := bcell hb4; have hz4 : w3.heap.size ≤ w4.heap.size := by (have := hb4.size; simpa using this)))
    all_goals
      have hw : Below w.heap.size w w4 := end_three hb (Nat.le_succ _) hb4
      have hn2 : ¬ w.heap.size = w.heap.size + 1 := by omega
      have hn3 : w.heap.size < w.heap.size + 1 + 1 := by omega
    · exact bodyPost_ret (v := .tuple #[insV o d a b 0, .int .i64 0]) (by simp [results, Tryz.results34, go_sem, hc, hc4, hz, hzz, hz4, hn2, hn3]) rfl ⟨rfl, ((((hw.setCell (Nat.le_refl _) _).setCell (Nat.le_refl _) _).setCell (Nat.le_refl _) _).setCell (Nat.le_refl _) _).setCell (Nat.le_refl _) _⟩
    all_goals exact bodyPost_ret (v := .tuple #[insV 0 0 0 0 0, .int .i64 10]) (by simp [results, Tryz.results34, go_sem, hc, hc4, hz, hzz, hz4, hn2, hn3]) rfl ⟨rfl, ((((hw.setCell (Nat.le_refl _) _).setCell (Nat.le_refl _) _).setCell (Nat.le_refl _) _).setCell (Nat.le_refl _) _).setCell (Nat.le_refl _) _⟩
  · have hu : uB (pO y) = false := by unfold uB; simpa using hB
    rw [hu] at CU
    have ix := indexB4 (uD (pO y)) (uA (pO y)) false (uI (pO y))
    have hM : pB y = 0 := by unfold pB; rw [if_neg hB]
    rw [hM] at C ⊢
    have C4 := Lib.hid (refSignedI (y : Int) 21 (pM y) (by omega) (by omega) (by simpa using (sgn_M y hB).1))
    clear hM hu hB hy b7 b8
    generalize pO y = o at *
    generalize pD y = d at *
    generalize pA y = a at *
    generalize pM y = m at *
    generalize (y : Int) = x at *
    rcases h with ⟨rfl, rfl, rfl⟩ | ⟨rfl, h, rfl⟩ | ⟨rfl, h⟩
    all_goals
      have CE := Lib.hid C
      clear C
      go_enter Tryz.func34, Tryz.ntmps34
      go_wp2_with (first | (go_at_call 87; refine (CU.out.at _).mono ?_; rintro e w3 ⟨rfl, hb⟩; obtain ⟨hc, hf⟩ := bcell hb; have hz : w.heap.size + 1 < w3.heap.size := (by have := hb.size; simp at this; omega); have hzz : w.heap.size < w3.heap.size := Nat.lt_of_succ_lt hz) | (go_at_call 88; refine (C4.out _).mono ?_; rintro e w5 ⟨rfl, rfl⟩) | (go_at_call 86; (first | (with_reducible refine (C1.out _).mono ?_) | (with_reducible refine (C2.out _).mono ?_) | (with_reducible refine (C3.out _).mono ?_) ); rintro e w2 ⟨rfl, rfl⟩) | (go_at_call 89; refine (CE.out.at _).mono ?_; rintro e w4 ⟨rfl, hb4⟩; obtain ⟨hc4, hf4⟩ := bcell hb4; have hz4 : w3.heap.size ≤ w4.heap.size := by (have := hb4.size; simpa using this)))
    all_goals
      have hw : Below w.heap.size w w4 := end_three hb (Nat.le_succ _) hb4
      have hn2 : ¬ w.heap.size = w.heap.size + 1 := by omega
      have hn3 : w.heap.size < w.heap.size + 1 + 1 := by omega
    · exact bodyPost_ret (v := .tuple #[insV o d a 0 m, .int .i64 0]) (by simp [results, Tryz.results34, go_sem, hc, hc4, hz, hzz, hz4, hn2, hn3]) rfl ⟨rfl, ((((hw.setCell (Nat.le_refl _) _).setCell (Nat.le_refl _) _).setCell (Nat.le_refl _) _).setCell (Nat.le_refl _) _).setCell (Nat.le_refl _) _⟩
    all_goals exact bodyPost_ret (v := .tuple #[insV 0 0 0 0 0, .int .i64 10]) (by simp [results, Tryz.results34, go_sem, hc, hc4, hz, hzz, hz4, hn2, hn3]) rfl ⟨rfl, ((((hw.setCell (Nat.le_refl _) _).setCell (Nat.le_refl _) _).setCell (Nat.le_refl _) _).setCell (Nat.le_refl _) _).setCell (Nat.le_refl _) _⟩
theorem refDecode_any (x : Int) (hx : 0 ≤ x ∧ x ≤ 4294967295) : Says Tryz.prog 34 #[.int .u32 x] (decV x) := by
  obtain ⟨E, K, h1, h2⟩ := parts_way hx
  refine refDecode_way x E K (hasB x) hx ?_ h2
  rcases h1 with ⟨rfl, h, rfl⟩ | ⟨h, hk, rfl⟩
  · exact refEncode_yes _ _ _ _ _ h
  · exact refEncode_no _ _ _ _ _ _ (part_fit hx) hk h
end Go.Proofs.YtihcellcdkhadaaGreat.IF

/-
  Where instructions go: the program's and the reference's. Nothing here is a statement of the seed.
-/
namespace Go.Proofs.YtihcellcdkhadaaGreat.IF
open Go.RowKit WM IM WF

/-- does it jump? -/
def goB (o d a b m : Int) : Bool := decide (chk o d a b m = 0 ∧ (o = 14 ∨ o = 15 ∨ o = 16 ∨ o = 17))
def goTo (t o m : Int) : Int := if o = 17 then m % 4294967296 else (t + 1 + m) % 4294967296
abbrev tgtV (t o d a b m : Int) : Value := .tuple #[.int .u32 (if goB o d a b m then goTo t o m else 0), .bool (goB o d a b m)]
theorem target_way (t o d a b m K u : Int) (r : Bool) (ht : 0 ≤ t ∧ t ≤ 4294967295) (hm : -2147483648 ≤ m ∧ m ≤ 2147483647) (C : Says Tryz.prog 103 #[insV o d a b m] (.int .i64 K))
    (h : (K != 0) = true ∧ r = false ∧ u = 0 ∨ K = 0 ∧ (o = 14 ∨ o = 15 ∨ o = 16) ∧ r = true ∧ u = (t + 1 + m) % 4294967296 ∨ K = 0 ∧ o = 17 ∧ r = true ∧ u = m % 4294967296 ∨
      K = 0 ∧ (o == 14) = false ∧ (o == 15) = false ∧ (o == 16) = false ∧ (o == 17) = false ∧ r = false ∧ u = 0) :
    Says Tryz.prog 108 #[.int .u32 t, insV o d a b m] (.tuple #[.int .u32 u, .bool r]) := by
  intro w
  obtain ⟨ht1, ht2⟩ := ht
  obtain ⟨hm1, hm2⟩ := hm
  rcases h with ⟨hk, rfl, rfl⟩ | ⟨rfl, (rfl | rfl | rfl), rfl, hu⟩ | ⟨rfl, rfl, rfl, hu⟩ | ⟨rfl, e1, e2, e3, e4, rfl, rfl⟩
  all_goals
    have C1 := Lib.hid C
    clear C
    try have HU := Lib.hid hu
    try clear hu
    go_enter Tryz.func108, Tryz.ntmps108
    go_wp2_with (first | (go_at_call 103; refine (C1.out.at _).mono ?_; rintro e w3 ⟨rfl, hb⟩; obtain ⟨hc, hf⟩ := bcell hb))
  · exact bodyPost_ret (v := .tuple #[.int .u32 0, .bool false]) (by simp [results, Tryz.results108, go_sem]) rfl ⟨rfl, end_alloc hb⟩
  · exact bodyPost_ret (v := .tuple #[.int .u32 (((t + 1) % 4294967296 + m % 4294967296) % 4294967296), .bool true]) (by simp [results, Tryz.results108, go_sem]) rfl ⟨by rw [HU.out, show ((t + 1) % 4294967296 + m % 4294967296) % 4294967296 = (t + 1 + m) % 4294967296 by omega], end_alloc hb⟩
  · exact bodyPost_ret (v := .tuple #[.int .u32 (((t + 1) % 4294967296 + m % 4294967296) % 4294967296), .bool true]) (by simp [results, Tryz.results108, go_sem]) rfl ⟨by rw [HU.out, show ((t + 1) % 4294967296 + m % 4294967296) % 4294967296 = (t + 1 + m) % 4294967296 by omega], end_alloc hb⟩
  · exact bodyPost_ret (v := .tuple #[.int .u32 (((t + 1) % 4294967296 + m % 4294967296) % 4294967296), .bool true]) (by simp [results, Tryz.results108, go_sem]) rfl ⟨by rw [HU.out, show ((t + 1) % 4294967296 + m % 4294967296) % 4294967296 = (t + 1 + m) % 4294967296 by omega], end_alloc hb⟩
  · exact bodyPost_ret (v := .tuple #[.int .u32 (m % 4294967296), .bool true]) (by simp [results, Tryz.results108, go_sem]) rfl ⟨by rw [HU.out], end_alloc hb⟩
  · exact bodyPost_ret (v := .tuple #[.int .u32 0, .bool false]) (by simp [results, Tryz.results108, go_sem]) rfl ⟨rfl, end_alloc hb⟩
theorem refTarget_way (t o d a b m K u : Int) (r : Bool) (ht : 0 ≤ t ∧ t ≤ 4294967295) (hm : -2147483648 ≤ m ∧ m ≤ 2147483647) (C : Says Tryz.prog 90 #[insV o d a b m] (.int .i64 K))
    (h : (K != 0) = true ∧ r = false ∧ u = 0 ∨ K = 0 ∧ (o = 14 ∨ o = 15 ∨ o = 16) ∧ r = true ∧ u = (t + 1 + m) % 4294967296 ∨ K = 0 ∧ o = 17 ∧ r = true ∧ u = m % 4294967296 ∨
      K = 0 ∧ (o == 14) = false ∧ (o == 15) = false ∧ (o == 16) = false ∧ (o == 17) = false ∧ r = false ∧ u = 0) :
    Says Tryz.prog 36 #[.int .u32 t, insV o d a b m] (.tuple #[.int .u32 u, .bool r]) := by
  intro w
  obtain ⟨ht1, ht2⟩ := ht
  obtain ⟨hm1, hm2⟩ := hm
  rcases h with ⟨hk, rfl, rfl⟩ | ⟨rfl, (rfl | rfl | rfl), rfl, hu⟩ | ⟨rfl, rfl, rfl, hu⟩ | ⟨rfl, e1, e2, e3, e4, rfl, rfl⟩
  all_goals
    have C1 := Lib.hid C
    clear C
    try have HU := Lib.hid hu
    try clear hu
    go_enter Tryz.func36, Tryz.ntmps36
    go_wp2_with (first | (go_at_call 90; refine (C1.out.at _).mono ?_; rintro e w3 ⟨rfl, hb⟩; obtain ⟨hc, hf⟩ := bcell hb))
  · exact bodyPost_ret (v := .tuple #[.int .u32 0, .bool false]) (by simp [results, Tryz.results36, go_sem]) rfl ⟨rfl, end_alloc hb⟩
  · exact bodyPost_ret (v := .tuple #[.int .u32 (((t + 1) % 4294967296 + m % 4294967296) % 4294967296), .bool true]) (by simp [results, Tryz.results36, go_sem]) rfl ⟨by rw [HU.out, show ((t + 1) % 4294967296 + m % 4294967296) % 4294967296 = (t + 1 + m) % 4294967296 by omega], end_alloc hb⟩
  · exact bodyPost_ret (v := .tuple #[.int .u32 (((t + 1) % 4294967296 + m % 4294967296) % 4294967296), .bool true]) (by simp [results, Tryz.results36, go_sem]) rfl ⟨by rw [HU.out, show ((t + 1) % 4294967296 + m % 4294967296) % 4294967296 = (t + 1 + m) % 4294967296 by omega], end_alloc hb⟩
  · exact bodyPost_ret (v := .tuple #[.int .u32 (((t + 1) % 4294967296 + m % 4294967296) % 4294967296), .bool true]) (by simp [results, Tryz.results36, go_sem]) rfl ⟨by rw [HU.out, show ((t + 1) % 4294967296 + m % 4294967296) % 4294967296 = (t + 1 + m) % 4294967296 by omega], end_alloc hb⟩
  · exact bodyPost_ret (v := .tuple #[.int .u32 (m % 4294967296), .bool true]) (by simp [results, Tryz.results36, go_sem]) rfl ⟨by rw [HU.out], end_alloc hb⟩
  · exact bodyPost_ret (v := .tuple #[.int .u32 0, .bool false]) (by simp [results, Tryz.results36, go_sem]) rfl ⟨rfl, end_alloc hb⟩
theorem go_way (t o d a b m : Int) (h : Fit o d a b m) : (chk o d a b m != 0) = true ∧ goB o d a b m = false ∧ (if goB o d a b m then goTo t o m else 0) = 0 ∨
    chk o d a b m = 0 ∧ (o = 14 ∨ o = 15 ∨ o = 16) ∧ goB o d a b m = true ∧ (if goB o d a b m then goTo t o m else 0) = (t + 1 + m) % 4294967296 ∨ chk o d a b m = 0 ∧ o = 17 ∧ goB o d a b m = true ∧ (if goB o d a b m then goTo t o m else 0) = m % 4294967296 ∨
    chk o d a b m = 0 ∧ (o == 14) = false ∧ (o == 15) = false ∧ (o == 16) = false ∧ (o == 17) = false ∧ goB o d a b m = false ∧ (if goB o d a b m then goTo t o m else 0) = 0 := by
  by_cases hk : chk o d a b m = 0
  · by_cases h17 : o = 17
    · refine Or.inr (Or.inr (Or.inl ⟨hk, h17, ?_⟩))
      have hg : goB o d a b m = true := decide_eq_true ⟨hk, by omega⟩
      rw [hg]
      simp [goTo, h17]
    · by_cases hj : o = 14 ∨ o = 15 ∨ o = 16
      · refine Or.inr (Or.inl ⟨hk, hj, ?_⟩)
        have hg : goB o d a b m = true := decide_eq_true ⟨hk, by omega⟩
        rw [hg]
        simp [goTo, h17]
      · refine Or.inr (Or.inr (Or.inr ⟨hk, by simp; omega, by simp; omega, by simp; omega, by simp; omega, ?_⟩))
        have hg : goB o d a b m = false := decide_eq_false (fun hh => by omega)
        rw [hg]
        simp
  · refine Or.inl ⟨by simpa using hk, ?_⟩
    have hg : goB o d a b m = false := decide_eq_false (fun hh => hk hh.1)
    rw [hg]
    simp
theorem target_any (t o d a b m : Int) (ht : 0 ≤ t ∧ t ≤ 4294967295) (h : Fit o d a b m) : Says Tryz.prog 108 #[.int .u32 t, insV o d a b m] (tgtV t o d a b m) :=
  target_way t o d a b m _ _ _ ht h.2.2.2.2 (check_any o d a b m h) (go_way t o d a b m h)
theorem refTarget_any (t o d a b m : Int) (ht : 0 ≤ t ∧ t ≤ 4294967295) (h : Fit o d a b m) : Says Tryz.prog 36 #[.int .u32 t, insV o d a b m] (tgtV t o d a b m) :=
  refTarget_way t o d a b m _ _ _ ht h.2.2.2.2 (refCheck_any o d a b m h) (go_way t o d a b m h)
end Go.Proofs.YtihcellcdkhadaaGreat.IF
