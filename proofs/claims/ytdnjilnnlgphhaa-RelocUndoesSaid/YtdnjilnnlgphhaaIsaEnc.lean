/-
  The words of instructions: the program's and the reference's. Nothing here is a statement of the seed.
-/
import Derived.Test.YtdnjilnnlgphhaaIsaRef2
import Derived.Test.YtdnjilnnlgphhaaIsaRef3
set_option linter.unusedSimpArgs false
set_option linter.unusedVariables false
namespace Go.Proofs.Ytdnjilnnlgphhaa.IF
open Go.RowKit WM IM WF

theorem fit_far (m : Int) : fitB m 21 = decide (-1048576 ≤ m ∧ m < 1048576) := by simp [fitB]
theorem refCheck_any (o d a b m : Int) (h : Fit o d a b m) :
    Says Try.prog 36 #[insV o d a b m] (.int .i64 (chk o d a b m)) := by
  have C := refUses_any o h.1
  obtain ⟨⟨h1, h2⟩, ⟨h3, h4⟩, ⟨h5, h6⟩, ⟨h7, h8⟩, h9, h10⟩ := h
  by_cases ho : 21 < o ∨ 7 < d ∨ 7 < a ∨ 7 < b
  · have e : chk o d a b m = 10 := by
      have : badB o d a b m = true := by unfold badB; rw [decide_eq_true_eq]; omega
      unfold chk
      rw [if_pos this]
    rw [e]
    exact refCheck_out o d a b m _ _ _ _ C ho
  · have hi : In7 o d a b m := by unfold In7; omega
    have hp : (o = 0 ∨ o = 1 ∨ o = 18 ∨ o = 20) ∨ o = 2 ∨ (3 ≤ o ∧ o ≤ 10) ∨ ((11 ≤ o ∧ o ≤ 13) ∨ o = 15 ∨ o = 16) ∨ (o = 14 ∨ o = 17 ∨ o = 21) ∨ o = 19 := by omega
    rcases hp with hp | hp | hp | hp | hp | hp
    · rw [show uD o = false by unfold uD; simp; omega, show uA o = false by unfold uA; simp; omega, show uB o = false by unfold uB; simp; omega, show uI o = false by unfold uI; simp; omega] at C
      refine refCheck_none o d a b m _ C hi (by simp; omega) (by simp; omega) ?_
      unfold chk badB farB
      rw [fit_far]
      simp only [decide_eq_true_eq]
      (repeat' split) <;> omega
    · rw [show uD o = true by unfold uD; simp; omega, show uA o = false by unfold uA; simp; omega, show uB o = false by unfold uB; simp; omega, show uI o = true by unfold uI; simp; omega] at C
      refine refCheck_li o d a b m _ C hi (by simp; omega) (by simp; omega) ?_
      unfold chk badB farB
      rw [fit_far]
      simp only [decide_eq_true_eq]
      (repeat' split) <;> omega
    · rw [show uD o = true by unfold uD; simp; omega, show uA o = true by unfold uA; simp; omega, show uB o = true by unfold uB; simp; omega, show uI o = false by unfold uI; simp; omega] at C
      refine refCheck_dab o d a b m _ C hi (by simp; omega) (by simp; omega) ?_
      unfold chk badB farB
      rw [fit_far]
      simp only [decide_eq_true_eq]
      (repeat' split) <;> omega
    · rw [show uD o = true by unfold uD; simp; omega, show uA o = true by unfold uA; simp; omega, show uB o = false by unfold uB; simp; omega, show uI o = true by unfold uI; simp; omega] at C
      refine refCheck_dai o d a b m _ C hi (by simp; omega) (by simp; omega) ?_
      unfold chk badB farB
      rw [fit_far]
      simp only [decide_eq_true_eq]
      (repeat' split) <;> omega
    · rw [show uD o = false by unfold uD; simp; omega, show uA o = false by unfold uA; simp; omega, show uB o = false by unfold uB; simp; omega, show uI o = true by unfold uI; simp; omega] at C
      refine refCheck_imm o d a b m _ C hi hp ?_
      unfold chk badB farB
      rw [fit_far]
      simp only [decide_eq_true_eq]
      (repeat' split) <;> omega
    · rw [show uD o = false by unfold uD; simp; omega, show uA o = true by unfold uA; simp; omega, show uB o = false by unfold uB; simp; omega, show uI o = false by unfold uI; simp; omega] at C
      refine refCheck_jr o d a b m _ C hi (by simp; omega) (by simp; omega) ?_
      unfold chk badB farB
      rw [fit_far]
      simp only [decide_eq_true_eq]
      (repeat' split) <;> omega
theorem withI (x a n v r : Int) (hx : 0 ≤ x ∧ x < 4294967296) (hv : 0 ≤ v) (h : 0 ≤ a ∧ 0 ≤ n ∧ a + n ≤ 32) (hr : ((putN x.toNat a.toNat n.toNat v.toNat : Nat) : Int) = r) (w : World) :
    Calls Try.prog 30 #[.int .u32 x, .int .i64 a, .int .i64 n, .int .u32 v] w fun e w' => e = .returned (.int .u32 r) ∧ w = w' := by
  subst hr
  obtain ⟨y, rfl⟩ := Int.eq_ofNat_of_zero_le hx.1
  obtain ⟨u, rfl⟩ := Int.eq_ofNat_of_zero_le hv
  exact (wordWith_yes y a n u w (by omega) h).mono fun e w' ⟨he, hw⟩ => ⟨by simpa using he, hw.symm⟩
theorem refWithI (x a n v r : Int) (hx : 0 ≤ x ∧ x < 4294967296) (hv : 0 ≤ v ∧ v < 4294967296) (h : 0 ≤ a ∧ 0 ≤ n ∧ a + n ≤ 32) (hr : ((putN x.toNat a.toNat n.toNat v.toNat : Nat) : Int) = r) (w : World) :
    Calls Try.prog 37 #[.int .u32 x, .int .i64 a, .int .i64 n, .int .u32 v] w fun e w' => e = .returned (.int .u32 r) ∧ w = w' := by
  subst hr
  obtain ⟨y, rfl⟩ := Int.eq_ofNat_of_zero_le hx.1
  obtain ⟨u, rfl⟩ := Int.eq_ofNat_of_zero_le hv.1
  exact (refWith_yes y a n u w (by omega) (by omega) h).mono fun e w' ⟨he, hw⟩ => ⟨by simpa using he, hw.symm⟩
/-- the word as far as the register A -/
theorem heads {o d a b m : Int} (h : InsOk o d a b m) : ((putN 0 27 5 o.toNat : Nat) : Int) = 134217728 * o ∧ ((putN (134217728 * o).toNat 24 3 d.toNat : Nat) : Int) = 134217728 * o + 16777216 * d ∧
    ((putN (134217728 * o + 16777216 * d).toNat 21 3 a.toNat : Nat) : Int) = 134217728 * o + 16777216 * d + 2097152 * a := by
  unfold InsOk at h
  refine ⟨?_, ?_, ?_⟩
  · rw [put1 _ (by omega)]; omega
  · rw [show (134217728 * o).toNat = 134217728 * o.toNat by omega, put2 _ _ (by omega) (by omega)]; omega
  · rw [show (134217728 * o + 16777216 * d).toNat = 16777216 * (8 * o.toNat + d.toNat) by omega, put3 _ _ (by omega) (by omega)]; omega
theorem tail_b {o d a b m : Int} (h : InsOk o d a b m) (hB : 3 ≤ o ∧ o ≤ 10) : ((putN (134217728 * o + 16777216 * d + 2097152 * a).toNat 0 3 b.toNat : Nat) : Int) = enc o d a b m ∧ ((putN (134217728 * o + 16777216 * d + 2097152 * a).toNat 0 21 b.toNat : Nat) : Int) = enc o d a b m := by
  unfold InsOk at h
  rw [show (134217728 * o + 16777216 * d + 2097152 * a).toNat = 2097152 * (64 * o.toNat + 8 * d.toNat + a.toNat) by omega, put4 _ _ (by omega) (by omega), put5 _ _ (by omega) (by omega)]
  unfold enc low
  rw [if_pos hB]
  omega
theorem tail_m {o d a b m : Int} (h : InsOk o d a b m) (hB : ¬ (3 ≤ o ∧ o ≤ 10)) : ((putN (134217728 * o + 16777216 * d + 2097152 * a).toNat 0 21 (cutI m 21).toNat : Nat) : Int) = enc o d a b m := by
  unfold InsOk at h
  rw [cutI_21, show (134217728 * o + 16777216 * d + 2097152 * a).toNat = 2097152 * (64 * o.toNat + 8 * d.toNat + a.toNat) by omega, put4 _ _ (by omega) (by omega)]
  unfold enc low
  rw [if_neg hB]
  omega
theorem good_fit {o d a b m : Int} (h : InsOk o d a b m) : Fit o d a b m := by unfold InsOk at h; unfold Fit; omega
theorem cutM (m : Int) (hm : -1048576 ≤ m ∧ m ≤ 1048575) : 0 ≤ cutI m 21 ∧ cutI m 21 < 4294967296 := by rw [cutI_21]; omega
theorem encode_yes (o d a b m : Int) (h : InsOk o d a b m) :
    Says Try.prog 20 #[insV o d a b m] (.tuple #[.int .u32 (enc o d a b m), .int .i64 0]) := by
  intro w
  have C0 := Lib.hid (by have := check_any o d a b m (good_fit h); rw [(chk_good h.1 h.2.2.1 h.2.2.2.2.1 h.2.2.2.2.2.2.1).2 h] at this; exact this)
  have hh := h
  unfold InsOk at hh
  obtain ⟨e1, e2, e3⟩ := heads h
  have C1 := Lib.hid (withI 0 27 5 o _ (by omega) (by omega) (by omega) e1)
  have C2 := Lib.hid (withI (134217728 * o) 24 3 d _ (by omega) (by omega) (by omega) e2)
  have C3 := Lib.hid (withI (134217728 * o + 16777216 * d) 21 3 a _ (by omega) (by omega) (by omega) e3)
  have CU := Lib.hid (fun w => usesB_any o w (by omega))
  have bo : 0 ≤ o ∧ o ≤ 21 := by omega
  have bd : 0 ≤ d ∧ d ≤ 7 := by omega
  have ba : 0 ≤ a ∧ a ≤ 7 := by omega
  have bb : 0 ≤ b ∧ b ≤ 7 := by omega
  have bm : -1048576 ≤ m ∧ m ≤ 1048575 := by omega
  obtain ⟨bo1, bo2⟩ := bo
  obtain ⟨bd1, bd2⟩ := bd
  obtain ⟨ba1, ba2⟩ := ba
  obtain ⟨bb1, bb2⟩ := bb
  obtain ⟨bm1, bm2⟩ := bm
  clear e1 e2 e3
  by_cases hB : 3 ≤ o ∧ o ≤ 10
  · have hu : uB o = true := by unfold uB; simpa using hB
    rw [hu] at CU
    have C4 := Lib.hid (withI (134217728 * o + 16777216 * d + 2097152 * a) 0 3 b _ (by omega) (by omega) (by omega) (tail_b h hB).1)
    clear hh h hB hu
    generalize enc o d a b m = E at *
    generalize 134217728 * o + 16777216 * d + 2097152 * a = x3 at *
    generalize 134217728 * o + 16777216 * d = x2 at *
    generalize 134217728 * o = x1 at *
    go_enter Try.func20, Try.ntmps20
    go_wp2_with (first | (go_at_call 29; refine (C0.out.at _).mono ?_; rintro e w1 ⟨rfl, hb⟩; obtain ⟨hc, hf⟩ := bcell hb) | (go_at_call 31; refine (CU.out _).mono ?_; rintro e w2 ⟨rfl, rfl⟩) | (go_at_call 30; (first | (with_reducible refine (C1.out _).mono ?_) | (with_reducible refine (C2.out _).mono ?_) | (with_reducible refine (C3.out _).mono ?_) | (with_reducible refine (C4.out _).mono ?_)); rintro e w2 ⟨rfl, rfl⟩))
    exact bodyPost_ret (v := .tuple #[.int .u32 E, .int .i64 0]) (by simp [results, Try.results20, go_sem]) rfl ⟨rfl, end_alloc hb⟩
  · have hu : uB o = false := by unfold uB; simpa using hB
    rw [hu] at CU
    have C4 := Lib.hid (withI (134217728 * o + 16777216 * d + 2097152 * a) 0 21 (cutI m 21) _ (by omega) (cutM m ⟨bm1, bm2⟩).1 (by omega) (tail_m h hB))
    have CC := Lib.hid (fun w => wordCut_any m 21 w (by omega) (by omega))
    clear hh h hB hu
    generalize cutI m 21 = c at *
    generalize enc o d a b m = E at *
    generalize 134217728 * o + 16777216 * d + 2097152 * a = x3 at *
    generalize 134217728 * o + 16777216 * d = x2 at *
    generalize 134217728 * o = x1 at *
    go_enter Try.func20, Try.ntmps20
    go_wp2_with (first | (go_at_call 29; refine (C0.out.at _).mono ?_; rintro e w1 ⟨rfl, hb⟩; obtain ⟨hc, hf⟩ := bcell hb) | (go_at_call 31; refine (CU.out _).mono ?_; rintro e w2 ⟨rfl, rfl⟩) | (go_at_call 32; refine (CC.out _).mono ?_; rintro e w2 ⟨rfl, kc, rfl⟩) | (go_at_call 30; (first | (with_reducible refine (C1.out _).mono ?_) | (with_reducible refine (C2.out _).mono ?_) | (with_reducible refine (C3.out _).mono ?_) | (with_reducible refine (C4.out _).mono ?_)); rintro e w2 ⟨rfl, rfl⟩))
    exact bodyPost_ret (v := .tuple #[.int .u32 E, .int .i64 0]) (by simp [results, Try.results20, go_sem]) rfl ⟨rfl, below_drewN (end_alloc hb) kc⟩
theorem encode_no (o d a b m K : Int) (h : Fit o d a b m) (hK : chk o d a b m = K) (h0 : K ≠ 0) :
    Says Try.prog 20 #[insV o d a b m] (.tuple #[.int .u32 0, .int .i64 K]) := by
  intro w
  have C0 := Lib.hid (by have := check_any o d a b m h; rw [hK] at this; exact this)
  have hn : (K != 0) = true := by simpa using h0
  clear hK h0 h
  go_enter Try.func20, Try.ntmps20
  go_wp2_with (first | (go_at_call 29; refine (C0.out.at _).mono ?_; rintro e w1 ⟨rfl, hb⟩; obtain ⟨hc, hf⟩ := bcell hb))
  exact bodyPost_ret (v := .tuple #[.int .u32 0, .int .i64 K]) (by simp [results, Try.results20, go_sem]) rfl ⟨rfl, end_alloc hb⟩
theorem index2 (x0 x1 x2 x3 : Bool) (w : World) : (Instr.index 66 (.agg #[.bool x0, .bool x1, .bool x2, .bool x3]) (.int .i64 2)).run Try.prog w = .ok (.bool x2) w := by kernel_rfl
theorem refEncode_yes (o d a b m : Int) (h : InsOk o d a b m) :
    Says Try.prog 27 #[insV o d a b m] (.tuple #[.int .u32 (enc o d a b m), .int .i64 0]) := by
  intro w
  have C0 := Lib.hid (by have := refCheck_any o d a b m (good_fit h); rw [(chk_good h.1 h.2.2.1 h.2.2.2.2.1 h.2.2.2.2.2.2.1).2 h] at this; exact this)
  have hh := h
  unfold InsOk at hh
  obtain ⟨e1, e2, e3⟩ := heads h
  have C1 := Lib.hid (refWithI 0 27 5 o _ (by omega) (by omega) (by omega) e1)
  have C2 := Lib.hid (refWithI (134217728 * o) 24 3 d _ (by omega) (by omega) (by omega) e2)
  have C3 := Lib.hid (refWithI (134217728 * o + 16777216 * d) 21 3 a _ (by omega) (by omega) (by omega) e3)
  have CU := Lib.hid (refUses_any o (by omega))
  have bo : 0 ≤ o ∧ o ≤ 21 := by omega
  have bd : 0 ≤ d ∧ d ≤ 7 := by omega
  have ba : 0 ≤ a ∧ a ≤ 7 := by omega
  have bb : 0 ≤ b ∧ b ≤ 7 := by omega
  have bm : -1048576 ≤ m ∧ m ≤ 1048575 := by omega
  obtain ⟨bo1, bo2⟩ := bo
  obtain ⟨bd1, bd2⟩ := bd
  obtain ⟨ba1, ba2⟩ := ba
  obtain ⟨bb1, bb2⟩ := bb
  obtain ⟨bm1, bm2⟩ := bm
  clear e1 e2 e3
  by_cases hB : 3 ≤ o ∧ o ≤ 10
  · have hu : uB o = true := by unfold uB; simpa using hB
    rw [hu] at CU
    have C4 := Lib.hid (refWithI (134217728 * o + 16777216 * d + 2097152 * a) 0 21 b _ (by omega) (by omega) (by omega) (tail_b h hB).2)
    clear hh h hB hu
    generalize enc o d a b m = E at *
    generalize 134217728 * o + 16777216 * d + 2097152 * a = x3 at *
    generalize 134217728 * o + 16777216 * d = x2 at *
    generalize 134217728 * o = x1 at *
    have ix := index2 (uD o) (uA o) true (uI o)
    go_enter Try.func27, Try.ntmps27
    go_wp2_with (first | (go_at_call 36; refine (C0.out.at _).mono ?_; rintro e w1 ⟨rfl, hb⟩; obtain ⟨hc, hf⟩ := bcell hb) | (go_at_call 34; refine (inw CU.out (w.alloc _) _ hb).mono ?_; rintro e w2 ⟨rfl, hb2⟩; obtain ⟨hc2, hf2⟩ := bcell hb2) | (go_at_call 37; (first | (with_reducible refine (C1.out _).mono ?_) | (with_reducible refine (C2.out _).mono ?_) | (with_reducible refine (C3.out _).mono ?_) | (with_reducible refine (C4.out _).mono ?_)); rintro e w2 ⟨rfl, rfl⟩))
    exact bodyPost_ret (v := .tuple #[.int .u32 E, .int .i64 0]) (by simp [results, Try.results27, go_sem]) rfl ⟨rfl, end_alloc hb2⟩
  · have hu : uB o = false := by unfold uB; simpa using hB
    rw [hu] at CU
    have C4 := Lib.hid (refWithI (134217728 * o + 16777216 * d + 2097152 * a) 0 21 (cutI m 21) _ (by omega) (cutM m ⟨bm1, bm2⟩) (by omega) (tail_m h hB))
    have CC := Lib.hid (fun w => refCut_any m 21 w (by omega) (by omega))
    clear hh h hB hu
    generalize cutI m 21 = c at *
    generalize enc o d a b m = E at *
    generalize 134217728 * o + 16777216 * d + 2097152 * a = x3 at *
    generalize 134217728 * o + 16777216 * d = x2 at *
    generalize 134217728 * o = x1 at *
    have ix := index2 (uD o) (uA o) false (uI o)
    go_enter Try.func27, Try.ntmps27
    go_wp2_with (first | (go_at_call 36; refine (C0.out.at _).mono ?_; rintro e w1 ⟨rfl, hb⟩; obtain ⟨hc, hf⟩ := bcell hb) | (go_at_call 34; refine (inw CU.out (w.alloc _) _ hb).mono ?_; rintro e w2 ⟨rfl, hb2⟩; obtain ⟨hc2, hf2⟩ := bcell hb2) | (go_at_call 38; refine (CC.out _).mono ?_; rintro e w3 ⟨rfl, hw⟩; subst hw) | (go_at_call 37; (first | (with_reducible refine (C1.out _).mono ?_) | (with_reducible refine (C2.out _).mono ?_) | (with_reducible refine (C3.out _).mono ?_) | (with_reducible refine (C4.out _).mono ?_)); rintro e w2 ⟨rfl, rfl⟩))
    exact bodyPost_ret (v := .tuple #[.int .u32 E, .int .i64 0]) (by simp [results, Try.results27, go_sem]) rfl ⟨rfl, end_alloc hb2⟩
theorem refEncode_no (o d a b m K : Int) (h : Fit o d a b m) (hK : chk o d a b m = K) (h0 : K ≠ 0) :
    Says Try.prog 27 #[insV o d a b m] (.tuple #[.int .u32 0, .int .i64 K]) := by
  intro w
  have C0 := Lib.hid (by have := refCheck_any o d a b m h; rw [hK] at this; exact this)
  have hn : (K != 0) = true := by simpa using h0
  clear hK h0 h
  go_enter Try.func27, Try.ntmps27
  go_wp2_with (first | (go_at_call 36; refine (C0.out.at _).mono ?_; rintro e w1 ⟨rfl, hb⟩; obtain ⟨hc, hf⟩ := bcell hb))
  exact bodyPost_ret (v := .tuple #[.int .u32 0, .int .i64 K]) (by simp [results, Try.results27, go_sem]) rfl ⟨rfl, end_alloc hb⟩
end Go.Proofs.Ytdnjilnnlgphhaa.IF
