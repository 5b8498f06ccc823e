/-
  The laws of layer 15, walked, further: what was put in is taken out, how far addresses reach, what stays of a word.
-/
import Derived.Test.YtdnjilnnlgphhaaRelLaws
set_option linter.unusedSimpArgs false
set_option linter.unusedVariables false
namespace Go.Proofs.Ytdnjilnnlgphhaa.RM
open WM IM

theorem ap_no {x k v : Int} (hk : 0 ≤ k) (h : apE x k v ≠ 0) : apW x k v = 0 ∧ (7 < k ∧ apE x k v = 2 ∨ k ≤ 7 ∧ apE x k v = 10 ∨ k ≤ 7 ∧ rch k < v ∧ apE x k v = 30) := by
  refine ⟨by unfold apW; rw [if_neg h], ?_⟩
  unfold apE at h ⊢
  by_cases h7 : 7 < k
  · rw [if_pos h7]; exact Or.inl ⟨h7, rfl⟩
  · rw [if_neg h7] at h ⊢
    have hk7 : k ≤ 7 := by omega
    cases hc : inC k with
    | false => rw [hc] at h; simp at h
    | true =>
      rw [hc] at h
      simp only [Bool.true_eq_false, if_false] at h ⊢
      split
      · exact Or.inr (Or.inl ⟨hk7, rfl⟩)
      · rename_i h1
        rw [if_neg h1] at h
        split
        · rename_i h2
          refine Or.inr (Or.inr ⟨hk7, ?_, rfl⟩)
          unfold rch
          rw [if_neg h7, if_pos hc]
          exact h2
        · rename_i h2
          rw [if_neg h2] at h
          exact absurd rfl h
theorem ap_yes {x k v : Int} (h : apE x k v = 0) : k ≤ 7 ∧ (inC k = true ∧ opB x k = true ∧ pM x = 0 ∧ v ≤ 1048575 ∧ apW x k v = putW x k v ∨ inC k = false ∧ apW x k v = v) := by
  have hw : apW x k v = if inC k then putW x k v else v := by unfold apW; rw [if_pos h]
  unfold apE at h
  split at h
  · omega
  · rename_i h7
    refine ⟨by omega, ?_⟩
    cases hc : inC k with
    | false => rw [hc] at hw; exact Or.inr ⟨rfl, hw⟩
    | true =>
      rw [hc] at h hw
      simp only [Bool.true_eq_false, if_false] at h
      split at h
      · omega
      · rename_i h1
        split at h
        · omega
        · rename_i h2
          simp at h1
          exact Or.inl ⟨rfl, h1.1, h1.2, by omega, hw⟩
theorem un_put {x k v : Int} (hx : 0 ≤ x ∧ x ≤ 4294967295) (hk : k ≤ 7) (hc : inC k = true) (h : opB x k = true) (hm : pM x = 0) (hv : 0 ≤ v ∧ v ≤ 1048575) : unE (putW x k v) k = 0 ∧ unW (putW x k v) k = x := by
  obtain ⟨_, _, _, _, _, hp⟩ := put_parts hx h hv
  have e : unE (putW x k v) k = 0 := by
    unfold unE
    rw [if_neg (by omega), hc, put_op hx h hv, hp, decide_eq_true hv.1]
    rfl
  refine ⟨e, ?_⟩
  unfold unW
  rw [e, hc, if_pos rfl, if_pos rfl, put_put hx h hv, put_zero hx h hm]
theorem un_whole {x k : Int} (hk : k ≤ 7) (hc : inC k = false) : unE x k = 0 ∧ unW x k = 0 := by
  have e : unE x k = 0 := by unfold unE; rw [if_neg (by omega), if_pos hc]
  refine ⟨e, ?_⟩
  unfold unW
  rw [e, hc]
  rfl
end Go.Proofs.Ytdnjilnnlgphhaa.RM
namespace Go.Proofs.Ytdnjilnnlgphhaa.WK
open Go.RowKit WM IM WF IF RM RF

theorem decode_put (x k v : Int) (hx : 0 ≤ x ∧ x ≤ 4294967295) (h : opB x k = true) (hv : 0 ≤ v ∧ v ≤ 1048575) :
    Says Try.prog 18 #[.int .u32 (putW x k v)] (.tuple #[insV (opK k) (pD x) 0 0 v, .int .i64 0]) := by
  obtain ⟨e1, e2, e3, e4, e5, e6⟩ := put_parts hx h hv
  have C := decode_any (putW x k v) (put_bd hx h hv)
  unfold decV at C
  rw [e1, e2, e3, e4, e5, e6] at C
  exact C
theorem RelocBack_no (x k v X E r : Int) (hk : 0 ≤ k ∧ k ≤ 255) (w : World) (C1 : Says Try.prog 12 #[.int .u32 x, .int .u8 k, .int .u32 v] (.tuple #[.int .u32 0, .int .i64 E]))
    (C2 : ∀ w, Calls Try.prog 14 #[.int .u8 k] w fun e w' => e = .returned (.int .u32 r) ∧ w = w')
    (h : 7 < k ∧ E = 2 ∨ k ≤ 7 ∧ E = 10 ∨ k ≤ 7 ∧ r < v ∧ E = 30) :
    Calls Try.prog 6 #[.int .u32 x, .int .u8 k, .int .u32 v] w fun e w' => e = .returned (.bool true) ∧ Below w.heap.size w w' := by
  have T1 := Lib.hid C1
  have T2 := Lib.hid C2
  have T3 := Lib.hid awakeS
  clear C1 C2
  obtain ⟨hk1, hk2⟩ := hk
  have hb := Below.refl w.heap.size w
  rcases h with ⟨h7, rfl⟩ | ⟨h7, rfl⟩ | ⟨h7, hr, rfl⟩
  · have cb : decide (7 < k) = true := decide_eq_true h7
    go_enter Try.func6, Try.ntmps6
    go_wp2_with (first | (go_at_call 12; refine (inw T1.out w _ hb).mono ?_; rintro e w1 ⟨rfl, hb⟩) | (go_at_call 14; refine (T2.out _).mono ?_; rintro e w' ⟨rfl, rfl⟩) | (go_at_call 11; refine (inw T3.out w _ hb).mono ?_; rintro e w3 ⟨rfl, hb⟩))
    go_ret
    exact ⟨rfl, hb⟩
  · have cb : decide (7 < k) = false := decide_eq_false (by omega)
    go_enter Try.func6, Try.ntmps6
    go_wp2_with (first | (go_at_call 12; refine (inw T1.out w _ hb).mono ?_; rintro e w1 ⟨rfl, hb⟩) | (go_at_call 14; refine (T2.out _).mono ?_; rintro e w' ⟨rfl, rfl⟩) | (go_at_call 11; refine (inw T3.out w _ hb).mono ?_; rintro e w3 ⟨rfl, hb⟩))
    go_ret
    exact ⟨rfl, hb⟩
  · have cb : decide (7 < k) = false := decide_eq_false (by omega)
    have cr : decide (r < v) = true := decide_eq_true hr
    go_enter Try.func6, Try.ntmps6
    go_wp2_with (first | (go_at_call 12; refine (inw T1.out w _ hb).mono ?_; rintro e w1 ⟨rfl, hb⟩) | (go_at_call 14; refine (T2.out _).mono ?_; rintro e w' ⟨rfl, rfl⟩) | (go_at_call 11; refine (inw T3.out w _ hb).mono ?_; rintro e w3 ⟨rfl, hb⟩))
    go_ret
    exact ⟨rfl, hb⟩
theorem RelocBack_code (x k v X d : Int) (w : World) (C1 : Says Try.prog 12 #[.int .u32 x, .int .u8 k, .int .u32 v] (.tuple #[.int .u32 X, .int .i64 0]))
    (C2 : Says Try.prog 16 #[.int .u32 X, .int .u8 k] (.tuple #[.int .u32 x, .int .i64 0]))
    (C3 : Says Try.prog 18 #[.int .u32 X] (.tuple #[insV (opK k) d 0 0 v, .int .i64 0]))
    (C4 : opK k = 17 → Says Try.prog 19 #[.int .u32 0, insV 17 d 0 0 v] (.tuple #[.int .u32 v, .bool true])) (hv : 0 ≤ v ∧ v ≤ 1048575)
    (hk : k = 0 ∨ k = 7 ∨ k = 1 ∨ k = 2 ∨ k = 3) :
    Calls Try.prog 6 #[.int .u32 x, .int .u8 k, .int .u32 v] w fun e w' => e = .returned (.bool true) ∧ Below w.heap.size w w' := by
  have T3 := Lib.hid C3
  have T5 := Lib.hid awakeS
  have hvm : v % 4294967296 = v := by omega
  clear C3
  obtain ⟨hv1, hv2⟩ := hv
  have hb := Below.refl w.heap.size w
  rcases hk with rfl | rfl | rfl | rfl | rfl
  all_goals have T1 := Lib.hid C1
  all_goals have T2 := Lib.hid C2
  all_goals clear C1 C2
  all_goals simp only [opK] at T3 C4
  all_goals simp at T3 C4
  all_goals have T4 := Lib.hid C4
  all_goals clear C4
  all_goals
    go_enter Try.func6, Try.ntmps6
    go_wp2_with (first | (go_at_call 12; refine (inw T1.out w _ hb).mono ?_; rintro e w1 ⟨rfl, hb⟩) | (go_at_call 16; refine (inw T2.out w _ hb).mono ?_; rintro e w2 ⟨rfl, hb⟩) | (go_at_call 18; refine (inw T3.out w _ hb).mono ?_; rintro e w3 ⟨rfl, hb⟩; have hb := fun o => hb.alloc hb.size o) | (go_at_call 19; refine (inw T4.out w _ (hb _)).mono ?_; rintro e w4 ⟨rfl, hb⟩) | (go_at_call 11; first | (refine (inw T5.out w _ (hb _)).mono ?_; rintro e w5 ⟨rfl, hb⟩) | (refine (inw T5.out w _ hb).mono ?_; rintro e w5 ⟨rfl, hb⟩)))
    go_ret
    exact ⟨rfl, hb⟩
/-- what Decode tells, by its parts -/
theorem dec_parts (x : Int) (hx : 0 ≤ x ∧ x ≤ 4294967295) : ∃ o d a b m K : Int, decV x = .tuple #[insV o d a b m, .int .i64 K] ∧ Fit o d a b m := by
  unfold decV
  cases hasB x with
  | true => exact ⟨_, _, _, _, _, _, rfl, part_fit hx⟩
  | false => exact ⟨0, 0, 0, 0, 0, _, rfl, by unfold Fit; omega⟩
theorem RelocBack_whole (x k v : Int) (w : World) (C1 : Says Try.prog 12 #[.int .u32 x, .int .u8 k, .int .u32 v] (.tuple #[.int .u32 v, .int .i64 0]))
    (C2 : Says Try.prog 16 #[.int .u32 v, .int .u8 k] (.tuple #[.int .u32 0, .int .i64 0])) (hv : 0 ≤ v ∧ v ≤ 4294967295)
    (hk : k = 4 ∨ k = 5 ∨ k = 6) :
    Calls Try.prog 6 #[.int .u32 x, .int .u8 k, .int .u32 v] w fun e w' => e = .returned (.bool true) ∧ Below w.heap.size w w' := by
  have C3 := decode_any v hv
  obtain ⟨o, d, a, b, m, K, e, _⟩ := dec_parts v hv
  rw [e] at C3
  have T3 := Lib.hid C3
  have T5 := Lib.hid awakeS
  clear C3 e
  obtain ⟨hv1, hv2⟩ := hv
  have hb := Below.refl w.heap.size w
  rcases hk with rfl | rfl | rfl
  all_goals have T1 := Lib.hid C1
  all_goals have T2 := Lib.hid C2
  all_goals clear C1 C2
  all_goals
    go_enter Try.func6, Try.ntmps6
    go_wp2_with (first | (go_at_call 12; refine (inw T1.out w _ hb).mono ?_; rintro e w1 ⟨rfl, hb⟩) | (go_at_call 16; refine (inw T2.out w _ hb).mono ?_; rintro e w2 ⟨rfl, hb⟩) | (go_at_call 18; refine (inw T3.out w _ hb).mono ?_; rintro e w3 ⟨rfl, hb⟩; have hb := fun o => hb.alloc hb.size o) | (go_at_call 11; refine (inw T5.out w _ (hb _)).mono ?_; rintro e w5 ⟨rfl, hb⟩))
    go_ret
    exact ⟨rfl, hb⟩
theorem RelocBack_walk (x k v : Int) (hx : 0 ≤ x ∧ x ≤ 4294967295) (hk : 0 ≤ k ∧ k ≤ 255) (hv : 0 ≤ v ∧ v ≤ 4294967295) (w : World) :
    Calls Try.prog 6 #[.int .u32 x, .int .u8 k, .int .u32 v] w fun e w' => e = .returned (.bool true) ∧ Below w.heap.size w w' := by
  have C1 := apply_any x k v hx hk hv
  by_cases h0 : apE x k v = 0
  · rw [h0] at C1
    obtain ⟨hk7, ⟨hc, ho, hm, hv2, e⟩ | ⟨hc, e⟩⟩ := ap_yes h0
    · rw [e] at C1
      have C2 := undo_any (putW x k v) k (put_bd hx ho ⟨hv.1, hv2⟩) hk
      obtain ⟨e1, e2⟩ := un_put hx hk7 hc ho hm ⟨hv.1, hv2⟩
      rw [e1, e2] at C2
      refine RelocBack_code x k v _ (pD x) w C1 C2 (decode_put x k v hx ho ⟨hv.1, hv2⟩) (fun h17 => ?_) ⟨hv.1, hv2⟩ ?_
      · have g := put_ok hx ho ⟨hv.1, hv2⟩
        rw [h17] at g
        have C4 := target_any 0 17 (pD x) 0 0 v (by omega) (good_fit g)
        have hz : chk 17 (pD x) 0 0 v = 0 := (chk_good (by omega) (part_bd hx).2.1.1 (by omega) (by omega)).2 g
        have hg : goB 17 (pD x) 0 0 v = true := decide_eq_true ⟨hz, by omega⟩
        have ht : goTo 0 17 v = v := by unfold goTo; rw [if_pos rfl]; omega
        unfold tgtV at C4
        rw [hg, ht] at C4
        exact C4
      · have := of_decide_eq_true hc
        omega
    · rw [e] at C1
      have C2 := undo_any v k hv hk
      obtain ⟨e1, e2⟩ := un_whole (x := v) hk7 hc
      rw [e1, e2] at C2
      refine RelocBack_whole x k v w C1 C2 hv ?_
      have := of_decide_eq_false hc
      omega
  · obtain ⟨e, h⟩ := ap_no hk.1 h0
    rw [e] at C1
    refine RelocBack_no x k v 0 _ (rch k) hk w C1 (fun w => reach_any k w hk) ?_
    omega
theorem RelocReach_code (k d v q s W r E X : Int) (w : World) (hd : 0 ≤ s ∧ s ≤ 7) (hq : 0 ≤ q ∧ q ≤ 7) (hkm : k.tmod 8 = q) (hdm : d.tmod 8 = s)
    (C1 : Says Try.prog 20 #[insV (opK q) (dK q s) 0 0 0] (.tuple #[.int .u32 W, .int .i64 0]))
    (C2 : Says Try.prog 12 #[.int .u32 W, .int .u8 q, .int .u32 v] (.tuple #[.int .u32 X, .int .i64 E]))
    (C3 : ∀ w, Calls Try.prog 14 #[.int .u8 q] w fun e w' => e = .returned (.int .u32 r) ∧ w = w')
    (h : v ≤ r ∧ E = 0 ∨ r < v ∧ E = 30) :
    Calls Try.prog 7 #[.int .u8 k, .int .u8 d, .int .u32 v] w fun e w' => e = .returned (.bool true) ∧ Below w.heap.size w w' := by
  have T2 := Lib.hid C2
  have T3 := Lib.hid C3
  have T5 := Lib.hid awakeS
  clear C2 C3
  have hqb : q % 256 = q := by omega
  have hsb : s % 256 = s := by omega
  have hb := Below.refl w.heap.size w
  by_cases hc : q = 0 ∨ q = 7
  · simp only [opK, dK, if_pos hc] at C1
    have T1 := Lib.hid C1
    clear C1
    rcases hc with rfl | rfl <;> rcases h with ⟨hr, rfl⟩ | ⟨hr, rfl⟩
    all_goals first | have cb : decide (v ≤ r) = true := decide_eq_true hr | have cb : decide (v ≤ r) = false := decide_eq_false (Int.not_le.2 hr)
    all_goals
      go_enter Try.func7, Try.ntmps7
      go_wp2_with (first | (go_at_call 20; refine (inw T1.out w _ hb).mono ?_; rintro e w1 ⟨rfl, hb⟩) | (go_at_call 12; refine (inw T2.out w _ hb).mono ?_; rintro e w2 ⟨rfl, hb⟩) | (go_at_call 14; refine (T3.out _).mono ?_; rintro e w' ⟨rfl, rfl⟩) | (go_at_call 11; refine (inw T5.out w _ hb).mono ?_; rintro e w5 ⟨rfl, hb⟩))
      go_ret
      exact ⟨rfl, hb⟩
  · simp only [opK, dK, if_neg hc] at C1
    have T1 := Lib.hid C1
    clear C1
    have q0 : (q == 0) = false := by simp; omega
    have q7 : (q == 7) = false := by simp; omega
    rcases h with ⟨hr, rfl⟩ | ⟨hr, rfl⟩
    all_goals first | have cb : decide (v ≤ r) = true := decide_eq_true hr | have cb : decide (v ≤ r) = false := decide_eq_false (Int.not_le.2 hr)
    all_goals
      go_enter Try.func7, Try.ntmps7
      go_wp2_with (first | (go_at_call 20; refine (inw T1.out w _ hb).mono ?_; rintro e w1 ⟨rfl, hb⟩) | (go_at_call 12; refine (inw T2.out w _ hb).mono ?_; rintro e w2 ⟨rfl, hb⟩) | (go_at_call 14; refine (T3.out _).mono ?_; rintro e w' ⟨rfl, rfl⟩) | (go_at_call 11; refine (inw T5.out w _ hb).mono ?_; rintro e w5 ⟨rfl, hb⟩))
      go_ret
      exact ⟨rfl, hb⟩
theorem blank_ok {q s : Int} (hd : 0 ≤ s ∧ s ≤ 7) : InsOk (opK q) (dK q s) 0 0 0 := by
  unfold InsOk opK dK
  split <;> omega
theorem RelocReach_walk (k d v : Int) (hk : 0 ≤ k ∧ k ≤ 255) (hd : 0 ≤ d ∧ d ≤ 255) (hv : 0 ≤ v ∧ v ≤ 4294967295) (w : World) :
    Calls Try.prog 7 #[.int .u8 k, .int .u8 d, .int .u32 v] w fun e w' => e = .returned (.bool true) ∧ Below w.heap.size w w' := by
  have e1 : k.tmod 8 = k % 8 := Int.tmod_eq_emod_of_nonneg hk.1
  have e2 : d.tmod 8 = d % 8 := Int.tmod_eq_emod_of_nonneg hd.1
  have hq : 0 ≤ k % 8 ∧ k % 8 ≤ 7 := by omega
  have hs : 0 ≤ d % 8 ∧ d % 8 ≤ 7 := by omega
  generalize k % 8 = q at *
  generalize d % 8 = s at *
  have g := blank_ok (q := q) hs
  have hW := enc_bd g
  obtain ⟨p1, p2, p3, p4, p5⟩ := parts_enc g
  have ho : opB (enc (opK q) (dK q s) 0 0 0) q = true := by unfold opB; rw [has_enc g, p1]; simp
  refine RelocReach_code k d v q s (enc (opK q) (dK q s) 0 0 0) (rch q) (apE (enc (opK q) (dK q s) 0 0 0) q v) (apW (enc (opK q) (dK q s) 0 0 0) q v) w hs hq e1 e2 (encode_yes _ _ _ _ _ g) (apply_any _ q v hW ⟨hq.1, by omega⟩ hv) (fun w => reach_any q w ⟨hq.1, by omega⟩) ?_
  have h7 : ¬ 7 < q := by omega
  have eA : apE (enc (opK q) (dK q s) 0 0 0) q v = if inC q = false then 0 else if 1048575 < v then 30 else 0 := by
    unfold apE
    rw [if_neg h7, ho, p5]
    rfl
  have eR : rch q = if inC q then 1048575 else 4294967295 := by unfold rch; rw [if_neg h7]
  rw [eA, eR]
  cases hc : inC q with
  | false => exact Or.inl ⟨hv.2, rfl⟩
  | true =>
    by_cases h : 1048575 < v
    · exact Or.inr ⟨h, by simp [h]⟩
    · exact Or.inl ⟨Int.not_lt.1 h, by simp [h]⟩
theorem RelocKeeps_no (x k v X E : Int) (w : World) (hk : 0 ≤ k ∧ k ≤ 255) (C1 : Says Try.prog 12 #[.int .u32 x, .int .u8 k, .int .u32 v] (.tuple #[.int .u32 X, .int .i64 E]))
    (h : (E != 0) = true ∨ E = 0 ∧ (k = 4 ∨ k = 5 ∨ k = 6)) :
    Calls Try.prog 8 #[.int .u32 x, .int .u8 k, .int .u32 v] w fun e w' => e = .returned (.bool true) ∧ Below w.heap.size w w' := by
  have T5 := Lib.hid awakeS
  have hb := Below.refl w.heap.size w
  rcases h with h | ⟨rfl, rfl | rfl | rfl⟩
  all_goals
    have T1 := Lib.hid C1
    clear C1
    go_enter Try.func8, Try.ntmps8
    go_wp2_with (first | (go_at_call 12; refine (inw T1.out w _ hb).mono ?_; rintro e w2 ⟨rfl, hb⟩) | (go_at_call 11; refine (inw T5.out w _ hb).mono ?_; rintro e w5 ⟨rfl, hb⟩))
    go_ret
    exact ⟨rfl, hb⟩
theorem RelocKeeps_code (x k v X o d r : Int) (w : World) (C1 : Says Try.prog 12 #[.int .u32 x, .int .u8 k, .int .u32 v] (.tuple #[.int .u32 X, .int .i64 0]))
    (C2 : Says Try.prog 18 #[.int .u32 x] (.tuple #[insV o d 0 0 0, .int .i64 0]))
    (C3 : Says Try.prog 18 #[.int .u32 X] (.tuple #[insV o d 0 0 v, .int .i64 0]))
    (C4 : ∀ w, Calls Try.prog 14 #[.int .u8 k] w fun e w' => e = .returned (.int .u32 r) ∧ w = w') (hr : v ≤ r)
    (hk : (k == 4) = false ∧ (k == 5) = false ∧ (k == 6) = false) :
    Calls Try.prog 8 #[.int .u32 x, .int .u8 k, .int .u32 v] w fun e w' => e = .returned (.bool true) ∧ Below w.heap.size w w' := by
  obtain ⟨k4, k5, k6⟩ := hk
  have T1 := Lib.hid C1
  have T2 := Lib.hid C2
  have T3 := Lib.hid C3
  have T4 := Lib.hid C4
  have T5 := Lib.hid awakeS
  clear C1 C2 C3 C4
  have cb : decide (v ≤ r) = true := decide_eq_true hr
  have tok1 : True := trivial
  go_enter Try.func8, Try.ntmps8
  go_wp2_with (first | (go_at_call 12; refine (T1.out.at _).mono ?_; rintro e w1 ⟨rfl, hb⟩) | (go_at_call 18; first | (have tok := tok1; (with_reducible refine (inw T2.out w _ hb).mono ?_); clear tok tok1; rintro e w2 ⟨rfl, hb2⟩) | ((with_reducible refine (T3.out.at _).mono ?_); rintro e w3 ⟨rfl, hb3⟩; obtain ⟨hc3, hf3⟩ := bcell hb3; have hz : w2.heap.size < w3.heap.size := (by have := hb3.size; simp at this; omega))) | (go_at_call 14; refine (T4.out _).mono ?_; rintro e w' ⟨rfl, rfl⟩) | (go_at_call 11; refine (T5.out.at _).mono ?_; rintro e w5 ⟨rfl, hb5⟩))
  go_ret
  have b3 := (hb2.alloc hb2.size _).trans (hb3.mono (hb2.alloc hb2.size _).size)
  exact ⟨rfl, (b3.alloc b3.size _).trans (hb5.mono (b3.alloc b3.size _).size)⟩
theorem RelocKeeps_walk (x k v : Int) (hx : 0 ≤ x ∧ x ≤ 4294967295) (hk : 0 ≤ k ∧ k ≤ 255) (hv : 0 ≤ v ∧ v ≤ 4294967295) (w : World) :
    Calls Try.prog 8 #[.int .u32 x, .int .u8 k, .int .u32 v] w fun e w' => e = .returned (.bool true) ∧ Below w.heap.size w w' := by
  have C1 := apply_any x k v hx hk hv
  by_cases h0 : apE x k v = 0
  · rw [h0] at C1
    obtain ⟨hk7, ⟨hc, ho, hm, hv2, e⟩ | ⟨hc, e⟩⟩ := ap_yes h0
    · rw [e] at C1
      have C2 := decode_put x k 0 hx ho (by omega)
      rw [put_zero hx ho hm] at C2
      have hkc := of_decide_eq_true hc
      refine RelocKeeps_code x k v _ _ _ (rch k) w C1 C2 (decode_put x k v hx ho ⟨hv.1, hv2⟩) (fun w => reach_any k w hk) ?_ ?_
      · unfold rch
        rw [if_neg (by omega), if_pos hc]
        exact hv2
      · simp only [beq_eq_false_iff_ne, ne_eq]
        omega
    · have := of_decide_eq_false hc
      exact RelocKeeps_no x k v _ 0 w hk C1 (Or.inr ⟨rfl, by omega⟩)
  · exact RelocKeeps_no x k v _ _ w hk C1 (Or.inl (by simpa using h0))
end Go.Proofs.Ytdnjilnnlgphhaa.WK
