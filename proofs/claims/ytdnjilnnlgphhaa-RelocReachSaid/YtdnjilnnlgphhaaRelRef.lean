/-
  The reference's Apply and Undo, call by call. Nothing here is a statement of the seed.
-/
import Derived.Test.YtdnjilnnlgphhaaRelUndo
set_option linter.unusedSimpArgs false
set_option linter.unusedVariables false
namespace Go.Proofs.Ytdnjilnnlgphhaa.RF
open Go.RowKit WM IM WF IF RM

theorem refApply_out (x k v : Int) (hk : 7 < k ∧ k ≤ 255) : Says Try.prog 13 #[.int .u32 x, .int .u8 k, .int .u32 v] (.tuple #[.int .u32 0, .int .i64 2]) := by
  intro w
  obtain ⟨h1, h2⟩ := hk
  go_enter Try.func13, Try.ntmps13
  go_wp2
  exact bodyPost_ret (v := .tuple #[.int .u32 0, .int .i64 2]) (by simp [results, Try.results13, go_sem, *]) rfl ⟨rfl, Below.refl _ _⟩
theorem refApply_whole (x k v : Int) (hk : 0 ≤ k ∧ k ≤ 7) (hw : inC k = false) : Says Try.prog 13 #[.int .u32 x, .int .u8 k, .int .u32 v] (.tuple #[.int .u32 v, .int .i64 0]) := by
  intro w
  have C := Lib.hid (fun w => inCode_any k w ⟨hk.1, by omega⟩)
  rw [hw] at C
  obtain ⟨h1, h2⟩ := hk
  clear hw
  go_enter Try.func13, Try.ntmps13
  go_wp2_with (first | (go_at_call 24; refine (C.out _).mono ?_; rintro e w' ⟨rfl, rfl⟩))
  exact bodyPost_ret (v := .tuple #[.int .u32 v, .int .i64 0]) (by simp [results, Try.results13, go_sem, *]) rfl ⟨rfl, Below.refl _ _⟩
theorem refUndo_out (x k : Int) (hk : 7 < k ∧ k ≤ 255) : Says Try.prog 17 #[.int .u32 x, .int .u8 k] (.tuple #[.int .u32 0, .int .i64 2]) := by
  intro w
  obtain ⟨h1, h2⟩ := hk
  go_enter Try.func17, Try.ntmps17
  go_wp2
  exact bodyPost_ret (v := .tuple #[.int .u32 0, .int .i64 2]) (by simp [results, Try.results17, go_sem, *]) rfl ⟨rfl, Below.refl _ _⟩
theorem refUndo_whole (x k : Int) (hk : 0 ≤ k ∧ k ≤ 7) (hw : inC k = false) : Says Try.prog 17 #[.int .u32 x, .int .u8 k] (.tuple #[.int .u32 0, .int .i64 0]) := by
  intro w
  have C := Lib.hid (fun w => inCode_any k w ⟨hk.1, by omega⟩)
  rw [hw] at C
  obtain ⟨h1, h2⟩ := hk
  clear hw
  go_enter Try.func17, Try.ntmps17
  go_wp2_with (first | (go_at_call 24; refine (C.out _).mono ?_; rintro e w' ⟨rfl, rfl⟩))
  exact bodyPost_ret (v := .tuple #[.int .u32 0, .int .i64 0]) (by simp [results, Try.results17, go_sem, *]) rfl ⟨rfl, Below.refl _ _⟩
/-- the reference's Apply, by what its calls tell -/
theorem refApply_code (x k v o d a b m K q E r : Int) (hk : 0 ≤ k ∧ k ≤ 7) (CW : ∀ w, Calls Try.prog 24 #[.int .u8 k] w fun e w' => e = .returned (.bool true) ∧ w = w')
    (CD : Says Try.prog 25 #[.int .u32 x] (.tuple #[insV o d a b m, .int .i64 K]))
    (CO : ∀ w, Calls Try.prog 26 #[.int .u8 k] w fun e w' => e = .returned (.int .u8 q) ∧ w = w')
    (CR : ∀ w, Calls Try.prog 15 #[.int .u8 k] w fun e w' => e = .returned (.int .u32 1048575) ∧ w = w')
    (CE : r = 0 → Says Try.prog 27 #[insV o d a b v] (.tuple #[.int .u32 E, .int .i64 0])) (hv : 0 ≤ v ∧ v ≤ 4294967295)
    (h : (K != 0) = true ∧ r = 10 ∨ K = 0 ∧ (o != q) = true ∧ r = 10 ∨ K = 0 ∧ o = q ∧ (m != 0) = true ∧ r = 10 ∨ K = 0 ∧ o = q ∧ m = 0 ∧ 1048575 < v ∧ r = 30 ∨ K = 0 ∧ o = q ∧ m = 0 ∧ v ≤ 1048575 ∧ r = 0) :
    Says Try.prog 13 #[.int .u32 x, .int .u8 k, .int .u32 v] (.tuple #[.int .u32 (if r = 0 then E else 0), .int .i64 r]) := by
  intro w
  obtain ⟨h1, h2⟩ := hk
  obtain ⟨hv1, hv2⟩ := hv
  have TW := Lib.hid CW
  have TD := Lib.hid CD
  have TO := Lib.hid CO
  have TR := Lib.hid CR
  clear CW CD CO CR
  rcases h with ⟨hK, rfl⟩ | ⟨rfl, hn, rfl⟩ | ⟨rfl, rfl, hn, rfl⟩ | ⟨rfl, rfl, rfl, hf, rfl⟩ | ⟨rfl, rfl, rfl, hf, rfl⟩
  · clear CE
    go_enter Try.func13, Try.ntmps13
    go_wp2_with (first | (go_at_call 24; refine (TW.out _).mono ?_; rintro e w' ⟨rfl, rfl⟩) | (go_at_call 25; refine (TD.out.at _).mono ?_; rintro e w1 ⟨rfl, hb⟩; obtain ⟨hc, hg⟩ := bcell hb))
    go_quiet ((go_at_call 26; exact quiet_left (TO.out _)))
    go_wp2
    exact bodyPost_ret (v := .tuple #[.int .u32 0, .int .i64 10]) (by simp [results, Try.results13, go_sem, *]) rfl ⟨rfl, by first | exact hb.alloc hb.size _ | exact (hb.alloc hb.size _).drew | exact below_drewN (hb.alloc hb.size _) _⟩
  · clear CE
    go_enter Try.func13, Try.ntmps13
    go_wp2_with (first | (go_at_call 24; refine (TW.out _).mono ?_; rintro e w' ⟨rfl, rfl⟩) | (go_at_call 25; refine (TD.out.at _).mono ?_; rintro e w1 ⟨rfl, hb⟩; obtain ⟨hc, hg⟩ := bcell hb))
    go_quiet ((go_at_call 26; exact quiet_left (TO.out _)))
    go_wp2
    exact bodyPost_ret (v := .tuple #[.int .u32 0, .int .i64 10]) (by simp [results, Try.results13, go_sem, *]) rfl ⟨rfl, by first | exact hb.alloc hb.size _ | exact (hb.alloc hb.size _).drew | exact below_drewN (hb.alloc hb.size _) _⟩
  · clear CE
    go_enter Try.func13, Try.ntmps13
    go_wp2_with (first | (go_at_call 24; refine (TW.out _).mono ?_; rintro e w' ⟨rfl, rfl⟩) | (go_at_call 25; refine (TD.out.at _).mono ?_; rintro e w1 ⟨rfl, hb⟩; obtain ⟨hc, hg⟩ := bcell hb))
    go_quiet ((go_at_call 26; exact quiet_left (TO.out _)))
    go_wp2
    exact bodyPost_ret (v := .tuple #[.int .u32 0, .int .i64 10]) (by simp [results, Try.results13, go_sem, *]) rfl ⟨rfl, by first | exact hb.alloc hb.size _ | exact (hb.alloc hb.size _).drew | exact below_drewN (hb.alloc hb.size _) _⟩
  · clear CE
    go_enter Try.func13, Try.ntmps13
    go_wp2_with (first | (go_at_call 24; refine (TW.out _).mono ?_; rintro e w' ⟨rfl, rfl⟩) | (go_at_call 25; refine (TD.out.at _).mono ?_; rintro e w1 ⟨rfl, hb⟩; obtain ⟨hc, hg⟩ := bcell hb))
    go_quiet ((go_at_call 26; exact quiet_left (TO.out _)))
    go_wp2_with (first | (go_at_call 15; refine (TR.out _).mono ?_; rintro e w5 ⟨rfl, rfl⟩))
    exact bodyPost_ret (v := .tuple #[.int .u32 0, .int .i64 30]) (by simp [results, Try.results13, go_sem, *]) rfl ⟨rfl, by first | exact hb.alloc hb.size _ | exact (hb.alloc hb.size _).drew | exact below_drewN (hb.alloc hb.size _) _⟩
  · have TE := Lib.hid (CE rfl)
    clear CE
    go_enter Try.func13, Try.ntmps13
    go_wp2_with (first | (go_at_call 24; refine (TW.out _).mono ?_; rintro e w' ⟨rfl, rfl⟩) | (go_at_call 25; refine (TD.out.at _).mono ?_; rintro e w1 ⟨rfl, hb⟩; obtain ⟨hc, hg⟩ := bcell hb))
    go_quiet ((go_at_call 26; exact quiet_left (TO.out _)))
    go_wp2_with (first | (go_at_call 15; refine (TR.out _).mono ?_; rintro e w5 ⟨rfl, rfl⟩) | (go_at_call 27; refine (TE.out.at _).mono ?_; rintro e w6 ⟨rfl, hb6⟩; obtain ⟨hc6, hf6⟩ := bcell hb6))
    exact bodyPost_ret (v := .tuple #[.int .u32 E, .int .i64 0]) (by simp [results, Try.results13, go_sem, *]) rfl ⟨rfl, ((below_drewN (hb.alloc hb.size _) _).setCell hb.size _).trans (hb6.mono (by have := hb.size; simp; omega))⟩
/-- the reference's Undo, by what its calls tell -/
theorem refUndo_code (x k o d a b m K q E r : Int) (hk : 0 ≤ k ∧ k ≤ 7) (CW : ∀ w, Calls Try.prog 24 #[.int .u8 k] w fun e w' => e = .returned (.bool true) ∧ w = w')
    (CD : Says Try.prog 25 #[.int .u32 x] (.tuple #[insV o d a b m, .int .i64 K]))
    (CO : ∀ w, Calls Try.prog 26 #[.int .u8 k] w fun e w' => e = .returned (.int .u8 q) ∧ w = w')
    (CE : r = 0 → Says Try.prog 27 #[insV o d a b 0] (.tuple #[.int .u32 E, .int .i64 0]))
    (h : (K != 0) = true ∧ r = 10 ∨ K = 0 ∧ (o != q) = true ∧ r = 10 ∨ K = 0 ∧ o = q ∧ m < 0 ∧ r = 10 ∨ K = 0 ∧ o = q ∧ 0 ≤ m ∧ r = 0) :
    Says Try.prog 17 #[.int .u32 x, .int .u8 k] (.tuple #[.int .u32 (if r = 0 then E else 0), .int .i64 r]) := by
  intro w
  obtain ⟨h1, h2⟩ := hk
  have TW := Lib.hid CW
  have TD := Lib.hid CD
  have TO := Lib.hid CO
  clear CW CD CO
  rcases h with ⟨hK, rfl⟩ | ⟨rfl, hn, rfl⟩ | ⟨rfl, rfl, hm, rfl⟩ | ⟨rfl, rfl, hm, rfl⟩
  · clear CE
    go_enter Try.func17, Try.ntmps17
    go_wp2_with (first | (go_at_call 24; refine (TW.out _).mono ?_; rintro e w' ⟨rfl, rfl⟩) | (go_at_call 25; refine (TD.out.at _).mono ?_; rintro e w1 ⟨rfl, hb⟩; obtain ⟨hc, hg⟩ := bcell hb))
    go_quiet ((go_at_call 26; exact quiet_left (TO.out _)))
    go_wp2
    exact bodyPost_ret (v := .tuple #[.int .u32 0, .int .i64 10]) (by simp [results, Try.results17, go_sem, *]) rfl ⟨rfl, by first | exact hb.alloc hb.size _ | exact (hb.alloc hb.size _).drew | exact below_drewN (hb.alloc hb.size _) _⟩
  · clear CE
    go_enter Try.func17, Try.ntmps17
    go_wp2_with (first | (go_at_call 24; refine (TW.out _).mono ?_; rintro e w' ⟨rfl, rfl⟩) | (go_at_call 25; refine (TD.out.at _).mono ?_; rintro e w1 ⟨rfl, hb⟩; obtain ⟨hc, hg⟩ := bcell hb))
    go_quiet ((go_at_call 26; exact quiet_left (TO.out _)))
    go_wp2
    exact bodyPost_ret (v := .tuple #[.int .u32 0, .int .i64 10]) (by simp [results, Try.results17, go_sem, *]) rfl ⟨rfl, by first | exact hb.alloc hb.size _ | exact (hb.alloc hb.size _).drew | exact below_drewN (hb.alloc hb.size _) _⟩
  · clear CE
    have cb : decide (m < 0) = true := decide_eq_true hm
    go_enter Try.func17, Try.ntmps17
    go_wp2_with (first | (go_at_call 24; refine (TW.out _).mono ?_; rintro e w' ⟨rfl, rfl⟩) | (go_at_call 25; refine (TD.out.at _).mono ?_; rintro e w1 ⟨rfl, hb⟩; obtain ⟨hc, hg⟩ := bcell hb))
    go_quiet ((go_at_call 26; exact quiet_left (TO.out _)))
    go_wp2
    exact bodyPost_ret (v := .tuple #[.int .u32 0, .int .i64 10]) (by simp [results, Try.results17, go_sem, *]) rfl ⟨rfl, by first | exact hb.alloc hb.size _ | exact (hb.alloc hb.size _).drew | exact below_drewN (hb.alloc hb.size _) _⟩
  · have TE := Lib.hid (CE rfl)
    clear CE
    have cb : decide (m < 0) = false := decide_eq_false (Int.not_lt.2 hm)
    go_enter Try.func17, Try.ntmps17
    go_wp2_with (first | (go_at_call 24; refine (TW.out _).mono ?_; rintro e w' ⟨rfl, rfl⟩) | (go_at_call 25; refine (TD.out.at _).mono ?_; rintro e w1 ⟨rfl, hb⟩; obtain ⟨hc, hg⟩ := bcell hb))
    go_quiet ((go_at_call 26; exact quiet_left (TO.out _)))
    go_wp2_with (first | (go_at_call 27; refine (TE.out.at _).mono ?_; rintro e w6 ⟨rfl, hb6⟩; obtain ⟨hc6, hf6⟩ := bcell hb6))
    exact bodyPost_ret (v := .tuple #[.int .u32 E, .int .i64 0]) (by simp [results, Try.results17, go_sem, *]) rfl ⟨rfl, ((below_drewN (hb.alloc hb.size _) _).setCell hb.size _).trans (hb6.mono (by have := hb.size; simp; omega))⟩
theorem refApply_any (x k v : Int) (hx : 0 ≤ x ∧ x ≤ 4294967295) (hk : 0 ≤ k ∧ k ≤ 255) (hv : 0 ≤ v ∧ v ≤ 4294967295) :
    Says Try.prog 13 #[.int .u32 x, .int .u8 k, .int .u32 v] (.tuple #[.int .u32 (apW x k v), .int .i64 (apE x k v)]) := by
  by_cases h7 : 7 < k
  · have e : apE x k v = 2 := by unfold apE; rw [if_pos h7]
    have e2 : apW x k v = 0 := by unfold apW; rw [e]; rfl
    rw [e, e2]
    exact refApply_out x k v ⟨h7, hk.2⟩
  · have hk7 : 0 ≤ k ∧ k ≤ 7 := ⟨hk.1, by omega⟩
    cases hc : inC k with
    | false =>
      have e : apE x k v = 0 := by unfold apE; rw [if_neg h7, if_pos hc]
      have e2 : apW x k v = v := by unfold apW; rw [e, hc]; rfl
      rw [e, e2]
      exact refApply_whole x k v hk7 hc
    | true =>
      have CW := fun w => inCode_any k w hk
      rw [hc] at CW
      have CR := fun w => refReach_any k w hk
      have hr : rch k = 1048575 := by unfold rch; rw [if_neg h7, if_pos hc]
      rw [hr] at CR
      have CO := fun w => op_any k w hk
      have CD := refDecode_any x hx
      unfold decV at CD
      have eE : apE x k v = if (opB x k && decide (pM x = 0)) = false then 10 else if 1048575 < v then 30 else 0 := by unfold apE; rw [if_neg h7, hc]; simp
      have eW : apW x k v = if apE x k v = 0 then putW x k v else 0 := by unfold apW; rw [hc]; simp
      rw [eW]
      cases hh : hasB x with
      | false =>
        rw [hh] at CD
        have ho : opB x k = false := by unfold opB; rw [hh]; rfl
        have e : apE x k v = 10 := by rw [eE, ho]; rfl
        rw [e]
        exact refApply_code x k v _ _ _ _ _ _ _ (putW x k v) 10 hk7 CW CD CO CR (fun h => by omega) hv (Or.inl ⟨by decide, rfl⟩)
      | true =>
        rw [hh] at CD
        refine refApply_code x k v _ _ _ _ _ _ _ (putW x k v) (apE x k v) hk7 CW CD CO CR (fun h => ?_) hv (Or.inr ?_)
        · have ho : opB x k = true ∧ pM x = 0 ∧ v ≤ 1048575 := by
            rw [eE] at h
            split at h
            · omega
            · rename_i h1
              split at h
              · omega
              · rename_i h2
                simp at h1
                exact ⟨h1.1, h1.2, by omega⟩
          obtain ⟨g1, g2, g3, g4, _⟩ := of_op hx ho.1
          rw [g1, g3, g4]
          exact refEncode_yes _ _ _ _ _ (put_ok hx ho.1 ⟨hv.1, ho.2.2⟩)
        · by_cases hp : pO x = opK k
          · have ho : opB x k = true := by unfold opB; rw [hh, decide_eq_true hp]; rfl
            by_cases hm : pM x = 0
            · have hn : (opB x k && decide (pM x = 0)) = true := by rw [ho, hm]; rfl
              rw [eE, hn]
              by_cases hv2 : 1048575 < v
              · exact Or.inr (Or.inr (Or.inl ⟨rfl, hp, hm, hv2, by simp [hv2]⟩))
              · exact Or.inr (Or.inr (Or.inr ⟨rfl, hp, hm, by omega, by simp; omega⟩))
            · refine Or.inr (Or.inl ⟨rfl, hp, by simpa using hm, ?_⟩)
              rw [eE, decide_eq_false hm]
              simp
          · refine Or.inl ⟨rfl, by simpa using hp, ?_⟩
            have ho : opB x k = false := by unfold opB; rw [decide_eq_false hp]; simp
            rw [eE, ho]
            rfl
theorem refUndo_any (x k : Int) (hx : 0 ≤ x ∧ x ≤ 4294967295) (hk : 0 ≤ k ∧ k ≤ 255) :
    Says Try.prog 17 #[.int .u32 x, .int .u8 k] (.tuple #[.int .u32 (unW x k), .int .i64 (unE x k)]) := by
  by_cases h7 : 7 < k
  · have e : unE x k = 2 := by unfold unE; rw [if_pos h7]
    have e2 : unW x k = 0 := by unfold unW; rw [e]; rfl
    rw [e, e2]
    exact refUndo_out x k ⟨h7, hk.2⟩
  · have hk7 : 0 ≤ k ∧ k ≤ 7 := ⟨hk.1, by omega⟩
    cases hc : inC k with
    | false =>
      have e : unE x k = 0 := by unfold unE; rw [if_neg h7, if_pos hc]
      have e2 : unW x k = 0 := by unfold unW; rw [e, hc]; rfl
      rw [e, e2]
      exact refUndo_whole x k hk7 hc
    | true =>
      have CW := fun w => inCode_any k w hk
      rw [hc] at CW
      have CO := fun w => op_any k w hk
      have CD := refDecode_any x hx
      unfold decV at CD
      have eE : unE x k = if (opB x k && decide (0 ≤ pM x)) = false then 10 else 0 := by unfold unE; rw [if_neg h7, hc]; simp
      have eW : unW x k = if unE x k = 0 then putW x k 0 else 0 := by unfold unW; rw [hc]; simp
      rw [eW]
      cases hh : hasB x with
      | false =>
        rw [hh] at CD
        have ho : opB x k = false := by unfold opB; rw [hh]; rfl
        have e : unE x k = 10 := by rw [eE, ho]; rfl
        rw [e]
        exact refUndo_code x k _ _ _ _ _ _ _ (putW x k 0) 10 hk7 CW CD CO (fun h => by omega) (Or.inl ⟨by decide, rfl⟩)
      | true =>
        rw [hh] at CD
        refine refUndo_code x k _ _ _ _ _ _ _ (putW x k 0) (unE x k) hk7 CW CD CO (fun h => ?_) (Or.inr ?_)
        · have ho : opB x k = true := by
            rw [eE] at h
            split at h
            · omega
            · rename_i h1
              simp at h1
              exact h1.1
          obtain ⟨g1, g2, g3, g4, _⟩ := of_op hx ho
          rw [g1, g3, g4]
          exact refEncode_yes _ _ _ _ _ (put_ok hx ho (by omega))
        · by_cases hp : pO x = opK k
          · have ho : opB x k = true := by unfold opB; rw [hh, decide_eq_true hp]; rfl
            by_cases hm : 0 ≤ pM x
            · refine Or.inr (Or.inr ⟨rfl, hp, hm, ?_⟩)
              rw [eE, ho, decide_eq_true hm]
              rfl
            · refine Or.inr (Or.inl ⟨rfl, hp, by omega, ?_⟩)
              rw [eE, decide_eq_false hm]
              simp
          · refine Or.inl ⟨rfl, by simpa using hp, ?_⟩
            have ho : opB x k = false := by unfold opB; rw [decide_eq_false hp]; simp
            rw [eE, ho]
            rfl
end Go.Proofs.Ytdnjilnnlgphhaa.RF
