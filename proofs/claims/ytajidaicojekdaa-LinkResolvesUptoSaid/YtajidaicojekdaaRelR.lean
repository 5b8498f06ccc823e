/-
  Joined texts: RelVal, RelRef, RelRefV. Nothing here is a statement of the seed.
-/
import Derived.Test.YtajidaicojekdaaObjA
import Derived.Test.YtajidaicojekdaaRelA
set_option linter.unusedSimpArgs false
set_option linter.unusedVariables false
/-
  The program's Value, call by call. Nothing here is a statement of the seed.
-/
namespace Go.Proofs.Ytajidaicojekdaa.RF
open Go.RowKit WM IM WF IF RM

/-- a relocation and a place as values -/
abbrev relV (k a i : Int) : Value := .agg #[.int .u8 k, .int .u16 a, .int .u16 i]
abbrev plV (c d : Int) : Value := .agg #[.int .u32 c, .int .u32 d]
/-- what the slots read as, in blocks that stand -/
structure Slots (w : World) (v : Value) (l : List Nat) : Prop where
  reads : NR.Reads (· < w.heap.size) w v (NR.u32s l)
theorem Slots.below {w u : World} {v : Value} {l : List Nat} (h : Slots w v l) (hb : Below w.heap.size w u) : Slots u v l :=
  ⟨(h.reads.below hb).mono fun g hg => Nat.lt_of_lt_of_le hg hb.size⟩
theorem Slots.nil (w : World) : Slots w (.slice none 0 0) [] := ⟨NR.Reads.nil _ _⟩
theorem value_in (k a c d : Int) (j : Nat) (l : List Nat) (v : Value) (w : World) (R : Slots w v l) (hj : j < l.length) (hk : k = 0 ∨ k = 1 ∨ k = 4) (hj2 : (j : Int) ≤ 65535) :
    Calls Try.prog 44 #[relV k a (j : Int), plV c d, v] w fun e w' => e = .returned (.tuple #[.int .u32 (l.getD j 0 : Nat), .int .i64 0]) ∧ Below w.heap.size w w' := by
  have hne : NR.u32s l ≠ [] := by intro h; rw [← List.length_eq_zero_iff, NR.u32s_len] at h; omega
  obtain ⟨g, off, cap, rfl, hg, hl, hm, hc⟩ := R.reads.cells hne
  have hcj := hc j (by rw [NR.u32s_len]; exact hj)
  rw [NR.u32s_at l j hj] at hcj
  rw [NR.u32s_len] at hl ⊢
  have e : l.getD j 0 = l[j] := by rw [List.getD_eq_getElem?_getD, List.getElem?_eq_getElem hj]; rfl
  rw [e]
  generalize l[j] = x at *
  have hj1 : (j : Int) < (l.length : Int) := by omega
  have hj0 : (0 : Int) ≤ (j : Int) := by omega
  have hwr : wrap64 (j : Int) = (j : Int) := by unfold wrap64; omega
  have hge : decide ((l.length : Int) ≤ (j : Int)) = false := decide_eq_false (by omega)
  have hg1 : g < w.heap.size + 1 := by omega
  have hne1 : g ≠ w.heap.size := by omega
  clear hc R hne e hj
  generalize l.length = n at *
  rcases hk with rfl | rfl | rfl
  all_goals
    go_enter Try.func44, Try.ntmps44
    go_wp2
    exact bodyPost_ret (v := .tuple #[.int .u32 x, .int .i64 0]) (by simp [results, Try.results44, go_sem, *]) rfl ⟨rfl, ((Below.refl _ _).alloc (Nat.le_refl _) _).alloc (by simp) _⟩
theorem value_beyond (k a c d : Int) (j n : Nat) (p : Option Addr) (cap : Nat) (w : World) (hj : n ≤ j) (hk : k = 0 ∨ k = 1 ∨ k = 4) (hj2 : (j : Int) ≤ 65535) :
    Calls Try.prog 44 #[relV k a (j : Int), plV c d, .slice p n cap] w fun e w' => e = .returned (.tuple #[.int .u32 0, .int .i64 2]) ∧ Below w.heap.size w w' := by
  have hj1 : (n : Int) ≤ (j : Int) := by omega
  have hwr : wrap64 (j : Int) = (j : Int) := by unfold wrap64; omega
  rcases hk with rfl | rfl | rfl
  all_goals
    go_enter Try.func44, Try.ntmps44
    go_wp2
    exact bodyPost_ret (v := .tuple #[.int .u32 0, .int .i64 2]) (by simp [results, Try.results44, go_sem, *]) rfl ⟨rfl, ((Below.refl _ _).alloc (Nat.le_refl _) _).alloc (by simp) _⟩
theorem value_own (k a c d i : Int) (v : Value) (w : World) (hk : k = 2 ∨ k = 5 ∨ k = 3 ∨ k = 6 ∨ k = 7) (hc : 0 ≤ c ∧ c ≤ 4294967295) (hd : 0 ≤ d ∧ d ≤ 4294967295) (hi : 0 ≤ i ∧ i ≤ 65535) :
    Calls Try.prog 44 #[relV k a i, plV c d, v] w fun e w' => e = .returned (.tuple #[.int .u32 (((if k = 2 ∨ k = 5 then d else c) + i) % 4294967296), .int .i64 0]) ∧ Below w.heap.size w w' := by
  obtain ⟨hc1, hc2⟩ := hc
  obtain ⟨hd1, hd2⟩ := hd
  obtain ⟨hi1, hi2⟩ := hi
  have hii : i % 4294967296 = i := by omega
  rcases hk with rfl | rfl | rfl | rfl | rfl
  all_goals
    go_enter Try.func44, Try.ntmps44
    go_wp2
  · exact bodyPost_ret (v := .tuple #[.int .u32 ((d + i) % 4294967296), .int .i64 0]) (by simp [results, Try.results44, go_sem, *]) rfl ⟨rfl, ((Below.refl _ _).alloc (Nat.le_refl _) _).alloc (by simp) _⟩
  · exact bodyPost_ret (v := .tuple #[.int .u32 ((d + i) % 4294967296), .int .i64 0]) (by simp [results, Try.results44, go_sem, *]) rfl ⟨rfl, ((Below.refl _ _).alloc (Nat.le_refl _) _).alloc (by simp) _⟩
  all_goals exact bodyPost_ret (v := .tuple #[.int .u32 ((c + i) % 4294967296), .int .i64 0]) (by simp [results, Try.results44, go_sem, *]) rfl ⟨rfl, ((Below.refl _ _).alloc (Nat.le_refl _) _).alloc (by simp) _⟩
theorem value_no (k a c d i : Int) (v : Value) (w : World) (hk : 7 < k ∧ k ≤ 255) :
    Calls Try.prog 44 #[relV k a i, plV c d, v] w fun e w' => e = .returned (.tuple #[.int .u32 0, .int .i64 2]) ∧ Below w.heap.size w w' := by
  obtain ⟨h1, h2⟩ := hk
  have e0 : (k == 0) = false := by simp; omega
  have e1 : (k == 1) = false := by simp; omega
  have e2 : (k == 2) = false := by simp; omega
  have e3 : (k == 3) = false := by simp; omega
  have e4 : (k == 4) = false := by simp; omega
  have e5 : (k == 5) = false := by simp; omega
  have e6 : (k == 6) = false := by simp; omega
  have e7 : (k == 7) = false := by simp; omega
  go_enter Try.func44, Try.ntmps44
  go_wp2
  exact bodyPost_ret (v := .tuple #[.int .u32 0, .int .i64 2]) (by simp [results, Try.results44, go_sem, *]) rfl ⟨rfl, ((Below.refl _ _).alloc (Nat.le_refl _) _).alloc (by simp) _⟩
theorem value_any (k a c d i : Int) (l : List Nat) (v : Value) (w : World) (R : Slots w v l) (hk : 0 ≤ k ∧ k ≤ 255) (hc : 0 ≤ c ∧ c ≤ 4294967295) (hd : 0 ≤ d ∧ d ≤ 4294967295) (hi : 0 ≤ i ∧ i ≤ 65535) :
    Calls Try.prog 44 #[relV k a i, plV c d, v] w fun e w' => e = .returned (.tuple #[.int .u32 (valA k i c d l), .int .i64 (valE k i l)]) ∧ Below w.heap.size w w' := by
  by_cases h7 : 7 < k
  · have e1 : valA k i c d l = 0 := by unfold valA; rw [if_pos h7]
    have e2 : valE k i l = 2 := by unfold valE; rw [if_pos (Or.inl h7)]
    rw [e1, e2]
    exact value_no k a c d i v w ⟨h7, hk.2⟩
  · by_cases hm : k = 0 ∨ k = 1 ∨ k = 4
    · have hI : imp k = true := decide_eq_true hm
      obtain ⟨j, rfl⟩ := Int.eq_ofNat_of_zero_le hi.1
      have e1 : valA k (j : Int) c d l = (l.getD j 0 : Nat) := by unfold valA; rw [if_neg h7, if_pos hI]; rfl
      rw [e1]
      by_cases hj : j < l.length
      · have e2 : valE k (j : Int) l = 0 := by unfold valE; rw [if_neg (by omega)]
        rw [e2]
        exact value_in k a c d j l v w R hj hm hi.2
      · have e2 : valE k (j : Int) l = 2 := by unfold valE; rw [if_pos (Or.inr ⟨hI, by omega⟩)]
        have e3 : l.getD j 0 = 0 := by rw [List.getD_eq_getElem?_getD, List.getElem?_eq_none (by omega)]; rfl
        rw [e2, e3]
        obtain ⟨p, cap, rfl, _⟩ := R.reads.shape
        exact value_beyond k a c d j _ p cap w (by rw [NR.u32s_len]; omega) hm hi.2
    · have hI : imp k = false := decide_eq_false hm
      have e1 : valA k i c d l = ((if k = 2 ∨ k = 5 then d else c) + i) % 4294967296 := by
        unfold valA
        rw [if_neg h7, hI, if_neg (by decide)]
        split <;> rfl
      have e2 : valE k i l = 0 := by unfold valE; rw [if_neg (by rw [hI]; simp; omega)]
      rw [e1, e2]
      exact value_own k a c d i v w (by omega) hc hd hi
end Go.Proofs.Ytajidaicojekdaa.RF

/-
  The reference's Apply and Undo, call by call. Nothing here is a statement of the seed.
-/
namespace Go.Proofs.Ytajidaicojekdaa.RF
open Go.RowKit WM IM WF IF RM

theorem refApply_out (x k v : Int) (hk : 7 < k ∧ k ≤ 255) : Says Try.prog 50 #[.int .u32 x, .int .u8 k, .int .u32 v] (.tuple #[.int .u32 0, .int .i64 2]) := by
  intro w
  obtain ⟨h1, h2⟩ := hk
  go_enter Try.func50, Try.ntmps50
  go_wp2
  exact bodyPost_ret (v := .tuple #[.int .u32 0, .int .i64 2]) (by simp [results, Try.results50, go_sem, *]) rfl ⟨rfl, Below.refl _ _⟩
theorem refApply_whole (x k v : Int) (hk : 0 ≤ k ∧ k ≤ 7) (hw : inC k = false) : Says Try.prog 50 #[.int .u32 x, .int .u8 k, .int .u32 v] (.tuple #[.int .u32 v, .int .i64 0]) := by
  intro w
  have C := Lib.hid (fun w => inCode_any k w ⟨hk.1, by omega⟩)
  rw [hw] at C
  obtain ⟨h1, h2⟩ := hk
  clear hw
  go_enter Try.func50, Try.ntmps50
  go_wp2_with (first | (go_at_call 48; refine (C.out _).mono ?_; rintro e w' ⟨rfl, rfl⟩))
  exact bodyPost_ret (v := .tuple #[.int .u32 v, .int .i64 0]) (by simp [results, Try.results50, go_sem, *]) rfl ⟨rfl, Below.refl _ _⟩
/-- the reference's Apply, by what its calls tell -/
theorem refApply_code (x k v o d a b m K q E r : Int) (hk : 0 ≤ k ∧ k ≤ 7) (CW : ∀ w, Calls Try.prog 48 #[.int .u8 k] w fun e w' => e = .returned (.bool true) ∧ w = w')
    (CD : Says Try.prog 79 #[.int .u32 x] (.tuple #[insV o d a b m, .int .i64 K]))
    (CO : ∀ w, Calls Try.prog 80 #[.int .u8 k] w fun e w' => e = .returned (.int .u8 q) ∧ w = w')
    (CR : ∀ w, Calls Try.prog 81 #[.int .u8 k] w fun e w' => e = .returned (.int .u32 1048575) ∧ w = w')
    (CE : r = 0 → Says Try.prog 82 #[insV o d a b v] (.tuple #[.int .u32 E, .int .i64 0])) (hv : 0 ≤ v ∧ v ≤ 4294967295)
    (h : (K != 0) = true ∧ r = 10 ∨ K = 0 ∧ (o != q) = true ∧ r = 10 ∨ K = 0 ∧ o = q ∧ (m != 0) = true ∧ r = 10 ∨ K = 0 ∧ o = q ∧ m = 0 ∧ 1048575 < v ∧ r = 30 ∨ K = 0 ∧ o = q ∧ m = 0 ∧ v ≤ 1048575 ∧ r = 0) :
    Says Try.prog 50 #[.int .u32 x, .int .u8 k, .int .u32 v] (.tuple #[.int .u32 (if r = 0 then E else 0), .int .i64 r]) := by
  intro w
  obtain ⟨h1, h2⟩ := hk
  obtain ⟨hv1, hv2⟩ := hv
  have TW := Lib.hid CW
  have TD := Lib.hid CD
  have TO := Lib.hid CO
  have TR := Lib.hid CR
  clear CW CD CO CR
  rcases h with ⟨hK, rfl⟩ | ⟨rfl, hn, rfl⟩ | ⟨rfl, rfl, hn, rfl⟩ | ⟨rfl, rfl, rfl, hf, rfl⟩ | ⟨rfl, rfl, rfl, hf, rfl⟩
  · clear CE
    go_enter Try.func50, Try.ntmps50
    go_wp2_with (first | (go_at_call 48; refine (TW.out _).mono ?_; rintro e w' ⟨rfl, rfl⟩) | (go_at_call 79; refine (TD.out.at _).mono ?_; rintro e w1 ⟨rfl, hb⟩; obtain ⟨hc, hg⟩ := bcell hb))
    go_quiet ((go_at_call 80; exact quiet_left (TO.out _)))
    go_wp2
    exact bodyPost_ret (v := .tuple #[.int .u32 0, .int .i64 10]) (by simp [results, Try.results50, go_sem, *]) rfl ⟨rfl, by first | exact hb.alloc hb.size _ | exact (hb.alloc hb.size _).drew | exact below_drewN (hb.alloc hb.size _) _⟩
  · clear CE
    go_enter Try.func50, Try.ntmps50
    go_wp2_with (first | (go_at_call 48; refine (TW.out _).mono ?_; rintro e w' ⟨rfl, rfl⟩) | (go_at_call 79; refine (TD.out.at _).mono ?_; rintro e w1 ⟨rfl, hb⟩; obtain ⟨hc, hg⟩ := bcell hb))
    go_quiet ((go_at_call 80; exact quiet_left (TO.out _)))
    go_wp2
    exact bodyPost_ret (v := .tuple #[.int .u32 0, .int .i64 10]) (by simp [results, Try.results50, go_sem, *]) rfl ⟨rfl, by first | exact hb.alloc hb.size _ | exact (hb.alloc hb.size _).drew | exact below_drewN (hb.alloc hb.size _) _⟩
  · clear CE
    go_enter Try.func50, Try.ntmps50
    go_wp2_with (first | (go_at_call 48; refine (TW.out _).mono ?_; rintro e w' ⟨rfl, rfl⟩) | (go_at_call 79; refine (TD.out.at _).mono ?_; rintro e w1 ⟨rfl, hb⟩; obtain ⟨hc, hg⟩ := bcell hb))
    go_quiet ((go_at_call 80; exact quiet_left (TO.out _)))
    go_wp2
    exact bodyPost_ret (v := .tuple #[.int .u32 0, .int .i64 10]) (by simp [results, Try.results50, go_sem, *]) rfl ⟨rfl, by first | exact hb.alloc hb.size _ | exact (hb.alloc hb.size _).drew | exact below_drewN (hb.alloc hb.size _) _⟩
  · clear CE
    go_enter Try.func50, Try.ntmps50
    go_wp2_with (first | (go_at_call 48; refine (TW.out _).mono ?_; rintro e w' ⟨rfl, rfl⟩) | (go_at_call 79; refine (TD.out.at _).mono ?_; rintro e w1 ⟨rfl, hb⟩; obtain ⟨hc, hg⟩ := bcell hb))
    go_quiet ((go_at_call 80; exact quiet_left (TO.out _)))
    go_wp2_with (first | (go_at_call 81; refine (TR.out _).mono ?_; rintro e w5 ⟨rfl, rfl⟩))
    exact bodyPost_ret (v := .tuple #[.int .u32 0, .int .i64 30]) (by simp [results, Try.results50, go_sem, *]) rfl ⟨rfl, by first | exact hb.alloc hb.size _ | exact (hb.alloc hb.size _).drew | exact below_drewN (hb.alloc hb.size _) _⟩
  · have TE := Lib.hid (CE rfl)
    clear CE
    go_enter Try.func50, Try.ntmps50
    go_wp2_with (first | (go_at_call 48; refine (TW.out _).mono ?_; rintro e w' ⟨rfl, rfl⟩) | (go_at_call 79; refine (TD.out.at _).mono ?_; rintro e w1 ⟨rfl, hb⟩; obtain ⟨hc, hg⟩ := bcell hb))
    go_quiet ((go_at_call 80; exact quiet_left (TO.out _)))
    go_wp2_with (first | (go_at_call 81; refine (TR.out _).mono ?_; rintro e w5 ⟨rfl, rfl⟩) | (go_at_call 82; refine (TE.out.at _).mono ?_; rintro e w6 ⟨rfl, hb6⟩; obtain ⟨hc6, hf6⟩ := bcell hb6))
    exact bodyPost_ret (v := .tuple #[.int .u32 E, .int .i64 0]) (by simp [results, Try.results50, go_sem, *]) rfl ⟨rfl, ((below_drewN (hb.alloc hb.size _) _).setCell hb.size _).trans (hb6.mono (by have := hb.size; simp; omega))⟩
theorem refApply_any (x k v : Int) (hx : 0 ≤ x ∧ x ≤ 4294967295) (hk : 0 ≤ k ∧ k ≤ 255) (hv : 0 ≤ v ∧ v ≤ 4294967295) :
    Says Try.prog 50 #[.int .u32 x, .int .u8 k, .int .u32 v] (.tuple #[.int .u32 (apW x k v), .int .i64 (apE x k v)]) := by
  by_cases h7 : 7 < k
  · have e : apE x k v = 2 := by unfold apE; rw [if_pos h7]
    have e2 : apW x k v = 0 := by unfold apW; rw [e]; rfl
    rw [e, e2]
    exact refApply_out x k v ⟨h7, hk.2⟩
  · have hk7 : 0 ≤ k ∧ k ≤ 7 := ⟨hk.1, by omega⟩
    cases hc : inC k with
    | false =>
      have e : apE x k v = 0 := by unfold apE; rw [if_neg h7, if_pos hc]
      have e2 : apW x k v = v := by unfold apW; rw [e, hc]; rfl
      rw [e, e2]
      exact refApply_whole x k v hk7 hc
    | true =>
      have CW := fun w => inCode_any k w hk
      rw [hc] at CW
      have CR := fun w => refReach_any k w hk
      have hr : rch k = 1048575 := by unfold rch; rw [if_neg h7, if_pos hc]
      rw [hr] at CR
      have CO := fun w => op_any k w hk
      have CD := refDecode_any x hx
      unfold decV at CD
      have eE : apE x k v = if (opB x k && decide (pM x = 0)) = false then 10 else if 1048575 < v then 30 else 0 := by unfold apE; rw [if_neg h7, hc]; simp
      have eW : apW x k v = if apE x k v = 0 then putW x k v else 0 := by unfold apW; rw [hc]; simp
      rw [eW]
      cases hh : hasB x with
      | false =>
        rw [hh] at CD
        have ho : opB x k = false := by unfold opB; rw [hh]; rfl
        have e : apE x k v = 10 := by rw [eE, ho]; rfl
        rw [e]
        exact refApply_code x k v _ _ _ _ _ _ _ (putW x k v) 10 hk7 CW CD CO CR (fun h => by omega) hv (Or.inl ⟨by decide, rfl⟩)
      | true =>
        rw [hh] at CD
        refine refApply_code x k v _ _ _ _ _ _ _ (putW x k v) (apE x k v) hk7 CW CD CO CR (fun h => ?_) hv (Or.inr ?_)
        · have ho : opB x k = true ∧ pM x = 0 ∧ v ≤ 1048575 := by
            rw [eE] at h
            split at h
            · omega
            · rename_i h1
              split at h
              · omega
              · rename_i h2
                simp at h1
                exact ⟨h1.1, h1.2, by omega⟩
          obtain ⟨g1, g2, g3, g4, _⟩ := of_op hx ho.1
          rw [g1, g3, g4]
          exact refEncode_yes _ _ _ _ _ (put_ok hx ho.1 ⟨hv.1, ho.2.2⟩)
        · by_cases hp : pO x = opK k
          · have ho : opB x k = true := by unfold opB; rw [hh, decide_eq_true hp]; rfl
            by_cases hm : pM x = 0
            · have hn : (opB x k && decide (pM x = 0)) = true := by rw [ho, hm]; rfl
              rw [eE, hn]
              by_cases hv2 : 1048575 < v
              · exact Or.inr (Or.inr (Or.inl ⟨rfl, hp, hm, hv2, by simp [hv2]⟩))
              · exact Or.inr (Or.inr (Or.inr ⟨rfl, hp, hm, by omega, by simp; omega⟩))
            · refine Or.inr (Or.inl ⟨rfl, hp, by simpa using hm, ?_⟩)
              rw [eE, decide_eq_false hm]
              simp
          · refine Or.inl ⟨rfl, by simpa using hp, ?_⟩
            have ho : opB x k = false := by unfold opB; rw [decide_eq_false hp]; simp
            rw [eE, ho]
            rfl
end Go.Proofs.Ytajidaicojekdaa.RF

/-
  The reference's Value, call by call. Nothing here is a statement of the seed.
-/
namespace Go.Proofs.Ytajidaicojekdaa.RF
open Go.RowKit WM IM WF IF RM

theorem refValue_in (k a c d : Int) (j : Nat) (l : List Nat) (v : Value) (w : World) (R : Slots w v l) (hj : j < l.length) (hk : k = 0 ∨ k = 1 ∨ k = 4) (hj2 : (j : Int) ≤ 65535) :
    Calls Try.prog 49 #[relV k a (j : Int), plV c d, v] w fun e w' => e = .returned (.tuple #[.int .u32 (l.getD j 0 : Nat), .int .i64 0]) ∧ Below w.heap.size w w' := by
  have hne : NR.u32s l ≠ [] := by intro h; rw [← List.length_eq_zero_iff, NR.u32s_len] at h; omega
  obtain ⟨g, off, cap, rfl, hg, hl, hm, hc⟩ := R.reads.cells hne
  have hcj := hc j (by rw [NR.u32s_len]; exact hj)
  rw [NR.u32s_at l j hj] at hcj
  rw [NR.u32s_len] at hl ⊢
  have e : l.getD j 0 = l[j] := by rw [List.getD_eq_getElem?_getD, List.getElem?_eq_getElem hj]; rfl
  rw [e]
  generalize l[j] = x at *
  have hj1 : (j : Int) < (l.length : Int) := by omega
  have hj0 : (0 : Int) ≤ (j : Int) := by omega
  have hwr : wrap64 (j : Int) = (j : Int) := by unfold wrap64; omega
  have hge : decide ((l.length : Int) ≤ (j : Int)) = false := decide_eq_false (by omega)
  have hg1 : g < w.heap.size + 1 := by omega
  have hne1 : g ≠ w.heap.size := by omega
  clear hc R hne e hj
  generalize l.length = n at *
  have CI := Lib.hid (fun w => import_any k w (by omega))
  rw [show imp k = true from decide_eq_true hk] at CI
  rcases hk with rfl | rfl | rfl
  all_goals
    go_enter Try.func49, Try.ntmps49
    go_wp2_with (first | (go_at_call 78; refine (CI.out _).mono ?_; rintro e w' ⟨rfl, rfl⟩))
    exact bodyPost_ret (v := .tuple #[.int .u32 x, .int .i64 0]) (by simp [results, Try.results49, go_sem, *]) rfl ⟨rfl, ((Below.refl _ _).alloc (Nat.le_refl _) _).alloc (by simp) _⟩
theorem refValue_beyond (k a c d : Int) (j n : Nat) (p : Option Addr) (cap : Nat) (w : World) (hj : n ≤ j) (hk : k = 0 ∨ k = 1 ∨ k = 4) (hj2 : (j : Int) ≤ 65535) :
    Calls Try.prog 49 #[relV k a (j : Int), plV c d, .slice p n cap] w fun e w' => e = .returned (.tuple #[.int .u32 0, .int .i64 2]) ∧ Below w.heap.size w w' := by
  have hj1 : (n : Int) ≤ (j : Int) := by omega
  have hwr : wrap64 (j : Int) = (j : Int) := by unfold wrap64; omega
  have CI := Lib.hid (fun w => import_any k w (by omega))
  rw [show imp k = true from decide_eq_true hk] at CI
  rcases hk with rfl | rfl | rfl
  all_goals
    go_enter Try.func49, Try.ntmps49
    go_wp2_with (first | (go_at_call 78; refine (CI.out _).mono ?_; rintro e w' ⟨rfl, rfl⟩))
    exact bodyPost_ret (v := .tuple #[.int .u32 0, .int .i64 2]) (by simp [results, Try.results49, go_sem, *]) rfl ⟨rfl, ((Below.refl _ _).alloc (Nat.le_refl _) _).alloc (by simp) _⟩
theorem refValue_own (k a c d i : Int) (v : Value) (w : World) (hk : k = 2 ∨ k = 5 ∨ k = 3 ∨ k = 6 ∨ k = 7) (hc : 0 ≤ c ∧ c ≤ 4294967295) (hd : 0 ≤ d ∧ d ≤ 4294967295) (hi : 0 ≤ i ∧ i ≤ 65535) :
    Calls Try.prog 49 #[relV k a i, plV c d, v] w fun e w' => e = .returned (.tuple #[.int .u32 (((if k = 2 ∨ k = 5 then d else c) + i) % 4294967296), .int .i64 0]) ∧ Below w.heap.size w w' := by
  obtain ⟨hc1, hc2⟩ := hc
  obtain ⟨hd1, hd2⟩ := hd
  obtain ⟨hi1, hi2⟩ := hi
  have hii : i % 4294967296 = i := by omega
  have CI := Lib.hid (fun w => import_any k w (by omega))
  rw [show imp k = false from decide_eq_false (by omega)] at CI
  rcases hk with rfl | rfl | rfl | rfl | rfl
  all_goals
    go_enter Try.func49, Try.ntmps49
    go_wp2_with (first | (go_at_call 78; refine (CI.out _).mono ?_; rintro e w' ⟨rfl, rfl⟩))
  · exact bodyPost_ret (v := .tuple #[.int .u32 ((d + i) % 4294967296), .int .i64 0]) (by simp [results, Try.results49, go_sem, *]) rfl ⟨rfl, ((Below.refl _ _).alloc (Nat.le_refl _) _).alloc (by simp) _⟩
  · exact bodyPost_ret (v := .tuple #[.int .u32 ((d + i) % 4294967296), .int .i64 0]) (by simp [results, Try.results49, go_sem, *]) rfl ⟨rfl, ((Below.refl _ _).alloc (Nat.le_refl _) _).alloc (by simp) _⟩
  all_goals exact bodyPost_ret (v := .tuple #[.int .u32 ((c + i) % 4294967296), .int .i64 0]) (by simp [results, Try.results49, go_sem, *]) rfl ⟨rfl, ((Below.refl _ _).alloc (Nat.le_refl _) _).alloc (by simp) _⟩
theorem refValue_no (k a c d i : Int) (v : Value) (w : World) (hk : 7 < k ∧ k ≤ 255) :
    Calls Try.prog 49 #[relV k a i, plV c d, v] w fun e w' => e = .returned (.tuple #[.int .u32 0, .int .i64 2]) ∧ Below w.heap.size w w' := by
  obtain ⟨h1, h2⟩ := hk
  have e0 : (k == 0) = false := by simp; omega
  have e1 : (k == 1) = false := by simp; omega
  have e2 : (k == 2) = false := by simp; omega
  have e3 : (k == 3) = false := by simp; omega
  have e4 : (k == 4) = false := by simp; omega
  have e5 : (k == 5) = false := by simp; omega
  have e6 : (k == 6) = false := by simp; omega
  have e7 : (k == 7) = false := by simp; omega
  go_enter Try.func49, Try.ntmps49
  go_wp2
  exact bodyPost_ret (v := .tuple #[.int .u32 0, .int .i64 2]) (by simp [results, Try.results49, go_sem, *]) rfl ⟨rfl, ((Below.refl _ _).alloc (Nat.le_refl _) _).alloc (by simp) _⟩
theorem refValue_any (k a c d i : Int) (l : List Nat) (v : Value) (w : World) (R : Slots w v l) (hk : 0 ≤ k ∧ k ≤ 255) (hc : 0 ≤ c ∧ c ≤ 4294967295) (hd : 0 ≤ d ∧ d ≤ 4294967295) (hi : 0 ≤ i ∧ i ≤ 65535) :
    Calls Try.prog 49 #[relV k a i, plV c d, v] w fun e w' => e = .returned (.tuple #[.int .u32 (valA k i c d l), .int .i64 (valE k i l)]) ∧ Below w.heap.size w w' := by
  by_cases h7 : 7 < k
  · have e1 : valA k i c d l = 0 := by unfold valA; rw [if_pos h7]
    have e2 : valE k i l = 2 := by unfold valE; rw [if_pos (Or.inl h7)]
    rw [e1, e2]
    exact refValue_no k a c d i v w ⟨h7, hk.2⟩
  · by_cases hm : k = 0 ∨ k = 1 ∨ k = 4
    · have hI : imp k = true := decide_eq_true hm
      obtain ⟨j, rfl⟩ := Int.eq_ofNat_of_zero_le hi.1
      have e1 : valA k (j : Int) c d l = (l.getD j 0 : Nat) := by unfold valA; rw [if_neg h7, if_pos hI]; rfl
      rw [e1]
      by_cases hj : j < l.length
      · have e2 : valE k (j : Int) l = 0 := by unfold valE; rw [if_neg (by omega)]
        rw [e2]
        exact refValue_in k a c d j l v w R hj hm hi.2
      · have e2 : valE k (j : Int) l = 2 := by unfold valE; rw [if_pos (Or.inr ⟨hI, by omega⟩)]
        have e3 : l.getD j 0 = 0 := by rw [List.getD_eq_getElem?_getD, List.getElem?_eq_none (by omega)]; rfl
        rw [e2, e3]
        obtain ⟨p, cap, rfl, _⟩ := R.reads.shape
        exact refValue_beyond k a c d j _ p cap w (by rw [NR.u32s_len]; omega) hm hi.2
    · have hI : imp k = false := decide_eq_false hm
      have e1 : valA k i c d l = ((if k = 2 ∨ k = 5 then d else c) + i) % 4294967296 := by
        unfold valA
        rw [if_neg h7, hI, if_neg (by decide)]
        split <;> rfl
      have e2 : valE k i l = 0 := by unfold valE; rw [if_neg (by rw [hI]; simp; omega)]
      rw [e1, e2]
      exact refValue_own k a c d i v w (by omega) hc hd hi
end Go.Proofs.Ytajidaicojekdaa.RF
