/-
  The instructions of words: the program's and the reference's. Nothing here is a statement of the seed.
-/
import Derived.Test.YtdnjilnnlgphhaaIsaEnc
set_option linter.unusedSimpArgs false
set_option linter.unusedVariables false
namespace Go.Proofs.Ytdnjilnnlgphhaa.IF
open Go.RowKit WM IM WF

theorem bitsS (x a n r : Int) (hx : 0 ≤ x ∧ x < 4294967296) (h : 0 ≤ a ∧ 0 ≤ n ∧ a + n ≤ 32) (hr : ((cutN x.toNat a.toNat n.toNat : Nat) : Int) = r) :
    Says Try.prog 39 #[.int .u32 x, .int .i64 a, .int .i64 n] (.int .u32 r) := by
  subst hr
  obtain ⟨y, rfl⟩ := Int.eq_ofNat_of_zero_le hx.1
  exact says_drew fun w => by simpa using wordBits_yes y a n w (by omega) h
theorem refBitsI (x a n r : Int) (hx : 0 ≤ x ∧ x < 4294967296) (h : 0 ≤ a ∧ 0 ≤ n ∧ a + n ≤ 32) (hr : ((cutN x.toNat a.toNat n.toNat : Nat) : Int) = r) (w : World) :
    Calls Try.prog 33 #[.int .u32 x, .int .i64 a, .int .i64 n] w fun e w' => e = .returned (.int .u32 r) ∧ w = w' := by
  subst hr
  obtain ⟨y, rfl⟩ := Int.eq_ofNat_of_zero_le hx.1
  exact (refBits_yes y a n w (by omega) h).mono fun e w' ⟨he, hw⟩ => ⟨by simpa using he, hw.symm⟩
theorem signedI (x n r : Int) (hx : 0 ≤ x ∧ x < 4294967296) (h : 1 ≤ n ∧ n ≤ 32) (hr : sgnI x.toNat n.toNat = r) (w : World) :
    Calls Try.prog 40 #[.int .u32 x, .int .i64 n] w fun e w' => e = .returned (.int .i32 r) ∧ w = w' := by
  subst hr
  obtain ⟨y, rfl⟩ := Int.eq_ofNat_of_zero_le hx.1
  exact (wordSigned_yes y n w (by omega) h).mono fun e w' ⟨he, hw⟩ => ⟨by simpa using he, hw.symm⟩
theorem refSignedI (x n r : Int) (hx : 0 ≤ x ∧ x < 4294967296) (h : 1 ≤ n ∧ n ≤ 32) (hr : sgnI x.toNat n.toNat = r) (w : World) :
    Calls Try.prog 35 #[.int .u32 x, .int .i64 n] w fun e w' => e = .returned (.int .i32 r) ∧ w = w' := by
  subst hr
  obtain ⟨y, rfl⟩ := Int.eq_ofNat_of_zero_le hx.1
  exact (refSigned_yes y n w (by omega) h).mono fun e w' ⟨he, hw⟩ => ⟨by simpa using he, hw.symm⟩
theorem split_any (x : Int) (hx : 0 ≤ x ∧ x ≤ 4294967295) :
    Says Try.prog 28 #[.int .u32 x] (insV (pO x) (pD x) (pA x) (pB x) (pM x)) := by
  intro w
  obtain ⟨y, rfl⟩ := Int.eq_ofNat_of_zero_le hx.1
  have hy : y < 4294967296 := by omega
  obtain ⟨⟨b1, b2⟩, ⟨b3, b4⟩, ⟨b5, b6⟩, ⟨b7, b8⟩, b9, b10⟩ := part_bd hx
  have C1 := Lib.hid (bitsS (y : Int) 27 5 (pO y) (by omega) (by omega) (by simpa using cut_O y hy))
  have C2 := Lib.hid (bitsS (y : Int) 24 3 (pD y) (by omega) (by omega) (by simpa using cut_D y))
  have C3 := Lib.hid (bitsS (y : Int) 21 3 (pA y) (by omega) (by omega) (by simpa using cut_A y))
  have CU := Lib.hid (fun w => usesB_any (pO y) w (by omega))
  by_cases hB : 3 ≤ pO y ∧ pO y ≤ 10
  · have hu : uB (pO y) = true := by unfold uB; simpa using hB
    rw [hu] at CU
    have hM : pM y = 0 := by unfold pM; rw [if_pos hB]
    rw [hM]
    have C4 := Lib.hid (bitsS (y : Int) 0 3 (pB y) (by omega) (by omega) (by simpa using cut_B y hB))
    clear hM hu hB hy b9 b10
    generalize pO y = o at *
    generalize pD y = d at *
    generalize pA y = a at *
    generalize pB y = b at *
    generalize (y : Int) = x at *
    go_enter Try.func28, Try.ntmps28
    go_wp2_with (first | (go_at_call 31; refine (CU.out _).mono ?_; rintro e w2 ⟨rfl, rfl⟩) | (go_at_call 39; first | ((with_reducible refine (C1.out.at _).mono ?_); rintro e w3 ⟨rfl, hb⟩) | ((with_reducible refine (inw C2.out (w.alloc _) _ hb).mono ?_); rintro e w3 ⟨rfl, hb⟩) | ((with_reducible refine (inw C3.out (w.alloc _) _ hb).mono ?_); rintro e w3 ⟨rfl, hb⟩; obtain ⟨hc, hf⟩ := bcell hb; have hz : w.heap.size < w3.heap.size := by (have := hb.size; simp at this; omega)) | ((with_reducible refine (C4.out.at _).mono ?_); rintro e w4 ⟨rfl, hb4⟩; obtain ⟨hc4, hf4⟩ := bcell hb4; have hz4 : w3.heap.size < w4.heap.size := by (have := hb4.size; simp at this; omega))))
    have hw : Below w.heap.size w w4 := (end_two hb hz).trans (hb4.mono (by simp; omega))
    exact bodyPost_ret (v := insV o d a b 0) (by have hn : w.heap.size < w3.heap.size + 1 := Nat.lt_succ_of_lt hz; have hn2 : w.heap.size ≠ w3.heap.size := Nat.ne_of_lt hz; simp [results, Try.results28, go_sem, hc, hc4, hz, hz4, hn, hn2]) rfl ⟨rfl, (((((hw.setCell (Nat.le_of_lt hz) _).setCell (Nat.le_refl _) _).setCell (Nat.le_refl _) _).setCell (Nat.le_refl _) _).setCell (Nat.le_refl _) _).setCell (Nat.le_refl _) _⟩
  · have hu : uB (pO y) = false := by unfold uB; simpa using hB
    rw [hu] at CU
    have hM : pB y = 0 := by unfold pB; rw [if_neg hB]
    rw [hM]
    have C4 := Lib.hid (bitsS (y : Int) 0 21 _ (by omega) (by omega) rfl)
    have C5 := Lib.hid (signedI ((cutN (y : Int).toNat (0 : Int).toNat (21 : Int).toNat : Nat) : Int) 21 (pM y) (by have := cutN_lt (y : Int).toNat (0 : Int).toNat (21 : Int).toNat; have e : 2 ^ (21 : Int).toNat = 2097152 := rfl; omega) (by omega) (by simpa using (sgn_M y hB).2))
    clear hM hu hB hy b7 b8
    generalize ((cutN (y : Int).toNat (0 : Int).toNat (21 : Int).toNat : Nat) : Int) = c at *
    generalize pO y = o at *
    generalize pD y = d at *
    generalize pA y = a at *
    generalize pM y = m at *
    generalize (y : Int) = x at *
    go_enter Try.func28, Try.ntmps28
    go_wp2_with (first | (go_at_call 31; refine (CU.out _).mono ?_; rintro e w2 ⟨rfl, rfl⟩) | (go_at_call 40; refine (C5.out _).mono ?_; rintro e w5 ⟨rfl, rfl⟩) | (go_at_call 39; first | ((with_reducible refine (C1.out.at _).mono ?_); rintro e w3 ⟨rfl, hb⟩) | ((with_reducible refine (inw C2.out (w.alloc _) _ hb).mono ?_); rintro e w3 ⟨rfl, hb⟩) | ((with_reducible refine (inw C3.out (w.alloc _) _ hb).mono ?_); rintro e w3 ⟨rfl, hb⟩; obtain ⟨hc, hf⟩ := bcell hb; have hz : w.heap.size < w3.heap.size := by (have := hb.size; simp at this; omega)) | ((with_reducible refine (C4.out.at _).mono ?_); rintro e w4 ⟨rfl, hb4⟩; obtain ⟨hc4, hf4⟩ := bcell hb4; have hz4 : w3.heap.size < w4.heap.size := by (have := hb4.size; simp at this; omega))))
    have hw : Below w.heap.size w w4 := (end_two hb hz).trans (hb4.mono (by simp; omega))
    exact bodyPost_ret (v := insV o d a 0 m) (by have hn : w.heap.size < w3.heap.size + 1 := Nat.lt_succ_of_lt hz; have hn2 : w.heap.size ≠ w3.heap.size := Nat.ne_of_lt hz; simp [results, Try.results28, go_sem, hc, hc4, hz, hz4, hn, hn2]) rfl ⟨rfl, (((((hw.setCell (Nat.le_of_lt hz) _).setCell (Nat.le_refl _) _).setCell (Nat.le_refl _) _).setCell (Nat.le_refl _) _).setCell (Nat.le_refl _) _).setCell (Nat.le_refl _) _⟩

theorem end_three {w w3 w4 : World} {o1 o2 : Obj} {p : Addr} {v : Value} (hb : Below ((w.alloc o1).alloc o2).heap.size ((w.alloc o1).alloc o2) w3) (hp : w.heap.size ≤ p.block) (hb4 : Below (w3.setCell p v).heap.size (w3.setCell p v) w4) : Below w.heap.size w w4 :=
  ((((below_new w o1).alloc (by simp) o2).trans (hb.mono (by simp; omega))).setCell hp v).trans (hb4.mono (by have := hb.size; simp at this ⊢; omega))

/-- isa.Decode, by what Encode makes of the word's parts -/
theorem decode_way (x o d a b m E K : Int) (r : Bool) (S : Says Try.prog 28 #[.int .u32 x] (insV o d a b m)) (C : Says Try.prog 20 #[insV o d a b m] (.tuple #[.int .u32 E, .int .i64 K]))
    (h : r = true ∧ E = x ∧ K = 0 ∨ r = false ∧ (E != x) = true ∧ K = 0 ∨ r = false ∧ (K != 0) = true) :
    Says Try.prog 18 #[.int .u32 x] (.tuple #[if r then insV o d a b m else insV 0 0 0 0 0, .int .i64 (if r then 0 else 10)]) := by
  intro w
  have S1 := Lib.hid S
  clear S
  rcases h with ⟨rfl, rfl, rfl⟩ | ⟨rfl, h, rfl⟩ | ⟨rfl, h⟩
  all_goals
    have C1 := Lib.hid C
    clear C
    go_enter Try.func18, Try.ntmps18
    go_wp2_with (first | (go_at_call 28; refine (S1.out.at _).mono ?_; rintro e w3 ⟨rfl, hb⟩; obtain ⟨hc, hf⟩ := bcell hb; have hz : w.heap.size < w3.heap.size := by (have := hb.size; simp at this; omega)) | (go_at_call 20; refine (C1.out.at _).mono ?_; rintro e w4 ⟨rfl, hb4⟩; obtain ⟨hc4, hf4⟩ := bcell hb4; have hz4 : w3.heap.size < w4.heap.size := by (have := hb4.size; simp at this; omega)))
  all_goals
    have hw : Below w.heap.size w w4 := (end_two hb hz).trans (hb4.mono (by simp; omega))
    have hn : w.heap.size < w3.heap.size + 1 := Nat.lt_succ_of_lt hz
    have hn2 : w.heap.size ≠ w3.heap.size := Nat.ne_of_lt hz
  · exact bodyPost_ret (v := .tuple #[insV o d a b m, .int .i64 0]) (by simp [results, Try.results18, go_sem, hc, hc4, hz, hz4, hn, hn2]) rfl ⟨rfl, ((((hw.setCell (Nat.le_refl _) _).setCell (Nat.le_refl _) _).setCell (Nat.le_refl _) _).setCell (Nat.le_refl _) _).setCell (Nat.le_refl _) _⟩
  all_goals exact bodyPost_ret (v := .tuple #[insV 0 0 0 0 0, .int .i64 10]) (by simp [results, Try.results18, go_sem, hc, hc4, hz, hz4, hn, hn2]) rfl ⟨rfl, ((((hw.setCell (Nat.le_refl _) _).setCell (Nat.le_refl _) _).setCell (Nat.le_refl _) _).setCell (Nat.le_refl _) _).setCell (Nat.le_refl _) _⟩
theorem part_fit {x : Int} (hx : 0 ≤ x ∧ x ≤ 4294967295) : Fit (pO x) (pD x) (pA x) (pB x) (pM x) := by
  have := part_bd hx
  unfold Fit
  omega
/-- what Encode makes of a word's parts -/
theorem parts_way {x : Int} (hx : 0 ≤ x ∧ x ≤ 4294967295) : ∃ E K : Int, (K = 0 ∧ InsOk (pO x) (pD x) (pA x) (pB x) (pM x) ∧ E = enc (pO x) (pD x) (pA x) (pB x) (pM x) ∨ K ≠ 0 ∧ chk (pO x) (pD x) (pA x) (pB x) (pM x) = K ∧ E = 0) ∧
    (hasB x = true ∧ E = x ∧ K = 0 ∨ hasB x = false ∧ (E != x) = true ∧ K = 0 ∨ hasB x = false ∧ (K != 0) = true) := by
  obtain ⟨⟨b1, _⟩, ⟨b3, _⟩, ⟨b5, _⟩, ⟨b7, _⟩, _, _⟩ := part_bd hx
  by_cases hk : chk (pO x) (pD x) (pA x) (pB x) (pM x) = 0
  · refine ⟨enc (pO x) (pD x) (pA x) (pB x) (pM x), 0, Or.inl ⟨rfl, (chk_good b1 b3 b5 b7).1 hk, rfl⟩, ?_⟩
    by_cases he : enc (pO x) (pD x) (pA x) (pB x) (pM x) = x
    · exact Or.inl ⟨decide_eq_true ⟨hk, he⟩, he, rfl⟩
    · exact Or.inr (Or.inl ⟨decide_eq_false (fun h => he h.2), by simpa using he, rfl⟩)
  · exact ⟨0, _, Or.inr ⟨hk, rfl, rfl⟩, Or.inr (Or.inr ⟨decide_eq_false (fun h => hk h.1), by simpa using hk⟩)⟩
abbrev decV (x : Int) : Value := .tuple #[if hasB x then insV (pO x) (pD x) (pA x) (pB x) (pM x) else insV 0 0 0 0 0, .int .i64 (if hasB x then 0 else 10)]
theorem decode_any (x : Int) (hx : 0 ≤ x ∧ x ≤ 4294967295) : Says Try.prog 18 #[.int .u32 x] (decV x) := by
  obtain ⟨E, K, h1, h2⟩ := parts_way hx
  refine decode_way x _ _ _ _ _ E K (hasB x) (split_any x hx) ?_ h2
  rcases h1 with ⟨rfl, h, rfl⟩ | ⟨h, hk, rfl⟩
  · exact encode_yes _ _ _ _ _ h
  · exact encode_no _ _ _ _ _ _ (part_fit hx) hk h

set_option maxHeartbeats 1000000 in
theorem refDecode_way (x E K : Int) (r : Bool) (hx : 0 ≤ x ∧ x ≤ 4294967295) (C : Says Try.prog 27 #[insV (pO x) (pD x) (pA x) (pB x) (pM x)] (.tuple #[.int .u32 E, .int .i64 K]))
    (h : r = true ∧ E = x ∧ K = 0 ∨ r = false ∧ (E != x) = true ∧ K = 0 ∨ r = false ∧ (K != 0) = true) :
    Says Try.prog 25 #[.int .u32 x] (.tuple #[if r then insV (pO x) (pD x) (pA x) (pB x) (pM x) else insV 0 0 0 0 0, .int .i64 (if r then 0 else 10)]) := by
  intro w
  obtain ⟨y, rfl⟩ := Int.eq_ofNat_of_zero_le hx.1
  have hy : y < 4294967296 := by omega
  obtain ⟨⟨b1, b2⟩, ⟨b3, b4⟩, ⟨b5, b6⟩, ⟨b7, b8⟩, b9, b10⟩ := part_bd hx
  have C1 := Lib.hid (refBitsI (y : Int) 27 5 (pO y) (by omega) (by omega) (by simpa using cut_O y hy))
  have C2 := Lib.hid (refBitsI (y : Int) 24 3 (pD y) (by omega) (by omega) (by simpa using cut_D y))
  have C3 := Lib.hid (refBitsI (y : Int) 21 3 (pA y) (by omega) (by omega) (by simpa using cut_A y))
  have CU := Lib.hid (refUses_any (pO y) (by omega))
  by_cases hB : 3 ≤ pO y ∧ pO y ≤ 10
  · have hu : uB (pO y) = true := by unfold uB; simpa using hB
    rw [hu] at CU
    have ix := index2 (uD (pO y)) (uA (pO y)) true (uI (pO y))
    have hM : pM y = 0 := by unfold pM; rw [if_pos hB]
    rw [hM] at C ⊢
    have C4 := Lib.hid (refBitsI (y : Int) 0 3 (pB y) (by omega) (by omega) (by simpa using cut_B y hB))
    clear hM hu hB hy b9 b10
    generalize pO y = o at *
    generalize pD y = d at *
    generalize pA y = a at *
    generalize pB y = b at *
    generalize (y : Int) = x at *
    rcases h with ⟨rfl, rfl, rfl⟩ | ⟨rfl, h, rfl⟩ | ⟨rfl, h⟩
    all_goals
      have CE := Lib.hid C
      clear C
      go_enter Try.func25, Try.ntmps25
      go_wp2_with (first | (go_at_call 34; refine (CU.out.at _).mono ?_; rintro e w3 ⟨rfl, hb⟩; obtain ⟨hc, hf⟩ := bcell hb; have hz : w.heap.size + 1 < w3.heap.size := (by have := hb.size; simp at this; omega); have hzz : w.heap.size < w3.heap.size := Nat.lt_of_succ_lt hz) | (go_at_call 33; (first | (with_reducible refine (C1.out _).mono ?_) | (with_reducible refine (C2.out _).mono ?_) | (with_reducible refine (C3.out _).mono ?_) | (with_reducible refine (C4.out _).mono ?_)); rintro e w2 ⟨rfl, rfl⟩) | (go_at_call 27; refine (CE.out.at _).mono ?_; rintro e w4 ⟨rfl, hb4⟩; obtain ⟨hc4, hf4⟩ := bcell hb4; have hz4 : w3.heap.size ≤ w4.heap.size := by (have := hb4.size; simpa using this)))
    all_goals
      have hw : Below w.heap.size w w4 := end_three hb (Nat.le_succ _) hb4
      have hn2 : ¬ w.heap.size = w.heap.size + 1 := by omega
      have hn3 : w.heap.size < w.heap.size + 1 + 1 := by omega
    · exact bodyPost_ret (v := .tuple #[insV o d a b 0, .int .i64 0]) (by simp [results, Try.results25, go_sem, hc, hc4, hz, hzz, hz4, hn2, hn3]) rfl ⟨rfl, ((((hw.setCell (Nat.le_refl _) _).setCell (Nat.le_refl _) _).setCell (Nat.le_refl _) _).setCell (Nat.le_refl _) _).setCell (Nat.le_refl _) _⟩
    all_goals exact bodyPost_ret (v := .tuple #[insV 0 0 0 0 0, .int .i64 10]) (by simp [results, Try.results25, go_sem, hc, hc4, hz, hzz, hz4, hn2, hn3]) rfl ⟨rfl, ((((hw.setCell (Nat.le_refl _) _).setCell (Nat.le_refl _) _).setCell (Nat.le_refl _) _).setCell (Nat.le_refl _) _).setCell (Nat.le_refl _) _⟩
  · have hu : uB (pO y) = false := by unfold uB; simpa using hB
    rw [hu] at CU
    have ix := index2 (uD (pO y)) (uA (pO y)) false (uI (pO y))
    have hM : pB y = 0 := by unfold pB; rw [if_neg hB]
    rw [hM] at C ⊢
    have C4 := Lib.hid (refSignedI (y : Int) 21 (pM y) (by omega) (by omega) (by simpa using (sgn_M y hB).1))
    clear hM hu hB hy b7 b8
    generalize pO y = o at *
    generalize pD y = d at *
    generalize pA y = a at *
    generalize pM y = m at *
    generalize (y : Int) = x at *
    rcases h with ⟨rfl, rfl, rfl⟩ | ⟨rfl, h, rfl⟩ | ⟨rfl, h⟩
    all_goals
      have CE := Lib.hid C
      clear C
      go_enter Try.func25, Try.ntmps25
      go_wp2_with (first | (go_at_call 34; refine (CU.out.at _).mono ?_; rintro e w3 ⟨rfl, hb⟩; obtain ⟨hc, hf⟩ := bcell hb; have hz : w.heap.size + 1 < w3.heap.size := (by have := hb.size; simp at this; omega); have hzz : w.heap.size < w3.heap.size := Nat.lt_of_succ_lt hz) | (go_at_call 35; refine (C4.out _).mono ?_; rintro e w5 ⟨rfl, rfl⟩) | (go_at_call 33; (first | (with_reducible refine (C1.out _).mono ?_) | (with_reducible refine (C2.out _).mono ?_) | (with_reducible refine (C3.out _).mono ?_) ); rintro e w2 ⟨rfl, rfl⟩) | (go_at_call 27; refine (CE.out.at _).mono ?_; rintro e w4 ⟨rfl, hb4⟩; obtain ⟨hc4, hf4⟩ := bcell hb4; have hz4 : w3.heap.size ≤ w4.heap.size := by (have := hb4.size; simpa using this)))
    all_goals
      have hw : Below w.heap.size w w4 := end_three hb (Nat.le_succ _) hb4
      have hn2 : ¬ w.heap.size = w.heap.size + 1 := by omega
      have hn3 : w.heap.size < w.heap.size + 1 + 1 := by omega
    · exact bodyPost_ret (v := .tuple #[insV o d a 0 m, .int .i64 0]) (by simp [results, Try.results25, go_sem, hc, hc4, hz, hzz, hz4, hn2, hn3]) rfl ⟨rfl, ((((hw.setCell (Nat.le_refl _) _).setCell (Nat.le_refl _) _).setCell (Nat.le_refl _) _).setCell (Nat.le_refl _) _).setCell (Nat.le_refl _) _⟩
    all_goals exact bodyPost_ret (v := .tuple #[insV 0 0 0 0 0, .int .i64 10]) (by simp [results, Try.results25, go_sem, hc, hc4, hz, hzz, hz4, hn2, hn3]) rfl ⟨rfl, ((((hw.setCell (Nat.le_refl _) _).setCell (Nat.le_refl _) _).setCell (Nat.le_refl _) _).setCell (Nat.le_refl _) _).setCell (Nat.le_refl _) _⟩
theorem refDecode_any (x : Int) (hx : 0 ≤ x ∧ x ≤ 4294967295) : Says Try.prog 25 #[.int .u32 x] (decV x) := by
  obtain ⟨E, K, h1, h2⟩ := parts_way hx
  refine refDecode_way x E K (hasB x) hx ?_ h2
  rcases h1 with ⟨rfl, h, rfl⟩ | ⟨h, hk, rfl⟩
  · exact refEncode_yes _ _ _ _ _ h
  · exact refEncode_no _ _ _ _ _ _ (part_fit hx) hk h
end Go.Proofs.Ytdnjilnnlgphhaa.IF
