/-
  The program's Undo, call by call. Nothing here is a statement of the seed.
-/
import Derived.Test.YtdnjilnnlgphhaaRelPut
import Derived.Deep.QuietTactic
set_option linter.unusedSimpArgs false
set_option linter.unusedVariables false
namespace Go.Proofs.Ytdnjilnnlgphhaa.RF
open Go.RowKit WM IM WF IF RM

theorem undo_out (x k : Int) (hk : 7 < k ∧ k ≤ 255) : Says Try.prog 16 #[.int .u32 x, .int .u8 k] (.tuple #[.int .u32 0, .int .i64 2]) := by
  intro w
  obtain ⟨h1, h2⟩ := hk
  go_enter Try.func16, Try.ntmps16
  go_wp2
  exact bodyPost_ret (v := .tuple #[.int .u32 0, .int .i64 2]) (by simp [results, Try.results16, go_sem, *]) rfl ⟨rfl, Below.refl _ _⟩
theorem undo_whole (x k : Int) (hk : 0 ≤ k ∧ k ≤ 7) (hw : whole k = true) : Says Try.prog 16 #[.int .u32 x, .int .u8 k] (.tuple #[.int .u32 0, .int .i64 0]) := by
  intro w
  have C := Lib.hid (fun w => isWhole_any k w ⟨hk.1, by omega⟩)
  rw [hw] at C
  obtain ⟨h1, h2⟩ := hk
  clear hw
  go_enter Try.func16, Try.ntmps16
  go_wp2_with (first | (go_at_call 22; refine (C.out _).mono ?_; rintro e w' ⟨rfl, rfl⟩))
  exact bodyPost_ret (v := .tuple #[.int .u32 0, .int .i64 0]) (by simp [results, Try.results16, go_sem, *]) rfl ⟨rfl, Below.refl _ _⟩
/-- Undo, by what its calls tell -/
theorem undo_code (x k o d a b m K o' d' E r : Int) (hk : 0 ≤ k ∧ k ≤ 7) (CW : ∀ w, Calls Try.prog 22 #[.int .u8 k] w fun e w' => e = .returned (.bool false) ∧ w = w')
    (CD : Says Try.prog 18 #[.int .u32 x] (.tuple #[insV o d a b m, .int .i64 K]))
    (CB : Says Try.prog 23 #[.int .u8 k, .int .u8 d] (insV o' d' 0 0 0))
    (CE : r = 0 → Says Try.prog 20 #[insV o d a b 0] (.tuple #[.int .u32 E, .int .i64 0]))
    (h : (K != 0) = true ∧ r = 10 ∨ K = 0 ∧ m < 0 ∧ r = 10 ∨ K = 0 ∧ 0 ≤ m ∧ ¬ (o = o' ∧ d = d' ∧ a = 0 ∧ b = 0 ∧ (0 : Int) = 0) ∧ r = 10 ∨ K = 0 ∧ 0 ≤ m ∧ (o = o' ∧ d = d' ∧ a = 0 ∧ b = 0) ∧ r = 0) :
    Says Try.prog 16 #[.int .u32 x, .int .u8 k] (.tuple #[.int .u32 (if r = 0 then E else 0), .int .i64 r]) := by
  intro w
  obtain ⟨h1, h2⟩ := hk
  have TW := Lib.hid CW
  have TD := Lib.hid CD
  have TB := Lib.hid CB
  clear CW CD CB
  rcases h with ⟨hK, rfl⟩ | ⟨rfl, hn, rfl⟩ | ⟨rfl, hm, hn, rfl⟩ | ⟨rfl, hm, ⟨rfl, rfl, rfl, rfl⟩, rfl⟩
  · clear CE
    go_enter Try.func16, Try.ntmps16
    go_wp2_with (first | (go_at_call 22; refine (TW.out _).mono ?_; rintro e w' ⟨rfl, rfl⟩) | (go_at_call 18; refine (TD.out.at _).mono ?_; rintro e w1 ⟨rfl, hb⟩; obtain ⟨hc, hg⟩ := bcell hb))
    have hbs := fun ob v => (hb.alloc hb.size ob).setCell (p := ⟨w1.heap.size, 4, none⟩) hb.size v
    go_quiet (fail)
    go_wp2
    exact bodyPost_ret (v := .tuple #[.int .u32 0, .int .i64 10]) (by simp [results, Try.results16, go_sem, *]) rfl ⟨rfl, by first | assumption | exact hb.alloc hb.size _ | exact (hb.alloc hb.size _).drew | exact below_drewN (hb.alloc hb.size _) _⟩
  · clear CE
    have cb : decide (m < 0) = true := decide_eq_true hn
    go_enter Try.func16, Try.ntmps16
    go_wp2_with (first | (go_at_call 22; refine (TW.out _).mono ?_; rintro e w' ⟨rfl, rfl⟩) | (go_at_call 18; refine (TD.out.at _).mono ?_; rintro e w1 ⟨rfl, hb⟩; obtain ⟨hc, hg⟩ := bcell hb))
    have hbs := fun ob v => (hb.alloc hb.size ob).setCell (p := ⟨w1.heap.size, 4, none⟩) hb.size v
    go_quiet (fail)
    go_wp2
    exact bodyPost_ret (v := .tuple #[.int .u32 0, .int .i64 10]) (by simp [results, Try.results16, go_sem, *]) rfl ⟨rfl, by first | assumption | exact hb.alloc hb.size _ | exact (hb.alloc hb.size _).drew | exact below_drewN (hb.alloc hb.size _) _⟩
  · clear CE
    have eN : ∀ u, (binOp .neq 47 (insV o d a b 0) (insV o' d' 0 0 0)).run Try.prog u = .ok (.bool true) u := fun u => (neq_ins o d a b 0 o' d' 0 0 0 u).trans (by rw [decide_eq_false hn]; rfl)
    have cb : decide (m < 0) = false := decide_eq_false (Int.not_lt.2 hm)
    go_enter Try.func16, Try.ntmps16
    go_wp2_with (first | (go_at_call 22; refine (TW.out _).mono ?_; rintro e w' ⟨rfl, rfl⟩) | (go_at_call 18; refine (TD.out.at _).mono ?_; rintro e w1 ⟨rfl, hb⟩; obtain ⟨hc, hg⟩ := bcell hb))
    have hba := fun ob => hb.alloc hb.size ob
    have hbs := fun ob v => (hb.alloc hb.size ob).setCell (p := ⟨w1.heap.size, 4, none⟩) hb.size v
    go_region_held3 (fun u => u.cell? ⟨w1.heap.size, 0, none⟩ = some (.int .u8 o) ∧ u.cell? ⟨w1.heap.size, 1, none⟩ = some (.int .u8 d) ∧ u.cell? ⟨w1.heap.size, 2, none⟩ = some (.int .u8 a) ∧ u.cell? ⟨w1.heap.size, 3, none⟩ = some (.int .u8 b) ∧ u.cell? ⟨w1.heap.size, 4, none⟩ = some (.int .i32 0) ∧ u.frozen? ⟨w1.heap.size, 4, none⟩ = false ∧ w1.heap.size < u.heap.size ∧ Below w.heap.size w u)
      (first | (simp [*, World.cell?_alloc_some, below_drew_iff, below_new]; done) | (simp [*, World.cell?_alloc_some, below_drew_iff, below_new]; omega))
      (first | (go_at_call 23; refine (stood_in TB.out w1.heap.size w o d a b 0 _ (by simp [Stood, *])).mono ?_; rintro e w' ⟨rfl, g0, g1, g2, g3, g4, gz, g5, g6⟩))
    go_wp2
    exact bodyPost_ret (v := .tuple #[.int .u32 0, .int .i64 10]) (by simp [results, Try.results16, go_sem, *]) rfl ⟨rfl, by first | assumption | exact hb.alloc hb.size _ | exact (hb.alloc hb.size _).drew | exact below_drewN (hb.alloc hb.size _) _⟩
  · have TE := Lib.hid (CE rfl)
    clear CE
    have eN : ∀ u, (binOp .neq 47 (insV o d 0 0 0) (insV o d 0 0 0)).run Try.prog u = .ok (.bool false) u := fun u => (neq_ins o d 0 0 0 o d 0 0 0 u).trans (by simp)
    have cb : decide (m < 0) = false := decide_eq_false (Int.not_lt.2 hm)
    go_enter Try.func16, Try.ntmps16
    go_wp2_with (first | (go_at_call 22; refine (TW.out _).mono ?_; rintro e w' ⟨rfl, rfl⟩) | (go_at_call 18; refine (TD.out.at _).mono ?_; rintro e w1 ⟨rfl, hb⟩; obtain ⟨hc, hg⟩ := bcell hb))
    have hba := fun ob => hb.alloc hb.size ob
    have hbs := fun ob v => (hb.alloc hb.size ob).setCell (p := ⟨w1.heap.size, 4, none⟩) hb.size v
    go_region_held3 (fun u => u.cell? ⟨w1.heap.size, 0, none⟩ = some (.int .u8 o) ∧ u.cell? ⟨w1.heap.size, 1, none⟩ = some (.int .u8 d) ∧ u.cell? ⟨w1.heap.size, 2, none⟩ = some (.int .u8 0) ∧ u.cell? ⟨w1.heap.size, 3, none⟩ = some (.int .u8 0) ∧ u.cell? ⟨w1.heap.size, 4, none⟩ = some (.int .i32 0) ∧ u.frozen? ⟨w1.heap.size, 4, none⟩ = false ∧ w1.heap.size < u.heap.size ∧ Below w.heap.size w u)
      (first | (simp [*, World.cell?_alloc_some, below_drew_iff, below_new]; done) | (simp [*, World.cell?_alloc_some, below_drew_iff, below_new]; omega))
      (first | (go_at_call 23; refine (stood_in TB.out w1.heap.size w o d 0 0 0 _ (by simp [Stood, *])).mono ?_; rintro e w' ⟨rfl, g0, g1, g2, g3, g4, gz, g5, g6⟩))
    go_wp2_with (first | (go_at_call 20; refine (TE.out.at _).mono ?_; rintro e w6 ⟨rfl, hb6⟩; obtain ⟨hc6, hf6⟩ := bcell hb6))
    exact bodyPost_ret (v := .tuple #[.int .u32 E, .int .i64 0]) (by simp [results, Try.results16, go_sem, *]) rfl ⟨rfl, g6.trans (hb6.mono (by have := g6.size; simpa using this))⟩
theorem code_of {k : Int} (hk : 0 ≤ k ∧ k ≤ 7) (hw : whole k = false) : inC k = true ∧ rch k = 1048575 := by
  have h : inC k = true := by have := whole_inC hk; rw [hw] at this; simpa using this
  refine ⟨h, ?_⟩
  unfold rch
  rw [if_neg (by omega), if_pos h]
theorem whole_of {k : Int} (hk : 0 ≤ k ∧ k ≤ 7) (hw : whole k = true) : inC k = false := by
  have := whole_inC hk
  rw [hw] at this
  simpa using this
theorem same_word {x k : Int} (hx : 0 ≤ x ∧ x ≤ 4294967295) (hh : hasB x = true) : (pO x = opK k ∧ pD x = dK k (pD x) ∧ pA x = 0 ∧ pB x = 0) ↔ opB x k = true := by
  constructor
  · intro h
    unfold opB
    rw [hh, decide_eq_true h.1]
    rfl
  · intro h
    obtain ⟨h1, h2, h3, h4, _⟩ := of_op hx h
    exact ⟨h1, h2, h3, h4⟩
theorem apply_any (x k v : Int) (hx : 0 ≤ x ∧ x ≤ 4294967295) (hk : 0 ≤ k ∧ k ≤ 255) (hv : 0 ≤ v ∧ v ≤ 4294967295) :
    Says Try.prog 12 #[.int .u32 x, .int .u8 k, .int .u32 v] (.tuple #[.int .u32 (apW x k v), .int .i64 (apE x k v)]) := by
  by_cases h7 : 7 < k
  · have e : apE x k v = 2 := by unfold apE; rw [if_pos h7]
    have e2 : apW x k v = 0 := by unfold apW; rw [e]; rfl
    rw [e, e2]
    exact apply_out x k v ⟨h7, hk.2⟩
  · have hk7 : 0 ≤ k ∧ k ≤ 7 := ⟨hk.1, by omega⟩
    cases hw : whole k with
    | true =>
      have hc := whole_of hk7 hw
      have e : apE x k v = 0 := by unfold apE; rw [if_neg h7, if_pos hc]
      have e2 : apW x k v = v := by unfold apW; rw [e, hc]; rfl
      rw [e, e2]
      exact apply_whole x k v hk7 hw
    | false =>
      obtain ⟨hc, hr⟩ := code_of hk7 hw
      have CW := fun w => isWhole_any k w hk
      rw [hw] at CW
      have CR := fun w => reach_any k w hk
      rw [hr] at CR
      have CD := decode_any x hx
      unfold decV at CD
      have eE : apE x k v = if (opB x k && decide (pM x = 0)) = false then 10 else if 1048575 < v then 30 else 0 := by unfold apE; rw [if_neg h7, hc]; simp
      have eW : apW x k v = if apE x k v = 0 then putW x k v else 0 := by unfold apW; rw [hc]; simp
      rw [eW]
      obtain ⟨_, hd, _⟩ := part_bd hx
      cases hh : hasB x with
      | false =>
        rw [hh] at CD
        have ho : opB x k = false := by unfold opB; rw [hh]; rfl
        have e : apE x k v = 10 := by rw [eE, ho]; rfl
        rw [e]
        exact apply_code x k v _ _ _ _ _ _ _ _ (putW x k v) 10 hk7 CW CD (blank_any k 0 hk (by omega)) CR (fun h => by omega) hv (Or.inl ⟨by decide, rfl⟩)
      | true =>
        rw [hh] at CD
        have hs := same_word (k := k) hx hh
        refine apply_code x k v _ _ _ _ _ _ _ _ (putW x k v) (apE x k v) hk7 CW CD (blank_any k (pD x) hk (by omega)) CR (fun h => ?_) hv (Or.inr ?_)
        · have ho : opB x k = true ∧ pM x = 0 ∧ v ≤ 1048575 := by
            rw [eE] at h
            split at h
            · omega
            · rename_i h1
              split at h
              · omega
              · rename_i h2
                simp at h1
                exact ⟨h1.1, h1.2, by omega⟩
          obtain ⟨g1, g2, g3, g4⟩ := hs.2 ho.1
          rw [g1, g3, g4]
          exact encode_yes _ _ _ _ _ (put_ok hx ho.1 ⟨hv.1, ho.2.2⟩)
        · by_cases ho : opB x k = true ∧ pM x = 0
          · have hn : (opB x k && decide (pM x = 0)) = true := by rw [ho.1, ho.2]; rfl
            rw [eE, hn]
            obtain ⟨g1, g2, g3, g4⟩ := hs.2 ho.1
            by_cases hv2 : 1048575 < v
            · exact Or.inr (Or.inl ⟨rfl, ⟨g1, g2, g3, g4, ho.2⟩, hv2, by simp [hv2]⟩)
            · exact Or.inr (Or.inr ⟨rfl, ⟨g1, g2, g3, g4, ho.2⟩, by omega, by simp; omega⟩)
          · have hn : (opB x k && decide (pM x = 0)) = false := by
              rw [Bool.eq_false_iff]
              intro h
              rw [Bool.and_eq_true, decide_eq_true_eq] at h
              exact ho h
            refine Or.inl ⟨rfl, fun h => ho ⟨hs.1 ⟨h.1, h.2.1, h.2.2.1, h.2.2.2.1⟩, h.2.2.2.2⟩, ?_⟩
            rw [eE, hn]
            rfl
theorem undo_any (x k : Int) (hx : 0 ≤ x ∧ x ≤ 4294967295) (hk : 0 ≤ k ∧ k ≤ 255) :
    Says Try.prog 16 #[.int .u32 x, .int .u8 k] (.tuple #[.int .u32 (unW x k), .int .i64 (unE x k)]) := by
  by_cases h7 : 7 < k
  · have e : unE x k = 2 := by unfold unE; rw [if_pos h7]
    have e2 : unW x k = 0 := by unfold unW; rw [e]; rfl
    rw [e, e2]
    exact undo_out x k ⟨h7, hk.2⟩
  · have hk7 : 0 ≤ k ∧ k ≤ 7 := ⟨hk.1, by omega⟩
    cases hw : whole k with
    | true =>
      have hc := whole_of hk7 hw
      have e : unE x k = 0 := by unfold unE; rw [if_neg h7, if_pos hc]
      have e2 : unW x k = 0 := by unfold unW; rw [e, hc]; rfl
      rw [e, e2]
      exact undo_whole x k hk7 hw
    | false =>
      obtain ⟨hc, hr⟩ := code_of hk7 hw
      have CW := fun w => isWhole_any k w hk
      rw [hw] at CW
      have CD := decode_any x hx
      unfold decV at CD
      have eE : unE x k = if (opB x k && decide (0 ≤ pM x)) = false then 10 else 0 := by unfold unE; rw [if_neg h7, hc]; simp
      have eW : unW x k = if unE x k = 0 then putW x k 0 else 0 := by unfold unW; rw [hc]; simp
      rw [eW]
      obtain ⟨_, hd, _⟩ := part_bd hx
      cases hh : hasB x with
      | false =>
        rw [hh] at CD
        have ho : opB x k = false := by unfold opB; rw [hh]; rfl
        have e : unE x k = 10 := by rw [eE, ho]; rfl
        rw [e]
        exact undo_code x k _ _ _ _ _ _ _ _ (putW x k 0) 10 hk7 CW CD (blank_any k 0 hk (by omega)) (fun h => by omega) (Or.inl ⟨by decide, rfl⟩)
      | true =>
        rw [hh] at CD
        have hs := same_word (k := k) hx hh
        refine undo_code x k _ _ _ _ _ _ _ _ (putW x k 0) (unE x k) hk7 CW CD (blank_any k (pD x) hk (by omega)) (fun h => ?_) (Or.inr ?_)
        · have ho : opB x k = true := by
            rw [eE] at h
            split at h
            · omega
            · rename_i h1
              simp at h1
              exact h1.1
          obtain ⟨g1, g2, g3, g4⟩ := hs.2 ho
          rw [g1, g3, g4]
          exact encode_yes _ _ _ _ _ (put_ok hx ho (by omega))
        · by_cases hm : 0 ≤ pM x
          · refine Or.inr ?_
            by_cases ho : opB x k = true
            · obtain ⟨g1, g2, g3, g4⟩ := hs.2 ho
              refine Or.inr ⟨rfl, hm, ⟨g1, g2, g3, g4⟩, ?_⟩
              rw [eE, ho, decide_eq_true hm]
              rfl
            · refine Or.inl ⟨rfl, hm, fun h => ho (hs.1 ⟨h.1, h.2.1, h.2.2.1, h.2.2.2.1⟩), ?_⟩
              rw [eE, Bool.eq_false_iff.2 ho]
              rfl
          · refine Or.inl ⟨rfl, by omega, ?_⟩
            rw [eE, decide_eq_false hm]
            simp
end Go.Proofs.Ytdnjilnnlgphhaa.RF
