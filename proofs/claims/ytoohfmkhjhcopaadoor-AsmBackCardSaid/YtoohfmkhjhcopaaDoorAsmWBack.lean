/-
  The law AsmBack, walked.
-/
import Derived.Test.YtoohfmkhjhcopaaDoorAsmAwake
set_option linter.unusedSimpArgs false
set_option linter.unusedVariables false
namespace Go.Proofs.YtoohfmkhjhcopaaDoor.WK
open Go.RowKit WM IM WF IF AM AF

theorem awakeT : SaysT 7 #[] (.bool true) := fun w T => awake_any w T
theorem outT {f : FuncId} {args : Array Value} {v : Value} (h : Hid (SaysT f args v)) (u : World) (T : Tab u) : Calls Tryd.prog f args u fun e w' => e = .returned v ∧ Below u.heap.size u w' := h.out u T
theorem pr_len' {i : I5} (h : iOk i) : (prI i).length ≤ 24 := by
  obtain ⟨o, d, a, b, m⟩ := i
  have h' := h
  simp only [iOk, InsOk] at h'
  have r := fun (u : Bool) (x : Int) (hx : 0 ≤ x ∧ x ≤ 7) => (show (seg u (rg x)).length ≤ 3 by
    unfold seg
    split
    · simp [rg_len hx]
    · simp)
  have i1 : (seg (uI o) (Lib.itoa m)).length ≤ 9 := by
    have := itoa_len m (by omega)
    unfold seg
    split
    · simp; omega
    · simp
  have n1 := (mn_fine (o := o) (by omega)).2.2.2.1
  have a1 := r (uD o) d (by omega)
  have a2 := r (uA o) a (by omega)
  have a3 := r (uB o) b (by omega)
  show (pr o d a b m).length ≤ 24
  unfold pr
  simp only [List.length_append]
  omega
theorem pC_nil : pC [] = none := by
  have : guess [] = none := by decide
  unfold pC
  rw [this]
set_option maxHeartbeats 2000000 in
theorem back_yy (o d a b m : Int) (S : ByteArray) (X : ByteArray) (o' d' a' b' m' : Int)
    (C1 : SaysT 4 #[insV o d a b m] (.tuple #[.string X, .int .i64 0]))
    (C2 : SaysT 5 #[.string X] (.tuple #[insV o d a b m, .int .i64 0]))
    (C3 : SaysT 5 #[.string S] (.tuple #[insV o' d' a' b' m', .int .i64 0]))
    (C4 : SaysT 4 #[insV o' d' a' b' m'] (.tuple #[.string S, .int .i64 0])) (w : World) (T : Tab w) :
    Calls Tryd.prog 3 #[insV o d a b m, .string S] w fun e w' => e = .returned (.bool true) ∧ Below w.heap.size w w' := by
  have HT : Hid (∀ u, Below w.heap.size w u → Tab u) := fun u hb => T.below hb
  have HA := Lib.hid awakeT
  have hI0 := Blk.new w 24 #[.int .u8 o, .int .u8 d, .int .u8 a, .int .u8 b, .int .i32 m]
  have hb0 : Below w.heap.size w (w.alloc (.cells #[.int .u8 o, .int .u8 d, .int .u8 a, .int .u8 b, .int .i32 m] 24)) := below_new w _
  have tok1 : True := trivial
  clear T
  have HC1 := Lib.hid C1
  have HC2 := Lib.hid C2
  have HC3 := Lib.hid C3
  have HC4 := Lib.hid C4
  clear C1 C2 C3 C4
  go_enter Tryd.func3, Tryd.ntmps3
  go_wp2_with (first | (go_at_call 4; (first | (with_reducible refine (outT HC1 _ (HT.out _ hb0)).mono ?_; have tok := tok1; rintro e w1 ⟨rfl, hb⟩; clear tok tok1; have hI := blk_below hI0 hb; have hb1 := btr hb0 hb; clear hb0; obtain ⟨⟨k0, k1, k2, k3, k4⟩, hf, hlt⟩ := blk5 hI) | (refine (outT HC4 _ (HT.out _ hb4)).mono ?_; rintro e w5 ⟨rfl, hb⟩; have hJ := blk_below hJ0 hb; have hb5 := btr hb4 hb; obtain ⟨⟨l0, l1, l2, l3, l4⟩, hf', hlt'⟩ := blk5 hJ))) | (go_at_call 5; (first | (with_reducible refine (outT HC2 _ (HT.out _ hb1)).mono ?_; rintro e w2 ⟨rfl, hb⟩; have hI2 := blk_below (blk_below hI hb) (below_new _ (.cells #[.int .u8 o, .int .u8 d, .int .u8 a, .int .u8 b, .int .i32 m] 24)); have hb2 := ball (o := .cells #[.int .u8 o, .int .u8 d, .int .u8 a, .int .u8 b, .int .i32 m] 24) (btr hb1 hb); have tok2 : True := trivial; clear hb1 k0 k1 k2 k3 k4 hf hlt; obtain ⟨⟨k0, k1, k2, k3, k4⟩, hf, hlt⟩ := blk5 (blk_below hI hb)) | (refine (outT HC3 _ (HT.out _ hb2)).mono ?_; rintro e w4 ⟨rfl, hb⟩; have hb4 := ball (o := .cells #[.int .u8 o', .int .u8 d', .int .u8 a', .int .u8 b', .int .i32 m'] 24) (btr hb2 hb); have hJ0 := Blk.new w4 24 #[.int .u8 o', .int .u8 d', .int .u8 a', .int .u8 b', .int .i32 m']))) | (go_at_call 7; refine (outT HA _ (HT.out _ hb5)).mono ?_; rintro e w6 ⟨rfl, hb⟩; have hb6 := btr hb5 hb))
  go_ret
  exact ⟨rfl, hb6⟩
set_option maxHeartbeats 2000000 in
theorem back_yn (o d a b m : Int) (S : ByteArray) (X : ByteArray) (U : ByteArray)
    (C1 : SaysT 4 #[insV o d a b m] (.tuple #[.string X, .int .i64 0]))
    (C2 : SaysT 5 #[.string X] (.tuple #[insV o d a b m, .int .i64 0]))
    (C3 : SaysT 5 #[.string S] (.tuple #[insV 0 0 0 0 0, .int .i64 60]))
    (C4 : SaysT 4 #[insV 0 0 0 0 0] (.tuple #[.string U, .int .i64 0])) (w : World) (T : Tab w) :
    Calls Tryd.prog 3 #[insV o d a b m, .string S] w fun e w' => e = .returned (.bool true) ∧ Below w.heap.size w w' := by
  have HT : Hid (∀ u, Below w.heap.size w u → Tab u) := fun u hb => T.below hb
  have HA := Lib.hid awakeT
  have hI0 := Blk.new w 24 #[.int .u8 o, .int .u8 d, .int .u8 a, .int .u8 b, .int .i32 m]
  have hb0 : Below w.heap.size w (w.alloc (.cells #[.int .u8 o, .int .u8 d, .int .u8 a, .int .u8 b, .int .i32 m] 24)) := below_new w _
  have tok1 : True := trivial
  clear T
  have HC1 := Lib.hid C1
  have HC2 := Lib.hid C2
  have HC3 := Lib.hid C3
  have HC4 := Lib.hid C4
  clear C1 C2 C3 C4
  go_enter Tryd.func3, Tryd.ntmps3
  go_wp2_with (first | (go_at_call 4; (first | (with_reducible refine (outT HC1 _ (HT.out _ hb0)).mono ?_; have tok := tok1; rintro e w1 ⟨rfl, hb⟩; clear tok tok1; have hI := blk_below hI0 hb; have hb1 := btr hb0 hb; clear hb0; obtain ⟨⟨k0, k1, k2, k3, k4⟩, hf, hlt⟩ := blk5 hI) | (refine (outT HC4 _ (HT.out _ hb4)).mono ?_; rintro e w5 ⟨rfl, hb⟩; have hJ := blk_below hJ0 hb; have hb5 := btr hb4 hb; obtain ⟨⟨l0, l1, l2, l3, l4⟩, hf', hlt'⟩ := blk5 hJ))) | (go_at_call 5; (first | (with_reducible refine (outT HC2 _ (HT.out _ hb1)).mono ?_; rintro e w2 ⟨rfl, hb⟩; have hI2 := blk_below (blk_below hI hb) (below_new _ (.cells #[.int .u8 o, .int .u8 d, .int .u8 a, .int .u8 b, .int .i32 m] 24)); have hb2 := ball (o := .cells #[.int .u8 o, .int .u8 d, .int .u8 a, .int .u8 b, .int .i32 m] 24) (btr hb1 hb); have tok2 : True := trivial; clear hb1 k0 k1 k2 k3 k4 hf hlt; obtain ⟨⟨k0, k1, k2, k3, k4⟩, hf, hlt⟩ := blk5 (blk_below hI hb)) | (refine (outT HC3 _ (HT.out _ hb2)).mono ?_; rintro e w4 ⟨rfl, hb⟩; have hb4 := ball (o := .cells z5 24) (btr hb2 hb); have hJ0 := Blk.new w4 24 z5))) | (go_at_call 7; refine (outT HA _ (HT.out _ hb5)).mono ?_; rintro e w6 ⟨rfl, hb⟩; have hb6 := btr hb5 hb))
  go_ret
  exact ⟨rfl, hb6⟩
set_option maxHeartbeats 2000000 in
theorem back_ny (o d a b m : Int) (S : ByteArray) (K : Int) (hK : K ≠ 0) (o' d' a' b' m' : Int)
    (C1 : SaysT 4 #[insV o d a b m] (.tuple #[.string ⟨#[]⟩, .int .i64 K]))
    (C2 : SaysT 5 #[.string ⟨#[]⟩] (.tuple #[insV 0 0 0 0 0, .int .i64 60]))
    (C5 : Says Tryd.prog 6 #[insV o d a b m] (.int .i64 K))
    (C3 : SaysT 5 #[.string S] (.tuple #[insV o' d' a' b' m', .int .i64 0]))
    (C4 : SaysT 4 #[insV o' d' a' b' m'] (.tuple #[.string S, .int .i64 0])) (w : World) (T : Tab w) :
    Calls Tryd.prog 3 #[insV o d a b m, .string S] w fun e w' => e = .returned (.bool true) ∧ Below w.heap.size w w' := by
  have HT : Hid (∀ u, Below w.heap.size w u → Tab u) := fun u hb => T.below hb
  have HA := Lib.hid awakeT
  have hI0 := Blk.new w 24 #[.int .u8 o, .int .u8 d, .int .u8 a, .int .u8 b, .int .i32 m]
  have hb0 : Below w.heap.size w (w.alloc (.cells #[.int .u8 o, .int .u8 d, .int .u8 a, .int .u8 b, .int .i32 m] 24)) := below_new w _
  have tok1 : True := trivial
  clear T
  have HC1 := Lib.hid C1
  have HC2 := Lib.hid C2
  have HC3 := Lib.hid C3
  have HC4 := Lib.hid C4
  clear C1 C2 C3 C4
  have hK1 : (K == 0) = false := by simpa using hK
  have hK2 : (K != 0) = true := by simpa using hK
  clear hK
  go_enter Tryd.func3, Tryd.ntmps3
  go_wp2_with (first | (go_at_call 4; (first | (with_reducible refine (outT HC1 _ (HT.out _ hb0)).mono ?_; have tok := tok1; rintro e w1 ⟨rfl, hb⟩; clear tok tok1; have hI := blk_below hI0 hb; have hb1 := btr hb0 hb; clear hb0; obtain ⟨⟨k0, k1, k2, k3, k4⟩, hf, hlt⟩ := blk5 hI) | (refine (outT HC4 _ (HT.out _ hb4)).mono ?_; rintro e w5 ⟨rfl, hb⟩; have hJ := blk_below hJ0 hb; have hb5 := btr hb4 hb; obtain ⟨⟨l0, l1, l2, l3, l4⟩, hf', hlt'⟩ := blk5 hJ))) | (go_at_call 5; (first | (with_reducible refine (outT HC2 _ (HT.out _ hb1)).mono ?_; rintro e w2 ⟨rfl, hb⟩; have hI2 := blk_below (blk_below hI hb) (below_new _ (.cells z5 24)); have hb2 := ball (o := .cells z5 24) (btr hb1 hb); have tok2 : True := trivial; clear hb1 k0 k1 k2 k3 k4 hf hlt; obtain ⟨⟨k0, k1, k2, k3, k4⟩, hf, hlt⟩ := blk5 (blk_below hI hb)) | (refine (outT HC3 _ (HT.out _ hb3)).mono ?_; rintro e w4 ⟨rfl, hb⟩; have hb4 := ball (o := .cells #[.int .u8 o', .int .u8 d', .int .u8 a', .int .u8 b', .int .i32 m'] 24) (btr hb3 hb); have hJ0 := Blk.new w4 24 #[.int .u8 o', .int .u8 d', .int .u8 a', .int .u8 b', .int .i32 m']))) | (go_at_call 6; refine (C5 _).mono ?_; rintro e w3 ⟨rfl, hb⟩; have hb3 := btr hb2 hb) | (go_at_call 7; refine (outT HA _ (HT.out _ hb5)).mono ?_; rintro e w6 ⟨rfl, hb⟩; have hb6 := btr hb5 hb))
  go_ret
  exact ⟨rfl, hb6⟩
set_option maxHeartbeats 2000000 in
theorem back_nn (o d a b m : Int) (S : ByteArray) (K : Int) (hK : K ≠ 0) (U : ByteArray)
    (C1 : SaysT 4 #[insV o d a b m] (.tuple #[.string ⟨#[]⟩, .int .i64 K]))
    (C2 : SaysT 5 #[.string ⟨#[]⟩] (.tuple #[insV 0 0 0 0 0, .int .i64 60]))
    (C5 : Says Tryd.prog 6 #[insV o d a b m] (.int .i64 K))
    (C3 : SaysT 5 #[.string S] (.tuple #[insV 0 0 0 0 0, .int .i64 60]))
    (C4 : SaysT 4 #[insV 0 0 0 0 0] (.tuple #[.string U, .int .i64 0])) (w : World) (T : Tab w) :
    Calls Tryd.prog 3 #[insV o d a b m, .string S] w fun e w' => e = .returned (.bool true) ∧ Below w.heap.size w w' := by
  have HT : Hid (∀ u, Below w.heap.size w u → Tab u) := fun u hb => T.below hb
  have HA := Lib.hid awakeT
  have hI0 := Blk.new w 24 #[.int .u8 o, .int .u8 d, .int .u8 a, .int .u8 b, .int .i32 m]
  have hb0 : Below w.heap.size w (w.alloc (.cells #[.int .u8 o, .int .u8 d, .int .u8 a, .int .u8 b, .int .i32 m] 24)) := below_new w _
  have tok1 : True := trivial
  clear T
  have HC1 := Lib.hid C1
  have HC2 := Lib.hid C2
  have HC3 := Lib.hid C3
  have HC4 := Lib.hid C4
  clear C1 C2 C3 C4
  have hK1 : (K == 0) = false := by simpa using hK
  have hK2 : (K != 0) = true := by simpa using hK
  clear hK
  go_enter Tryd.func3, Tryd.ntmps3
  go_wp2_with (first | (go_at_call 4; (first | (with_reducible refine (outT HC1 _ (HT.out _ hb0)).mono ?_; have tok := tok1; rintro e w1 ⟨rfl, hb⟩; clear tok tok1; have hI := blk_below hI0 hb; have hb1 := btr hb0 hb; clear hb0; obtain ⟨⟨k0, k1, k2, k3, k4⟩, hf, hlt⟩ := blk5 hI) | (refine (outT HC4 _ (HT.out _ hb4)).mono ?_; rintro e w5 ⟨rfl, hb⟩; have hJ := blk_below hJ0 hb; have hb5 := btr hb4 hb; obtain ⟨⟨l0, l1, l2, l3, l4⟩, hf', hlt'⟩ := blk5 hJ))) | (go_at_call 5; (first | (with_reducible refine (outT HC2 _ (HT.out _ hb1)).mono ?_; rintro e w2 ⟨rfl, hb⟩; have hI2 := blk_below (blk_below hI hb) (below_new _ (.cells z5 24)); have hb2 := ball (o := .cells z5 24) (btr hb1 hb); have tok2 : True := trivial; clear hb1 k0 k1 k2 k3 k4 hf hlt; obtain ⟨⟨k0, k1, k2, k3, k4⟩, hf, hlt⟩ := blk5 (blk_below hI hb)) | (refine (outT HC3 _ (HT.out _ hb3)).mono ?_; rintro e w4 ⟨rfl, hb⟩; have hb4 := ball (o := .cells z5 24) (btr hb3 hb); have hJ0 := Blk.new w4 24 z5))) | (go_at_call 6; refine (C5 _).mono ?_; rintro e w3 ⟨rfl, hb⟩; have hb3 := btr hb2 hb) | (go_at_call 7; refine (outT HA _ (HT.out _ hb5)).mono ?_; rintro e w6 ⟨rfl, hb⟩; have hb6 := btr hb5 hb))
  go_ret
  exact ⟨rfl, hb6⟩
theorem AsmBack_walk (o d a b m : Int) (s : ByteArray) (h : Fit o d a b m) (hs : s.size ≤ 140737488355328) (w : World) (T : Tab w) :
    Calls Tryd.prog 3 #[insV o d a b m, .string s] w fun e w' => e = .returned (.bool true) ∧ Below w.heap.size w w' := by
  have C1 := print_any (o, d, a, b, m) h
  have C3 := parse_any s.data.toList (by rw [size_list]; exact hs)
  rw [bs_of] at C3
  have C5 := check_any o d a b m h
  have h' := h
  simp only [Fit] at h'
  have H0 : SaysT 4 #[insV 0 0 0 0 0] (.tuple #[.string (bs (pr 0 0 0 0 0)), .int .i64 0]) := print_yes 0 0 0 0 0 (by unfold InsOk; omega)
  unfold prK at C1
  by_cases e : chkI (o, d, a, b, m) = 0
  · rw [if_pos e, e] at C1
    have hok : iOk (o, d, a, b, m) := (show InsOk o d a b m from (chk_good (by omega) (by omega) (by omega) (by omega)).1 e)
    have hl := pr_len' hok
    have C2 := parse_any (prI (o, d, a, b, m)) (by omega)
    rw [pC_pr hok] at C2
    cases hp : pC s.data.toList with
    | none =>
      rw [hp] at C3
      exact back_yn o d a b m s _ _ C1 C2 C3 H0 w T
    | some j =>
      rw [hp] at C3
      obtain ⟨hj, hj2⟩ := pC_iff.1 hp
      have C4 := print_yes j.1 j.2.1 j.2.2.1 j.2.2.2.1 j.2.2.2.2 hj
      rw [show pr j.1 j.2.1 j.2.2.1 j.2.2.2.1 j.2.2.2.2 = s.data.toList from hj2, bs_of] at C4
      exact back_yy o d a b m s _ _ _ _ _ _ C1 C2 C3 C4 w T
  · rw [if_neg e] at C1
    have C2 := parse_any [] (by simp)
    rw [pC_nil] at C2
    cases hp : pC s.data.toList with
    | none =>
      rw [hp] at C3
      exact back_nn o d a b m s _ e _ C1 C2 C5 C3 H0 w T
    | some j =>
      rw [hp] at C3
      obtain ⟨hj, hj2⟩ := pC_iff.1 hp
      have C4 := print_yes j.1 j.2.1 j.2.2.1 j.2.2.2.1 j.2.2.2.2 hj
      rw [show pr j.1 j.2.1 j.2.2.1 j.2.2.2.1 j.2.2.2.2 = s.data.toList from hj2, bs_of] at C4
      exact back_ny o d a b m s _ e _ _ _ _ _ C1 C2 C5 C3 C4 w T
end Go.Proofs.YtoohfmkhjhcopaaDoor.WK
