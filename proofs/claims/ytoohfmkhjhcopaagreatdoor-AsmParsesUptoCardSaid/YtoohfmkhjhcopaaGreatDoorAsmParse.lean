/-
  What Parse of package asm tells. Nothing here is a statement of the seed.
-/
import Derived.Test.YtoohfmkhjhcopaaGreatDoorAsmGuess2
set_option linter.unusedSimpArgs false
set_option linter.unusedVariables false
namespace Go.Proofs.YtoohfmkhjhcopaaGreatDoor.AF
open Go.RowKit WM IM WF IF AM

/-- an instruction as a value -/
abbrev insI (i : I5) : Value := insV i.1 i.2.1 i.2.2.1 i.2.2.2.1 i.2.2.2.2
theorem sel_bs (u : Bool) (l : List UInt8) : sel u (bs (post 32 l)) (bs l) = bs (gr u l) := by cases u <;> rfl
theorem selI_gd (u : Bool) (l : List UInt8) : selI u (gReg (pre 32 l)) = gd u l := by cases u <;> rfl
theorem selI_gm (u : Bool) (l : List UInt8) : selI u (gNum (pre 32 l)) = gm u l := by cases u <;> rfl
theorem gr_len (u : Bool) (l : List UInt8) : (gr u l).length ≤ l.length := by
  cases u with
  | true => exact post_len 32 l
  | false => exact Nat.le_refl _
theorem uses_pat {o : Int} (h : 0 ≤ o ∧ o ≤ 21) : uD o = false ∧ uA o = false ∧ uB o = false ∧ uI o = false ∨ uD o = true ∧ uA o = false ∧ uB o = false ∧ uI o = true ∨ uD o = true ∧ uA o = true ∧ uB o = true ∧ uI o = false ∨ uD o = true ∧ uA o = true ∧ uB o = false ∧ uI o = true ∨
    uD o = false ∧ uA o = false ∧ uB o = false ∧ uI o = true ∨ uD o = false ∧ uA o = true ∧ uB o = false ∧ uI o = false := by
  rcases ops22 h with rfl | rfl | rfl | rfl | rfl | rfl | rfl | rfl | rfl | rfl | rfl | rfl | rfl | rfl | rfl | rfl | rfl | rfl | rfl | rfl | rfl | rfl <;> decide
theorem next_at (l : List UInt8) (hl : l.length ≤ 140737488355328) : NextAt (bs l) (bs (pre 32 l)) (bs (post 32 l)) := fun B w hc hf => next_any l hl B w hc hf
def guessV (l : List UInt8) : Value := match guess l with
  | some i => .tuple #[insI i, .bool true]
  | none => .tuple #[insV 0 0 0 0 0, .bool false]
theorem guess_any (l : List UInt8) (hl : l.length ≤ 140737488355328) : SaysT 26 #[.string (bs l)] (guessV l) := by
  have C1 := fun w => cut_bs l 32 w (by omega)
  unfold guessV guess
  cases h : opOf (pre 32 l) with
  | none =>
    exact guess_no (bs l) (bs (pre 32 l)) (bs (post 32 l)) _ C1 (fun w T => by
      have := operation_eq (pre 32 l) w T
      unfold opV at this
      rw [h] at this
      exact this)
  | some n =>
    have hn := opOf_some h
    have p0 := post_len 32 l
    have p1 := gr_len (uD n) (post 32 l)
    have p2 := gr_len (uA n) (gr (uD n) (post 32 l))
    have p3 := gr_len (uB n) (gr (uA n) (gr (uD n) (post 32 l)))
    have q3 := pre_len 32 (gr (uB n) (gr (uA n) (gr (uD n) (post 32 l))))
    have := guess_way n (gReg (pre 32 (post 32 l))) (gReg (pre 32 (gr (uD n) (post 32 l)))) (gReg (pre 32 (gr (uA n) (gr (uD n) (post 32 l))))) (gNum (pre 32 (gr (uB n) (gr (uA n) (gr (uD n) (post 32 l)))))) (bs l) (bs (pre 32 l))
      (bs (post 32 l)) (bs (pre 32 (post 32 l))) (bs (post 32 (post 32 l))) (bs (pre 32 (gr (uD n) (post 32 l)))) (bs (post 32 (gr (uD n) (post 32 l))))
      (bs (pre 32 (gr (uA n) (gr (uD n) (post 32 l))))) (bs (post 32 (gr (uA n) (gr (uD n) (post 32 l))))) (bs (pre 32 (gr (uB n) (gr (uA n) (gr (uD n) (post 32 l)))))) (bs (post 32 (gr (uB n) (gr (uA n) (gr (uD n) (post 32 l))))))
      _ (uD n) (uA n) (uB n) (uI n) C1 (fun w T => by
        have := operation_eq (pre 32 l) w T
        unfold opV at this
        rw [h] at this
        exact this) (fun w => uses_any n w (by omega)) (next_at _ (by omega)) (by rw [sel_bs]; exact next_at _ (by omega)) (by rw [sel_bs, sel_bs]; exact next_at _ (by omega)) (by rw [sel_bs, sel_bs, sel_bs]; exact next_at _ (by omega))
      (guessReg_any _) (guessReg_any _) (guessReg_any _) (guessNum_any _ (by omega)) (uses_pat (by omega))
    rw [selI_gd, selI_gd, selI_gd, selI_gm] at this
    exact this
theorem blk5 {W : World} {g : Nat} {t : TypeId} {x0 x1 x2 x3 x4 : Value} (h : Blk W g t #[x0, x1, x2, x3, x4]) : (W.cell? ⟨g, 0, none⟩ = some x0 ∧ W.cell? ⟨g, 1, none⟩ = some x1 ∧ W.cell? ⟨g, 2, none⟩ = some x2 ∧ W.cell? ⟨g, 3, none⟩ = some x3 ∧ W.cell? ⟨g, 4, none⟩ = some x4) ∧ (∀ i, W.frozen? ⟨g, i, none⟩ = false) ∧ g < W.heap.size := by
  refine ⟨⟨h.cell 0, h.cell 1, h.cell 2, h.cell 3, h.cell 4⟩, h.frozen, ?_⟩
  rcases Nat.lt_or_ge g W.heap.size with h' | h'
  · exact h'
  · unfold Blk at h
    simp [Array.getElem?_eq_none h'] at h
abbrev z5 : Array Value := #[.int .u8 0, .int .u8 0, .int .u8 0, .int .u8 0, .int .i32 0]
theorem parse_not (L : ByteArray) (C0 : SaysT 26 #[.string L] (.tuple #[insV 0 0 0 0 0, .bool false])) :
    SaysT 13 #[.string L] (.tuple #[insV 0 0 0 0 0, .int .i64 60]) := by
  intro w T
  have HT := Lib.hid (T.below (below_new w (.cells z5 24)))
  have hB := Blk.new w 24 z5
  clear T
  go_enter Tryz.func13, Tryz.ntmps13
  go_wp2_with (first | (go_at_call 26; refine (C0 _ HT.out).mono ?_; rintro e w1 ⟨rfl, hb⟩; have hB1 := blk_below hB hb; obtain ⟨⟨k0, k1, k2, k3, k4⟩, hf, hlt⟩ := blk5 hB1))
  refine bodyPost_ret (results_ins (x0 := .int .u8 0) (x1 := .int .u8 0) (x2 := .int .u8 0) (x3 := .int .u8 0) (x4 := .int .i32 0) (v := .int .i64 60) rfl rfl rfl ?_) rfl ⟨rfl, ?_⟩
  · exact blk_below (fin5 (end_alloc hb) hB1 _ _ _ _ _).1 (below_new _ _)
  · exact ball (fin5 (end_alloc hb) hB1 _ _ _ _ _).2
theorem parse_bad (L S : ByteArray) (o d a b m K : Int) (hK : K ≠ 0) (C0 : SaysT 26 #[.string L] (.tuple #[insV o d a b m, .bool true]))
    (C1 : SaysT 8 #[insV o d a b m] (.tuple #[.string S, .int .i64 K])) : SaysT 13 #[.string L] (.tuple #[insV 0 0 0 0 0, .int .i64 60]) := by
  intro w T
  have HT := Lib.hid (T.below (below_new w (.cells z5 24)))
  have hB := Blk.new w 24 z5
  clear T
  have hK' : (K != 0) = true := by simpa using hK
  clear hK
  go_enter Tryz.func13, Tryz.ntmps13
  go_wp2_with (first | (go_at_call 26; refine (C0 _ HT.out).mono ?_; rintro e w1 ⟨rfl, hb⟩; have hB1 := blk_below hB hb; have HT1 := Lib.hid ((HT.out.below hb).below (below_new w1 (.cells #[.int .u8 o, .int .u8 d, .int .u8 a, .int .u8 b, .int .i32 m] 24))); obtain ⟨⟨k0, k1, k2, k3, k4⟩, hf, hlt⟩ := blk5 hB1) | (go_at_call 8; refine (C1 _ HT1.out).mono ?_; rintro e w2 ⟨rfl, hb2⟩; have hB2 := blk_below (blk_below hB1 (below_new _ _)) hb2; clear k0 k1 k2 k3 k4 hf hlt; obtain ⟨⟨k0, k1, k2, k3, k4⟩, hf, hlt⟩ := blk5 hB2))
  refine bodyPost_ret (results_ins (x0 := .int .u8 0) (x1 := .int .u8 0) (x2 := .int .u8 0) (x3 := .int .u8 0) (x4 := .int .i32 0) (v := .int .i64 60) rfl rfl rfl ?_) rfl ⟨rfl, ?_⟩
  · exact (fin5 (btr (end_alloc hb) (end_alloc hb2)) hB2 _ _ _ _ _).1
  · exact (fin5 (btr (end_alloc hb) (end_alloc hb2)) hB2 _ _ _ _ _).2
theorem parse_unlike (L S : ByteArray) (o d a b m : Int) (hS : (S.toList == L.toList) = false) (C0 : SaysT 26 #[.string L] (.tuple #[insV o d a b m, .bool true]))
    (C1 : SaysT 8 #[insV o d a b m] (.tuple #[.string S, .int .i64 0])) : SaysT 13 #[.string L] (.tuple #[insV 0 0 0 0 0, .int .i64 60]) := by
  intro w T
  have HT := Lib.hid (T.below (below_new w (.cells z5 24)))
  have hB := Blk.new w 24 z5
  clear T
  go_enter Tryz.func13, Tryz.ntmps13
  go_wp2_with (first | (go_at_call 26; refine (C0 _ HT.out).mono ?_; rintro e w1 ⟨rfl, hb⟩; have hB1 := blk_below hB hb; have HT1 := Lib.hid ((HT.out.below hb).below (below_new w1 (.cells #[.int .u8 o, .int .u8 d, .int .u8 a, .int .u8 b, .int .i32 m] 24))); obtain ⟨⟨k0, k1, k2, k3, k4⟩, hf, hlt⟩ := blk5 hB1) | (go_at_call 8; refine (C1 _ HT1.out).mono ?_; rintro e w2 ⟨rfl, hb2⟩; have hB2 := blk_below (blk_below hB1 (below_new _ _)) hb2; clear k0 k1 k2 k3 k4 hf hlt; obtain ⟨⟨k0, k1, k2, k3, k4⟩, hf, hlt⟩ := blk5 hB2))
  refine bodyPost_ret (results_ins (x0 := .int .u8 0) (x1 := .int .u8 0) (x2 := .int .u8 0) (x3 := .int .u8 0) (x4 := .int .i32 0) (v := .int .i64 60) rfl rfl rfl ?_) rfl ⟨rfl, ?_⟩
  · exact (fin5 (btr (end_alloc hb) (end_alloc hb2)) hB2 _ _ _ _ _).1
  · exact (fin5 (btr (end_alloc hb) (end_alloc hb2)) hB2 _ _ _ _ _).2
theorem parse_like (L S : ByteArray) (o d a b m : Int) (hS : (S.toList == L.toList) = true) (C0 : SaysT 26 #[.string L] (.tuple #[insV o d a b m, .bool true]))
    (C1 : SaysT 8 #[insV o d a b m] (.tuple #[.string S, .int .i64 0])) : SaysT 13 #[.string L] (.tuple #[insV o d a b m, .int .i64 0]) := by
  intro w T
  have HT := Lib.hid (T.below (below_new w (.cells z5 24)))
  have hB := Blk.new w 24 z5
  clear T
  go_enter Tryz.func13, Tryz.ntmps13
  go_wp2_with (first | (go_at_call 26; refine (C0 _ HT.out).mono ?_; rintro e w1 ⟨rfl, hb⟩; have hB1 := blk_below hB hb; have hI1 := Blk.new w1 24 #[.int .u8 o, .int .u8 d, .int .u8 a, .int .u8 b, .int .i32 m]; have HT1 := Lib.hid ((HT.out.below hb).below (below_new w1 (.cells #[.int .u8 o, .int .u8 d, .int .u8 a, .int .u8 b, .int .i32 m] 24))); obtain ⟨⟨k0, k1, k2, k3, k4⟩, hf, hlt⟩ := blk5 hB1) | (go_at_call 8; refine (C1 _ HT1.out).mono ?_; rintro e w2 ⟨rfl, hb2⟩; have hB2 := blk_below (blk_below hB1 (below_new _ _)) hb2; clear k0 k1 k2 k3 k4 hf hlt; obtain ⟨⟨k0, k1, k2, k3, k4⟩, hf, hlt⟩ := blk5 hB2; obtain ⟨⟨l0, l1, l2, l3, l4⟩, hf', hlt'⟩ := blk5 (blk_below hI1 hb2)))
  refine bodyPost_ret (results_ins (x0 := .int .u8 o) (x1 := .int .u8 d) (x2 := .int .u8 a) (x3 := .int .u8 b) (x4 := .int .i32 m) (v := .int .i64 0) rfl rfl rfl ?_) rfl ⟨rfl, ?_⟩
  · exact (fin5 (btr (end_alloc hb) (end_alloc hb2)) hB2 _ _ _ _ _).1
  · exact (fin5 (btr (end_alloc hb) (end_alloc hb2)) hB2 _ _ _ _ _).2
def parV (i : Option I5) : Value := match i with
  | some i => .tuple #[insI i, .int .i64 0]
  | none => .tuple #[insV 0 0 0 0 0, .int .i64 60]
theorem gNum_bd (l : List UInt8) : -2147483648 ≤ gNum l ∧ gNum l ≤ 2147483647 := by
  unfold gNum
  cases h : Lib.parseIntB 32 l with
  | ok v =>
    have := Lib.parseIntB_bounds h
    simp at this
    simp
    omega
  | range => simp
  | _ => simp
theorem guess_fit {l : List UInt8} {i : I5} (h : guess l = some i) : Fit i.1 i.2.1 i.2.2.1 i.2.2.2.1 i.2.2.2.2 := by
  have bd := guess_bd h
  have hm : -2147483648 ≤ i.2.2.2.2 ∧ i.2.2.2.2 ≤ 2147483647 := by
    unfold guess at h
    obtain ⟨n, hn, rfl⟩ := Option.map_eq_some_iff.1 h
    show -2147483648 ≤ gm _ _ ∧ gm _ _ ≤ 2147483647
    unfold gm
    split
    · exact gNum_bd _
    · omega
  unfold Fit
  omega
theorem parse_any (l : List UInt8) (hl : l.length ≤ 140737488355328) : SaysT 13 #[.string (bs l)] (parV (pC l)) := by
  have C0 := guess_any l hl
  unfold guessV at C0
  unfold pC
  cases h : guess l with
  | none =>
    rw [h] at C0
    exact parse_not _ C0
  | some i =>
    rw [h] at C0
    have C1 := print_any i (guess_fit h)
    simp only
    unfold prK at C1
    by_cases e : chkI i = 0
    · rw [if_pos e, e] at C1
      by_cases e2 : prI i = l
      · rw [if_pos ⟨e, e2⟩]
        exact parse_like _ _ _ _ _ _ _ (by rw [bs_toList, bs_toList, e2]; simp) C0 C1
      · rw [if_neg (fun h => e2 h.2)]
        exact parse_unlike _ _ _ _ _ _ _ (by rw [bs_toList, bs_toList]; simpa using e2) C0 C1
    · rw [if_neg (fun h => e h.1)]
      exact parse_bad _ _ _ _ _ _ _ _ e C0 C1
end Go.Proofs.YtoohfmkhjhcopaaGreatDoor.AF
