/-
  The program's Value, call by call. Nothing here is a statement of the seed.
-/
import Derived.Test.YtdnjilnnlgphhaaRelRow
import Derived.Test.YtdnjilnnlgphhaaRelFn
set_option linter.unusedSimpArgs false
set_option linter.unusedVariables false
namespace Go.Proofs.Ytdnjilnnlgphhaa.RF
open Go.RowKit WM IM WF IF RM

/-- a relocation and a place as values -/
abbrev relV (k a i : Int) : Value := .agg #[.int .u8 k, .int .u16 a, .int .u16 i]
abbrev plV (c d : Int) : Value := .agg #[.int .u32 c, .int .u32 d]
/-- what the slots read as, in blocks that stand -/
structure Slots (w : World) (v : Value) (l : List Nat) : Prop where
  reads : NR.Reads (· < w.heap.size) w v (NR.u32s l)
theorem Slots.below {w u : World} {v : Value} {l : List Nat} (h : Slots w v l) (hb : Below w.heap.size w u) : Slots u v l :=
  ⟨(h.reads.below hb).mono fun g hg => Nat.lt_of_lt_of_le hg hb.size⟩
theorem Slots.nil (w : World) : Slots w (.slice none 0 0) [] := ⟨NR.Reads.nil _ _⟩
theorem value_in (k a c d : Int) (j : Nat) (l : List Nat) (v : Value) (w : World) (R : Slots w v l) (hj : j < l.length) (hk : k = 0 ∨ k = 1 ∨ k = 4) (hj2 : (j : Int) ≤ 65535) :
    Calls Try.prog 9 #[relV k a (j : Int), plV c d, v] w fun e w' => e = .returned (.tuple #[.int .u32 (l.getD j 0 : Nat), .int .i64 0]) ∧ Below w.heap.size w w' := by
  have hne : NR.u32s l ≠ [] := by intro h; rw [← List.length_eq_zero_iff, NR.u32s_len] at h; omega
  obtain ⟨g, off, cap, rfl, hg, hl, hm, hc⟩ := R.reads.cells hne
  have hcj := hc j (by rw [NR.u32s_len]; exact hj)
  rw [NR.u32s_at l j hj] at hcj
  rw [NR.u32s_len] at hl ⊢
  have e : l.getD j 0 = l[j] := by rw [List.getD_eq_getElem?_getD, List.getElem?_eq_getElem hj]; rfl
  rw [e]
  generalize l[j] = x at *
  have hj1 : (j : Int) < (l.length : Int) := by omega
  have hj0 : (0 : Int) ≤ (j : Int) := by omega
  have hwr : wrap64 (j : Int) = (j : Int) := by unfold wrap64; omega
  have hge : decide ((l.length : Int) ≤ (j : Int)) = false := decide_eq_false (by omega)
  have hg1 : g < w.heap.size + 1 := by omega
  have hne1 : g ≠ w.heap.size := by omega
  clear hc R hne e hj
  generalize l.length = n at *
  rcases hk with rfl | rfl | rfl
  all_goals
    go_enter Try.func9, Try.ntmps9
    go_wp2
    exact bodyPost_ret (v := .tuple #[.int .u32 x, .int .i64 0]) (by simp [results, Try.results9, go_sem, *]) rfl ⟨rfl, ((Below.refl _ _).alloc (Nat.le_refl _) _).alloc (by simp) _⟩
theorem value_beyond (k a c d : Int) (j n : Nat) (p : Option Addr) (cap : Nat) (w : World) (hj : n ≤ j) (hk : k = 0 ∨ k = 1 ∨ k = 4) (hj2 : (j : Int) ≤ 65535) :
    Calls Try.prog 9 #[relV k a (j : Int), plV c d, .slice p n cap] w fun e w' => e = .returned (.tuple #[.int .u32 0, .int .i64 2]) ∧ Below w.heap.size w w' := by
  have hj1 : (n : Int) ≤ (j : Int) := by omega
  have hwr : wrap64 (j : Int) = (j : Int) := by unfold wrap64; omega
  rcases hk with rfl | rfl | rfl
  all_goals
    go_enter Try.func9, Try.ntmps9
    go_wp2
    exact bodyPost_ret (v := .tuple #[.int .u32 0, .int .i64 2]) (by simp [results, Try.results9, go_sem, *]) rfl ⟨rfl, ((Below.refl _ _).alloc (Nat.le_refl _) _).alloc (by simp) _⟩
theorem value_own (k a c d i : Int) (v : Value) (w : World) (hk : k = 2 ∨ k = 5 ∨ k = 3 ∨ k = 6 ∨ k = 7) (hc : 0 ≤ c ∧ c ≤ 4294967295) (hd : 0 ≤ d ∧ d ≤ 4294967295) (hi : 0 ≤ i ∧ i ≤ 65535) :
    Calls Try.prog 9 #[relV k a i, plV c d, v] w fun e w' => e = .returned (.tuple #[.int .u32 (((if k = 2 ∨ k = 5 then d else c) + i) % 4294967296), .int .i64 0]) ∧ Below w.heap.size w w' := by
  obtain ⟨hc1, hc2⟩ := hc
  obtain ⟨hd1, hd2⟩ := hd
  obtain ⟨hi1, hi2⟩ := hi
  have hii : i % 4294967296 = i := by omega
  rcases hk with rfl | rfl | rfl | rfl | rfl
  all_goals
    go_enter Try.func9, Try.ntmps9
    go_wp2
  · exact bodyPost_ret (v := .tuple #[.int .u32 ((d + i) % 4294967296), .int .i64 0]) (by simp [results, Try.results9, go_sem, *]) rfl ⟨rfl, ((Below.refl _ _).alloc (Nat.le_refl _) _).alloc (by simp) _⟩
  · exact bodyPost_ret (v := .tuple #[.int .u32 ((d + i) % 4294967296), .int .i64 0]) (by simp [results, Try.results9, go_sem, *]) rfl ⟨rfl, ((Below.refl _ _).alloc (Nat.le_refl _) _).alloc (by simp) _⟩
  all_goals exact bodyPost_ret (v := .tuple #[.int .u32 ((c + i) % 4294967296), .int .i64 0]) (by simp [results, Try.results9, go_sem, *]) rfl ⟨rfl, ((Below.refl _ _).alloc (Nat.le_refl _) _).alloc (by simp) _⟩
theorem value_no (k a c d i : Int) (v : Value) (w : World) (hk : 7 < k ∧ k ≤ 255) :
    Calls Try.prog 9 #[relV k a i, plV c d, v] w fun e w' => e = .returned (.tuple #[.int .u32 0, .int .i64 2]) ∧ Below w.heap.size w w' := by
  obtain ⟨h1, h2⟩ := hk
  have e0 : (k == 0) = false := by simp; omega
  have e1 : (k == 1) = false := by simp; omega
  have e2 : (k == 2) = false := by simp; omega
  have e3 : (k == 3) = false := by simp; omega
  have e4 : (k == 4) = false := by simp; omega
  have e5 : (k == 5) = false := by simp; omega
  have e6 : (k == 6) = false := by simp; omega
  have e7 : (k == 7) = false := by simp; omega
  go_enter Try.func9, Try.ntmps9
  go_wp2
  exact bodyPost_ret (v := .tuple #[.int .u32 0, .int .i64 2]) (by simp [results, Try.results9, go_sem, *]) rfl ⟨rfl, ((Below.refl _ _).alloc (Nat.le_refl _) _).alloc (by simp) _⟩
theorem value_any (k a c d i : Int) (l : List Nat) (v : Value) (w : World) (R : Slots w v l) (hk : 0 ≤ k ∧ k ≤ 255) (hc : 0 ≤ c ∧ c ≤ 4294967295) (hd : 0 ≤ d ∧ d ≤ 4294967295) (hi : 0 ≤ i ∧ i ≤ 65535) :
    Calls Try.prog 9 #[relV k a i, plV c d, v] w fun e w' => e = .returned (.tuple #[.int .u32 (valA k i c d l), .int .i64 (valE k i l)]) ∧ Below w.heap.size w w' := by
  by_cases h7 : 7 < k
  · have e1 : valA k i c d l = 0 := by unfold valA; rw [if_pos h7]
    have e2 : valE k i l = 2 := by unfold valE; rw [if_pos (Or.inl h7)]
    rw [e1, e2]
    exact value_no k a c d i v w ⟨h7, hk.2⟩
  · by_cases hm : k = 0 ∨ k = 1 ∨ k = 4
    · have hI : imp k = true := decide_eq_true hm
      obtain ⟨j, rfl⟩ := Int.eq_ofNat_of_zero_le hi.1
      have e1 : valA k (j : Int) c d l = (l.getD j 0 : Nat) := by unfold valA; rw [if_neg h7, if_pos hI]; rfl
      rw [e1]
      by_cases hj : j < l.length
      · have e2 : valE k (j : Int) l = 0 := by unfold valE; rw [if_neg (by omega)]
        rw [e2]
        exact value_in k a c d j l v w R hj hm hi.2
      · have e2 : valE k (j : Int) l = 2 := by unfold valE; rw [if_pos (Or.inr ⟨hI, by omega⟩)]
        have e3 : l.getD j 0 = 0 := by rw [List.getD_eq_getElem?_getD, List.getElem?_eq_none (by omega)]; rfl
        rw [e2, e3]
        obtain ⟨p, cap, rfl, _⟩ := R.reads.shape
        exact value_beyond k a c d j _ p cap w (by rw [NR.u32s_len]; omega) hm hi.2
    · have hI : imp k = false := decide_eq_false hm
      have e1 : valA k i c d l = ((if k = 2 ∨ k = 5 then d else c) + i) % 4294967296 := by
        unfold valA
        rw [if_neg h7, hI, if_neg (by decide)]
        split <;> rfl
      have e2 : valE k i l = 0 := by unfold valE; rw [if_neg (by rw [hI]; simp; omega)]
      rw [e1, e2]
      exact value_own k a c d i v w (by omega) hc hd hi
end Go.Proofs.Ytdnjilnnlgphhaa.RF
