/-
  Joined texts: SortPiv, SortPiv2. Nothing here is a statement of the seed.
-/
import Derived.Test.YtleggfofgpiabaaSortA
set_option linter.unusedSimpArgs false
set_option linter.unusedVariables false
/-
  The library's choice of a pivot, over a comparison that makes memory of its own. Nothing here is a statement of the seed.
-/
namespace Go.Proofs.Ytleggfofgpiabaa.SO
open Go.RowKit Go.Lib Go.Sort WM NR OM OR
variable {α : Type} [Inhabited α]
set_option maxHeartbeats 4000000
set_option maxRecDepth 100000
theorem order2_lt' (lt : α → α → Bool) (d : Array α) {a b m : Nat} (n : Nat) (ha : a < m) (hb : b < m) : (order2 lt d a b n).1 < m ∧ (order2 lt d a b n).2.1 < m ∧ (order2 lt d a b n).2.2 ≤ n + 1 := by
  unfold order2
  split <;> simp <;> omega
theorem median_lt (lt : α → α → Bool) (d : Array α) {a b c m : Nat} (n : Nat) (ha : a < m) (hb : b < m) (hc : c < m) : (median lt d a b c n).1 < m ∧ (median lt d a b c n).2 ≤ n + 3 := by
  have h1 := order2_lt' lt d n ha hb
  have h2 := order2_lt' lt d (order2 lt d a b n).2.2 h1.2.1 hc
  have h3 := order2_lt' lt d (order2 lt d (order2 lt d a b n).2.1 c (order2 lt d a b n).2.2).2.2 h1.1 h2.1
  unfold median
  exact ⟨h3.2.1, by have := h3.2.2; simp only; omega⟩
/-- a counter of swaps beside the row -/
def St.Ps (s : St α) (w0 W : World) (bs : Nat) (d : Array α) (n : Nat) (w' : World) : Prop := s.At w0 d w' ∧ Whole w' bs 3 #[.int .i64 n] ∧ Fr (· = bs) W w'
/-- the same within a function with a box of its own (block B) -/
def St.Md (s : St α) (w0 W : World) (B bs : Nat) (d : Array α) (n : Nat) (wr : World) : Prop :=
  s.Ps w0 W bs d n wr ∧ B < wr.heap.size ∧ B ≠ bs ∧ wr.cell? ⟨B, 0, none⟩ = some (.func (.func s.g) #[] s.lb) ∧ wr.cell? ⟨B, 1, none⟩ = some (.func (.func s.sf) #[] s.sb)
section
variable {s : St α} {w0 W wr w' : World} {d : Array α} {B bs n m : Nat}
theorem St.Md.c0 (h : s.Md w0 W B bs d n wr) : wr.cell? ⟨B, 0, none⟩ = some (.func (.func s.g) #[] s.lb) := h.2.2.2.1
theorem St.Md.c1 (h : s.Md w0 W B bs d n wr) : wr.cell? ⟨B, 1, none⟩ = some (.func (.func s.sf) #[] s.sb) := h.2.2.2.2
theorem St.Md.call (h : s.Md w0 W B bs d n wr) (hp : s.Ps w0 wr bs d m w') : s.Md w0 W B bs d m w' := by
  obtain ⟨⟨h1, h2, h3⟩, h4, h5, h6, h7⟩ := h
  obtain ⟨k1, k2, k3⟩ := hp
  have e : w'.heap[B]? = wr.heap[B]? := k3.block B h4 (fun e => h5 e)
  exact ⟨⟨k1, k2, h3.trans k3 (fun i hi => Or.inl hi)⟩, Nat.lt_of_lt_of_le h4 k3.size, h5, (World.cell?_of_block (a := ⟨B, 0, none⟩) e).trans h6, (World.cell?_of_block (a := ⟨B, 1, none⟩) e).trans h7⟩
theorem St.Md.start (O : s.Ok w0) (hA : s.At w0 d W) (hw : Whole W bs 3 #[.int .i64 n]) (t : TypeId) : s.Md w0 W W.heap.size bs d n (W.alloc (.cells #[.func (.func s.g) #[] s.lb, .func (.func s.sf) #[] s.sb] t)) := by
  have hb : Below W.heap.size W (W.alloc (.cells #[.func (.func s.g) #[] s.lb, .func (.func s.sf) #[] s.sb] t)) := (Below.refl _ _).alloc (Nat.le_refl _) _
  have := hw.lt
  exact ⟨⟨hA.below O hb, hw.alloc _, Fr.of_below hb⟩, by simp, by omega, by simp, by simp⟩
theorem St.At.set (h : s.At w0 d W) (O : s.Ok w0) {b : Nat} (hb : w0.heap.size ≤ b) (v : Value) : s.At w0 d (W.setCell ⟨b, 0, none⟩ v) := by
  have := O.blk
  obtain ⟨h1, h2, h3⟩ := h
  have e : ∀ i, i ≠ b → (W.setCell ⟨b, 0, none⟩ v).heap[i]? = W.heap[i]? := fun i hi => Below.heap_setCell W ⟨b, 0, none⟩ v i hi
  refine ⟨⟨h1.os, h1.tape, h1.output, by simpa using h1.size, fun i hi hne => (e i (by omega)).trans (h1.block i hi hne)⟩, h2.same (e _ (by omega)), h3⟩
end
theorem order2_any {s : St α} {w0 W : World} (O : s.Ok w0) {d : Array α} (hA : s.At w0 d W) {bs n : Nat} (hw : Whole W bs 3 #[.int .i64 n]) (hbs : w0.heap.size ≤ bs) (hn : n ≤ 100) {a b : Nat} (ha : a < s.size) (hb : b < s.size) :
    Calls Try.prog 69 #[s.v, .int .i64 a, .int .i64 b, .pointer (some ⟨bs, 0, none⟩)] W fun e w' => e = .returned (.tuple #[.int .i64 ((order2 s.lt d a b n).1 : Int), .int .i64 ((order2 s.lt d a b n).2.1 : Int)]) ∧ s.Ps w0 W bs d (order2 s.lt d a b n).2.2 w' := by
  have M0 := St.Md.start O hA hw 68
  have hl := O.less _ d M0.1.1 b a hb ha
  have c0 := M0.c0
  have eg := O.eg
  have OO := Lib.hid O
  have HO := Lib.hid M0
  have HW := Lib.hid (M0.1.2.2)
  have HB := Lib.hid hbs
  unfold order2
  clear M0 O hA hbs
  cases hlv : s.lt d[b]! d[a]! with
  | true =>
    rw [hlv] at hl
    simp only [if_true]
    clear hlv hw
    go_enter Try.func69, Try.ntmps69
    go_wp2_with (go_at_fn s.g; (with_reducible refine hl.mono ?_); rintro e w1 ⟨rfl, hb1⟩; have W1 := Lib.hid (HO.out.1.2.1.belowS hb1); have z0 := W1.out.cell 0; have z1 := W1.out.frozen 0; have A1 := Lib.hid (HO.out.1.1.below OO.out hb1); have F1 := Lib.hid (HW.out.then hb1); clear hb1)
    refine bodyPost_ret (v := .tuple #[.int .i64 b, .int .i64 a]) (by simp [results, Try.results69, go_sem]) rfl ?_
    refine ⟨rfl, A1.out.set OO.out HB.out _, ?_, F1.out.set (p := ⟨bs, 0, none⟩) (Or.inl rfl) _⟩
    have := W1.out.set_ 0 (.int .i64 ((n : Int) + 1))
    simpa using this
  | false =>
    rw [hlv] at hl
    simp only [Bool.false_eq_true, if_false]
    clear hlv hw
    go_enter Try.func69, Try.ntmps69
    go_wp2_with (go_at_fn s.g; (with_reducible refine hl.mono ?_); rintro e w1 ⟨rfl, hb1⟩; have W1 := Lib.hid (HO.out.1.2.1.belowS hb1); have A1 := Lib.hid (HO.out.1.1.below OO.out hb1); have F1 := Lib.hid (HW.out.then hb1); clear hb1)
    refine bodyPost_ret (v := .tuple #[.int .i64 a, .int .i64 b]) (by simp [results, Try.results69, go_sem]) rfl ?_
    exact ⟨rfl, A1.out, W1.out, F1.out⟩
/-- order2 within a function with a box of its own -/
theorem order2_md {s : St α} {w0 W : World} (O : s.Ok w0) {d : Array α} {B bs n : Nat} (hbs : w0.heap.size ≤ bs) (hn : n ≤ 100) {a b : Nat} (ha : a < s.size) (hb : b < s.size) (u : World) (h : s.Md w0 W B bs d n u) :
    Calls Try.prog 69 #[s.v, .int .i64 a, .int .i64 b, .pointer (some ⟨bs, 0, none⟩)] u fun e w' => e = .returned (.tuple #[.int .i64 ((order2 s.lt d a b n).1 : Int), .int .i64 ((order2 s.lt d a b n).2.1 : Int)]) ∧ s.Md w0 W B bs d (order2 s.lt d a b n).2.2 w' :=
  (order2_any O h.1.1 h.1.2.1 hbs hn ha hb).mono fun e w' ⟨he, hp⟩ => ⟨he, h.call hp⟩
theorem median_any {s : St α} {w0 W : World} (O : s.Ok w0) {d : Array α} (hA : s.At w0 d W) {bs n : Nat} (hw : Whole W bs 3 #[.int .i64 n]) (hbs : w0.heap.size ≤ bs) (hn : n ≤ 90) {a b c : Nat} (ha : a < s.size) (hb : b < s.size) (hc : c < s.size) :
    Calls Try.prog 64 #[s.v, .int .i64 a, .int .i64 b, .int .i64 c, .pointer (some ⟨bs, 0, none⟩)] W fun e w' => e = .returned (.int .i64 ((median s.lt d a b c n).1 : Int)) ∧ s.Ps w0 W bs d (median s.lt d a b c n).2 w' := by
  have M0 := Lib.hid (St.Md.start O hA hw 68)
  unfold median
  simp only
  have l1 := order2_lt' s.lt d n ha hb
  have C1 := Lib.hid (order2_md (W := W) (B := W.heap.size) (d := d) (n := n) O hbs (by omega) ha hb)
  obtain ⟨p, hp⟩ : ∃ p, p = order2 s.lt d a b n := ⟨_, rfl⟩
  rw [← hp] at l1 C1 ⊢
  clear hp
  obtain ⟨x1, y1, n1⟩ := p
  simp only at l1 C1 ⊢
  obtain ⟨l1, l2, l3⟩ := l1
  have m1 := order2_lt' s.lt d n1 l2 hc
  have C2 := Lib.hid (order2_md (W := W) (B := W.heap.size) (d := d) (n := n1) O hbs (by omega) l2 hc)
  obtain ⟨p, hp⟩ : ∃ p, p = order2 s.lt d y1 c n1 := ⟨_, rfl⟩
  rw [← hp] at m1 C2 ⊢
  clear hp
  obtain ⟨x2, y2, n2⟩ := p
  simp only at m1 C2 ⊢
  obtain ⟨m1, m2, m3⟩ := m1
  have C3 := Lib.hid (order2_md (W := W) (B := W.heap.size) (d := d) (n := n2) O hbs (by omega) l1 m1)
  obtain ⟨p, hp⟩ : ∃ p, p = order2 s.lt d x1 x2 n2 := ⟨_, rfl⟩
  rw [← hp] at C3 ⊢
  clear hp
  obtain ⟨x3, y3, n3⟩ := p
  simp only at C3 ⊢
  have c0 := M0.out.c0
  have c1 := M0.out.c1
  clear hA hw hbs O
  go_enter Try.func64, Try.ntmps64
  go_wp2_with (first
    | (go_at_call 69; (with_reducible refine (C1.out _ M0.out).mono ?_); rintro e w1 ⟨rfl, M1⟩; have M1 := Lib.hid M1; have c0 := M1.out.c0; have c1 := M1.out.c1; clear C1)
    | (go_at_call 69; (with_reducible refine (C2.out _ M1.out).mono ?_); rintro e w2 ⟨rfl, M2⟩; have M2 := Lib.hid M2; have c0 := M2.out.c0; have c1 := M2.out.c1; clear C2)
    | (go_at_call 69; (with_reducible refine (C3.out _ M2.out).mono ?_); rintro e w3 ⟨rfl, M3⟩; have M3 := Lib.hid M3; clear C3))
  go_ret
  have hM := M3.out.1
  exact ⟨rfl, hM⟩
theorem adjacent_any {s : St α} {w0 W : World} (O : s.Ok w0) {d : Array α} (hA : s.At w0 d W) {bs n : Nat} (hw : Whole W bs 3 #[.int .i64 n]) (hbs : w0.heap.size ≤ bs) (hn : n ≤ 80) {a : Nat} (h1 : 1 ≤ a) (ha : a + 1 < s.size) :
    Calls Try.prog 63 #[s.v, .int .i64 a, .pointer (some ⟨bs, 0, none⟩)] W fun e w' => e = .returned (.int .i64 ((medianAdjacent s.lt d a n).1 : Int)) ∧ s.Ps w0 W bs d (medianAdjacent s.lt d a n).2 w' := by
  have M0 := St.Md.start O hA hw 68
  have big := O.big
  have C := median_any O M0.1.1 M0.1.2.1 hbs (by omega) (a := a - 1) (b := a) (c := a + 1) (by omega) (by omega) ha
  unfold medianAdjacent
  rw [show ((a - 1 : Nat) : Int) = (a : Int) - 1 by omega, show ((a + 1 : Nat) : Int) = (a : Int) + 1 by omega] at C
  have c0 := M0.c0
  have c1 := M0.c1
  have HM := Lib.hid M0
  clear M0 hA hw hbs O
  go_enter Try.func63, Try.ntmps63
  go_wp2_with (go_at_call 64; (with_reducible refine C.mono ?_); rintro e w1 ⟨rfl, M1⟩; have M1 := Lib.hid M1)
  go_ret
  exact ⟨rfl, (HM.out.call M1.out).1⟩
end Go.Proofs.Ytleggfofgpiabaa.SO

/-
  The library's choice of a pivot, over a comparison that makes memory of its own (the whole). Nothing here is a statement of the seed.
-/
namespace Go.Proofs.Ytleggfofgpiabaa.SO
open Go.RowKit Go.Lib Go.Sort WM NR OM OR
variable {α : Type} [Inhabited α]
set_option maxHeartbeats 4000000
set_option maxRecDepth 100000
def hcode : Hint → Int
  | .unknown => 0
  | .increasing => 1
  | .decreasing => 2
theorem adj_lt (lt : α → α → Bool) (d : Array α) {a m : Nat} (n : Nat) (ha : a + 1 < m) : (medianAdjacent lt d a n).1 < m ∧ (medianAdjacent lt d a n).2 ≤ n + 3 :=
  median_lt lt d n (by omega) (by omega) ha
theorem median_md {s : St α} {w0 W : World} (O : s.Ok w0) {d : Array α} {B bs n : Nat} (hbs : w0.heap.size ≤ bs) (hn : n ≤ 90) {a b c : Nat} (ha : a < s.size) (hb : b < s.size) (hc : c < s.size) (u : World) (h : s.Md w0 W B bs d n u) :
    Calls Try.prog 64 #[s.v, .int .i64 a, .int .i64 b, .int .i64 c, .pointer (some ⟨bs, 0, none⟩)] u fun e w' => e = .returned (.int .i64 ((median s.lt d a b c n).1 : Int)) ∧ s.Md w0 W B bs d (median s.lt d a b c n).2 w' :=
  (median_any O h.1.1 h.1.2.1 hbs hn ha hb hc).mono fun e w' ⟨he, hp⟩ => ⟨he, h.call hp⟩
theorem adjacent_md {s : St α} {w0 W : World} (O : s.Ok w0) {d : Array α} {B bs n : Nat} (hbs : w0.heap.size ≤ bs) (hn : n ≤ 80) {a : Nat} (h1 : 1 ≤ a) (ha : a + 1 < s.size) (u : World) (h : s.Md w0 W B bs d n u) :
    Calls Try.prog 63 #[s.v, .int .i64 a, .pointer (some ⟨bs, 0, none⟩)] u fun e w' => e = .returned (.int .i64 ((medianAdjacent s.lt d a n).1 : Int)) ∧ s.Md w0 W B bs d (medianAdjacent s.lt d a n).2 w' :=
  (adjacent_any O h.1.1 h.1.2.1 hbs hn h1 ha).mono fun e w' ⟨he, hp⟩ => ⟨he, h.call hp⟩
/-- the two boxes of choosePivot -/
theorem St.Md.two {s : St α} {w0 W : World} (O : s.Ok w0) {d : Array α} (hA : s.At w0 d W) (t : TypeId) :
    s.Md w0 ((W.alloc (.cells #[.func (.func s.g) #[] s.lb, .func (.func s.sf) #[] s.sb] t)).alloc (.cells #[.int .i64 0] 3)) W.heap.size (W.heap.size + 1) d 0 ((W.alloc (.cells #[.func (.func s.g) #[] s.lb, .func (.func s.sf) #[] s.sb] t)).alloc (.cells #[.int .i64 0] 3)) := by
  have S0 := (St.In.start O hA t).below O ((Below.refl _ _).alloc (Nat.le_refl _) (.cells #[.int .i64 0] 3))
  have hw : Whole ((W.alloc (.cells #[.func (.func s.g) #[] s.lb, .func (.func s.sf) #[] s.sb] t)).alloc (.cells #[.int .i64 0] 3)) (W.heap.size + 1) 3 #[.int .i64 0] := by
    have := Whole.new (W.alloc (.cells #[.func (.func s.g) #[] s.lb, .func (.func s.sf) #[] s.sb] t)) 3 #[.int .i64 0]
    simpa using this
  exact ⟨⟨S0.1, hw, Fr.refl _ _⟩, by simp; omega, by omega, S0.c0, S0.c1⟩
theorem St.Md.post {s : St α} {w0 W u w' : World} {d : Array α} {B bs n : Nat} (h : s.Md w0 u B bs d n w') (hu : Below W.heap.size W u) (hbs : W.heap.size ≤ bs) : s.Post w0 W d w' := by
  obtain ⟨⟨h1, h2, h3⟩, _⟩ := h
  refine ⟨h1, grownBy_below _ ?_⟩
  exact hu.trans (h3.below hu.size (fun i hi => by omega))
theorem pivot_any {s : St α} {w0 W : World} (O : s.Ok w0) {d : Array α} (hA : s.At w0 d W) {a L : Nat} (hL : 12 < L) (hb : a + L ≤ s.size) :
    Calls Try.prog 51 #[s.v, .int .i64 a, .int .i64 ((a + L : Nat) : Int)] W fun e w' => e = .returned (.tuple #[.int .i64 ((choosePivot s.lt d a (a + L)).1 : Int), .int .i64 (hcode (choosePivot s.lt d a (a + L)).2)]) ∧ s.Post w0 W d w' := by
  have big := O.big
  have M0 := Lib.hid (St.Md.two O hA 68)
  have HB := Lib.hid (((Below.refl W.heap.size W).alloc (Nat.le_refl _) (.cells #[.func (.func s.g) #[] s.lb, .func (.func s.sf) #[] s.sb] 68)).alloc (by simp) (.cells #[.int .i64 0] 3))
  have c0 := M0.out.c0
  have c1 := M0.out.c1
  have hbs : w0.heap.size ≤ W.heap.size + 1 := Nat.le_succ_of_le hA.1.size
  have hLz : ((a : Int) + (L : Int) - (a : Int)) = (L : Int) := by omega
  have h8 : (8 : Int) ≤ (L : Int) := by omega
  unfold choosePivot
  simp only [Nat.add_sub_cancel_left]
  rw [if_pos (by omega : 8 ≤ L)]
  obtain ⟨I, hI⟩ : ∃ I : Nat, I = a + L / 4 * 1 := ⟨_, rfl⟩
  obtain ⟨J, hJ⟩ : ∃ J : Nat, J = a + L / 4 * 2 := ⟨_, rfl⟩
  obtain ⟨K, hK⟩ : ∃ K : Nat, K = a + L / 4 * 3 := ⟨_, rfl⟩
  rw [← hI, ← hJ, ← hK]
  have eI : (a : Int) + (L : Int) / 4 = (I : Int) := by omega
  have eJ : (a : Int) + (L : Int) / 4 * 2 = (J : Int) := by omega
  have eK : (a : Int) + (L : Int) / 4 * 3 = (K : Int) := by omega
  have bI : 1 ≤ I ∧ I + 1 < s.size := by omega
  have bJ : 1 ≤ J ∧ J + 1 < s.size := by omega
  have bK : 1 ≤ K ∧ K + 1 < s.size := by omega
  clear hI hJ hK
  by_cases h50 : 50 ≤ L
  · have h50z : (50 : Int) ≤ (L : Int) := by omega
    rw [if_pos h50]
    have l1 := adj_lt s.lt d 0 bI.2
    have C1 := Lib.hid (adjacent_md (W := (W.alloc (.cells #[.func (.func s.g) #[] s.lb, .func (.func s.sf) #[] s.sb] 68)).alloc (.cells #[.int .i64 0] 3)) (B := W.heap.size) (d := d) (n := 0) O hbs (by omega) bI.1 bI.2)
    obtain ⟨p, hp⟩ : ∃ p, p = medianAdjacent s.lt d I 0 := ⟨_, rfl⟩
    rw [← hp] at l1 C1 ⊢
    clear hp
    obtain ⟨x1, n1⟩ := p
    simp only at l1 C1 ⊢
    have l2 := adj_lt s.lt d n1 bJ.2
    have C2 := Lib.hid (adjacent_md (W := (W.alloc (.cells #[.func (.func s.g) #[] s.lb, .func (.func s.sf) #[] s.sb] 68)).alloc (.cells #[.int .i64 0] 3)) (B := W.heap.size) (d := d) (n := n1) O hbs (by omega) bJ.1 bJ.2)
    obtain ⟨p, hp⟩ : ∃ p, p = medianAdjacent s.lt d J n1 := ⟨_, rfl⟩
    rw [← hp] at l2 C2 ⊢
    clear hp
    obtain ⟨x2, n2⟩ := p
    simp only at l2 C2 ⊢
    have l3 := adj_lt s.lt d n2 bK.2
    have C3 := Lib.hid (adjacent_md (W := (W.alloc (.cells #[.func (.func s.g) #[] s.lb, .func (.func s.sf) #[] s.sb] 68)).alloc (.cells #[.int .i64 0] 3)) (B := W.heap.size) (d := d) (n := n2) O hbs (by omega) bK.1 bK.2)
    obtain ⟨p, hp⟩ : ∃ p, p = medianAdjacent s.lt d K n2 := ⟨_, rfl⟩
    rw [← hp] at l3 C3 ⊢
    clear hp
    obtain ⟨x3, n3⟩ := p
    simp only at l3 C3 ⊢
    have C4 := Lib.hid (median_md (W := (W.alloc (.cells #[.func (.func s.g) #[] s.lb, .func (.func s.sf) #[] s.sb] 68)).alloc (.cells #[.int .i64 0] 3)) (B := W.heap.size) (d := d) (n := n3) O hbs (by omega) l1.1 l2.1 l3.1)
    obtain ⟨p, hp⟩ : ∃ p, p = median s.lt d x1 x2 x3 n3 := ⟨_, rfl⟩
    rw [← hp] at C4 ⊢
    clear hp
    obtain ⟨x4, n4⟩ := p
    simp only at C4 ⊢
    have T : n4 = 0 ∨ n4 = 12 ∨ (n4 ≠ 0 ∧ n4 ≠ 12) := by omega
    rcases T with rfl | rfl | ⟨e0, e12⟩
    · rw [show (if 0 = 0 then Hint.increasing else if 0 = 12 then Hint.decreasing else Hint.unknown) = Hint.increasing by simp]
      have bs' : Hid (W.heap.size ≤ W.heap.size + 1) := Lib.hid (by omega)
      clear hA hbs O l1 l2 l3 bI bJ bK
      go_enter Try.func51, Try.ntmps51
      go_wp2_with (first
        | (go_at_call 63; (with_reducible refine (C1.out _ M0.out).mono ?_); rintro e w1 ⟨rfl, M1⟩; have M1 := Lib.hid M1; have c0 := M1.out.c0; have c1 := M1.out.c1; clear C1)
        | (go_at_call 63; (with_reducible refine (C2.out _ M1.out).mono ?_); rintro e w2 ⟨rfl, M2⟩; have M2 := Lib.hid M2; have c0 := M2.out.c0; have c1 := M2.out.c1; clear C2)
        | (go_at_call 63; (with_reducible refine (C3.out _ M2.out).mono ?_); rintro e w3 ⟨rfl, M3⟩; have M3 := Lib.hid M3; have c0 := M3.out.c0; have c1 := M3.out.c1; clear C3)
        | (go_at_call 64; (with_reducible refine (C4.out _ M3.out).mono ?_); rintro e w4 ⟨rfl, M4⟩; have M4 := Lib.hid M4; have z0 : w4.cell? ⟨W.heap.size + 1, 0, none⟩ = some (.int .i64 0) := M4.out.1.2.1.cell 0; clear C4))
      refine bodyPost_ret (v := .tuple #[.int .i64 x4, .int .i64 1]) (by simp [results, Try.results51, go_sem]) rfl ?_
      exact ⟨rfl, M4.out.post HB.out bs'.out⟩
    · rw [show (if 12 = 0 then Hint.increasing else if 12 = 12 then Hint.decreasing else Hint.unknown) = Hint.decreasing by simp]
      have bs' : Hid (W.heap.size ≤ W.heap.size + 1) := Lib.hid (by omega)
      clear hA hbs O l1 l2 l3 bI bJ bK
      go_enter Try.func51, Try.ntmps51
      go_wp2_with (first
        | (go_at_call 63; (with_reducible refine (C1.out _ M0.out).mono ?_); rintro e w1 ⟨rfl, M1⟩; have M1 := Lib.hid M1; have c0 := M1.out.c0; have c1 := M1.out.c1; clear C1)
        | (go_at_call 63; (with_reducible refine (C2.out _ M1.out).mono ?_); rintro e w2 ⟨rfl, M2⟩; have M2 := Lib.hid M2; have c0 := M2.out.c0; have c1 := M2.out.c1; clear C2)
        | (go_at_call 63; (with_reducible refine (C3.out _ M2.out).mono ?_); rintro e w3 ⟨rfl, M3⟩; have M3 := Lib.hid M3; have c0 := M3.out.c0; have c1 := M3.out.c1; clear C3)
        | (go_at_call 64; (with_reducible refine (C4.out _ M3.out).mono ?_); rintro e w4 ⟨rfl, M4⟩; have M4 := Lib.hid M4; have z0 : w4.cell? ⟨W.heap.size + 1, 0, none⟩ = some (.int .i64 12) := M4.out.1.2.1.cell 0; clear C4))
      refine bodyPost_ret (v := .tuple #[.int .i64 x4, .int .i64 2]) (by simp [results, Try.results51, go_sem]) rfl ?_
      exact ⟨rfl, M4.out.post HB.out bs'.out⟩
    · have b0 : ((n4 : Int) == 0) = false := by simpa using e0
      have b12 : ((n4 : Int) == 12) = false := by simp; omega
      rw [show (if n4 = 0 then Hint.increasing else if n4 = 12 then Hint.decreasing else Hint.unknown) = Hint.unknown by simp [e0, e12]]
      clear e0 e12
      have bs' : Hid (W.heap.size ≤ W.heap.size + 1) := Lib.hid (by omega)
      clear hA hbs O l1 l2 l3 bI bJ bK
      go_enter Try.func51, Try.ntmps51
      go_wp2_with (first
        | (go_at_call 63; (with_reducible refine (C1.out _ M0.out).mono ?_); rintro e w1 ⟨rfl, M1⟩; have M1 := Lib.hid M1; have c0 := M1.out.c0; have c1 := M1.out.c1; clear C1)
        | (go_at_call 63; (with_reducible refine (C2.out _ M1.out).mono ?_); rintro e w2 ⟨rfl, M2⟩; have M2 := Lib.hid M2; have c0 := M2.out.c0; have c1 := M2.out.c1; clear C2)
        | (go_at_call 63; (with_reducible refine (C3.out _ M2.out).mono ?_); rintro e w3 ⟨rfl, M3⟩; have M3 := Lib.hid M3; have c0 := M3.out.c0; have c1 := M3.out.c1; clear C3)
        | (go_at_call 64; (with_reducible refine (C4.out _ M3.out).mono ?_); rintro e w4 ⟨rfl, M4⟩; have M4 := Lib.hid M4; have z0 : w4.cell? ⟨W.heap.size + 1, 0, none⟩ = some (.int .i64 (n4 : Int)) := M4.out.1.2.1.cell 0; clear C4))
      refine bodyPost_ret (v := .tuple #[.int .i64 x4, .int .i64 0]) (by simp [results, Try.results51, go_sem]) rfl ?_
      exact ⟨rfl, M4.out.post HB.out bs'.out⟩
  · have h50z : ¬ (50 : Int) ≤ (L : Int) := by omega
    rw [if_neg h50]
    have C4 := Lib.hid (median_md (W := (W.alloc (.cells #[.func (.func s.g) #[] s.lb, .func (.func s.sf) #[] s.sb] 68)).alloc (.cells #[.int .i64 0] 3)) (B := W.heap.size) (d := d) (n := 0) O hbs (by omega) (Nat.lt_of_succ_lt bI.2) (Nat.lt_of_succ_lt bJ.2) (Nat.lt_of_succ_lt bK.2))
    obtain ⟨p, hp⟩ : ∃ p, p = median s.lt d I J K 0 := ⟨_, rfl⟩
    rw [← hp] at C4 ⊢
    clear hp
    obtain ⟨x4, n4⟩ := p
    simp only at C4 ⊢
    have T : n4 = 0 ∨ n4 = 12 ∨ (n4 ≠ 0 ∧ n4 ≠ 12) := by omega
    rcases T with rfl | rfl | ⟨e0, e12⟩
    · rw [show (if 0 = 0 then Hint.increasing else if 0 = 12 then Hint.decreasing else Hint.unknown) = Hint.increasing by simp]
      have bs' : Hid (W.heap.size ≤ W.heap.size + 1) := Lib.hid (by omega)
      clear hA hbs O bI bJ bK
      go_enter Try.func51, Try.ntmps51
      go_wp2_with (go_at_call 64; (with_reducible refine (C4.out _ M0.out).mono ?_); rintro e w4 ⟨rfl, M4⟩; have M4 := Lib.hid M4; have z0 : w4.cell? ⟨W.heap.size + 1, 0, none⟩ = some (.int .i64 0) := M4.out.1.2.1.cell 0; clear C4)
      refine bodyPost_ret (v := .tuple #[.int .i64 x4, .int .i64 1]) (by simp [results, Try.results51, go_sem]) rfl ?_
      exact ⟨rfl, M4.out.post HB.out bs'.out⟩
    · rw [show (if 12 = 0 then Hint.increasing else if 12 = 12 then Hint.decreasing else Hint.unknown) = Hint.decreasing by simp]
      have bs' : Hid (W.heap.size ≤ W.heap.size + 1) := Lib.hid (by omega)
      clear hA hbs O bI bJ bK
      go_enter Try.func51, Try.ntmps51
      go_wp2_with (go_at_call 64; (with_reducible refine (C4.out _ M0.out).mono ?_); rintro e w4 ⟨rfl, M4⟩; have M4 := Lib.hid M4; have z0 : w4.cell? ⟨W.heap.size + 1, 0, none⟩ = some (.int .i64 12) := M4.out.1.2.1.cell 0; clear C4)
      refine bodyPost_ret (v := .tuple #[.int .i64 x4, .int .i64 2]) (by simp [results, Try.results51, go_sem]) rfl ?_
      exact ⟨rfl, M4.out.post HB.out bs'.out⟩
    · have b0 : ((n4 : Int) == 0) = false := by simpa using e0
      have b12 : ((n4 : Int) == 12) = false := by simp; omega
      rw [show (if n4 = 0 then Hint.increasing else if n4 = 12 then Hint.decreasing else Hint.unknown) = Hint.unknown by simp [e0, e12]]
      clear e0 e12
      have bs' : Hid (W.heap.size ≤ W.heap.size + 1) := Lib.hid (by omega)
      clear hA hbs O bI bJ bK
      go_enter Try.func51, Try.ntmps51
      go_wp2_with (go_at_call 64; (with_reducible refine (C4.out _ M0.out).mono ?_); rintro e w4 ⟨rfl, M4⟩; have M4 := Lib.hid M4; have z0 : w4.cell? ⟨W.heap.size + 1, 0, none⟩ = some (.int .i64 (n4 : Int)) := M4.out.1.2.1.cell 0; clear C4)
      refine bodyPost_ret (v := .tuple #[.int .i64 x4, .int .i64 0]) (by simp [results, Try.results51, go_sem]) rfl ?_
      exact ⟨rfl, M4.out.post HB.out bs'.out⟩
end Go.Proofs.Ytleggfofgpiabaa.SO
