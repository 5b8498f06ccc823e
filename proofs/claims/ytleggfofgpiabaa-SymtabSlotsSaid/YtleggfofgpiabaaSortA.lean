/-
  Joined texts: SortRow, SortIns, SortSift, SortHeap. Nothing here is a statement of the seed.
-/
import Derived.Test.YtleggfofgpiabaaObjRow
import Derived.Shelf.GgSortFunc.RowK
import Derived.Deep.LoopGhost
import Derived.BigCall
import Derived.Shelf.Abstract
import Derived.BigGuard
import Derived.Sort.WalkA
import Derived.Sort.WalkB2
set_option linter.unusedSimpArgs false
set_option linter.unusedVariables false
/-
  The library's sort over a comparison that makes memory of its own: what a sort's function is handed, and what holds of the row all the way. Nothing here is a statement of the seed.
-/
namespace Go.Proofs.Ytleggfofgpiabaa.SO
open Go.RowKit Go.Lib Go.Sort WM NR OM OR
variable {α : Type} [Inhabited α]
/-- what a sort goes over: elements of k cells, at one place of one block; what compares, what swaps -/
structure St (α : Type) where
  g : Nat
  lb : Array Value
  sf : Nat
  sb : Array Value
  enc : α → List Value
  k : Nat
  lt : α → α → Bool
  blk : Nat
  off : Nat
  size : Nat
  ty : TypeId
  len : Nat
/-- the value that all functions of the sort are handed -/
abbrev St.v (s : St α) : Value := .agg #[.func (.func s.g) #[] s.lb, .func (.func s.sf) #[] s.sb]
/-- the row's block, and what it holds -/
def St.Row (s : St α) (W : World) (d : Array α) : Prop := HoldsK s.enc s.k W s.blk s.off d ∧ ∃ cs : Array Value, W.heap[s.blk]? = some (.cells cs s.ty (0, 0)) ∧ cs.size = s.len
/-- the row holds d -/
def St.At (s : St α) (w0 : World) (d : Array α) (W : World) : Prop := w0.grownBy W (some s.blk) ∧ s.Row W d ∧ d.size = s.size
/-- what is asked of both functions -/
structure St.Ok (s : St α) (w0 : World) : Prop where
  eg : ∀ args w, (callFunc s.g args).run Try.prog w = .ok (.enter s.g args) w
  less : ∀ (W : World) (d : Array α), s.At w0 d W → ∀ i j : Nat, i < s.size → j < s.size → Calls Try.prog s.g (#[.int .i64 i, .int .i64 j] ++ s.lb) W fun e w' => e = .returned (.bool (s.lt d[i]! d[j]!)) ∧ Below W.heap.size W w'
  swap : ∀ (W : World) (d : Array α), s.Row W d → d.size = s.size → ∀ i j : Nat, i < s.size → j < s.size →
    ∃ W', (callFunc s.sf (#[.int .i64 i, .int .i64 j] ++ s.sb)).run Try.prog W = .ok (.value (.tuple #[])) W' ∧ W.grownBy W' (some s.blk) ∧ s.Row W' (swp d i j)
  blk : s.blk < w0.heap.size
  big : s.size < 4611686018427387904
theorem holdsK_same {enc : α → List Value} {k : Nat} {W W' : World} {blk off : Nat} {d : Array α} (h : HoldsK enc k W blk off d) (e : W'.heap[blk]? = W.heap[blk]?) : HoldsK enc k W' blk off d := fun j hj => by
  have h1 := h j hj
  exact ⟨(World.cell?_of_block (a := ⟨blk, off + j, none⟩) e).trans h1.1, (World.frozen?_of_block (a := ⟨blk, off + j, none⟩) e).trans h1.2⟩
theorem St.Row.same {s : St α} {W W' : World} {d : Array α} (h : s.Row W d) (e : W'.heap[s.blk]? = W.heap[s.blk]?) : s.Row W' d := by
  obtain ⟨h1, cs, h2, h3⟩ := h
  exact ⟨holdsK_same h1 e, cs, by rw [e]; exact h2, h3⟩
theorem grownBy_trans {a b c : World} {row : Option Nat} (h : a.grownBy b row) (k : b.grownBy c row) : a.grownBy c row :=
  ⟨k.os.trans h.os, k.tape.trans h.tape, k.output.trans h.output, Nat.le_trans h.size k.size, fun i hi hne => (k.block i (Nat.lt_of_lt_of_le hi h.size) hne).trans (h.block i hi hne)⟩
theorem grownBy_refl (a : World) (row : Option Nat) : a.grownBy a row := ⟨rfl, rfl, rfl, Nat.le_refl _, fun _ _ _ => rfl⟩
theorem grownBy_below {a b : World} (row : Option Nat) (h : Below a.heap.size a b) : a.grownBy b row := ⟨h.os, h.tape, h.output, h.size, fun i hi _ => h.block i hi⟩
theorem grownBy_drewN (a : World) (row : Option Nat) (n : Nat) : a.grownBy (a.drewN n) row := ⟨rfl, rfl, rfl, Nat.le_refl _, fun _ _ _ => rfl⟩
section
variable {s : St α} {w0 W wr w' : World} {d d' dk : Array α} {B : Nat}
theorem St.At.step (h : s.At w0 d W) (hg : W.grownBy w' (some s.blk)) (hh : s.Row w' d') (hs : d'.size = s.size) : s.At w0 d' w' := ⟨grownBy_trans h.1 hg, hh, hs⟩
theorem St.At.below (O : s.Ok w0) (h : s.At w0 d W) (hb : Below W.heap.size W w') : s.At w0 d w' :=
  h.step (grownBy_below _ hb) (h.2.1.same (hb.block _ (Nat.lt_of_lt_of_le O.blk h.1.size))) h.2.2
theorem St.At.lt (O : s.Ok w0) (h : s.At w0 d W) : s.blk < W.heap.size := Nat.lt_of_lt_of_le O.blk h.1.size
/-- what a function of the sort leaves -/
def St.Post (s : St α) (w0 W : World) (d : Array α) (w' : World) : Prop := s.At w0 d w' ∧ W.grownBy w' (some s.blk)
/-- all the way of a function of the sort: the row, the function's own box (block B), all else -/
def St.In (s : St α) (w0 W : World) (B : Nat) (dk : Array α) (wr : World) : Prop :=
  s.At w0 dk wr ∧ W.grownBy wr (some s.blk) ∧ B < wr.heap.size ∧ B ≠ s.blk ∧ wr.cell? ⟨B, 0, none⟩ = some (.func (.func s.g) #[] s.lb) ∧ wr.cell? ⟨B, 1, none⟩ = some (.func (.func s.sf) #[] s.sb)
theorem St.In.start (O : s.Ok w0) (h : s.At w0 d W) (t : TypeId) : s.In w0 W W.heap.size d (W.alloc (.cells #[.func (.func s.g) #[] s.lb, .func (.func s.sf) #[] s.sb] t)) := by
  have hb : Below W.heap.size W (W.alloc (.cells #[.func (.func s.g) #[] s.lb, .func (.func s.sf) #[] s.sb] t)) := (Below.refl _ _).alloc (Nat.le_refl _) _
  have h1 := h.lt O
  refine ⟨h.below O hb, grownBy_below _ hb, by simp, by omega, by simp, by simp⟩
theorem St.In.step (h : s.In w0 W B dk wr) (hg : wr.grownBy w' (some s.blk)) (hA : s.At w0 d' w') : s.In w0 W B d' w' := by
  obtain ⟨h1, h2, h3, h4, h5, h6⟩ := h
  have e := hg.block B h3 (fun e => h4 (Option.some.inj e))
  exact ⟨hA, grownBy_trans h2 hg, Nat.lt_of_lt_of_le h3 hg.size, h4, (World.cell?_of_block (a := ⟨B, 0, none⟩) e).trans h5, (World.cell?_of_block (a := ⟨B, 1, none⟩) e).trans h6⟩
theorem St.In.call (h : s.In w0 W B dk wr) (hp : s.Post w0 wr d' w') : s.In w0 W B d' w' := h.step hp.2 hp.1
theorem St.In.below (O : s.Ok w0) (h : s.In w0 W B dk wr) (hb : Below wr.heap.size wr w') : s.In w0 W B dk w' := h.step (grownBy_below _ hb) (h.1.below O hb)
theorem St.In.drewN (h : s.In w0 W B dk wr) (n : Nat) : s.In w0 W B dk (wr.drewN n) := h.step (grownBy_drewN _ _ _) ⟨grownBy_trans h.1.1 (grownBy_drewN _ _ _), h.1.2⟩
theorem St.In.drew (h : s.In w0 W B dk wr) : s.In w0 W B dk wr.drew := h.drewN 1
theorem St.In.c0 (h : s.In w0 W B dk wr) : wr.cell? ⟨B, 0, none⟩ = some (.func (.func s.g) #[] s.lb) := h.2.2.2.2.1
theorem St.In.c1 (h : s.In w0 W B dk wr) : wr.cell? ⟨B, 1, none⟩ = some (.func (.func s.sf) #[] s.sb) := h.2.2.2.2.2
theorem St.In.size (h : s.In w0 W B dk wr) : dk.size = s.size := h.1.2.2
theorem St.In.post (h : s.In w0 W B dk wr) : s.Post w0 W dk wr := ⟨h.1, h.2.1⟩
theorem St.In.less (O : s.Ok w0) (h : s.In w0 W B dk wr) {i j : Nat} (hi : i < s.size) (hj : j < s.size) : Calls Try.prog s.g (#[.int .i64 i, .int .i64 j] ++ s.lb) wr fun e w' => e = .returned (.bool (s.lt dk[i]! dk[j]!)) ∧ s.In w0 W B dk w' :=
  (O.less wr dk h.1 i j hi hj).mono fun e w' ⟨he, hb⟩ => ⟨he, h.below O hb⟩
theorem St.In.swap (O : s.Ok w0) (h : s.In w0 W B dk wr) {i j : Nat} (hi : i < s.size) (hj : j < s.size) :
    ∃ w', (callFunc s.sf (#[.int .i64 i, .int .i64 j] ++ s.sb)).run Try.prog wr = .ok (.value (.tuple #[])) w' ∧ s.In w0 W B (swp dk i j) w' := by
  obtain ⟨w', h1, h2, h3⟩ := O.swap wr dk h.1.2.1 h.1.2.2 i j hi hj
  exact ⟨w', h1, h.step h2 (h.1.step h2 h3 (by rw [swp_size]; exact h.1.2.2))⟩
end
end Go.Proofs.Ytleggfofgpiabaa.SO

/-
  The library's insertion sort, over a comparison that makes memory of its own. Nothing here is a statement of the seed.
-/
namespace Go.Proofs.Ytleggfofgpiabaa.SO
open Go.RowKit Go.Lib Go.Sort WM NR OM OR
variable {α : Type} [Inhabited α]
set_option maxHeartbeats 4000000
set_option maxRecDepth 100000
theorem insertion {s : St α} {w0 W : World} (O : s.Ok w0) {d : Array α} (hA : s.At w0 d W) {a b : Nat} (hab : a ≤ b) (hb : b ≤ s.size) :
    Calls Try.prog 48 #[s.v, .int .i64 a, .int .i64 b] W fun e w' => e = .returned (.tuple #[]) ∧ s.Post w0 W (insertionSort s.lt d a b) w' := by
  have big := O.big
  have S0 := Lib.hid (St.In.start O hA 68)
  have OO := Lib.hid O
  have eg := O.eg
  clear hA O
  go_enter Try.func48, Try.ntmps48
  go_wp2_with fail
  go_loopw [6] (fun vi wr => ∃ (i : Nat) (dk : Array α), vi = .int .i64 i ∧ a < i ∧ i ≤ b + 1 ∧ Hid (s.In w0 W W.heap.size dk wr) ∧ Hid (insOuter s.lt a b i dk = insOuter s.lt a b (a + 1) d)) (fun vi _ => b + 1 - (intOf vi).toNat)
  case atStart => exact ⟨a + 1, d, by go_num, by omega, by omega, S0, Lib.hid rfl⟩
  case round =>
    obtain ⟨i, dk, rfl, hai, hib, S1, HO⟩ := hrel
    clear S0
    by_cases hlt : i < b
    · have hltz : (i : Int) < b := by omega
      go_wp2_with fail
      go_loopw [7] (fun vj wr2 => ∃ (j : Nat) (dj : Array α), vj = .int .i64 j ∧ a ≤ j ∧ j ≤ i ∧ Hid (s.In w0 W W.heap.size dj wr2) ∧ Hid (insInner s.lt a j dj = insInner s.lt a i dk)) (fun vj _ => (intOf vj).toNat)
      case atStart => exact ⟨i, dk, rfl, by omega, Nat.le_refl _, S1, Lib.hid rfl⟩
      case round =>
        obtain ⟨j, dj, rfl, haj, hji, S2, HI⟩ := hrel
        clear S1
        have OUT := Lib.hid (fun (hs : j ≤ a ∨ s.lt dj[j]! dj[j - 1]! = false) => show insOuter s.lt a b (i + 1) dj = insOuter s.lt a b (a + 1) d by rw [← HO.out, insOuter_go _ _ _ _ _ hlt, ← HI.out, insInner_stop _ _ _ _ hs])
        by_cases hja : a < j
        · have hjaz : (a : Int) < j := by omega
          have hl := S2.out.less OO.out (i := j) (j := j - 1) (by omega) (by omega)
          rw [show (((j - 1 : Nat) : Int)) = (j : Int) - 1 by omega] at hl
          have c0 := S2.out.c0
          cases hlv : s.lt dj[j]! dj[j - 1]! with
          | true =>
            rw [hlv] at hl
            have HL := Lib.hid hlv
            clear hlv
            go_wp2_with (go_at_fn s.g; refine hl.mono ?_; rintro e w1 ⟨rfl, S3⟩; have S3 := Lib.hid S3; have c1 := S3.out.c1)
            obtain ⟨w2, hs, S4⟩ := S3.out.swap OO.out (i := j) (j := j - 1) (by omega) (by omega)
            have S4 := Lib.hid S4
            rw [show (((j - 1 : Nat) : Int)) = (j : Int) - 1 by omega] at hs
            rw [hs, Oper.upon_value]
            go_wp2_with fail
            go_roundw
            case rel =>
              exact ⟨j - 1, swp dj j (j - 1), by congr 1 <;> omega, by omega, by omega, S4, Lib.hid (by rw [← HI.out, insInner_go s.lt a j dj hja HL.out])⟩
            case measure => simp [intOf]; omega
          | false =>
            rw [hlv] at hl
            have HL := Lib.hid hlv
            clear hlv
            go_wp2_with (go_at_fn s.g; refine hl.mono ?_; rintro e w1 ⟨rfl, S3⟩; have S3 := Lib.hid S3)
            go_roundw
            case rel => exact ⟨i + 1, dj, by go_num, by omega, by omega, S3, Lib.hid (OUT.out (Or.inr HL.out))⟩
            case measure => simp [intOf]; omega
        · have hjaz : ¬ (a : Int) < j := by omega
          go_wp2_with fail
          go_roundw
          case rel => exact ⟨i + 1, dj, by go_num, by omega, by omega, S2, Lib.hid (OUT.out (Or.inl (by omega)))⟩
          case measure => simp [intOf]; omega
    · have hltz : ¬ (i : Int) < b := by omega
      go_wp2_with fail
      go_end0
      exact ⟨rfl, by unfold insertionSort; rw [← HO.out, insOuter_stop _ _ _ _ _ hlt]; exact S1.out.post⟩
end Go.Proofs.Ytleggfofgpiabaa.SO

/-
  The library's heap sort, over a comparison that makes memory of its own. Nothing here is a statement of the seed.
-/
namespace Go.Proofs.Ytleggfofgpiabaa.SO
open Go.RowKit Go.Lib Go.Sort WM NR OM OR
variable {α : Type} [Inhabited α]
set_option maxHeartbeats 4000000
set_option maxRecDepth 100000
theorem siftDown_any {s : St α} {w0 W : World} (O : s.Ok w0) {d : Array α} (hA : s.At w0 d W) {lo hi first : Nat} (hlo : lo ≤ hi) (hb : first + hi ≤ s.size) :
    Calls Try.prog 60 #[s.v, .int .i64 lo, .int .i64 hi, .int .i64 first] W fun e w' => e = .returned (.tuple #[]) ∧ s.Post w0 W (siftDown s.lt hi first lo d) w' := by
  have big := O.big
  have S0 := Lib.hid (St.In.start O hA 68)
  have OO := Lib.hid O
  have eg := O.eg
  clear hA O
  go_enter Try.func60, Try.ntmps60
  go_wp2_with fail
  go_loopw [8] (fun v8 wr => ∃ (root : Nat) (dk : Array α), v8 = .int .i64 root ∧ root ≤ hi ∧ Hid (s.In w0 W W.heap.size dk wr) ∧ Hid (siftDown s.lt hi first root dk = siftDown s.lt hi first lo d)) (fun v8 _ => hi - (intOf v8).toNat)
  case atStart => exact ⟨lo, d, rfl, hlo, S0, Lib.hid rfl⟩
  case round =>
    obtain ⟨root, dk, rfl, hr, S1, HE⟩ := hrel
    clear S0
    by_cases h0 : hi ≤ 2 * root + 1
    · have h0z : (hi : Int) ≤ 2 * (root : Int) + 1 := by omega
      go_wp2_with fail
      go_end0
      exact ⟨rfl, by rw [← HE.out, sd_end s.lt dk h0]; exact S1.out.post⟩
    · have h0z : ¬ ((hi : Int) ≤ 2 * (root : Int) + 1) := by omega
      have c0 := S1.out.c0
      by_cases h1 : 2 * root + 2 < hi
      · have h1z : 2 * (root : Int) + 1 + 1 < (hi : Int) := by omega
        have hl1 := S1.out.less OO.out (i := first + (2 * root + 1)) (j := first + (2 * root + 2)) (by omega) (by omega)
        rw [show ((first + (2 * root + 1) : Nat) : Int) = (first : Int) + (2 * (root : Int) + 1) by omega, show ((first + (2 * root + 2) : Nat) : Int) = (first : Int) + (2 * (root : Int) + 1) + 1 by omega] at hl1
        cases hL : s.lt dk[first + (2 * root + 1)]! dk[first + (2 * root + 2)]! with
        | true =>
          rw [hL] at hl1
          have hL := Lib.hid hL
          have hl2 : ∀ u, s.In w0 W W.heap.size dk u → Calls Try.prog s.g (#[.int .i64 ((first : Int) + (root : Int)), .int .i64 ((first : Int) + (2 * (root : Int) + 1 + 1))] ++ s.lb) u fun e w' => e = .returned (.bool (s.lt dk[first + root]! dk[first + (2 * root + 2)]!)) ∧ s.In w0 W W.heap.size dk w' := fun u h => by
            have := h.less OO.out (i := first + root) (j := first + (2 * root + 2)) (by omega) (by omega)
            rw [show ((first + root : Nat) : Int) = (first : Int) + (root : Int) by omega, show ((first + (2 * root + 2) : Nat) : Int) = (first : Int) + (2 * (root : Int) + 1 + 1) by omega] at this
            exact this
          cases hG : s.lt dk[first + root]! dk[first + (2 * root + 2)]! with
          | true =>
            rw [hG] at hl2
            have hG := Lib.hid hG
            have HL2 := Lib.hid hl2
            clear hl2
            go_wp2_with (first | (go_at_fn s.g; (with_reducible refine hl1.mono ?_); rintro e w1 ⟨rfl, S2⟩; have S2 := Lib.hid S2; have c0 := S2.out.c0; clear hl1) | (go_at_fn s.g; (with_reducible refine (HL2.out _ S2.out).mono ?_); rintro e w2 ⟨rfl, S3⟩; have S3 := Lib.hid S3; have c1 := S3.out.c1; clear HL2))
            obtain ⟨w3, hs, S4⟩ := S3.out.swap OO.out (i := first + root) (j := first + (2 * root + 2)) (by omega) (by omega)
            have S4 := Lib.hid S4
            rw [show ((first + root : Nat) : Int) = (first : Int) + (root : Int) by omega, show ((first + (2 * root + 2) : Nat) : Int) = (first : Int) + (2 * (root : Int) + 1 + 1) by omega] at hs
            rw [hs, Oper.upon_value]
            go_wp2_with fail
            go_roundw
            case rel => exact ⟨2 * root + 2, swp dk (first + root) (first + (2 * root + 2)), by go_num, by omega, S4, Lib.hid (by rw [← HE.out, sd_right_go s.lt dk h1 hL.out hG.out])⟩
            case measure => simp [intOf]; omega
          | false =>
            rw [hG] at hl2
            have hG := Lib.hid hG
            have HL2 := Lib.hid hl2
            clear hl2
            go_wp2_with (first | (go_at_fn s.g; (with_reducible refine hl1.mono ?_); rintro e w1 ⟨rfl, S2⟩; have S2 := Lib.hid S2; have c0 := S2.out.c0; clear hl1) | (go_at_fn s.g; (with_reducible refine (HL2.out _ S2.out).mono ?_); rintro e w2 ⟨rfl, S3⟩; have S3 := Lib.hid S3; have c1 := S3.out.c1; clear HL2))
            (try simp only [Exit.inBlock, Exit.then]); refine bodyPost_ret (results_none rfl _ _ _) rfl ?_
            exact ⟨rfl, by rw [← HE.out, sd_right_stop s.lt dk h1 hL.out hG.out]; exact S3.out.post⟩
        | false =>
          rw [hL] at hl1
          have hL := Lib.hid hL
          have hl2 : ∀ u, s.In w0 W W.heap.size dk u → Calls Try.prog s.g (#[.int .i64 ((first : Int) + (root : Int)), .int .i64 ((first : Int) + (2 * (root : Int) + 1))] ++ s.lb) u fun e w' => e = .returned (.bool (s.lt dk[first + root]! dk[first + (2 * root + 1)]!)) ∧ s.In w0 W W.heap.size dk w' := fun u h => by
            have := h.less OO.out (i := first + root) (j := first + (2 * root + 1)) (by omega) (by omega)
            rw [show ((first + root : Nat) : Int) = (first : Int) + (root : Int) by omega, show ((first + (2 * root + 1) : Nat) : Int) = (first : Int) + (2 * (root : Int) + 1) by omega] at this
            exact this
          cases hG : s.lt dk[first + root]! dk[first + (2 * root + 1)]! with
          | true =>
            rw [hG] at hl2
            have hG := Lib.hid hG
            have HL2 := Lib.hid hl2
            clear hl2
            go_wp2_with (first | (go_at_fn s.g; (with_reducible refine hl1.mono ?_); rintro e w1 ⟨rfl, S2⟩; have S2 := Lib.hid S2; have c0 := S2.out.c0; clear hl1) | (go_at_fn s.g; (with_reducible refine (HL2.out _ S2.out).mono ?_); rintro e w2 ⟨rfl, S3⟩; have S3 := Lib.hid S3; have c1 := S3.out.c1; clear HL2))
            obtain ⟨w3, hs, S4⟩ := S3.out.swap OO.out (i := first + root) (j := first + (2 * root + 1)) (by omega) (by omega)
            have S4 := Lib.hid S4
            rw [show ((first + root : Nat) : Int) = (first : Int) + (root : Int) by omega, show ((first + (2 * root + 1) : Nat) : Int) = (first : Int) + (2 * (root : Int) + 1) by omega] at hs
            rw [hs, Oper.upon_value]
            go_wp2_with fail
            go_roundw
            case rel => exact ⟨2 * root + 1, swp dk (first + root) (first + (2 * root + 1)), by go_num, by omega, S4, Lib.hid (by rw [← HE.out, sd_left_go s.lt dk (by omega) (fun _ => hL.out) hG.out])⟩
            case measure => simp [intOf]; omega
          | false =>
            rw [hG] at hl2
            have hG := Lib.hid hG
            have HL2 := Lib.hid hl2
            clear hl2
            go_wp2_with (first | (go_at_fn s.g; (with_reducible refine hl1.mono ?_); rintro e w1 ⟨rfl, S2⟩; have S2 := Lib.hid S2; have c0 := S2.out.c0; clear hl1) | (go_at_fn s.g; (with_reducible refine (HL2.out _ S2.out).mono ?_); rintro e w2 ⟨rfl, S3⟩; have S3 := Lib.hid S3; have c1 := S3.out.c1; clear HL2))
            (try simp only [Exit.inBlock, Exit.then]); refine bodyPost_ret (results_none rfl _ _ _) rfl ?_
            exact ⟨rfl, by rw [← HE.out, sd_left_stop s.lt dk (by omega) (fun _ => hL.out) hG.out]; exact S3.out.post⟩
      · have h1z : ¬ (2 * (root : Int) + 1 + 1 < (hi : Int)) := by omega
        have hl2 : ∀ u, s.In w0 W W.heap.size dk u → Calls Try.prog s.g (#[.int .i64 ((first : Int) + (root : Int)), .int .i64 ((first : Int) + (2 * (root : Int) + 1))] ++ s.lb) u fun e w' => e = .returned (.bool (s.lt dk[first + root]! dk[first + (2 * root + 1)]!)) ∧ s.In w0 W W.heap.size dk w' := fun u h => by
          have := h.less OO.out (i := first + root) (j := first + (2 * root + 1)) (by omega) (by omega)
          rw [show ((first + root : Nat) : Int) = (first : Int) + (root : Int) by omega, show ((first + (2 * root + 1) : Nat) : Int) = (first : Int) + (2 * (root : Int) + 1) by omega] at this
          exact this
        cases hG : s.lt dk[first + root]! dk[first + (2 * root + 1)]! with
        | true =>
          rw [hG] at hl2
          have hG := Lib.hid hG
          have HL2 := Lib.hid hl2
          clear hl2
          go_wp2_with (go_at_fn s.g; (with_reducible refine (HL2.out _ S1.out).mono ?_); rintro e w2 ⟨rfl, S3⟩; have S3 := Lib.hid S3; have c1 := S3.out.c1; clear HL2)
          obtain ⟨w3, hs, S4⟩ := S3.out.swap OO.out (i := first + root) (j := first + (2 * root + 1)) (by omega) (by omega)
          have S4 := Lib.hid S4
          rw [show ((first + root : Nat) : Int) = (first : Int) + (root : Int) by omega, show ((first + (2 * root + 1) : Nat) : Int) = (first : Int) + (2 * (root : Int) + 1) by omega] at hs
          rw [hs, Oper.upon_value]
          go_wp2_with fail
          go_roundw
          case rel => exact ⟨2 * root + 1, swp dk (first + root) (first + (2 * root + 1)), by go_num, by omega, S4, Lib.hid (by rw [← HE.out, sd_left_go s.lt dk (by omega) (fun h => absurd h h1) hG.out])⟩
          case measure => simp [intOf]; omega
        | false =>
          rw [hG] at hl2
          have hG := Lib.hid hG
          have HL2 := Lib.hid hl2
          clear hl2
          go_wp2_with (go_at_fn s.g; (with_reducible refine (HL2.out _ S1.out).mono ?_); rintro e w2 ⟨rfl, S3⟩; have S3 := Lib.hid S3; have c1 := S3.out.c1; clear HL2)
          (try simp only [Exit.inBlock, Exit.then]); refine bodyPost_ret (results_none rfl _ _ _) rfl ?_
          exact ⟨rfl, by rw [← HE.out, sd_left_stop s.lt dk (by omega) (fun h => absurd h h1) hG.out]; exact S3.out.post⟩
/-- the same, in the midst of another function of the sort -/
theorem siftDown_in {s : St α} {w0 W : World} (O : s.Ok w0) {B : Nat} {d : Array α} {u : World} (h : s.In w0 W B d u) {lo hi first : Nat} (hlo : lo ≤ hi) (hb : first + hi ≤ s.size) :
    Calls Try.prog 60 #[s.v, .int .i64 lo, .int .i64 hi, .int .i64 first] u fun e w' => e = .returned (.tuple #[]) ∧ s.In w0 W B (siftDown s.lt hi first lo d) w' :=
  (siftDown_any O h.1 hlo hb).mono fun e w' ⟨he, hp⟩ => ⟨he, h.call hp⟩
end Go.Proofs.Ytleggfofgpiabaa.SO

/-
  The library's heap sort, over a comparison that makes memory of its own (the whole). Nothing here is a statement of the seed.
-/
namespace Go.Proofs.Ytleggfofgpiabaa.SO
open Go.RowKit Go.Lib Go.Sort WM NR OM OR
variable {α : Type} [Inhabited α]
set_option maxHeartbeats 4000000
set_option maxRecDepth 100000
theorem heapSort_any {s : St α} {w0 W : World} (O : s.Ok w0) {d : Array α} (hA : s.At w0 d W) {a b L : Nat} (hL : 12 < L) (hbL : b = a + L) (hb : a + L ≤ s.size) :
    Calls Try.prog 49 #[s.v, .int .i64 a, .int .i64 b] W fun e w' => e = .returned (.tuple #[]) ∧ s.Post w0 W (heapSort s.lt d a b) w' := by
  have big := O.big
  have S0 := Lib.hid (St.In.start O hA 68)
  have OO := Lib.hid O
  have c0 := S0.out.c0
  have c1 := S0.out.c1
  have hLz : (b : Int) - (a : Int) = (L : Int) := by omega
  have h1z : (12 : Int) < (L : Int) := by omega
  unfold heapSort
  rw [show b - a = L by omega]
  clear hbL
  obtain ⟨d1, hd1⟩ : ∃ x, x = heapBuild s.lt L a ((L - 1) / 2 + 1) d := ⟨_, rfl⟩
  rw [← hd1]
  have HD := Lib.hid hd1
  clear hA O hd1
  go_enter Try.func49, Try.ntmps49
  go_wp2_with fail
  go_loopw [9] (fun v9 wr => ∃ (k : Nat) (dk : Array α), v9 = .int .i64 ((k : Int) - 1) ∧ k ≤ (L - 1) / 2 + 1 ∧ Hid (s.In w0 W W.heap.size dk wr) ∧ Hid (heapBuild s.lt L a k dk = d1)) (fun v9 _ => (intOf v9 + 1).toNat)
  case atStart => exact ⟨(L - 1) / 2 + 1, d, by congr 1; omega, by omega, S0, Lib.hid HD.out.symm⟩
  case round =>
    obtain ⟨k, dk, rfl, hk, S1, HE⟩ := hrel
    clear S0 c0 c1
    have c0 := S1.out.c0
    have c1 := S1.out.c1
    by_cases hk0 : k = 0
    · subst hk0
      have E1 := Lib.hid (show dk = d1 from HE.out)
      clear HE HD
      obtain rfl := E1.out
      clear E1
      rw [show (((0 : Nat) : Int) - 1) = -1 from rfl]
      go_wp2_with fail
      go_loopw [10] (fun v10 wr => ∃ (k : Nat) (dk2 : Array α), v10 = .int .i64 ((k : Int) - 1) ∧ k ≤ L ∧ Hid (s.In w0 W W.heap.size dk2 wr) ∧ Hid (heapPop s.lt a k dk2 = heapPop s.lt a L dk)) (fun v10 _ => (intOf v10 + 1).toNat)
      case atStart => exact ⟨L, dk, rfl, Nat.le_refl _, S1, Lib.hid rfl⟩
      case round =>
        obtain ⟨k, dk2, rfl, hk, S2, HP⟩ := hrel
        clear S1 c0 c1
        have c0 := S2.out.c0
        have c1 := S2.out.c1
        by_cases hk0 : k = 0
        · subst hk0
          go_wp2_with fail
          go_end0
          exact ⟨rfl, by rw [← HP.out]; exact S2.out.post⟩
        · obtain ⟨j, rfl⟩ : ∃ j, k = j + 1 := ⟨k - 1, by omega⟩
          have ez : (((j + 1 : Nat) : Int) - 1) = (j : Int) := by omega
          have hj : ¬ ((j : Int) < 0) := by omega
          obtain ⟨w2, hs, S3⟩ := S2.out.swap OO.out (i := a) (j := a + j) (by omega) (by omega)
          have S3 := Lib.hid S3
          rw [show ((a + j : Nat) : Int) = (a : Int) + (j : Int) by omega] at hs
          have d0 := S3.out.c0
          have d1 := S3.out.c1
          have C := siftDown_in OO.out S3.out (lo := 0) (hi := j) (first := a) (by omega) (by omega)
          rw [show ((0 : Nat) : Int) = 0 from rfl] at C
          have C := Lib.hid C
          go_wp2_with (go_at_call 60; (with_reducible refine C.out.mono ?_); rintro e w3 ⟨rfl, S4⟩; have S4 := Lib.hid S4)
          go_roundw
          case rel => exact ⟨j, siftDown s.lt j a 0 (swp dk2 a (a + j)), by congr 1 <;> omega, by omega, S4, Lib.hid (by rw [← HP.out]; rfl)⟩
          case measure => simp [intOf]
    · obtain ⟨j, rfl⟩ : ∃ j, k = j + 1 := ⟨k - 1, by omega⟩
      have ez : (((j + 1 : Nat) : Int) - 1) = (j : Int) := by omega
      have C := Lib.hid (siftDown_in OO.out S1.out (lo := j) (hi := L) (first := a) (by omega) (by omega))
      go_wp2_with (go_at_call 60; (with_reducible refine C.out.mono ?_); rintro e w3 ⟨rfl, S4⟩; have S4 := Lib.hid S4)
      go_roundw
      case rel => exact ⟨j, siftDown s.lt L a j dk, by congr 1 <;> omega, by omega, S4, Lib.hid (by rw [← HE.out]; rfl)⟩
      case measure => simp [intOf]
end Go.Proofs.Ytleggfofgpiabaa.SO
