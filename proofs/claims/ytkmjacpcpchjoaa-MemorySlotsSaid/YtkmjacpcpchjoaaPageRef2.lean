/-
  The reference's lists of a table: which are not free, which are an owner's. Nothing here is a statement of the seed.
-/
import Derived.Test.YtkmjacpcpchjoaaPageRef
set_option linter.unusedSimpArgs false
set_option linter.unusedVariables false
namespace Go.Proofs.Ytkmjacpcpchjoaa.PF
open Go.RowKit PM PR

theorem infoInt : (Try.prog.info? 3).map (fun i => (i.zero, i.size, i.bytes)) = some (some (.int .i64 0), 1, 8) := by kernel_rfl
def freeL (l : List Pg) : List Value := l.map fun p => .bool (p.st != 0)
theorem freeL_len (l : List Pg) : (freeL l).length = l.length := by simp [freeL]
theorem freeL_snoc (l : List Pg) (k : Nat) (h : k < l.length) : freeL (l.take (k + 1)) = freeL (l.take k) ++ [.bool ((l.getD k zero).st != 0)] := by
  rw [List.take_succ_eq_append_getElem h, getD_in h]
  simp only [freeL, List.map_append]
  rfl
theorem owns_base {w : World} {B B' : Nat} {e : TypeId} {size n : Nat} {v : Value} {xs : List Value} (h : w.ownsRow B e size v n xs) (hB : B' ≤ B) : w.ownsRow B' e size v n xs := by
  obtain ⟨h1, h2⟩ := h
  refine ⟨h1, ?_⟩
  rcases h2 with h2 | ⟨g, cap, cur, e, hg, h3⟩
  · exact Or.inl h2
  · exact Or.inr ⟨g, cap, cur, e, Nat.le_trans hB hg, h3⟩
theorem one_at (w : World) (v : Value) (t : TypeId) : ∀ j u, [v][j]? = some u → (w.alloc (.cells #[v] t)).cell? ((⟨w.heap.size, 0, none⟩ : Addr).add j) = some u := by
  intro j u hj
  match j, hj with
  | 0, hj =>
    simp at hj
    subst hj
    exact (Whole.new w t #[v]).cell 0
def RefUsedR (l : List Pg) (w : World) (e : Ending) (w' : World) : Prop := ∃ v, e = .returned v ∧ w'.ownsRow w.heap.size 4 1 v l.length (freeL l) ∧ Below w.heap.size w w'
theorem below_own {W w0 w1 : World} {B : Nat} {e : TypeId} {size n : Nat} {xs : List Value} {v : Value} (hb : Below W.heap.size W w0) (hg : w0.grownBy w1 v.ownBlock) (hown : w0.ownsRow B e size v n xs) (hB : W.heap.size ≤ B) : Below W.heap.size W w1 := by
  refine hb.grown hg hb.size (fun g hg' => ?_)
  rcases hown.2 with ⟨rfl, _⟩ | ⟨g', cap, cur, rfl, hg2, _⟩
  · simp [Value.ownBlock] at hg'
  · simp [Value.ownBlock] at hg'
    omega
def OfR (c : Pg → Bool) (l : List Pg) (w : World) (e : Ending) (w' : World) : Prop := ∃ v, e = .returned v ∧ w'.ownsRow w.heap.size 3 1 v (num c l) ((idx c l l.length).map fun (j : Nat) => .int .i64 (j : Int)) ∧ Below w.heap.size w w'
def idV (c : Pg → Bool) (l : List Pg) (k : Nat) : List Value := (idx c l k).map fun (j : Nat) => .int .i64 (j : Int)
theorem idV_yes {c : Pg → Bool} {l : List Pg} {k : Nat} (h : c (l.getD k zero) = true) : idV c l (k + 1) = idV c l k ++ [.int .i64 (k : Int)] := by
  unfold idV
  rw [idx_succ, if_pos h, List.map_append]
  rfl
theorem idV_no {c : Pg → Bool} {l : List Pg} {k : Nat} (h : c (l.getD k zero) = false) : idV c l (k + 1) = idV c l k := by
  unfold idV
  rw [idx_succ, h]
  simp
set_option maxHeartbeats 2000000 in
set_option maxRecDepth 4000 in
theorem of_any {g c : Nat} {l : List Pg} {w : World} (hr : Row w g l) (h256 : l.length ≤ 256) (hlc : l.length ≤ c) (hcm : c ≤ maxLen) (o a b : Int) (ha : a ≠ 0) (hbb : b ≠ 0) :
    Calls Try.prog 87 #[.agg #[.slice (some ⟨g, 0, none⟩) l.length c], .int .u16 o, .int .u8 a, .int .u8 b] w (OfR (ownS o a b) l w) := by
  obtain ⟨i0, hi, hz0, hz1, hz2⟩ := info_parts infoInt
  have hglt := hr.lt
  have HR := Lib.hid (hr.alloc (.cells #[.slice (some ⟨g, 0, none⟩) l.length c] 30))
  have HT := Lib.hid (Whole.new w 30 #[.slice (some ⟨g, 0, none⟩) l.length c])
  have HA := Lib.hid ha
  have HB := Lib.hid hbb
  clear hr ha hbb
  generalize hn : l.length = n at *
  have HN := Lib.hid hn
  clear hn
  unfold maxLen at hcm
  go_enter Try.func87, Try.ntmps87
  go_wp2_with fail
  generalize hW : w.alloc (.cells #[.slice (some ⟨g, 0, none⟩) n c] 30) = W at *
  have hWb : Below w.heap.size w W := by subst hW; exact below_new w _
  have hWs : W.heap.size = w.heap.size + 1 := by subst hW; simp
  have HWS := Lib.hid hWs
  clear hW hWs
  go_loopw [9, 10] (fun v i wr => ∃ k : Nat, k ≤ n ∧ i = .int .i64 (k : Int) ∧ Hid (wr.ownsRow (w.heap.size + 1) 3 1 v (rank (ownS o a b) l k) (idV (ownS o a b) l k)) ∧ Below W.heap.size W wr) (fun _ i _ => n - (intOf i).toNat)
  case atStart => exact ⟨0, by omega, rfl, Lib.hid (World.ownsRow_nil _ _ _ _), Below.refl _ _⟩
  case round =>
    obtain ⟨k, hk, rfl, hown, hb⟩ := hrel
    have hs : w.heap.size + 1 ≤ wr.heap.size := by have := hb.size; rw [HWS.out] at this; exact this
    have hT := (HT.out.belowS hb).cell 0
    simp only [List.getElem?_toArray, List.getElem?_cons_zero] at hT
    by_cases hlt : k < n
    · have hlt' : (k : Int) < n := by omega
      have hk0 : (0 : Int) ≤ k := by omega
      have hkl : k < l.length := by rw [HN.out]; exact hlt
      obtain ⟨c0, c1, c2, c3, c4⟩ := ((HR.out.belowS hb).five hkl rfl)
      have hrk := rank_le (ownS o a b) l k
      have hyes := Lib.hid (fun h => And.intro (rank_yes (c := ownS o a b) (l := l) (m := k) h) (idV_yes (c := ownS o a b) (l := l) (k := k) h))
      have hno := Lib.hid (fun h => And.intro (rank_no (c := ownS o a b) (l := l) (m := k) h) (idV_no (c := ownS o a b) (l := l) (k := k) h))
      clear hkl
      generalize l.getD k zero = q at *
      obtain ⟨st, ex, wr', ow, ep⟩ := q
      simp only at c0 c1 c2 c3 c4
      have hb1 := hb.alloc hb.size (.cells #[.int .u8 st, .bool ex, .bool wr', .int .u16 ow, .int .u64 ep] 69)
      have HO1 := Lib.hid (hown.out.alloc (.cells #[.int .u8 st, .bool ex, .bool wr', .int .u16 ow, .int .u64 ep] 69))
      by_cases hc : ow = o ∧ (st = a ∨ st = b)
      · have Y := hyes.out (by simpa [ownS] using hc)
        have HY := Lib.hid Y
        obtain ⟨rfl, hc2⟩ := hc
        have hst : (st == 0) = false := by
          have := HA.out; have := HB.out
          simp; omega
        clear Y hyes hno
        by_cases h1 : st = a
        · subst h1
          clear hc2
          go_wp2_with (at_builtin; refine wpList_append_own _ rfl _ _ 126 rfl (w.heap.size + 1) 3 i0 (.int .i64 0) 1 8 Try.underlying126 hi hz0 hz1 hz2 rfl (by decide) _ _ _ rfl (HO1.out.alloc _) ⟨wr.heap.size + 1, 0, none⟩ 1 1 [.int .i64 (k : Int)] rfl rfl (by have := one_at (wr.alloc (.cells #[.int .u8 st, .bool ex, .bool wr', .int .u16 ow, .int .u64 ep] 69)) (.int .i64 (k : Int)) 3; simpa using this) (by intro u hu; simp at hu; subst hu; rfl) (by unfold maxLen; omega) (by omega) (by simp; omega) ?_; intro v' w1 hown' hgrow _; have HO := Lib.hid hown'; have hb' := below_own (hb1.alloc hb1.size _) hgrow (HO1.out.alloc _) (by rw [HWS.out]; exact Nat.le_refl _); clear hown' hgrow)
          go_roundw
          case rel => exact ⟨k + 1, by omega, by go_num, Lib.hid (by rw [HY.out.1, HY.out.2]; exact HO.out), hb'⟩
          case measure => simp [intOf]; omega
        · have h1' : (st == a) = false := by simpa using h1
          obtain rfl : st = b := by rcases hc2 with h | h; exact absurd h h1; exact h
          clear hc2 h1
          go_wp2_with (at_builtin; refine wpList_append_own _ rfl _ _ 126 rfl (w.heap.size + 1) 3 i0 (.int .i64 0) 1 8 Try.underlying126 hi hz0 hz1 hz2 rfl (by decide) _ _ _ rfl (HO1.out.alloc _) ⟨wr.heap.size + 1, 0, none⟩ 1 1 [.int .i64 (k : Int)] rfl rfl (by have := one_at (wr.alloc (.cells #[.int .u8 st, .bool ex, .bool wr', .int .u16 ow, .int .u64 ep] 69)) (.int .i64 (k : Int)) 3; simpa using this) (by intro u hu; simp at hu; subst hu; rfl) (by unfold maxLen; omega) (by omega) (by simp; omega) ?_; intro v' w1 hown' hgrow _; have HO := Lib.hid hown'; have hb' := below_own (hb1.alloc hb1.size _) hgrow (HO1.out.alloc _) (by rw [HWS.out]; exact Nat.le_refl _); clear hown' hgrow)
          go_roundw
          case rel => exact ⟨k + 1, by omega, by go_num, Lib.hid (by rw [HY.out.1, HY.out.2]; exact HO.out), hb'⟩
          case measure => simp [intOf]; omega
      · have Y := hno.out (by simpa [ownS] using hc)
        have HY := Lib.hid Y
        clear Y hyes hno
        by_cases ho : ow = o
        · subst ho
          have h1 : ¬ st = a := fun h => hc ⟨rfl, Or.inl h⟩
          have h2 : ¬ st = b := fun h => hc ⟨rfl, Or.inr h⟩
          have h1' : (st == a) = false := by simpa using h1
          have h2' : (st == b) = false := by simpa using h2
          clear hc h1 h2
          by_cases h0 : st = 0
          · subst h0
            go_wp2_with fail
            go_roundw
            case rel => exact ⟨k + 1, by omega, by go_num, Lib.hid (by rw [HY.out.1, HY.out.2]; exact HO1.out), hb1⟩
            case measure => simp [intOf]; omega
          · have h0' : (st == 0) = false := by simpa using h0
            have h0n : (st != 0) = true := by simpa using h0
            clear h0
            go_wp2_with fail
            go_roundw
            case rel => exact ⟨k + 1, by omega, by go_num, Lib.hid (by rw [HY.out.1, HY.out.2]; exact HO1.out), hb1⟩
            case measure => simp [intOf]; omega
        · have ho' : (ow == o) = false := by simpa using ho
          clear hc ho
          go_wp2_with fail
          go_roundw
          case rel => exact ⟨k + 1, by omega, by go_num, Lib.hid (by rw [HY.out.1, HY.out.2]; exact HO1.out), hb1⟩
          case measure => simp [intOf]; omega
    · obtain rfl : k = n := by omega
      go_wp2_with fail
      go_ret
      refine ⟨_, rfl, ?_, hWb.trans (hb.mono (by rw [HWS.out]; omega))⟩
      have h := hown.out
      unfold num
      rw [HN.out]
      exact owns_base h (Nat.le_succ _)
end Go.Proofs.Ytkmjacpcpchjoaa.PF
