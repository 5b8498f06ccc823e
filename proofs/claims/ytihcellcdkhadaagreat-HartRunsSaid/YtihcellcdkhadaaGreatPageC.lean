/-
  Joined texts: PageTab, PageNew, PageUsed, PageStage, PageOps. Nothing here is a statement of the seed.
-/
import Derived.Test.YtihcellcdkhadaaGreatPageB
import Derived.Maps.AppendAt
import Derived.Lib.SliceRun
set_option linter.unusedSimpArgs false
set_option linter.unusedVariables false
/-
  The table, call by call. Nothing here is a statement of the seed.
-/
namespace Go.Proofs.YtihcellcdkhadaaGreat.PF
open Go.RowKit PM PR

theorem len_tb {p g : Nat} {l : List Pg} {w : World} (h : Tb w p g l) : Calls Tryz.prog 51 #[.pointer (some ⟨p, 0, none⟩)] w fun e w' => e = .returned (.int .i64 (l.length : Int)) ∧ w = w' := by
  obtain ⟨c, h256, hlc, hcm, hcell⟩ := h.cell
  clear h
  go_enter Tryz.func51, Tryz.ntmps51
  go_wp2_with fail
  go_ret
  exact ⟨rfl, rfl⟩
theorem len_nil (w : World) : Calls Tryz.prog 51 #[.pointer none] w fun e w' => e = .returned (.int .i64 0) ∧ w = w' := by
  go_enter Tryz.func51, Tryz.ntmps51
  go_wp2_with fail
  go_ret
  exact ⟨rfl, rfl⟩
theorem get_nil (i : Int) (w : World) : Calls Tryz.prog 97 #[.pointer none, .int .i64 i] w fun e w' => e = .returned (pgV 0 false false 0 0) ∧ Below w.heap.size w w' := by
  by_cases h : i < 0
  · go_enter Tryz.func97, Tryz.ntmps97
    go_wp2_with fail
    exact bodyPost_ret (v := pgV 0 false false 0 0) (by simp [results, Tryz.results97, go_sem]) rfl ⟨rfl, below_new _ _⟩
  · have h0 : 0 ≤ i := by omega
    go_enter Tryz.func97, Tryz.ntmps97
    go_wp2_with (go_at_call 51; refine (len_nil _).mono ?_; rintro e w1 ⟨rfl, rfl⟩)
    exact bodyPost_ret (v := pgV 0 false false 0 0) (by simp [results, Tryz.results97, go_sem]) rfl ⟨rfl, below_new _ _⟩
/-- the page i, or none -/
def gP (l : List Pg) (i : Int) : Pg := if i < 0 then zero else l.getD i.toNat zero
theorem get_tb {p g : Nat} {l : List Pg} {w : World} (h : Tb w p g l) (i : Int) : Calls Tryz.prog 97 #[.pointer (some ⟨p, 0, none⟩), .int .i64 i] w fun e w' => e = .returned (pV (gP l i)) ∧ Below w.heap.size w w' := by
  by_cases h0 : i < 0
  · rw [show gP l i = zero by unfold gP; rw [if_pos h0]]
    show Calls _ _ _ _ fun e w' => e = .returned (pgV 0 false false 0 0) ∧ _
    clear h
    go_enter Tryz.func97, Tryz.ntmps97
    go_wp2_with fail
    exact bodyPost_ret (v := pgV 0 false false 0 0) (by simp [results, Tryz.results97, go_sem]) rfl ⟨rfl, below_new _ _⟩
  · obtain ⟨k, rfl⟩ := Int.eq_ofNat_of_zero_le (show 0 ≤ i by omega)
    rw [show gP l (k : Int) = l.getD k zero by unfold gP; rw [if_neg h0]; rfl]
    obtain ⟨c, h256, hlc, hcm, hcell⟩ := h.cell
    obtain ⟨glt, plt, hpg⟩ := h.lt
    have wlt : p < w.heap.size + 1 := by omega
    have wglt : g < w.heap.size + 1 := by omega
    have HL := Lib.hid (fun u hu => len_tb (w := u) (h.belowS hu))
    by_cases hk : k < l.length
    · obtain ⟨c0, c1, c2, c3, c4⟩ := h.row.five hk rfl
      generalize l.getD k zero = q at *
      obtain ⟨st, ex, wr, ow, ep⟩ := q
      show Calls _ _ _ _ fun e w' => e = .returned (pgV st ex wr ow ep) ∧ _
      simp only at c0 c1 c2 c3 c4
      have hki : (k : Int) < l.length := by omega
      have hk0 : (0 : Int) ≤ k := by omega
      clear h
      generalize l.length = n at *
      unfold maxLen at hcm
      go_enter Tryz.func97, Tryz.ntmps97
      go_wp2_with (go_at_call 51; refine (HL.out _ (below_new w _)).mono ?_; rintro e w1 ⟨rfl, rfl⟩)
      exact bodyPost_ret (v := pgV st ex wr ow ep) (by simp [results, Tryz.results97, go_sem]) rfl ⟨rfl, below_new _ _⟩
    · rw [show l.getD k zero = zero by rw [List.getD_eq_getElem?_getD, List.getElem?_eq_none (by omega)]; rfl]
      show Calls _ _ _ _ fun e w' => e = .returned (pgV 0 false false 0 0) ∧ _
      have hki : (l.length : Int) ≤ k := by omega
      have hk0 : (0 : Int) ≤ k := by omega
      clear h
      generalize l.length = n at *
      go_enter Tryz.func97, Tryz.ntmps97
      go_wp2_with (go_at_call 51; refine (HL.out _ (below_new w _)).mono ?_; rintro e w1 ⟨rfl, rfl⟩)
      exact bodyPost_ret (v := pgV 0 false false 0 0) (by simp [results, Tryz.results97, go_sem]) rfl ⟨rfl, below_new _ _⟩
end Go.Proofs.YtihcellcdkhadaaGreat.PF

/-
  New tables: the program's and the reference's. Nothing here is a statement of the seed.
-/
namespace Go.Proofs.YtihcellcdkhadaaGreat.PF
open Go.RowKit PM PR

theorem infoPg : (Tryz.prog.info? 107).map (fun i => (i.zero, i.size, i.bytes)) = some (some (.agg #[.int .u8 0, .bool false, .bool false, .int .u16 0, .int .u64 0]), 5, 16) := by kernel_rfl
theorem made_zeros (n : Nat) : (madeCells (Value.agg #[.int .u8 0, .bool false, .bool false, .int .u16 0, .int .u64 0]).cells (n * 5)).toList = cs (zeros n) := by
  apply List.ext_getElem?
  intro i
  by_cases hi : i < n * 5
  · have hq : i / 5 < (zeros n).length := by simp [zeros]; omega
    have hm : i % 5 < 5 := by omega
    have h := cs_at (zeros n) (i / 5) (i % 5) hq hm
    have e : i / 5 * 5 + i % 5 = i := by omega
    rw [e, zeros_at] at h
    rw [h]
    have : i % 5 = 0 ∨ i % 5 = 1 ∨ i % 5 = 2 ∨ i % 5 = 3 ∨ i % 5 = 4 := by omega
    rcases this with h | h | h | h | h <;> simp [madeCells, hi, Value.cells, h, pcs, zero]
  · have hl := cs_len (zeros n)
    have hz : (zeros n).length = n := by simp [zeros]
    rw [List.getElem?_eq_none (by rw [Array.length_toList, size_madeCells]; omega), List.getElem?_eq_none (by rw [hl, hz]; omega)]
theorem zeros_len (n : Nat) : (zeros n).length = n := by simp [zeros]
theorem made_row {w : World} {B n g : Nat} (h : w.ownsRow B 107 5 (.slice (some ⟨g, 0, none⟩) n n) n (cs (zeros n))) : Row w g (zeros n) := by
  obtain ⟨g', c, e, _, _, _, _, hr⟩ := Row.of_owns h (by simp)
  simp only [Value.slice.injEq, Option.some.injEq, Addr.mk.injEq] at e
  obtain ⟨⟨rfl, _⟩, _⟩ := e
  exact hr
/-- a table of zero pages, all of its blocks new -/
def NewTb (n : Nat) (w : World) (e : Ending) (w' : World) : Prop := ∃ p g, e = .returned (.pointer (some ⟨p, 0, none⟩)) ∧ Tb w' p g (zeros n) ∧ w.heap.size ≤ p ∧ w.heap.size ≤ g ∧ Below w.heap.size w w'
def NewRt (n : Nat) (w : World) (e : Ending) (w' : World) : Prop := ∃ g c, e = .returned (.agg #[.slice (some ⟨g, 0, none⟩) n c]) ∧ Rt w' g (zeros n) (.slice (some ⟨g, 0, none⟩) n c) ∧ w.heap.size ≤ g ∧ Below w.heap.size w w'
theorem new_tb {w w1 : World} {n : Nat} (h256 : n ≤ 256) (hown : w1.ownsRow w.heap.size 107 5 (.slice (some ⟨w.heap.size, 0, none⟩) n n) n (cs (zeros n))) (hgrow : w.grownBy w1 none) :
    NewTb n w (.returned (.pointer (some ⟨w1.heap.size, 0, none⟩))) (w1.alloc (.cells #[.slice (some ⟨w.heap.size, 0, none⟩) n n] 103)) := by
  have hr := made_row hown
  have hb1 : Below w.heap.size w w1 := (Below.refl _ _).grown hgrow (Nat.le_refl _) (fun k hk => by cases hk)
  refine ⟨w1.heap.size, w.heap.size, rfl, ⟨by rw [zeros_len]; exact h256, hr.alloc _, n, by rw [zeros_len]; exact Nat.le_refl _, by unfold maxLen; omega, ?_⟩, hb1.size, Nat.le_refl _, hb1.alloc hb1.size _⟩
  rw [zeros_len]
  exact Whole.new _ _ _
theorem new_any (k : Int) (w : World) : Calls Tryz.prog 50 #[.int .i64 k] w (NewTb (min (max k 0) 256).toNat w) := by
  obtain ⟨i0, hi, hz0, hz1, hz2⟩ := info_parts infoPg
  by_cases h0 : k < 0
  · rw [show (min (max k 0) 256).toNat = 0 by omega]
    go_enter Tryz.func50, Tryz.ntmps50
    go_wp2_with (at_make; refine wpList_make_full _ rfl _ _ 32 rfl w.heap.size 107 i0 _ 5 Tryz.underlying32 hi hz0 hz1 _ _ _ _ 0 rfl rfl (by omega) (by omega) (by rw [hz2]; omega) (by simp [maxLen]) (Nat.le_refl _) ?_; intro w1 hown1 hgrow1)
    rw [made_zeros] at hown1
    go_ret
    exact new_tb (by omega) hown1 hgrow1
  · by_cases h1 : 256 < k
    · rw [show (min (max k 0) 256).toNat = 256 by omega]
      go_enter Tryz.func50, Tryz.ntmps50
      go_wp2_with (at_make; refine wpList_make_full _ rfl _ _ 32 rfl w.heap.size 107 i0 _ 5 Tryz.underlying32 hi hz0 hz1 _ _ _ _ 256 rfl rfl (by omega) (by omega) (by rw [hz2]; omega) (by simp [maxLen]) (Nat.le_refl _) ?_; intro w1 hown1 hgrow1)
      rw [made_zeros] at hown1
      go_ret
      exact new_tb (by omega) hown1 hgrow1
    · obtain ⟨n, rfl⟩ := Int.eq_ofNat_of_zero_le (show 0 ≤ k by omega)
      rw [show (min (max (n : Int) 0) 256).toNat = n by omega]
      have hn : (n : Int) ≤ 256 := by omega
      have hn0 : (0 : Int) ≤ n := by omega
      go_enter Tryz.func50, Tryz.ntmps50
      go_wp2_with (at_make; refine wpList_make_full _ rfl _ _ 32 rfl w.heap.size 107 i0 _ 5 Tryz.underlying32 hi hz0 hz1 _ _ _ _ n rfl rfl (by omega) (by omega) (by rw [hz2]; omega) (by unfold maxLen; omega) (Nat.le_refl _) ?_; intro w1 hown1 hgrow1)
      rw [made_zeros] at hown1
      go_ret
      exact new_tb (by omega) hown1 hgrow1
theorem new_rt {w w1 : World} {n : Nat} {o : Obj} (h256 : n ≤ 256) (hown : w1.ownsRow (w.heap.size + 1) 107 5 (.slice (some ⟨w.heap.size + 1, 0, none⟩) n n) n (cs (zeros n))) (hgrow : (w.alloc o).grownBy w1 none) {u : Value} :
    NewRt n w (.returned (.agg #[.slice (some ⟨w.heap.size + 1, 0, none⟩) n n])) (w1.setCell ⟨w.heap.size, 0, none⟩ u) := by
  have hr := made_row hown
  have hb1 : Below w.heap.size w w1 := ((below_new w o).grown hgrow (by simp) (fun k hk => by cases hk))
  exact ⟨w.heap.size + 1, n, rfl, ⟨by rw [zeros_len]; exact h256, hr.far (by simp) _, n, by rw [zeros_len]; exact Nat.le_refl _, by unfold maxLen; omega, by rw [zeros_len]⟩, by omega, hb1.setCell (Nat.le_refl _) _⟩
set_option maxRecDepth 4000 in
theorem refNew_any (k : Int) (w : World) : Calls Tryz.prog 52 #[.int .i64 k] w (NewRt (min (max k 0) 256).toNat w) := by
  obtain ⟨i0, hi, hz0, hz1, hz2⟩ := info_parts infoPg
  by_cases h0 : k < 0
  · rw [show (min (max k 0) 256).toNat = 0 by omega]
    go_enter Tryz.func52, Tryz.ntmps52
    go_wp2_with (at_make; refine wpList_make_full _ rfl _ _ 32 rfl (w.heap.size + 1) 107 i0 _ 5 Tryz.underlying32 hi hz0 hz1 _ _ _ _ 0 rfl rfl (by omega) (by omega) (by rw [hz2]; omega) (by unfold maxLen; omega) (by simp) ?_; intro w1 hown1 hgrow1; obtain ⟨hc, hf⟩ := bcell ((Below.refl _ _).grown hgrow1 (Nat.le_refl _) (fun k hk => by cases hk)); have hz := hgrow1.size; simp at hz)
    all_goals (rw [made_zeros] at hown1; exact bodyPost_ret (v := .agg #[.slice (some ⟨w.heap.size + 1, 0, none⟩) 0 0]) (by simp [results, Tryz.results52, go_sem, hc, hz]) rfl (new_rt (by omega) (by simpa using hown1) hgrow1))
  · by_cases h1 : 256 < k
    · rw [show (min (max k 0) 256).toNat = 256 by omega]
      go_enter Tryz.func52, Tryz.ntmps52
      go_wp2_with (at_make; refine wpList_make_full _ rfl _ _ 32 rfl (w.heap.size + 1) 107 i0 _ 5 Tryz.underlying32 hi hz0 hz1 _ _ _ _ 256 rfl rfl (by omega) (by omega) (by rw [hz2]; omega) (by unfold maxLen; omega) (by simp) ?_; intro w1 hown1 hgrow1; obtain ⟨hc, hf⟩ := bcell ((Below.refl _ _).grown hgrow1 (Nat.le_refl _) (fun k hk => by cases hk)); have hz := hgrow1.size; simp at hz)
      all_goals (rw [made_zeros] at hown1; exact bodyPost_ret (v := .agg #[.slice (some ⟨w.heap.size + 1, 0, none⟩) 256 256]) (by simp [results, Tryz.results52, go_sem, hc, hz]) rfl (new_rt (by omega) (by simpa using hown1) hgrow1))
    · obtain ⟨n, rfl⟩ := Int.eq_ofNat_of_zero_le (show 0 ≤ k by omega)
      rw [show (min (max (n : Int) 0) 256).toNat = n by omega]
      have hn : (n : Int) ≤ 256 := by omega
      have hn0 : (0 : Int) ≤ n := by omega
      go_enter Tryz.func52, Tryz.ntmps52
      go_wp2_with (at_make; refine wpList_make_full _ rfl _ _ 32 rfl (w.heap.size + 1) 107 i0 _ 5 Tryz.underlying32 hi hz0 hz1 _ _ _ _ n rfl rfl (by omega) (by omega) (by rw [hz2]; omega) (by unfold maxLen; omega) (by simp) ?_; intro w1 hown1 hgrow1; obtain ⟨hc, hf⟩ := bcell ((Below.refl _ _).grown hgrow1 (Nat.le_refl _) (fun k hk => by cases hk)); have hz := hgrow1.size; simp at hz)
      all_goals (rw [made_zeros] at hown1; exact bodyPost_ret (v := .agg #[.slice (some ⟨w.heap.size + 1, 0, none⟩) n n]) (by simp [results, Tryz.results52, go_sem, hc, hz]) rfl (new_rt (by omega) (by simpa using hown1) hgrow1))
end Go.Proofs.YtihcellcdkhadaaGreat.PF

/-
  Which pages are not free: the program's. Nothing here is a statement of the seed.
-/
namespace Go.Proofs.YtihcellcdkhadaaGreat.PF
open Go.RowKit PM PR

theorem infoBool : (Tryz.prog.info? 4).map (fun i => (i.zero, i.size, i.bytes)) = some (some (.bool false), 1, 1) := by kernel_rfl
def usedL (l : List Pg) : List Value := l.map fun p => .bool (usedB p)
/-- the first k are told -/
def halfU (l : List Pg) (k : Nat) : List Value := usedL (l.take k) ++ List.replicate (l.length - k) (.bool false)
theorem usedL_len (l : List Pg) : (usedL l).length = l.length := by simp [usedL]
theorem halfU_len (l : List Pg) (k : Nat) (hk : k ≤ l.length) : (halfU l k).length = l.length := by simp [halfU, usedL]; omega
theorem halfU_end (l : List Pg) : halfU l l.length = usedL l := by simp [halfU]
theorem halfU_zero (l : List Pg) : halfU l 0 = List.replicate l.length (.bool false) := by simp [halfU, usedL]
theorem halfU_set (l : List Pg) (k : Nat) (hk : k < l.length) : (halfU l k).set k (.bool (usedB (l.getD k zero))) = halfU l (k + 1) := by
  unfold halfU
  have hl : (usedL (l.take k)).length = k := by simp [usedL]; omega
  rw [List.set_append_right _ _ (by omega), hl, Nat.sub_self, show l.length - k = (l.length - (k + 1)) + 1 by omega, List.replicate_succ, getD_in hk, List.take_succ_eq_append_getElem hk]
  simp only [usedL, List.map_append, List.append_assoc]
  rfl
theorem halfU_at (l : List Pg) (k : Nat) (hk : k < l.length) : ∃ v, (halfU l k)[k]? = some v := ⟨_, List.getElem?_eq_getElem (by rw [halfU_len l k (by omega)]; exact hk)⟩
def UsedR (l : List Pg) (w : World) (e : Ending) (w' : World) : Prop := ∃ g, e = .returned (.slice (some ⟨g, 0, none⟩) l.length l.length) ∧ Whole w' g 4 (usedL l).toArray ∧ w.heap.size ≤ g ∧ Below w.heap.size w w'
end Go.Proofs.YtihcellcdkhadaaGreat.PF

/-
  Pages staged: the program's. Nothing here is a statement of the seed.
-/
namespace Go.Proofs.YtihcellcdkhadaaGreat.PF
open Go.RowKit PM PR

/-- what a call of a table leaves -/
def Turns (g : Nat) (x : Int) (l' : List Pg) (w : World) (e : Ending) (w' : World) : Prop := e = .returned (.int .i64 x) ∧ Fr (fun i => i = g) w w' ∧ Row w' g l'
theorem stage_nil (a n o : Int) (w : World) : Calls Tryz.prog 17 #[.pointer none, .int .i64 a, .int .i64 n, .int .u16 o] w fun e w' => e = .returned (.int .i64 1) ∧ w = w' := by
  go_enter Tryz.func17, Tryz.ntmps17
  go_wp2_with fail
  go_ret
  exact ⟨rfl, rfl⟩
theorem stage_arg {p g : Nat} {l : List Pg} {w : World} (h : Tb w p g l) (a n o : Int) (hx : o = 0 ∨ n < 1) : Calls Tryz.prog 17 #[.pointer (some ⟨p, 0, none⟩), .int .i64 a, .int .i64 n, .int .u16 o] w fun e w' => e = .returned (.int .i64 2) ∧ w = w' := by
  clear h
  by_cases ho : o = 0
  · subst ho
    clear hx
    go_enter Tryz.func17, Tryz.ntmps17
    go_wp2_with fail
    go_ret
    exact ⟨rfl, rfl⟩
  · have ho' : (o == 0) = false := by simpa using ho
    have hn : n < 1 := by omega
    clear hx ho
    go_enter Tryz.func17, Tryz.ntmps17
    go_wp2_with fail
    go_ret
    exact ⟨rfl, rfl⟩
theorem stage_range {p g : Nat} {l : List Pg} {w : World} (h : Tb w p g l) (a n o : Int) (ho : o ≠ 0) (hn : 1 ≤ n ∧ n ≤ 9223372036854775807) (hx : a < 0 ∨ (l.length : Int) - n < a) :
    Calls Tryz.prog 17 #[.pointer (some ⟨p, 0, none⟩), .int .i64 a, .int .i64 n, .int .u16 o] w fun e w' => e = .returned (.int .i64 11) ∧ w = w' := by
  have CL := Lib.hid (len_tb h)
  have h256 := h.1
  clear h
  generalize l.length = m at *
  have ho' : (o == 0) = false := by simpa using ho
  obtain ⟨hn1, hn2⟩ := hn
  clear ho
  by_cases h0 : a < 0
  · clear hx
    go_enter Tryz.func17, Tryz.ntmps17
    go_wp2_with fail
    go_ret
    exact ⟨rfl, rfl⟩
  · have h1 : (m : Int) - n < a := by omega
    have h0' : 0 ≤ a := by omega
    clear hx
    have hm0 : (0 : Int) ≤ m := by omega
    have hm1 : (m : Int) ≤ 256 := by omega
    go_enter Tryz.func17, Tryz.ntmps17
    go_wp2_with (go_at_call 51; refine CL.out.mono ?_; rintro e w1 ⟨rfl, rfl⟩)
    go_ret
    exact ⟨rfl, rfl⟩
set_option maxHeartbeats 2000000 in
theorem stage_there {p g : Nat} {l : List Pg} {w : World} (h : Tb w p g l) (A N : Nat) (o : Int) (ho : o ≠ 0) (hn : 1 ≤ N) (hAN : A + N ≤ l.length) (q1 q2 : Bool) (h1 : ((l.drop A).take N).any usedB = q1) (h2 : l.any (ownB o) = q2) :
    Calls Tryz.prog 17 #[.pointer (some ⟨p, 0, none⟩), .int .i64 (A : Int), .int .i64 (N : Int), .int .u16 o] w (Turns g (if (q1 || q2) = true then 9 else 0) (if (q1 || q2) = true then l else fill l A N (stg o)) w) := by
  obtain ⟨c, h256, hlc, hcm, hcell⟩ := h.cell
  obtain ⟨glt, plt, hpg⟩ := h.lt
  have CL := Lib.hid (len_tb h)
  have HP := Lib.hid (Row.part h.row A N hAN)
  have HQ := Lib.hid (Row.piece h.row)
  have HR := Lib.hid h.row
  have hlt1 : ((l.drop A).take N).length = N := by rw [List.length_take, List.length_drop]; omega
  have C1 := Lib.hid (fun cp u (hb : Below w.heap.size w u) => containsUsed ((l.drop A).take N) g (A * 5) cp u (by omega) (by have := hb.size; omega) (HP.out.below hb glt))
  have C2 := Lib.hid (fun b cp u (hb : Below w.heap.size w u) (hB : Whole u b 59 #[.int .u16 o]) => containsOwned l o b g 0 cp u h256 (by have := hb.size; omega) (HQ.out.below hb glt) hB)
  rw [hlt1] at C1
  have HT := Lib.hid h
  clear h hlt1
  rw [h1] at C1
  rw [h2] at C2
  clear h1 h2
  generalize hm : l.length = m at *
  have HM := Lib.hid hm
  clear hm
  have ho' : (o == 0) = false := by simpa using ho
  have HO := Lib.hid ho
  clear ho
  unfold maxLen at hcm
  have hN1 : (1 : Int) ≤ N := by omega
  have hA0 : (0 : Int) ≤ A := by omega
  have hNm : (A : Int) + N ≤ m := by omega
  have hm1 : (m : Int) ≤ 256 := by omega
  have hmc : (m : Int) ≤ c := by omega
  have hAc : c ≠ A := by omega
  have hAN' : A + N - A = N := by omega
  have hbd : Below w.heap.size w w.drew := (Below.refl _ _).drew
  have hcd : w.drew.cell? ⟨p, 0, none⟩ = some (.slice (some ⟨g, 0, none⟩) m c) := hcell
  cases q1
  · cases q2
    · show Calls _ _ _ _ (Turns g 0 (fill l A N (stg o)) w)
      go_enter Tryz.func17, Tryz.ntmps17
      go_wp2_with (go_at_call 51; refine CL.out.mono ?_; rintro e w1 ⟨rfl, rfl⟩)
      rw [hAN']
      first
        | (go_region_held3 (fun u => u.cell? ⟨p, 0, none⟩ = some (.slice (some ⟨g, 0, none⟩) m c) ∧ Below w.heap.size w u)
        (first | with_reducible exact ⟨e4, hw4⟩ | with_reducible exact ⟨e3, hw3⟩ | with_reducible exact ⟨e2, hw2⟩ | with_reducible exact ⟨hcd, hbd⟩)
        (first | (go_at_call 53; (with_reducible refine (C1.out _ _ hbd).mono ?_); rintro e w2 ⟨rfl, hb2⟩; have hw2 : Below w.heap.size w w2 := hbd.trans hb2; have e2 := (hw2.cell (p := ⟨p, 0, none⟩) plt).trans hcell; clear hb2) | (go_at_call 55; (with_reducible refine (ownedBy_any o _).mono ?_); rintro e w3 ⟨rfl, hw⟩; have HW3 := Lib.hid hw; have hw3 : Below w.heap.size w w3 := (by rw [hw]; exact hw2.alloc hw2.size _); have e3 := (hw3.cell (p := ⟨p, 0, none⟩) plt).trans hcell; clear hw) | (go_at_call 53; (with_reducible refine (C2.out _ _ _ hw3 (by rw [HW3.out]; exact Whole.new _ _ _)).mono ?_); rintro e w4 ⟨rfl, hb4⟩; have hw4 := below_of hw3 hb4; have e4 := (hw4.cell (p := ⟨p, 0, none⟩) plt).trans hcell; clear hb4)))
        | fail
      rename_i hHeld
      clear hHeld
      clear e2 e3 e4
      go_wp2_with fail
      go_loopw [51] (fun i wr => ∃ k : Nat, k ≤ N ∧ i = .int .i64 (k : Int) ∧ Fr (fun i => i = g) w wr ∧ Hid (Row wr g (fill l A k (stg o)))) (fun i _ => N - (intOf i).toNat)
      case atStart => exact ⟨0, by omega, rfl, Fr.of_below hw4, Lib.hid (by rw [fill_zero]; exact HR.out.belowS hw4)⟩
      case round =>
        obtain ⟨k, hk, rfl, hfr, hrow⟩ := hrel
        by_cases hlt : k < N
        · have hlt' : (k : Int) < N := by omega
          have hk0 : (0 : Int) ≤ k := by omega
          have hkl : A + k < (fill l A k (stg o)).length := by rw [fill_len, HM.out]; omega
          obtain ⟨⟨v0, v1, v2, v3, v4, g0, g1, g2, g3, g4⟩, f0, f1, f2, f3, f4⟩ := hrow.out.there hkl
          rw [Nat.add_mul] at g0 g1 g2 g3 g4 f0 f1 f2 f3 f4
          have P := Lib.hid (hrow.out.put hkl (stg o))
          rw [fill_set (by rw [HM.out]; omega), Nat.add_mul] at P
          have hF := Lib.hid (hfr.put (g := g) (Or.inl rfl) (A * 5 + k * 5) 1 false false o 0)
          clear hkl
          go_wp2_with fail
          rw [put_eq]
          clear g0 g1 g2 g3 g4 f0 f1 f2 f3 f4
          go_roundw
          case rel => exact ⟨k + 1, by omega, by go_num, hF.out, P⟩
          case measure => simp [intOf]; omega
        · obtain rfl : k = N := by omega
          go_wp2_with fail
          go_ret
          exact ⟨rfl, hfr, hrow.out⟩
    · show Calls _ _ _ _ (Turns g 9 l w)
      go_enter Tryz.func17, Tryz.ntmps17
      go_wp2_with (go_at_call 51; refine CL.out.mono ?_; rintro e w1 ⟨rfl, rfl⟩)
      rw [hAN']
      first
        | (go_region_held3 (fun u => u.cell? ⟨p, 0, none⟩ = some (.slice (some ⟨g, 0, none⟩) m c) ∧ Below w.heap.size w u)
        (first | with_reducible exact ⟨e4, hw4⟩ | with_reducible exact ⟨e3, hw3⟩ | with_reducible exact ⟨e2, hw2⟩ | with_reducible exact ⟨hcd, hbd⟩)
        (first | (go_at_call 53; (with_reducible refine (C1.out _ _ hbd).mono ?_); rintro e w2 ⟨rfl, hb2⟩; have hw2 : Below w.heap.size w w2 := hbd.trans hb2; have e2 := (hw2.cell (p := ⟨p, 0, none⟩) plt).trans hcell; clear hb2) | (go_at_call 55; (with_reducible refine (ownedBy_any o _).mono ?_); rintro e w3 ⟨rfl, hw⟩; have HW3 := Lib.hid hw; have hw3 : Below w.heap.size w w3 := (by rw [hw]; exact hw2.alloc hw2.size _); have e3 := (hw3.cell (p := ⟨p, 0, none⟩) plt).trans hcell; clear hw) | (go_at_call 53; (with_reducible refine (C2.out _ _ _ hw3 (by rw [HW3.out]; exact Whole.new _ _ _)).mono ?_); rintro e w4 ⟨rfl, hb4⟩; have hw4 := below_of hw3 hb4; have e4 := (hw4.cell (p := ⟨p, 0, none⟩) plt).trans hcell; clear hb4)))
        | fail
      rename_i hHeld
      clear hHeld
      clear e2 e3 e4
      go_wp2_with fail
      go_ret
      exact ⟨rfl, Fr.of_below hw4, HR.out.belowS hw4⟩
  · show Calls _ _ _ _ (Turns g 9 l w)
    go_enter Tryz.func17, Tryz.ntmps17
    go_wp2_with (go_at_call 51; refine CL.out.mono ?_; rintro e w1 ⟨rfl, rfl⟩)
    rw [hAN']
    refine wp_region_held_drew (S := fun u => Below w.heap.size w u) (by kernel_rfl) hbd (fun hHeld => ?_)
    refine wpAnyH_take (i := 0) (v := ?vv0) rfl (by kernel_rfl) (by kernel_rfl) (by kernel_rfl) (fun _ _ _ h => h) (Or.inl ⟨by rfl, ?hy0⟩) (by assumption) ?rest0
    case hy0 =>
      intro u hSu
      go_simp
      try with_reducible rfl
    try simp only [Act.put, List.getElem_toArray, List.getElem_cons_succ, List.getElem_cons_zero, List.setIfInBounds_toArray, List.set_cons_zero, List.set_cons_succ]
    refine wpAnyH_ready (rs := [1]) (by kernel_rfl) (by simp) ?_
    refine AllReadyH.cons rfl (fun K hK => ?_) AllReadyH.nil
    (go_simp; go_at_call 53; refine (C1.out _ _ hbd).mono ?_; rintro e w2 ⟨rfl, hb2⟩; have hw2 : Below w.heap.size w w2 := hbd.trans hb2)
    refine hK.out _ _ ?hS1 (fun hHeld => ?rest1)
    case hS1 => assumption
    clear hK K
    try simp only [Act.put, List.getElem_toArray, List.getElem_cons_succ, List.getElem_cons_zero, List.setIfInBounds_toArray, List.set_cons_zero, List.set_cons_succ]
    refine wpAnyH_take (i := 2) (v := ?vv2) rfl (by kernel_rfl) (by kernel_rfl) (by kernel_rfl) (fun _ _ _ h => h) (Or.inl ⟨by rfl, ?hy2⟩) (by assumption) ?rest2
    case hy2 =>
      intro u hSu
      go_simp
      try with_reducible rfl
    try simp only [Act.put, List.getElem_toArray, List.getElem_cons_succ, List.getElem_cons_zero, List.setIfInBounds_toArray, List.set_cons_zero, List.set_cons_succ]
    refine wpAnyH_take (i := 3) (v := undef) rfl (by kernel_rfl) (by kernel_rfl) (by kernel_rfl) (fun _ _ _ h => h) (Or.inr ⟨by rfl, rfl⟩) (by assumption) ?rest3
    try simp only [Act.put, List.getElem_toArray, List.getElem_cons_succ, List.getElem_cons_zero, List.setIfInBounds_toArray, List.set_cons_zero, List.set_cons_succ]
    refine wpAnyH_take (i := 4) (v := undef) rfl (by kernel_rfl) (by kernel_rfl) (by kernel_rfl) (fun _ _ _ h => h) (Or.inr ⟨by rfl, rfl⟩) (by assumption) ?rest4
    try simp only [Act.put, List.getElem_toArray, List.getElem_cons_succ, List.getElem_cons_zero, List.setIfInBounds_toArray, List.set_cons_zero, List.set_cons_succ]
    refine wpAnyH_take (i := 5) (v := undef) rfl (by kernel_rfl) (by kernel_rfl) (by kernel_rfl) (fun _ _ _ h => h) (Or.inr ⟨by rfl, rfl⟩) (by assumption) ?rest5
    try simp only [Act.put, List.getElem_toArray, List.getElem_cons_succ, List.getElem_cons_zero, List.setIfInBounds_toArray, List.set_cons_zero, List.set_cons_succ]
    refine wpAnyH_take (i := 6) (v := undef) rfl (by kernel_rfl) (by kernel_rfl) (by kernel_rfl) (fun _ _ _ h => h) (Or.inr ⟨by rfl, rfl⟩) (by assumption) ?rest6
    try simp only [Act.put, List.getElem_toArray, List.getElem_cons_succ, List.getElem_cons_zero, List.setIfInBounds_toArray, List.set_cons_zero, List.set_cons_succ]
    refine wpAnyH_take (i := 7) (v := undef) rfl (by kernel_rfl) (by kernel_rfl) (by kernel_rfl) (fun _ _ _ h => h) (Or.inr ⟨by rfl, rfl⟩) (by assumption) ?rest7
    try simp only [Act.put, List.getElem_toArray, List.getElem_cons_succ, List.getElem_cons_zero, List.setIfInBounds_toArray, List.set_cons_zero, List.set_cons_succ]
    refine wpAnyH_take (i := 8) (v := undef) rfl (by kernel_rfl) (by kernel_rfl) (by kernel_rfl) (fun _ _ _ h => h) (Or.inr ⟨by rfl, rfl⟩) (by assumption) ?rest8
    try simp only [Act.put, List.getElem_toArray, List.getElem_cons_succ, List.getElem_cons_zero, List.setIfInBounds_toArray, List.set_cons_zero, List.set_cons_succ]
    refine wpAnyH_take (i := 9) (v := undef) rfl (by kernel_rfl) (by kernel_rfl) (by kernel_rfl) (fun _ _ _ h => h) (Or.inr ⟨by rfl, rfl⟩) (by assumption) ?rest9
    try simp only [Act.put, List.getElem_toArray, List.getElem_cons_succ, List.getElem_cons_zero, List.setIfInBounds_toArray, List.set_cons_zero, List.set_cons_succ]
    refine wpAnyH_take (i := 10) (v := ?vv10) rfl (by kernel_rfl) (by kernel_rfl) (by kernel_rfl) (fun _ _ _ h => h) (Or.inl ⟨by rfl, ?hy10⟩) (by assumption) ?rest10
    case hy10 =>
      intro u hSu
      go_simp
      try with_reducible rfl
    try simp only [Act.put, List.getElem_toArray, List.getElem_cons_succ, List.getElem_cons_zero, List.setIfInBounds_toArray, List.set_cons_zero, List.set_cons_succ]
    refine wpAnyH_done (by kernel_rfl) ?_ _
    go_wp2_with fail
    go_ret
    exact ⟨rfl, Fr.of_below hw2, HR.out.belowS hw2⟩
theorem stage_tb {p g : Nat} {l : List Pg} {w : World} (h : Tb w p g l) (a n o : Int) (hn : n ≤ 9223372036854775807) :
    Calls Tryz.prog 17 #[.pointer (some ⟨p, 0, none⟩), .int .i64 a, .int .i64 n, .int .u16 o] w (Turns g (stageE l a n o) (stageL l a n o) w) := by
  by_cases h1 : o = 0 ∨ n < 1
  · have e : stageE l a n o = 2 := by unfold stageE; rw [if_pos h1]
    rw [show stageL l a n o = l by unfold stageL; rw [e]; rfl, e]
    exact (stage_arg h a n o h1).mono fun e w' ⟨he, hw⟩ => ⟨he, hw ▸ Fr.refl _ _, hw ▸ h.row⟩
  · by_cases h2 : a < 0 ∨ (l.length : Int) - n < a
    · have e : stageE l a n o = 11 := by unfold stageE; rw [if_neg h1, if_pos h2]
      rw [show stageL l a n o = l by unfold stageL; rw [e]; rfl, e]
      exact (stage_range h a n o (by omega) (by omega) h2).mono fun e w' ⟨he, hw⟩ => ⟨he, hw ▸ Fr.refl _ _, hw ▸ h.row⟩
    · obtain ⟨A, rfl⟩ := Int.eq_ofNat_of_zero_le (show 0 ≤ a by omega)
      obtain ⟨N, rfl⟩ := Int.eq_ofNat_of_zero_le (show 0 ≤ n by omega)
      have hth : ths l A N o = (((l.drop A).take N).any usedB || l.any (ownB o)) := rfl
      have C := stage_there h A N o (by omega) (by omega) (by omega) _ _ rfl rfl
      rw [← hth] at C
      cases ht : ths l A N o
      · have e : stageE l A N o = 0 := by unfold stageE; rw [if_neg h1, if_neg h2, ht]; rfl
        rw [show stageL l A N o = fill l A N (stg o) by unfold stageL; rw [e]; rfl, e]
        rw [ht] at C
        exact C
      · have e : stageE l A N o = 9 := by unfold stageE; rw [if_neg h1, if_neg h2, ht]; rfl
        rw [show stageL l A N o = l by unfold stageL; rw [e]; rfl, e]
        rw [ht] at C
        exact C
end Go.Proofs.YtihcellcdkhadaaGreat.PF

/-
  Pages published, retired, released; a fork: the program's. Nothing here is a statement of the seed.
-/
namespace Go.Proofs.YtihcellcdkhadaaGreat.PF
open Go.RowKit PM PR

theorem upd_id (c : Pg → Bool) (l : List Pg) : upd c (fun _ p => p) l = l := by
  refine ext_getD (upd_len ..) fun j hj => ?_
  rw [upd_len] at hj
  rw [upd_at hj]
  split <;> rfl
section
variable {p g gs : Nat} {l : List Pg} {u : World} {v : Value}
theorem count_any (h : Tb u p g l) (o : Int) (hs : Sts u v gs 1 1) : Calls Tryz.prog 62 #[.pointer (some ⟨p, 0, none⟩), .int .u16 o, .func (.func 63) #[] #[], v] u fun e w' =>
    e = .returned (.int .i64 (num (ownS o 1 1) l : Int)) ∧ Fr (fun i => i = g) u w' ∧ Row w' g l := by
  refine (change_as p g gs l o 1 1 v (fun _ q => q) (fun _ _ => True) (fun _ => False) u h hs trivial id id id (fun i h => h.elim) (fun _ _ _ _ _ => trivial) (fun u k q _ _ => (asItIs_any q u).mono fun e w' ⟨he, hb⟩ => ⟨he, Fr.of_below hb, trivial⟩)).mono ?_
  rintro e w' ⟨he, hf, hr, _⟩
  rw [upd_id] at hr
  exact ⟨he, hf.mono (fun i h => h.elim Or.inl False.elim), hr⟩
theorem retd_any (h : Tb u p g l) (o ee : Int) (E : Nat) (hs : Sts u v gs 2 2) (hE : Whole u E 28 #[.int .u64 ee]) : Calls Tryz.prog 62 #[.pointer (some ⟨p, 0, none⟩), .int .u16 o, .func (.func 68) #[] #[.pointer (some ⟨E, 0, none⟩)], v] u fun e w' =>
    e = .returned (.int .i64 (num (ownS o 2 2) l : Int)) ∧ Fr (fun i => i = g) u w' ∧ Row w' g (retL l o ee) := by
  have hEg : E ≠ g := hE.ne_ h.row.choose_spec (by decide)
  refine (change_ret p g gs l o 2 2 v (retF ee) (fun w _ => Whole w E 28 #[.int .u64 ee]) (fun _ => False) E u h hs hE id id id (fun i h => h.elim) (fun w w' _ hb hf => hb.fr hf hEg) (fun w k q _ hb => (retire1_any q ee k E w hb).mono fun e w' ⟨he, hb1⟩ => ⟨he, Fr.of_below hb1, hb.belowS hb1⟩)).mono ?_
  rintro e w' ⟨he, hf, hr, _⟩
  exact ⟨he, hf.mono (fun i h => h.elim Or.inl False.elim), hr⟩
theorem pubd_any (h : Tb u p g l) (o code : Int) (D E : Nat) (hs : Sts u v gs 1 1) (hD : Whole u D 3 #[.int .i64 0]) (hE : Whole u E 3 #[.int .i64 code]) (hDE : D ≠ E) : Calls Tryz.prog 62 #[.pointer (some ⟨p, 0, none⟩), .int .u16 o, .func (.func 64) #[] #[.pointer (some ⟨D, 0, none⟩), .pointer (some ⟨E, 0, none⟩)], v] u fun e w' =>
    e = .returned (.int .i64 (num (ownS o 1 1) l : Int)) ∧ Fr (fun i => i = g ∨ i = D) u w' ∧ Row w' g (upd (ownS o 1 1) (pubF code) l) := by
  have hEg : E ≠ g := hE.ne_ h.row.choose_spec (by decide)
  have hDg : D ≠ g := hD.ne_ h.row.choose_spec (by decide)
  have hDs : D ≠ gs := hs.ne_ hD (by decide)
  have hDp : D ≠ p := by obtain ⟨_, _, c, _, _, hp⟩ := h; exact hD.ne_ hp (by decide)
  refine (change_pub p g gs l o 1 1 v (pubF code) (fun w k => Whole w D 3 #[.int .i64 (k : Int)] ∧ Whole w E 3 #[.int .i64 code]) (fun i => i = D) D E u h hs ⟨hD, hE⟩ hDp.symm hDg.symm hDs.symm (fun i h => by rw [h]; exact hD.lt) (fun w w' _ hb hf => ⟨hb.1.fr hf hDg, hb.2.fr hf hEg⟩)
    (fun w k q hk hb => (publish1_any q code k D E w hk hb.1 hb.2 hDE).mono fun e w' ⟨he, hf, hb1⟩ => ⟨he, hf, hb1, hb.2.fr hf hDE.symm⟩)).mono ?_
  rintro e w' ⟨he, hf, hr, _⟩
  exact ⟨he, hf, hr⟩
end
theorem tb_fr {p g : Nat} {l : List Pg} {w w' : World} (h : Tb w p g l) (hf : Fr (fun i => i = g) w w') (hr : Row w' g l) : Tb w' p g l := h.turn hf (fun e => h.lt.2.2 e) rfl hr
theorem retire_nil (o ee : Int) (w : World) : Calls Tryz.prog 25 #[.pointer none, .int .u16 o, .int .u64 ee] w fun e w' => e = .returned (.int .i64 1) ∧ Below w.heap.size w w' := by
  go_enter Tryz.func25, Tryz.ntmps25
  go_wp2_with fail
  go_ret
  exact ⟨rfl, below_new _ _⟩
theorem publish_nil (o code : Int) (w : World) : Calls Tryz.prog 21 #[.pointer none, .int .u16 o, .int .i64 code] w fun e w' => e = .returned (.int .i64 1) ∧ Below w.heap.size w w' := by
  go_enter Tryz.func21, Tryz.ntmps21
  go_wp2_with fail
  go_ret
  exact ⟨rfl, below_new _ _⟩
theorem retire_tb {p g : Nat} {l : List Pg} {w : World} (h : Tb w p g l) (o ee : Int) : Calls Tryz.prog 25 #[.pointer (some ⟨p, 0, none⟩), .int .u16 o, .int .u64 ee] w (Turns g (retE l o) (retL l o ee) w) := by
  have hb0 := below_new w (.cells #[.int .u64 ee] 28)
  have hb := (hb0.alloc (by simp) (.cells #[.int .u8 2] 105))
  have C := Lib.hid (retd_any (h.belowS hb) o ee w.heap.size (Or.inl ⟨rfl, rfl, Whole.new _ _ _⟩) ((Whole.new w _ _).alloc _))
  simp only [World.size_alloc] at C
  have CU := Lib.hid (fun w => unless_any (num (ownS o 2 2) l) w)
  have he : retE l o = if num (ownS o 2 2) l = 0 then 8 else 0 := rfl
  rw [← he] at CU
  clear he
  generalize retE l o = x at *
  clear h hb0
  go_enter Tryz.func25, Tryz.ntmps25
  go_wp2_with (first | (go_at_call 62; (with_reducible refine C.out.mono ?_); rintro e w1 ⟨rfl, hf, hr⟩; have HR := Lib.hid hr; clear hr) | (go_at_call 67; (with_reducible refine (CU.out _).mono ?_); rintro e w2 ⟨rfl, rfl⟩))
  go_ret
  exact ⟨rfl, (Fr.of_below hb).trans hf (fun i h => Or.inl h), HR.out⟩
set_option maxHeartbeats 1000000 in
theorem publish_tb {p g : Nat} {l : List Pg} {w : World} (h : Tb w p g l) (o code : Int) : Calls Tryz.prog 21 #[.pointer (some ⟨p, 0, none⟩), .int .u16 o, .int .i64 code] w (Turns g (pubE l o code) (pubL l o code) w) := by
  have hb0 := below_new w (.cells #[.int .i64 code] 3)
  have hb := (hb0.alloc (by simp) (.cells #[.int .u8 1] 105))
  have hT2 := h.belowS hb
  have hE2 : Whole ((w.alloc (.cells #[.int .i64 code] 3)).alloc (.cells #[.int .u8 1] 105)) w.heap.size 3 #[.int .i64 code] := (Whole.new w _ _).alloc _
  have C := Lib.hid (count_any hT2 o (Or.inl ⟨rfl, rfl, Whole.new _ _ _⟩))
  simp only [World.size_alloc] at C
  have hg := h.lt.1
  have hn := rank_le (ownS o 1 1) l l.length
  have h256 := h.1
  -- behind the count
  have HC2 : Hid (∀ w2, Fr (fun i => i = g) ((w.alloc (.cells #[.int .i64 code] 3)).alloc (.cells #[.int .u8 1] 105)) w2 → Row w2 g l → Whole w2 w.heap.size 3 #[.int .i64 code] ∧
      Calls Tryz.prog 62 #[.pointer (some ⟨p, 0, none⟩), .int .u16 o, .func (.func 64) #[] #[.pointer (some ⟨w2.heap.size, 0, none⟩), .pointer (some ⟨w.heap.size, 0, none⟩)], .slice (some ⟨w2.heap.size + 1, 0, none⟩) 1 1]
        ((w2.alloc (.cells #[.int .i64 0] 3)).alloc (.cells #[.int .u8 1] 105)) fun e w' =>
          e = .returned (.int .i64 (num (ownS o 1 1) l : Int)) ∧ Fr (fun i => i = g ∨ i = w2.heap.size) w2 w' ∧ Row w' g (upd (ownS o 1 1) (pubF code) l)) := Lib.hid fun w2 hf hr => by
    have hE := hE2.fr hf (by show ¬ w.heap.size = g; omega)
    have ht := tb_fr hT2 hf hr
    have hb2 := ((below_new w2 (.cells #[.int .i64 0] 3)).alloc (by simp) (.cells #[.int .u8 1] 105))
    have K := pubd_any (ht.belowS hb2) o code w2.heap.size w.heap.size (Or.inl ⟨rfl, rfl, Whole.new _ _ _⟩) ((Whole.new w2 _ _).alloc _) (hE.belowS hb2) (by have := hf.size; simp at this; omega)
    simp only [World.size_alloc] at K
    exact ⟨hE, K.mono fun e w' ⟨he, hf2, hr2⟩ => ⟨he, (Fr.of_below hb2).trans hf2 (fun i h => Or.inl h), hr2⟩⟩
  clear hT2 hE2 hb0 h
  have he : pubE l o code = if num (ownS o 1 1) l = 0 then 8 else if code < 0 ∨ (num (ownS o 1 1) l : Int) < code then 2 else 0 := rfl
  have hl : pubL l o code = if pubE l o code = 0 then upd (ownS o 1 1) (pubF code) l else l := rfl
  change num (ownS o 1 1) l ≤ _ at hn
  rw [hl, he]
  clear he hl
  generalize upd (ownS o 1 1) (pubF code) l = l' at *
  generalize num (ownS o 1 1) l = n at *
  have hn2 : (n : Int) ≤ 256 := by omega
  have hn0 : (0 : Int) ≤ n := by omega
  by_cases h0 : n = 0
  · subst h0
    show Calls _ _ _ _ (Turns g 8 l w)
    go_enter Tryz.func21, Tryz.ntmps21
    go_wp2_with (go_at_call 62; (with_reducible refine C.out.mono ?_); rintro e w1 ⟨rfl, hf, hr⟩; have HR := Lib.hid hr; clear hr)
    go_ret
    exact ⟨rfl, (Fr.of_below hb).trans hf (fun i h => Or.inl h), HR.out⟩
  · rw [if_neg h0]
    have h0' : ((n : Int) == 0) = false := by simp; omega
    have hc0 : Hid (n ≠ 0) := Lib.hid h0
    clear h0
    by_cases h1 : code < 0
    · rw [if_pos (Or.inl h1)]
      show Calls _ _ _ _ (Turns g 2 l w)
      go_enter Tryz.func21, Tryz.ntmps21
      go_wp2_with (go_at_call 62; (with_reducible refine C.out.mono ?_); rintro e w1 ⟨rfl, hf, hr⟩; have hcE := (HC2.out _ hf hr).1.cell 0; rw [show (#[Value.int .i64 code][0]?) = some (.int .i64 code) from rfl] at hcE; have HR := Lib.hid hr; clear hr)
      go_ret
      exact ⟨rfl, (Fr.of_below hb).trans hf (fun i h => Or.inl h), HR.out⟩
    · have h1' : 0 ≤ code := by omega
      by_cases h2 : (n : Int) < code
      · rw [if_pos (Or.inr h2)]
        show Calls _ _ _ _ (Turns g 2 l w)
        go_enter Tryz.func21, Tryz.ntmps21
        go_wp2_with (go_at_call 62; (with_reducible refine C.out.mono ?_); rintro e w1 ⟨rfl, hf, hr⟩; have hcE := (HC2.out _ hf hr).1.cell 0; rw [show (#[Value.int .i64 code][0]?) = some (.int .i64 code) from rfl] at hcE; have HR := Lib.hid hr; clear hr)
        go_ret
        exact ⟨rfl, (Fr.of_below hb).trans hf (fun i h => Or.inl h), HR.out⟩
      · rw [if_neg (by omega)]
        show Calls _ _ _ _ (Turns g 0 l' w)
        have h2' : code ≤ (n : Int) := by omega
        clear h2 h1
        go_enter Tryz.func21, Tryz.ntmps21
        go_wp2_with (first | (go_at_call 62; (with_reducible refine C.out.mono ?_); rintro e w1 ⟨rfl, hf, hr⟩; have hcE := (HC2.out _ hf hr).1.cell 0; rw [show (#[Value.int .i64 code][0]?) = some (.int .i64 code) from rfl] at hcE; have HCC := Lib.hid (HC2.out _ hf hr).2; clear hr) | (go_at_call 62; (with_reducible refine HCC.out.mono ?_); rintro e w2 ⟨rfl, hf2, hr2⟩; have HR := Lib.hid hr2; clear hr2))
        go_ret
        exact ⟨rfl, ((Fr.of_below hb).trans hf (fun i h => Or.inl h)).trans hf2 (fun i h => h.elim Or.inl (fun h => Or.inr (by have := hf.size; simp at this; omega))), HR.out⟩
/-- a copy of the pages in memory of its own -/
def Copied (l : List Pg) (w : World) (e : Ending) (w' : World) : Prop := ∃ g c, e = .returned (.slice (some ⟨g, 0, none⟩) l.length c) ∧ Row w' g l ∧ w.heap.size ≤ g ∧ l.length ≤ c ∧ c ≤ maxLen ∧ Below w.heap.size w w'
theorem own_empty (w : World) : (w.alloc (.cells #[] 107)).ownsRow w.heap.size 107 5 (.slice (some ⟨w.heap.size, 0, none⟩) 0 0) 0 [] :=
  ⟨rfl, Or.inr ⟨w.heap.size, 0, #[], rfl, Nat.le_refl _, heap_alloc_new w _, Nat.le_refl _, by simp [maxLen], rfl, rfl⟩⟩
theorem cs_one (l : List Pg) : ∀ u ∈ cs l, u.oneCell' = true := by
  intro u hu
  obtain ⟨q, _, hq⟩ := List.mem_flatMap.1 hu
  simp only [pcs, List.mem_cons, List.not_mem_nil, or_false] at hq
  rcases hq with rfl | rfl | rfl | rfl | rfl <;> rfl
theorem Row.news {w : World} {g : Nat} {l : List Pg} (h : Row w g l) : ∀ j u, (cs l)[j]? = some u → w.cell? ((⟨g, 0, none⟩ : Addr).add j) = some u := by
  intro j u hj
  obtain ⟨r, h⟩ := h
  rw [Addr.add_mid, Nat.zero_add, h.cell, List.getElem?_toArray, List.getElem?_append_left (List.getElem?_eq_some_iff.1 hj).1, hj]
theorem copied_of {w w0 w1 : World} {v' : Value} {l : List Pg} {v : Value} (hb : Below w.heap.size w w0) (h1 : w1.ownsRow w.heap.size 107 5 v' (0 + l.length) ([] ++ cs l)) (h2 : w0.grownBy w1 v.ownBlock) (hv : ∀ g, v.ownBlock = some g → w.heap.size ≤ g) (h3 : v' = .slice none 0 0 ↔ v = .slice none 0 0 ∧ l.length = 0) (hv0 : v ≠ .slice none 0 0) : ∃ g c, v' = .slice (some ⟨g, 0, none⟩) l.length c ∧ Row w1 g l ∧ w.heap.size ≤ g ∧ l.length ≤ c ∧ c ≤ maxLen ∧ Below w.heap.size w w1 := by
  rw [Nat.zero_add, List.nil_append] at h1
  obtain ⟨g, c, e, _, hB, hc, hm, hr⟩ := Row.of_owns h1 (fun e => hv0 (h3.1 e).1)
  exact ⟨g, c, e, hr, hB, hc, hm, hb.grown h2 hb.size hv⟩
def ForkR (l : List Pg) (w : World) (e : Ending) (w' : World) : Prop := ∃ p g, e = .returned (.pointer (some ⟨p, 0, none⟩)) ∧ Tb w' p g l ∧ w.heap.size ≤ p ∧ w.heap.size ≤ g ∧ Below w.heap.size w w'
end Go.Proofs.YtihcellcdkhadaaGreat.PF
