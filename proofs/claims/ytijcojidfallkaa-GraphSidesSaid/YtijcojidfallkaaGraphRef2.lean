/-
  The reference of layer 14: who stands on whom; all of a list; whether texts are the same; what is ready. Nothing here is a statement of the seed.
-/
import Derived.Test.YtijcojidfallkaaGraphRef
set_option linter.unusedSimpArgs false
set_option linter.unusedVariables false
namespace Go.Proofs.Ytijcojidfallkaa.GF
open Go.RowKit WM NR OM OR GM GR
set_option maxHeartbeats 4000000
set_option maxRecDepth 10000
theorem infoStr : (Try.prog.info? 9).map (fun i => (i.zero, i.size, i.bytes)) = some (some (.string ⟨#[]⟩), 1, 16) := by kernel_rfl
/-- texts that a call tells -/
abbrev IsL (w : World) (l : List (List UInt8)) (e : Ending) (u : World) : Prop := ∃ a c, e = .returned (.slice a l.length c) ∧ Reads (fun b => w.heap.size ≤ b ∧ b < u.heap.size) u (.slice a l.length c) (strs l) ∧ Below w.heap.size w u
theorem isL_own {B : Nat} {w u : World} {q : Value} {n : Nat} {l : List (List UInt8)} (ho : u.ownsRow B 9 1 q n (strs l)) (hn : l.length = n) (hb : Below w.heap.size w u) (hB : w.heap.size ≤ B := by omega) : IsL w l (.returned q) u := by
  have hr := (Reads.of_owns ho).there
  rcases ho.2 with ⟨rfl, h0⟩ | ⟨g, cap, cur, rfl, _⟩
  · subst h0
    exact ⟨none, 0, by rw [hn], by rw [hn]; exact hr.mono fun g hg => ⟨Nat.le_trans hB hg.1.1, hg.2⟩, hb⟩
  · subst hn
    exact ⟨_, cap, rfl, hr.mono fun g hg => ⟨Nat.le_trans hB hg.1.1, hg.2⟩, hb⟩
theorem below_own {B : Nat} {w u u' : World} {e : TypeId} {size n : Nat} {v : Value} {xs : List Value} {B' : Nat} (h : Below B w u) (hs : B ≤ u.heap.size) (ho : u.ownsRow B' e size v n xs) (hB : B ≤ B') (hg : u.grownBy u' v.ownBlock) : Below B w u' :=
  h.grown hg hs fun j hj => Nat.le_trans hB (ho.lt j hj).1
theorem dpt_take (l : List Nr) (s : List UInt8) (k : Nat) (h : k < l.length) : dptM (ndL (l.take (k + 1))) s = dptM (ndL (l.take k)) s ++ (if s ∈ (l.getD k r0).ds then [(l.getD k r0).nm] else []) := by
  rw [take_succ_getD l r0 k h]
  unfold dptM
  simp only [ndL, List.map_append, List.filter_append]
  generalize l.getD k r0 = x
  congr 1
  by_cases hs : s ∈ x.ds
  · rw [if_pos hs]
    simp [List.filter_cons, hs]
  · rw [if_neg hs]
    simp [List.filter_cons, hs]
theorem dpt_len (l : List Nr) (s : List UInt8) : (dptM (ndL l) s).length ≤ l.length := by
  unfold dptM
  rw [List.length_map]
  exact Nat.le_trans (List.length_filter_le _ _) (by rw [List.length_map]; exact Nat.le_refl _)
section
variable {w : World} {la : Option Addr} {ln lc : Nat} {l : List Nr}
theorem refDpt_any (h : RdG (· < w.heap.size) w la ln lc l) (hb : ln ≤ 1000000) (s : List UInt8) :
    Calls Try.prog 30 #[gV la ln lc, .string (bs s)] w (IsL w (dptM (ndL l) s)) := by
  obtain ⟨i0, hi, hz0, hz1, hz2⟩ := info_parts infoStr
  obtain ⟨ll, q2, lm⟩ := h.len
  unfold maxLen at lm
  have hn : (ln : Int) ≤ 9223372036854775807 := by omega
  have q2 : (ln : Int) ≤ lc := by omega
  have hX := Whole.new w 29 (gC la ln lc)
  have hB := below_new w (.cells (gC la ln lc) 29)
  have hs : (w.alloc (.cells (gC la ln lc) 29)).heap.size = w.heap.size + 1 := by simp
  have HE := Lib.hid h
  have HL := Lib.hid ll
  clear h ll lm
  go_enter Try.func30, Try.ntmps30
  go_upto_region 1 with fail
  generalize w.alloc (.cells (gC la ln lc) 29) = W at *
  have HX := Lib.hid hX
  have HB := Lib.hid hB
  clear hX hB
  go_wp2_with fail
  go_loopw [5, 6] (fun v5 i wr => ∃ (k : Nat) (q : Value), k ≤ ln ∧ i = .int .i64 (k : Int) ∧ q = v5 ∧ Hid (wr.ownsRow (w.heap.size + 1) 9 1 q (dptM (ndL (l.take k)) s).length (strs (dptM (ndL (l.take k)) s))) ∧ Hid (Below W.heap.size W wr)) (fun _ i _ => ln - (intOf i).toNat)
  case atStart => exact ⟨0, _, by omega, rfl, rfl, Lib.hid (World.ownsRow_nil _ _ _ _), Lib.hid (Below.refl _ _)⟩
  case round =>
    obtain ⟨k, q, hk, rfl, rfl, HO, HF⟩ := hrel
    have X := HX.out.belowS HF.out
    have HB1 := Lib.hid (HB.out.trans (HF.out.mono HB.out.size))
    have c0 : wr.cell? ⟨w.heap.size, 0, none⟩ = some (.slice la ln lc) := X.cell 0
    have c6 := X.lt
    clear X
    by_cases hlt : k < ln
    · have hlt' : (k : Int) < ln := by omega
      have kl : k < l.length := by rw [HL.out]; exact hlt
      obtain ⟨g, off, rfl, q1, e1, e2⟩ := HE.out.at HB1.out hlt
      have hm := getD_mem_nr kl
      have HT := Lib.hid (dpt_take l s k kl)
      have HDL := Lib.hid (dpt_len (l.take k) s)
      have CI := Lib.hid (refIn_any (w := wr) (((HE.out.ok _ hm).keep (w' := wr) (fun g hg _ => HB1.out.block g hg)).mono fun g hg => Nat.lt_of_lt_of_le hg HB1.out.size) s)
      have hO := HO.out
      obtain ⟨D, hD⟩ : ∃ D, D = dptM (ndL (l.take k)) s := ⟨_, rfl⟩
      rw [← hD] at HT HDL hO
      have HO := Lib.hid hO
      clear hm hO hD
      generalize l.getD k r0 = x at *
      by_cases hx : s ∈ x.ds
      · rw [decide_eq_true hx] at CI
        have hT := HT.out
        rw [if_pos hx] at hT
        have HT := Lib.hid hT
        have hown := HO.out
        have hdl := HDL.out
        rw [List.length_take, Nat.min_eq_left (by omega)] at hdl
        have hnm : D.length + 1 ≤ maxLen := by unfold maxLen; omega
        have hn16 : (D.length + 1) * 16 ≤ 140737488355328 := by omega
        have hws : w.heap.size + 1 ≤ wr.heap.size := by have := HF.out.size; omega
        clear hT kl HDL hx hdl
        obtain ⟨Y, hY⟩ : ∃ Y, Y = bs x.nm := ⟨_, rfl⟩
        rw [← hY] at e1
        have HY := Lib.hid hY
        clear hY
        go_wp2_with (first
          | (go_at_call 24; (with_reducible refine CI.out.mono ?_); rintro e w1 ⟨rfl, rfl⟩)
          | (at_builtin; refine wpList_append_own _ rfl _ _ 32 rfl (w.heap.size + 1) 9 i0 (.string ⟨#[]⟩) 1 16 Try.underlying32 hi hz0 hz1 hz2 rfl (by decide) _ _ _ rfl (hown.alloc _) ⟨w1.heap.size, 0, none⟩ 1 1 [.string Y] rfl rfl ?c1 ?c2 hnm hn16 ?c5 ?_))
        case c1 =>
          intro j u hu
          cases j with
          | zero => simp at hu; subst hu; exact (Whole.new _ _ _).cell 0
          | succ j => simp at hu
        case c2 => intro u hu; simp at hu; subst hu; rfl
        case c5 => simp; omega
        intro v' w3 hown3 hgrow _
        have hb1 : Below w1.heap.size w1 (w1.alloc (.cells #[.string Y] 9)) := (Below.refl _ _).alloc (Nat.le_refl _) _
        have HF3 := Lib.hid (below_own (HF.out.trans (hb1.mono HF.out.size)) (by have := HF.out.size; simp; omega) (hown.alloc (.cells #[.string Y] 9)) (by omega) hgrow)
        have HO3 := Lib.hid (show w3.ownsRow (w.heap.size + 1) 9 1 v' (dptM (ndL (l.take (k + 1))) s).length (strs (dptM (ndL (l.take (k + 1))) s)) by
          rw [HT.out, List.length_append]
          have := hown3
          rw [HY.out] at this
          have e : strs (D ++ [x.nm]) = strs D ++ [.string (bs x.nm)] := by simp [strs]
          rw [e]
          exact this)
        clear hown hown3 hgrow hb1
        go_wp2_with fail
        go_roundw
        case rel => exact ⟨k + 1, v', by omega, by go_num, rfl, HO3, HF3⟩
        case measure => simp [intOf]; omega
      · rw [decide_eq_false hx] at CI
        have hT := HT.out
        rw [if_neg hx, List.append_nil] at hT
        have HO3 := Lib.hid (by have := HO.out; rw [← hT] at this; exact this : wr.ownsRow (w.heap.size + 1) 9 1 q (dptM (ndL (l.take (k + 1))) s).length (strs (dptM (ndL (l.take (k + 1))) s)))
        clear hT HT hx kl HDL
        go_wp2_with (go_at_call 24; (with_reducible refine CI.out.mono ?_); rintro e w1 ⟨rfl, rfl⟩)
        go_roundw
        case rel => exact ⟨k + 1, _, by omega, by go_num, rfl, HO3, HF⟩
        case measure => simp [intOf]; omega
    · obtain rfl : k = ln := by omega
      have ho := HO.out
      rw [List.take_of_length_le (by rw [HL.out]; exact Nat.le_refl _)] at ho
      have R := Lib.hid (isL_own (w := w) ho rfl HB1.out)
      clear ho
      go_wp2_with fail
      go_ret
      exact R.out
end
end Go.Proofs.Ytijcojidfallkaa.GF
