/-
  Pages staged: the program's. Nothing here is a statement of the seed.
-/
import Derived.Test.YtkmjacpcpchjoaaPageUsed
set_option linter.unusedSimpArgs false
set_option linter.unusedVariables false
namespace Go.Proofs.Ytkmjacpcpchjoaa.PF
open Go.RowKit PM PR

/-- what a call of a table leaves -/
def Turns (g : Nat) (x : Int) (l' : List Pg) (w : World) (e : Ending) (w' : World) : Prop := e = .returned (.int .i64 x) ∧ Fr (fun i => i = g) w w' ∧ Row w' g l'
theorem stage_nil (a n o : Int) (w : World) : Calls Try.prog 32 #[.pointer none, .int .i64 a, .int .i64 n, .int .u16 o] w fun e w' => e = .returned (.int .i64 1) ∧ w = w' := by
  go_enter Try.func32, Try.ntmps32
  go_wp2_with fail
  go_ret
  exact ⟨rfl, rfl⟩
theorem stage_arg {p g : Nat} {l : List Pg} {w : World} (h : Tb w p g l) (a n o : Int) (hx : o = 0 ∨ n < 1) : Calls Try.prog 32 #[.pointer (some ⟨p, 0, none⟩), .int .i64 a, .int .i64 n, .int .u16 o] w fun e w' => e = .returned (.int .i64 2) ∧ w = w' := by
  clear h
  by_cases ho : o = 0
  · subst ho
    clear hx
    go_enter Try.func32, Try.ntmps32
    go_wp2_with fail
    go_ret
    exact ⟨rfl, rfl⟩
  · have ho' : (o == 0) = false := by simpa using ho
    have hn : n < 1 := by omega
    clear hx ho
    go_enter Try.func32, Try.ntmps32
    go_wp2_with fail
    go_ret
    exact ⟨rfl, rfl⟩
theorem stage_range {p g : Nat} {l : List Pg} {w : World} (h : Tb w p g l) (a n o : Int) (ho : o ≠ 0) (hn : 1 ≤ n ∧ n ≤ 9223372036854775807) (hx : a < 0 ∨ (l.length : Int) - n < a) :
    Calls Try.prog 32 #[.pointer (some ⟨p, 0, none⟩), .int .i64 a, .int .i64 n, .int .u16 o] w fun e w' => e = .returned (.int .i64 11) ∧ w = w' := by
  have CL := Lib.hid (len_tb h)
  have h256 := h.1
  clear h
  generalize l.length = m at *
  have ho' : (o == 0) = false := by simpa using ho
  obtain ⟨hn1, hn2⟩ := hn
  clear ho
  by_cases h0 : a < 0
  · clear hx
    go_enter Try.func32, Try.ntmps32
    go_wp2_with fail
    go_ret
    exact ⟨rfl, rfl⟩
  · have h1 : (m : Int) - n < a := by omega
    have h0' : 0 ≤ a := by omega
    clear hx
    have hm0 : (0 : Int) ≤ m := by omega
    have hm1 : (m : Int) ≤ 256 := by omega
    go_enter Try.func32, Try.ntmps32
    go_wp2_with (go_at_call 20; refine CL.out.mono ?_; rintro e w1 ⟨rfl, rfl⟩)
    go_ret
    exact ⟨rfl, rfl⟩
set_option maxHeartbeats 2000000 in
theorem stage_there {p g : Nat} {l : List Pg} {w : World} (h : Tb w p g l) (A N : Nat) (o : Int) (ho : o ≠ 0) (hn : 1 ≤ N) (hAN : A + N ≤ l.length) (q1 q2 : Bool) (h1 : ((l.drop A).take N).any usedB = q1) (h2 : l.any (ownB o) = q2) :
    Calls Try.prog 32 #[.pointer (some ⟨p, 0, none⟩), .int .i64 (A : Int), .int .i64 (N : Int), .int .u16 o] w (Turns g (if (q1 || q2) = true then 9 else 0) (if (q1 || q2) = true then l else fill l A N (stg o)) w) := by
  obtain ⟨c, h256, hlc, hcm, hcell⟩ := h.cell
  obtain ⟨glt, plt, hpg⟩ := h.lt
  have CL := Lib.hid (len_tb h)
  have HP := Lib.hid (Row.part h.row A N hAN)
  have HQ := Lib.hid (Row.piece h.row)
  have HR := Lib.hid h.row
  have hlt1 : ((l.drop A).take N).length = N := by rw [List.length_take, List.length_drop]; omega
  have C1 := Lib.hid (fun cp u (hb : Below w.heap.size w u) => containsUsed ((l.drop A).take N) g (A * 5) cp u (by omega) (by have := hb.size; omega) (HP.out.below hb glt))
  have C2 := Lib.hid (fun b cp u (hb : Below w.heap.size w u) (hB : Whole u b 38 #[.int .u16 o]) => containsOwned l o b g 0 cp u h256 (by have := hb.size; omega) (HQ.out.below hb glt) hB)
  rw [hlt1] at C1
  have HT := Lib.hid h
  clear h hlt1
  rw [h1] at C1
  rw [h2] at C2
  clear h1 h2
  generalize hm : l.length = m at *
  have HM := Lib.hid hm
  clear hm
  have ho' : (o == 0) = false := by simpa using ho
  have HO := Lib.hid ho
  clear ho
  unfold maxLen at hcm
  have hN1 : (1 : Int) ≤ N := by omega
  have hA0 : (0 : Int) ≤ A := by omega
  have hNm : (A : Int) + N ≤ m := by omega
  have hm1 : (m : Int) ≤ 256 := by omega
  have hmc : (m : Int) ≤ c := by omega
  have hAc : c ≠ A := by omega
  have hAN' : A + N - A = N := by omega
  have hbd : Below w.heap.size w w.drew := (Below.refl _ _).drew
  have hcd : w.drew.cell? ⟨p, 0, none⟩ = some (.slice (some ⟨g, 0, none⟩) m c) := hcell
  cases q1
  · cases q2
    · show Calls _ _ _ _ (Turns g 0 (fill l A N (stg o)) w)
      go_enter Try.func32, Try.ntmps32
      go_wp2_with (go_at_call 20; refine CL.out.mono ?_; rintro e w1 ⟨rfl, rfl⟩)
      rw [hAN']
      first
        | (go_region_held3 (fun u => u.cell? ⟨p, 0, none⟩ = some (.slice (some ⟨g, 0, none⟩) m c) ∧ Below w.heap.size w u)
        (first | with_reducible exact ⟨e4, hw4⟩ | with_reducible exact ⟨e3, hw3⟩ | with_reducible exact ⟨e2, hw2⟩ | with_reducible exact ⟨hcd, hbd⟩)
        (first | (go_at_call 60; (with_reducible refine (C1.out _ _ hbd).mono ?_); rintro e w2 ⟨rfl, hb2⟩; have hw2 : Below w.heap.size w w2 := hbd.trans hb2; have e2 := (hw2.cell (p := ⟨p, 0, none⟩) plt).trans hcell; clear hb2) | (go_at_call 62; (with_reducible refine (ownedBy_any o _).mono ?_); rintro e w3 ⟨rfl, hw⟩; have HW3 := Lib.hid hw; have hw3 : Below w.heap.size w w3 := (by rw [hw]; exact hw2.alloc hw2.size _); have e3 := (hw3.cell (p := ⟨p, 0, none⟩) plt).trans hcell; clear hw) | (go_at_call 60; (with_reducible refine (C2.out _ _ _ hw3 (by rw [HW3.out]; exact Whole.new _ _ _)).mono ?_); rintro e w4 ⟨rfl, hb4⟩; have hw4 := below_of hw3 hb4; have e4 := (hw4.cell (p := ⟨p, 0, none⟩) plt).trans hcell; clear hb4)))
        | fail
      rename_i hHeld
      clear hHeld
      clear e2 e3 e4
      go_wp2_with fail
      go_loopw [51] (fun i wr => ∃ k : Nat, k ≤ N ∧ i = .int .i64 (k : Int) ∧ Fr (fun i => i = g) w wr ∧ Hid (Row wr g (fill l A k (stg o)))) (fun i _ => N - (intOf i).toNat)
      case atStart => exact ⟨0, by omega, rfl, Fr.of_below hw4, Lib.hid (by rw [fill_zero]; exact HR.out.belowS hw4)⟩
      case round =>
        obtain ⟨k, hk, rfl, hfr, hrow⟩ := hrel
        by_cases hlt : k < N
        · have hlt' : (k : Int) < N := by omega
          have hk0 : (0 : Int) ≤ k := by omega
          have hkl : A + k < (fill l A k (stg o)).length := by rw [fill_len, HM.out]; omega
          obtain ⟨⟨v0, v1, v2, v3, v4, g0, g1, g2, g3, g4⟩, f0, f1, f2, f3, f4⟩ := hrow.out.there hkl
          rw [Nat.add_mul] at g0 g1 g2 g3 g4 f0 f1 f2 f3 f4
          have P := Lib.hid (hrow.out.put hkl (stg o))
          rw [fill_set (by rw [HM.out]; omega), Nat.add_mul] at P
          have hF := Lib.hid (hfr.put (g := g) (Or.inl rfl) (A * 5 + k * 5) 1 false false o 0)
          clear hkl
          go_wp2_with fail
          rw [put_eq]
          clear g0 g1 g2 g3 g4 f0 f1 f2 f3 f4
          go_roundw
          case rel => exact ⟨k + 1, by omega, by go_num, hF.out, P⟩
          case measure => simp [intOf]; omega
        · obtain rfl : k = N := by omega
          go_wp2_with fail
          go_ret
          exact ⟨rfl, hfr, hrow.out⟩
    · show Calls _ _ _ _ (Turns g 9 l w)
      go_enter Try.func32, Try.ntmps32
      go_wp2_with (go_at_call 20; refine CL.out.mono ?_; rintro e w1 ⟨rfl, rfl⟩)
      rw [hAN']
      first
        | (go_region_held3 (fun u => u.cell? ⟨p, 0, none⟩ = some (.slice (some ⟨g, 0, none⟩) m c) ∧ Below w.heap.size w u)
        (first | with_reducible exact ⟨e4, hw4⟩ | with_reducible exact ⟨e3, hw3⟩ | with_reducible exact ⟨e2, hw2⟩ | with_reducible exact ⟨hcd, hbd⟩)
        (first | (go_at_call 60; (with_reducible refine (C1.out _ _ hbd).mono ?_); rintro e w2 ⟨rfl, hb2⟩; have hw2 : Below w.heap.size w w2 := hbd.trans hb2; have e2 := (hw2.cell (p := ⟨p, 0, none⟩) plt).trans hcell; clear hb2) | (go_at_call 62; (with_reducible refine (ownedBy_any o _).mono ?_); rintro e w3 ⟨rfl, hw⟩; have HW3 := Lib.hid hw; have hw3 : Below w.heap.size w w3 := (by rw [hw]; exact hw2.alloc hw2.size _); have e3 := (hw3.cell (p := ⟨p, 0, none⟩) plt).trans hcell; clear hw) | (go_at_call 60; (with_reducible refine (C2.out _ _ _ hw3 (by rw [HW3.out]; exact Whole.new _ _ _)).mono ?_); rintro e w4 ⟨rfl, hb4⟩; have hw4 := below_of hw3 hb4; have e4 := (hw4.cell (p := ⟨p, 0, none⟩) plt).trans hcell; clear hb4)))
        | fail
      rename_i hHeld
      clear hHeld
      clear e2 e3 e4
      go_wp2_with fail
      go_ret
      exact ⟨rfl, Fr.of_below hw4, HR.out.belowS hw4⟩
  · show Calls _ _ _ _ (Turns g 9 l w)
    go_enter Try.func32, Try.ntmps32
    go_wp2_with (go_at_call 20; refine CL.out.mono ?_; rintro e w1 ⟨rfl, rfl⟩)
    rw [hAN']
    refine wp_region_held_drew (S := fun u => Below w.heap.size w u) (by kernel_rfl) hbd (fun hHeld => ?_)
    refine wpAnyH_take (i := 0) (v := ?vv0) rfl (by kernel_rfl) (by kernel_rfl) (by kernel_rfl) (fun _ _ _ h => h) (Or.inl ⟨by rfl, ?hy0⟩) (by assumption) ?rest0
    case hy0 =>
      intro u hSu
      go_simp
      try with_reducible rfl
    try simp only [Act.put, List.getElem_toArray, List.getElem_cons_succ, List.getElem_cons_zero, List.setIfInBounds_toArray, List.set_cons_zero, List.set_cons_succ]
    refine wpAnyH_ready (rs := [1]) (by kernel_rfl) (by simp) ?_
    refine AllReadyH.cons rfl (fun K hK => ?_) AllReadyH.nil
    (go_simp; go_at_call 60; refine (C1.out _ _ hbd).mono ?_; rintro e w2 ⟨rfl, hb2⟩; have hw2 : Below w.heap.size w w2 := hbd.trans hb2)
    refine hK.out _ _ ?hS1 (fun hHeld => ?rest1)
    case hS1 => assumption
    clear hK K
    try simp only [Act.put, List.getElem_toArray, List.getElem_cons_succ, List.getElem_cons_zero, List.setIfInBounds_toArray, List.set_cons_zero, List.set_cons_succ]
    refine wpAnyH_take (i := 2) (v := ?vv2) rfl (by kernel_rfl) (by kernel_rfl) (by kernel_rfl) (fun _ _ _ h => h) (Or.inl ⟨by rfl, ?hy2⟩) (by assumption) ?rest2
    case hy2 =>
      intro u hSu
      go_simp
      try with_reducible rfl
    try simp only [Act.put, List.getElem_toArray, List.getElem_cons_succ, List.getElem_cons_zero, List.setIfInBounds_toArray, List.set_cons_zero, List.set_cons_succ]
    refine wpAnyH_take (i := 3) (v := undef) rfl (by kernel_rfl) (by kernel_rfl) (by kernel_rfl) (fun _ _ _ h => h) (Or.inr ⟨by rfl, rfl⟩) (by assumption) ?rest3
    try simp only [Act.put, List.getElem_toArray, List.getElem_cons_succ, List.getElem_cons_zero, List.setIfInBounds_toArray, List.set_cons_zero, List.set_cons_succ]
    refine wpAnyH_take (i := 4) (v := undef) rfl (by kernel_rfl) (by kernel_rfl) (by kernel_rfl) (fun _ _ _ h => h) (Or.inr ⟨by rfl, rfl⟩) (by assumption) ?rest4
    try simp only [Act.put, List.getElem_toArray, List.getElem_cons_succ, List.getElem_cons_zero, List.setIfInBounds_toArray, List.set_cons_zero, List.set_cons_succ]
    refine wpAnyH_take (i := 5) (v := undef) rfl (by kernel_rfl) (by kernel_rfl) (by kernel_rfl) (fun _ _ _ h => h) (Or.inr ⟨by rfl, rfl⟩) (by assumption) ?rest5
    try simp only [Act.put, List.getElem_toArray, List.getElem_cons_succ, List.getElem_cons_zero, List.setIfInBounds_toArray, List.set_cons_zero, List.set_cons_succ]
    refine wpAnyH_take (i := 6) (v := undef) rfl (by kernel_rfl) (by kernel_rfl) (by kernel_rfl) (fun _ _ _ h => h) (Or.inr ⟨by rfl, rfl⟩) (by assumption) ?rest6
    try simp only [Act.put, List.getElem_toArray, List.getElem_cons_succ, List.getElem_cons_zero, List.setIfInBounds_toArray, List.set_cons_zero, List.set_cons_succ]
    refine wpAnyH_take (i := 7) (v := undef) rfl (by kernel_rfl) (by kernel_rfl) (by kernel_rfl) (fun _ _ _ h => h) (Or.inr ⟨by rfl, rfl⟩) (by assumption) ?rest7
    try simp only [Act.put, List.getElem_toArray, List.getElem_cons_succ, List.getElem_cons_zero, List.setIfInBounds_toArray, List.set_cons_zero, List.set_cons_succ]
    refine wpAnyH_take (i := 8) (v := undef) rfl (by kernel_rfl) (by kernel_rfl) (by kernel_rfl) (fun _ _ _ h => h) (Or.inr ⟨by rfl, rfl⟩) (by assumption) ?rest8
    try simp only [Act.put, List.getElem_toArray, List.getElem_cons_succ, List.getElem_cons_zero, List.setIfInBounds_toArray, List.set_cons_zero, List.set_cons_succ]
    refine wpAnyH_take (i := 9) (v := undef) rfl (by kernel_rfl) (by kernel_rfl) (by kernel_rfl) (fun _ _ _ h => h) (Or.inr ⟨by rfl, rfl⟩) (by assumption) ?rest9
    try simp only [Act.put, List.getElem_toArray, List.getElem_cons_succ, List.getElem_cons_zero, List.setIfInBounds_toArray, List.set_cons_zero, List.set_cons_succ]
    refine wpAnyH_take (i := 10) (v := ?vv10) rfl (by kernel_rfl) (by kernel_rfl) (by kernel_rfl) (fun _ _ _ h => h) (Or.inl ⟨by rfl, ?hy10⟩) (by assumption) ?rest10
    case hy10 =>
      intro u hSu
      go_simp
      try with_reducible rfl
    try simp only [Act.put, List.getElem_toArray, List.getElem_cons_succ, List.getElem_cons_zero, List.setIfInBounds_toArray, List.set_cons_zero, List.set_cons_succ]
    refine wpAnyH_done (by kernel_rfl) ?_ _
    go_wp2_with fail
    go_ret
    exact ⟨rfl, Fr.of_below hw2, HR.out.belowS hw2⟩
theorem stage_tb {p g : Nat} {l : List Pg} {w : World} (h : Tb w p g l) (a n o : Int) (hn : n ≤ 9223372036854775807) :
    Calls Try.prog 32 #[.pointer (some ⟨p, 0, none⟩), .int .i64 a, .int .i64 n, .int .u16 o] w (Turns g (stageE l a n o) (stageL l a n o) w) := by
  by_cases h1 : o = 0 ∨ n < 1
  · have e : stageE l a n o = 2 := by unfold stageE; rw [if_pos h1]
    rw [show stageL l a n o = l by unfold stageL; rw [e]; rfl, e]
    exact (stage_arg h a n o h1).mono fun e w' ⟨he, hw⟩ => ⟨he, hw ▸ Fr.refl _ _, hw ▸ h.row⟩
  · by_cases h2 : a < 0 ∨ (l.length : Int) - n < a
    · have e : stageE l a n o = 11 := by unfold stageE; rw [if_neg h1, if_pos h2]
      rw [show stageL l a n o = l by unfold stageL; rw [e]; rfl, e]
      exact (stage_range h a n o (by omega) (by omega) h2).mono fun e w' ⟨he, hw⟩ => ⟨he, hw ▸ Fr.refl _ _, hw ▸ h.row⟩
    · obtain ⟨A, rfl⟩ := Int.eq_ofNat_of_zero_le (show 0 ≤ a by omega)
      obtain ⟨N, rfl⟩ := Int.eq_ofNat_of_zero_le (show 0 ≤ n by omega)
      have hth : ths l A N o = (((l.drop A).take N).any usedB || l.any (ownB o)) := rfl
      have C := stage_there h A N o (by omega) (by omega) (by omega) _ _ rfl rfl
      rw [← hth] at C
      cases ht : ths l A N o
      · have e : stageE l A N o = 0 := by unfold stageE; rw [if_neg h1, if_neg h2, ht]; rfl
        rw [show stageL l A N o = fill l A N (stg o) by unfold stageL; rw [e]; rfl, e]
        rw [ht] at C
        exact C
      · have e : stageE l A N o = 9 := by unfold stageE; rw [if_neg h1, if_neg h2, ht]; rfl
        rw [show stageL l A N o = l by unfold stageL; rw [e]; rfl, e]
        rw [ht] at C
        exact C
end Go.Proofs.Ytkmjacpcpchjoaa.PF
