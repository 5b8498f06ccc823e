/-
  What is asked of one page: the program's and the reference's. Nothing here is a statement of the seed.
-/
import Derived.Test.YtkmjacpcpchjoaaPageRow
set_option linter.unusedSimpArgs false
set_option linter.unusedVariables false
namespace Go.Proofs.Ytkmjacpcpchjoaa.PF
open Go.RowKit PM PR

theorem isUsed_any (p : Pg) : Says Try.prog 61 #[pV p] (.bool (usedB p)) := by
  intro w
  cases hu : usedB p
  · have e := used_no.1 hu
    subst e
    clear hu
    show Calls _ _ #[pgV 0 false false 0 0] _ _
    go_enter Try.func61, Try.ntmps61
    go_wp2_with fail
    go_ret
    exact ⟨rfl, below_new _ _⟩
  · have hne : p ≠ zero := fun e => by rw [used_no.2 e] at hu; cases hu
    obtain ⟨st, ex, wr, ow, ep⟩ := p
    clear hu
    show Calls _ _ #[pgV st ex wr ow ep] _ _
    go_enter Try.func61, Try.ntmps61
    go_wp2_with fail
    all_goals (first | (go_ret; exact ⟨rfl, below_new _ _⟩) | (exfalso; apply hne; simp_all [zero]))
theorem ownedBy1_any (p : Pg) (o : Int) (b : Nat) (w : World) (h : Whole w b 38 #[.int .u16 o]) :
    Calls Try.prog 84 #[pV p, .pointer (some ⟨b, 0, none⟩)] w fun e w' => e = .returned (.bool (ownB o p)) ∧ Below w.heap.size w w' := by
  have hc := h.cell 0
  have hb := h.lt
  obtain ⟨st, ex, wr, ow, ep⟩ := p
  show Calls _ _ #[pgV st ex wr ow ep, _] _ _
  simp only [List.getElem?_toArray, List.getElem?_cons_zero] at hc
  have HH := Lib.hid h
  clear h
  go_enter Try.func84, Try.ntmps84
  go_wp2_with fail
  go_ret
  exact ⟨by unfold ownB; rfl, below_new _ _⟩
theorem reads_any (p : Pg) (e : Int) : Says Try.prog 49 #[pV p, .int .u64 e] (.bool (seenB p e)) := by
  intro w
  obtain ⟨st, ex, wr, ow, ep⟩ := p
  show Calls _ _ #[pgV st ex wr ow ep, _] _ _
  by_cases h2 : st = 2
  · subst h2
    go_enter Try.func49, Try.ntmps49
    go_wp2_with fail
    go_ret
    exact ⟨by simp [seenB], below_new _ _⟩
  · by_cases h3 : st = 3
    · subst h3
      go_enter Try.func49, Try.ntmps49
      go_wp2_with fail
      go_ret
      exact ⟨by simp [seenB], below_new _ _⟩
    · have h2' : (st == 2) = false := by simpa using h2
      have h3' : (st == 3) = false := by simpa using h3
      go_enter Try.func49, Try.ntmps49
      go_wp2_with fail
      go_ret
      exact ⟨by simp [seenB, h2, h3], below_new _ _⟩
theorem refSeen_any (p : Pg) (e : Int) : Says Try.prog 82 #[pV p, .int .u64 e] (.bool (seenB p e)) := by
  intro w
  obtain ⟨st, ex, wr, ow, ep⟩ := p
  show Calls _ _ #[pgV st ex wr ow ep, _] _ _
  go_enter Try.func82, Try.ntmps82
  go_wp2_with fail
  all_goals (go_ret; exact ⟨by simp [seenB, *], below_new _ _⟩)
theorem refReads_any (p : Pg) (e : Int) : Says Try.prog 74 #[pV p, .int .u64 e] (.bool (seenB p e)) := by
  intro w
  have C := Lib.hid (refSeen_any p e)
  generalize seenB p e = r at *
  obtain ⟨st, ex, wr, ow, ep⟩ := p
  change Hid (Says _ _ #[pgV st ex wr ow ep, _] _) at C
  show Calls _ _ #[pgV st ex wr ow ep, _] _ _
  have hb := below_new w (.cells #[.int .u8 st, .bool ex, .bool wr, .int .u16 ow, .int .u64 ep] 69)
  go_enter Try.func74, Try.ntmps74
  go_wp2_with (go_at_call 82; refine (inw C.out w _ hb).mono ?_; rintro e w1 ⟨rfl, hb⟩)
  go_ret
  exact ⟨rfl, hb⟩
theorem runs_any (p : Pg) (e : Int) : Says Try.prog 48 #[pV p, .int .u64 e] (.bool (runsB p e)) := by
  intro w
  have C := Lib.hid (reads_any p e)
  unfold runsB
  cases hs : seenB p e
  all_goals
    rw [hs] at C
    clear hs
    obtain ⟨st, ex, wr, ow, ep⟩ := p
    change Hid (Says _ _ #[pgV st ex wr ow ep, _] _) at C
    show Calls _ _ #[pgV st ex wr ow ep, _] _ _
    have hb := below_new w (.cells #[.int .u8 st, .bool ex, .bool wr, .int .u16 ow, .int .u64 ep] 69)
    go_enter Try.func48, Try.ntmps48
    go_wp2_with (go_at_call 49; refine (C.out _).mono ?_; rintro e w1 ⟨rfl, hb1⟩; obtain ⟨hc, hf⟩ := bcell hb1)
    go_ret
    exact ⟨by simp, below_of hb hb1⟩
theorem refRuns_any (p : Pg) (e : Int) : Says Try.prog 73 #[pV p, .int .u64 e] (.bool (runsB p e)) := by
  intro w
  have C := Lib.hid (refSeen_any p e)
  unfold runsB
  cases hs : seenB p e
  all_goals
    rw [hs] at C
    clear hs
    obtain ⟨st, ex, wr, ow, ep⟩ := p
    change Hid (Says _ _ #[pgV st ex wr ow ep, _] _) at C
    show Calls _ _ #[pgV st ex wr ow ep, _] _ _
    have hb := below_new w (.cells #[.int .u8 st, .bool ex, .bool wr, .int .u16 ow, .int .u64 ep] 69)
    go_enter Try.func73, Try.ntmps73
    go_wp2_with (go_at_call 82; refine (C.out _).mono ?_; rintro e w1 ⟨rfl, hb1⟩; obtain ⟨hc, hf⟩ := bcell hb1)
    go_ret
    exact ⟨by simp, below_of hb hb1⟩
theorem writes_any (p : Pg) (e o : Int) : Says Try.prog 51 #[pV p, .int .u64 e, .int .u16 o] (.bool (writesB p e o)) := by
  intro w
  have C := Lib.hid (reads_any p e)
  unfold writesB
  cases hs : seenB p e
  all_goals
    rw [hs] at C
    clear hs
    obtain ⟨st, ex, wr, ow, ep⟩ := p
    change Hid (Says _ _ #[pgV st ex wr ow ep, _] _) at C
    show Calls _ _ #[pgV st ex wr ow ep, _, _] _ _
    have hb := below_new w (.cells #[.int .u8 st, .bool ex, .bool wr, .int .u16 ow, .int .u64 ep] 69)
    go_enter Try.func51, Try.ntmps51
    go_wp2_with (go_at_call 49; refine (C.out _).mono ?_; rintro e w1 ⟨rfl, hb1⟩; obtain ⟨hc, hf⟩ := bcell hb1)
    all_goals (go_ret; exact ⟨by (first | (simp_all [eq_comm]; done) | (simp_all [eq_comm]; rfl)), below_of hb hb1⟩)
theorem refWrites_any (p : Pg) (e o : Int) : Says Try.prog 57 #[pV p, .int .u64 e, .int .u16 o] (.bool (writesB p e o)) := by
  intro w
  have C := Lib.hid (refSeen_any p e)
  unfold writesB
  cases hs : seenB p e
  all_goals
    rw [hs] at C
    clear hs
    obtain ⟨st, ex, wr, ow, ep⟩ := p
    change Hid (Says _ _ #[pgV st ex wr ow ep, _] _) at C
    show Calls _ _ #[pgV st ex wr ow ep, _, _] _ _
    have hb := below_new w (.cells #[.int .u8 st, .bool ex, .bool wr, .int .u16 ow, .int .u64 ep] 69)
    go_enter Try.func57, Try.ntmps57
    go_wp2_with (go_at_call 82; refine (C.out _).mono ?_; rintro e w1 ⟨rfl, hb1⟩; obtain ⟨hc, hf⟩ := bcell hb1)
    all_goals (go_ret; exact ⟨by (first | (simp_all [eq_comm]; done) | (simp_all [eq_comm]; rfl)), below_of hb hb1⟩)
theorem unless_any (n : Nat) (w : World) : Calls Try.prog 66 #[.int .i64 (n : Int)] w fun e w' => e = .returned (.int .i64 (if n = 0 then 8 else 0)) ∧ w = w' := by
  by_cases h : n = 0
  · subst h
    rw [if_pos rfl]
    show Calls _ _ #[.int .i64 0] _ _
    go_enter Try.func66, Try.ntmps66
    go_wp2_with fail
    go_ret
    exact ⟨rfl, rfl⟩
  · rw [if_neg h]
    have h' : ((n : Int) == 0) = false := by simp; omega
    clear h
    generalize (n : Int) = x at *
    go_enter Try.func66, Try.ntmps66
    go_wp2_with fail
    go_ret
    exact ⟨rfl, rfl⟩
end Go.Proofs.Ytkmjacpcpchjoaa.PF
