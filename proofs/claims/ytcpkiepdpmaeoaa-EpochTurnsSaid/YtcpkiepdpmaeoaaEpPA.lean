/-
  The program's functions of layer 17: what makes, tells and copies a clock. Nothing here is a statement of the seed.
-/
import Derived.Test.YtcpkiepdpmaeoaaEpPT
import Derived.Maps.AppendAt
import Derived.Lib.SliceRun
import Derived.Deep.QuietTactic
import Derived.BigRegion
import Derived.ArgAppend
set_option linter.unusedSimpArgs false
set_option linter.unusedVariables false
namespace Go.Proofs.Ytcpkiepdpmaeoaa.EP
open Go.RowKit WM NR OM OR EM ER EF
set_option maxHeartbeats 4000000
set_option maxRecDepth 10000
theorem infoWp : (Try.prog.info? 52).map (fun i => (i.zero, i.size, i.bytes)) = some (some (.agg #[.int .u16 0, .int .u64 0]), 2, 16) := by kernel_rfl
theorem two_at {w : World} {b : Nat} {t : TypeId} {x0 x1 : Value} (h : Whole w b t #[x0, x1]) : w.cell? ⟨b, 0, none⟩ = some x0 ∧ w.cell? ⟨b, 1, none⟩ = some x1 := ⟨h.cell 0, h.cell 1⟩
/-- one more at the end of a clock's row: where it lies then -/
theorem rc_app {ty : TypeId} {S : Nat → Prop} {u : World} {wa : Option Addr} {wn wc : Nat} {l : List Wt} {x : Wt} {p : Addr} (hr : RowC S u wa wn wc l) (hc : ∀ j y, (wC [x])[j]? = some y → u.cell? (p.add j) = some y) (hm : wn + 1 ≤ 1000000) :
    ∃ a' c' u', (Builtin.append_ #[47, 47] ty #[.slice wa wn wc, .slice (some p) 1 1]).run Try.prog u = .ok (.slice a' (wn + 1) c') u' ∧ RowC (fun g => (S g ∨ u.heap.size ≤ g) ∧ g < u'.heap.size) u' a' (wn + 1) c' (l ++ [x]) ∧ ∃ r, u.grownBy u' r ∧ ∀ g, r = some g → S g ∧ ∃ cur, Whole u g 52 cur := by
  obtain ⟨i0, hi, hz0, hz1, hz2⟩ := info_split infoWp
  have hrd := hr.reads
  obtain ⟨h1, h2, h3, h4, h5⟩ := hr
  have hlen := wC_len l
  by_cases hcap : wn + 1 ≤ wc
  · rcases h5 with h5 | ⟨g, off, cur, rfl, hg, hw, hs, hcu⟩
    · omega
    · have hrun := run_append_room_cells (P := Try.prog) u 47 ty 52 i0 Try.underlying47 hi g off wn wc p 1 1 (wC [x]) (by rw [hz1]; rfl) hc (wC_one _) hcap
        (fun j hj => by
          rw [hz1, hw.cell]
          have : j < 2 := hj
          rw [Array.getElem?_eq_getElem (by omega)]; rfl) (fun j hj => hw.frozen _)
      rw [hz1] at hrun
      have hset := (hw.set_ (off + wn * 2) (.int .u16 x.ow)).set_ (off + wn * 2 + 1) (.int .u64 x.ep)
      refine ⟨_, wc, _, hrun, ⟨by rw [List.length_append, h1]; rfl, hcap, h3, (fun h => by cases h), Or.inr ⟨g, off, _, rfl, ⟨Or.inl hg, Whole.lt hset⟩, hset, by simpa using hs, fun j hj => ?_⟩⟩, some g, ?_, fun g' hg' => by
        obtain rfl := Option.some.inj hg'
        exact ⟨hg, cur, hw⟩⟩
      · rw [wC_append]
        by_cases hj2 : j < wn * 2
        · rw [List.getElem?_append_left (by omega), Array.getElem?_setIfInBounds_ne (by omega), Array.getElem?_setIfInBounds_ne (by omega)]
          exact hcu j hj2
        · rw [List.getElem?_append_right (by omega)]
          rcases (show j = wn * 2 ∨ j = wn * 2 + 1 by omega) with rfl | rfl
          · rw [Array.getElem?_setIfInBounds_ne (by omega), Array.getElem?_setIfInBounds_self_of_lt (by omega), hlen, h1, Nat.sub_self]
            rfl
          · rw [← Nat.add_assoc, Array.getElem?_setIfInBounds_self_of_lt (by rw [Array.size_setIfInBounds]; omega), hlen, h1, show wn * 2 + 1 - wn * 2 = 1 by omega]
            rfl
      · have a1 := grown_set u g (off + wn * 2) (.int .u16 x.ow)
        have a2 := grown_set (u.setCell ⟨g, off + wn * 2, none⟩ (.int .u16 x.ow)) g (off + wn * 2 + 1) (.int .u64 x.ep)
        exact ⟨a2.os.trans a1.os, a2.tape.trans a1.tape, a2.output.trans a1.output, Nat.le_trans a1.size a2.size, fun k hk hne => (a2.block k (Nat.lt_of_lt_of_le hk a1.size) hne).trans (a1.block k hk hne)⟩
  · have fin : ∀ {v' : Value} {u' : World}, u'.ownsRow u.heap.size 52 2 v' (wn + 1) (wC l ++ wC [x]) → u.grownBy u' none → ∃ a' c', v' = .slice a' (wn + 1) c' ∧ RowC (fun g => (S g ∨ u.heap.size ≤ g) ∧ g < u'.heap.size) u' a' (wn + 1) c' (l ++ [x]) := fun {v' u'} ho hgr => by
      obtain ⟨a', c', rfl, _⟩ := owns_le ho
      rw [← wC_append] at ho
      exact ⟨a', c', rfl, (RowC.of_owns ho).as (fun g hg hl => ⟨Or.inr hg.1, hl⟩) (fun _ _ _ => rfl)⟩
    cases wa with
    | none =>
      have := h4 rfl
      obtain rfl : wc = 0 := this
      obtain rfl : wn = 0 := by omega
      obtain rfl : l = [] := List.length_eq_zero_iff.1 h1
      obtain ⟨v', u', hrun, r1, r2, _⟩ := run_append_own (P := Try.prog) u u.heap.size 47 ty 52 i0 _ 2 16 Try.underlying47 hi hz0 hz1 hz2 rfl (by decide) (.slice none 0 0) 0 [] (World.ownsRow_nil u _ _ 2) p 1 1 (wC [x]) rfl hc (wC_one _) (by unfold maxLen; omega) (by omega) (Nat.le_refl _)
      obtain ⟨a', c', rfl, hR⟩ := fin r1 r2
      exact ⟨a', c', u', hrun, hR, none, r2, fun g hg => by cases hg⟩
    | some q =>
      obtain ⟨v', u', hrun, r1, r2⟩ := run_append_arg_grows (P := Try.prog) u 47 ty 52 i0 _ 2 16 Try.underlying47 hi hz0 hz1 hz2 rfl (by decide) q wn wc (wC l) (by rw [hlen, h1]) hrd.cells p 1 1 (wC [x]) rfl hc (by omega) (by unfold maxLen; omega) (by omega)
      obtain ⟨a', c', rfl, hR⟩ := fin r1 r2
      exact ⟨a', c', u', hrun, hR, none, r2, fun g hg => by cases hg⟩
theorem new_any (w : World) : Calls Try.prog 9 #[] w fun e u => ∃ v S, e = .returned v ∧ PT S u v c0 ∧ (∀ b, S b → w.heap.size ≤ b) ∧ Below w.heap.size w u := by
  go_enter Try.func9, Try.ntmps9
  go_wp2_with fail
  refine bodyPost_ret (v := .pointer (some ⟨w.heap.size, 0, none⟩)) (by simp [results, Try.results9, go_sem]) rfl ?_
  have bn := below_new w (.cells #[.int .u64 0, .slice none 0 0] 62)
  exact ⟨_, fun g => g = w.heap.size, rfl, ⟨_, _, _, _, rfl, Whole.new _ _ _, RowC.nil _ _, rfl, fun g hg => by subst hg; simp⟩, fun g hg => by omega, bn⟩
section
variable {S : Nat → Prop} {w : World} {v : Value} {c : Ck} {n : Nat}
theorem now_any (h : PT S w v c) (hg : Gd c n) (hn : n ≤ 1000) : Calls Try.prog 18 #[v] w fun e u => e = .returned (.int .u64 c.now) ∧ Below w.heap.size w u := by
  obtain ⟨a, wa, wn, wc, rfl, h⟩ := h
  obtain ⟨k0, k1⟩ := two_at h.hd
  have k6 := h.hd.lt
  clear h hg
  go_enter Try.func18, Try.ntmps18
  go_wp2_with fail
  go_ret
  exact ⟨rfl, Below.refl _ _⟩
theorem now_nil (w : World) : Calls Try.prog 18 #[.pointer none] w fun e u => e = .returned (.int .u64 0) ∧ Below w.heap.size w u := by
  go_enter Try.func18, Try.ntmps18
  go_wp2_with fail
  go_ret
  exact ⟨rfl, Below.refl _ _⟩
theorem ret_nil (w : World) (o : Int) : Calls Try.prog 17 #[.pointer none, .int .u16 o] w fun e u => ∃ x, e = .returned (.tuple #[.int .u64 x, .int .i64 1]) ∧ Below w.heap.size w u := by
  go_enter Try.func17, Try.ntmps17
  go_wp2_with fail
  exact bodyPost_ret (v := .tuple #[.int .u64 0, .int .i64 1]) (by simp [results, Try.results17, go_sem]) rfl ⟨_, rfl, Below.refl _ _⟩
theorem all_nil (w : World) : Calls Try.prog 29 #[.pointer none] w fun e u => e = .returned (.slice none 0 0) ∧ w = u := by
  go_enter Try.func29, Try.ntmps29
  go_wp2_with fail
  go_ret
  exact ⟨rfl, rfl⟩
theorem all_any {a : Nat} {wa : Option Addr} {wn wc : Nat} {x : Value} (h : Whole w a 62 #[x, .slice wa wn wc]) : Calls Try.prog 29 #[.pointer (some ⟨a, 0, none⟩)] w fun e u => e = .returned (.slice wa wn wc) ∧ w = u := by
  obtain ⟨k0, k1⟩ := two_at h
  have k6 := h.lt
  clear h
  go_enter Try.func29, Try.ntmps29
  go_wp2_with fail
  go_ret
  exact ⟨rfl, rfl⟩
/-- a clock's row, copied -/
theorem clone_any {G : Nat → Prop} {a : Option Addr} {n k : Nat} {l : List Wt} (h : ReadsW G w (.slice a n k) l) (hn : n ≤ 1000) :
    Calls Try.prog 28 #[.slice a n k] w fun e u => ∃ q, e = .returned q ∧ u.ownsRow w.heap.size 52 2 q n (wC l) ∧ Below w.heap.size w u := by
  obtain ⟨n1, m1, m2⟩ := h.len
  cases a with
  | none =>
    have hk : k = 0 := by
      obtain ⟨a', cap, e, _, _, h3, _⟩ := h
      simp only [Value.slice.injEq] at e
      obtain ⟨rfl, _, rfl⟩ := e
      exact h3 rfl
    have h0 : n = 0 := by omega
    subst hk h0
    obtain rfl : l = [] := List.length_eq_zero_iff.1 n1
    have hq : ∀ u, (binOp .eql 47 (.slice none 0 0) (.slice none 0 0)).run Try.prog u = .ok (.bool true) u := fun u => @Lib.run_eql_slice_nil Try.prog u 47 52 none 0 0 0 0 Try.underlying47
    go_enter Try.func28, Try.ntmps28
    go_wp2_with fail
    go_ret
    exact ⟨_, rfl, owns_nil _ _ _ _, Below.refl _ _⟩
  | some p =>
    have b5 := below_new w (.cells #[] 52)
    have hown0 := World.ownsRow_lit (e := 52) (base := w.heap.size) (size := 2) w #[] 0 (Nat.le_refl _) (by simp [maxLen]) rfl
    obtain ⟨v7, u7, hr7, ho7, hg7⟩ := app_row (ty := 47) (n := 0) (m := n) (c := k) (a := some p) infoWp Try.underlying47 rfl (by decide) b5.size hown0 (by rw [wC_len, n1]) (fun p' e => by
      obtain rfl := Option.some.inj e
      exact fun j u hj => by
        have := h.cells j u hj
        exact (b5.cell (World.block_lt_of_cell? w _ this)).trans this) (fun e => by cases e) (wC_one _) (by unfold maxLen; omega) (by omega)
    rw [Nat.zero_add] at ho7
    have HO := Lib.hid (show u7.ownsRow w.heap.size 52 2 v7 n (wC l) from ho7)
    have HB := Lib.hid (below_grown b5 b5.size hown0 (Nat.le_refl _) hg7)
    have hq : ∀ u, (binOp .eql 47 (.slice (some p) n k) (.slice none 0 0)).run Try.prog u = .ok (.bool false) u := fun u => @Lib.run_eql_slice_nil Try.prog u 47 52 (some p) n k 0 0 Try.underlying47
    clear h n1 m1 m2 hown0 ho7 hg7 b5
    go_enter Try.func28, Try.ntmps28
    go_wp2_with (at_builtin; refine Lib.wpList_append_run _ rfl _ _ _ _ rfl _ _ rfl rfl _ _ hr7 ?_)
    go_ret
    exact ⟨_, rfl, HO.out, HB.out⟩
theorem wait_nil (w : World) : Calls Try.prog 21 #[.pointer none] w fun e u => ∃ a c, e = .returned (.slice a 0 c) ∧ Below w.heap.size w u := by
  have CA := Lib.hid (all_nil w)
  have CC := Lib.hid (clone_any (ReadsW.nil (fun _ => True) w) (by omega))
  go_enter Try.func21, Try.ntmps21
  go_wp2_with (first | (go_at_call 29; (with_reducible refine CA.out.mono ?_); rintro e w1 ⟨rfl, rfl⟩) | (go_at_call 28; (with_reducible refine CC.out.mono ?_); rintro e w1 ⟨q, rfl, hq, hb⟩; have HQ := Lib.hid hq; have HB := Lib.hid hb; clear hq hb))
  go_ret
  obtain ⟨qa, qc, rfl, _⟩ := owns_le HQ.out
  exact ⟨_, _, rfl, HB.out⟩
theorem fork_nil (w : World) : Calls Try.prog 16 #[.pointer none] w fun e u => e = .returned (.pointer none) ∧ Below w.heap.size w u := by
  go_enter Try.func16, Try.ntmps16
  go_wp2_with fail
  go_ret
  exact ⟨rfl, Below.refl _ _⟩
theorem wait_any' (h : PT S w v c) (hg : Gd c n) (hn : n ≤ 1000) : Calls Try.prog 21 #[v] w fun e u => ∃ qa qc, e = .returned (.slice qa c.l.length qc) ∧ u.ownsRow w.heap.size 52 2 (.slice qa c.l.length qc) c.l.length (wC c.l) ∧ Below w.heap.size w u := by
  obtain ⟨a, wa, wn, wc, rfl, h⟩ := h
  have hr := h.row.reads
  have hl := h.row.1
  have CC := Lib.hid (clone_any hr (by have := hg.ln; omega))
  have HL := Lib.hid hl
  have CA := Lib.hid (all_any h.hd)
  have k6 := h.hd.lt
  clear h hg hr hl
  go_enter Try.func21, Try.ntmps21
  go_wp2_with (first | (go_at_call 29; (with_reducible refine CA.out.mono ?_); rintro e w1 ⟨rfl, rfl⟩) | (go_at_call 28; (with_reducible refine CC.out.mono ?_); rintro e w1 ⟨q, rfl, hq, hb⟩; have HQ := Lib.hid hq; have HB := Lib.hid hb; clear hq hb))
  go_ret
  obtain ⟨qa, qc, rfl, qle⟩ := owns_le HQ.out
  have hq := HQ.out
  rw [← HL.out] at hq ⊢
  exact ⟨qa, qc, rfl, hq, HB.out⟩
theorem wait_any (h : PT S w v c) (hg : Gd c n) (hn : n ≤ 1000) : Calls Try.prog 21 #[v] w fun e u => ∃ q, e = .returned q ∧ IsWt w.heap.size u q c.l ∧ Below w.heap.size w u := by
  refine (wait_any' h hg hn).mono ?_
  rintro e u ⟨qa, qc, rfl, hq, hb⟩
  have hrq := (ReadsW.of_owns hq).len
  exact ⟨_, rfl, ⟨qa, qc, rfl, hrq.2.1, hrq.2.2, Or.inr hq⟩, hb⟩
theorem fork_any (h : PT S w v c) (hg : Gd c n) (hn : n ≤ 1000) : Calls Try.prog 16 #[v] w fun e u => ∃ v' S', e = .returned v' ∧ PT S' u v' c ∧ (∀ b, S' b → w.heap.size ≤ b) ∧ Below w.heap.size w u := by
  have hd : Below w.heap.size w w.drew := (Below.refl _ _).drew
  have CC := Lib.hid (wait_any' (w := w.drew) (h.keep (u' := w.drew) (Nat.le_refl _) fun _ _ => rfl) hg hn)
  obtain ⟨a, wa, wn, wc, rfl, h⟩ := h
  obtain ⟨WN, hWN⟩ : ∃ q, c.l.length = q := ⟨_, rfl⟩
  rw [hWN] at CC
  have HWN := Lib.hid hWN
  have HH := Lib.hid (h.hd.belowS hd)
  have k6 := h.hd.lt
  clear h hg hWN
  obtain ⟨NOW, hNOW⟩ : ∃ q, c.now = q := ⟨_, rfl⟩
  have HNOW := Lib.hid hNOW
  rw [hNOW] at HH
  clear hNOW
  have K0 := two_at HH.out
  go_enter Try.func16, Try.ntmps16
  go_upto_region 3 with fail
  refine wp_region_held_drew (S := fun u => u.cell? ⟨a, 0, none⟩ = some (.int .u64 NOW) ∧ u.cell? ⟨a, 1, none⟩ = some (.slice wa wn wc)) (by kernel_rfl) K0 (fun hHeld => ?_)
  refine wpAnyH_take (i := 0) (v := ?evv0) rfl (by kernel_rfl) (by kernel_rfl) (by kernel_rfl) (fun _ _ _ h => h) (Or.inl ⟨by rfl, ?ehy0⟩) (by assumption) ?erest0
  case ehy0 =>
    intro u hSu
    obtain ⟨s0, s1⟩ := hSu
    go_simp
    try with_reducible rfl
  try simp only [Act.put, List.getElem_toArray, List.getElem_cons_succ, List.getElem_cons_zero, List.setIfInBounds_toArray, List.set_cons_zero, List.set_cons_succ]
  refine wpAnyH_take (i := 1) (v := ?evv1) rfl (by kernel_rfl) (by kernel_rfl) (by kernel_rfl) (fun _ _ _ h => h) (Or.inl ⟨by rfl, ?ehy1⟩) (by assumption) ?erest1
  case ehy1 =>
    intro u hSu
    obtain ⟨s0, s1⟩ := hSu
    go_simp
    try with_reducible rfl
  try simp only [Act.put, List.getElem_toArray, List.getElem_cons_succ, List.getElem_cons_zero, List.setIfInBounds_toArray, List.set_cons_zero, List.set_cons_succ]
  refine wpAnyH_take (i := 2) (v := ?evv2) rfl (by kernel_rfl) (by kernel_rfl) (by kernel_rfl) (fun _ _ _ h => h) (Or.inl ⟨by rfl, ?ehy2⟩) (by assumption) ?erest2
  case ehy2 =>
    intro u hSu
    obtain ⟨s0, s1⟩ := hSu
    go_simp
    try with_reducible rfl
  try simp only [Act.put, List.getElem_toArray, List.getElem_cons_succ, List.getElem_cons_zero, List.setIfInBounds_toArray, List.set_cons_zero, List.set_cons_succ]
  refine wpAnyH_take (i := 3) (v := ?evv3) rfl (by kernel_rfl) (by kernel_rfl) (by kernel_rfl) (fun _ _ _ h => h) (Or.inl ⟨by rfl, ?ehy3⟩) (by assumption) ?erest3
  case ehy3 =>
    intro u hSu
    obtain ⟨s0, s1⟩ := hSu
    go_simp
    try with_reducible rfl
  try simp only [Act.put, List.getElem_toArray, List.getElem_cons_succ, List.getElem_cons_zero, List.setIfInBounds_toArray, List.set_cons_zero, List.set_cons_succ]
  refine wpAnyH_take (i := 4) (v := ?evv4) rfl (by kernel_rfl) (by kernel_rfl) (by kernel_rfl) (fun _ _ _ h => h) (Or.inl ⟨by rfl, ?ehy4⟩) (by assumption) ?erest4
  case ehy4 =>
    intro u hSu
    obtain ⟨s0, s1⟩ := hSu
    go_simp
    try with_reducible rfl
  try simp only [Act.put, List.getElem_toArray, List.getElem_cons_succ, List.getElem_cons_zero, List.setIfInBounds_toArray, List.set_cons_zero, List.set_cons_succ]
  refine wpAnyH_ready (rs := [5]) (by kernel_rfl) (by simp) ?_
  refine AllReadyH.cons rfl (fun K hK => ?_) AllReadyH.nil
  (go_simp; go_at_call 21; (with_reducible refine CC.out.mono ?_); rintro e w1 ⟨qa, qk, rfl, hq, hb⟩; have HQ := Lib.hid hq; have HB := Lib.hid hb; have K1 := two_at (HH.out.belowS hb); have b3 := below_new w1 (.cells #[.int .u64 NOW, .slice qa WN qk] 62); have K3 := two_at ((HH.out.belowS hb).belowS b3); clear hq hb b3)
  refine hK.out _ _ ?ehS5 (fun hHeld => ?erest5)
  case ehS5 => first | exact K3 | exact K1
  clear hK K
  try simp only [Act.put, List.getElem_toArray, List.getElem_cons_succ, List.getElem_cons_zero, List.setIfInBounds_toArray, List.set_cons_zero, List.set_cons_succ]
  refine wpAnyH_take (i := 6) (v := ?evv6) rfl (by kernel_rfl) (by kernel_rfl) (by kernel_rfl) (fun _ _ _ h => h) (Or.inl ⟨by rfl, ?ehy6⟩) (by assumption) ?erest6
  case ehy6 =>
    intro u hSu
    obtain ⟨s0, s1⟩ := hSu
    go_simp
    try with_reducible rfl
  try simp only [Act.put, List.getElem_toArray, List.getElem_cons_succ, List.getElem_cons_zero, List.setIfInBounds_toArray, List.set_cons_zero, List.set_cons_succ]
  refine wpAnyH_ready (rs := [7]) (by kernel_rfl) (by simp) ?_
  refine AllReadyH.cons rfl (fun K hK => ?_) AllReadyH.nil
  go_simp
  refine hK.out _ _ ?ehS7 (fun hHeld => ?erest7)
  case ehS7 => first | exact K3 | exact K1
  clear hK K
  try simp only [Act.put, List.getElem_toArray, List.getElem_cons_succ, List.getElem_cons_zero, List.setIfInBounds_toArray, List.set_cons_zero, List.set_cons_succ]
  refine wpAnyH_take (i := 8) (v := ?evv8) rfl (by kernel_rfl) (by kernel_rfl) (by kernel_rfl) (fun _ _ _ h => h) (Or.inl ⟨by rfl, ?ehy8⟩) (by assumption) ?erest8
  case ehy8 =>
    intro u hSu
    obtain ⟨s0, s1⟩ := hSu
    go_simp
    try with_reducible rfl
  try simp only [Act.put, List.getElem_toArray, List.getElem_cons_succ, List.getElem_cons_zero, List.setIfInBounds_toArray, List.set_cons_zero, List.set_cons_succ]
  refine wpAnyH_done (by kernel_rfl) ?_ _
  clear K0 K1 K3 hHeld CC HH
  go_wp2_with fail
  refine bodyPost_ret (v := .pointer (some ⟨w1.heap.size, 0, none⟩)) (by simp [results, Try.results16, go_sem]) rfl ?_
  have b3 := below_new w1 (.cells #[.int .u64 NOW, .slice qa WN qk] 62)
  have hq := HQ.out
  have hbs := HB.out.size
  refine ⟨_, fun g => g = w1.heap.size ∨ (w.drew.heap.size ≤ g ∧ g < w1.heap.size), rfl, ⟨_, qa, WN, qk, rfl, ?_⟩, ?_, hd.trans ((HB.out.trans (b3.mono HB.out.size)).mono hd.size)⟩
  · refine ⟨?_, ((RowC.of_owns hq).as (fun g hg _ => Or.inr hg) (fun _ _ _ => rfl)).belowS b3, Or.inl rfl, fun g hg => ?_⟩
    · rw [HNOW.out]; exact Whole.new _ _ _
    · have hz : (w1.alloc (.cells #[.int .u64 NOW, .slice qa WN qk] 62)).heap.size = w1.heap.size + 1 := by simp
      rw [hz]
      rcases hg with rfl | hg <;> omega
  · intro g hg
    rcases hg with rfl | hg
    · exact hbs
    · exact hg.1
theorem ret_any (h : PT S w v c) (hg : Gd c n) (hn : n ≤ 1000) (o : Int) (ho : 0 ≤ o ∧ o ≤ 65535) : Calls Try.prog 17 #[v, .int .u16 o] w fun e u => e = .returned (.tuple #[.int .u64 (retV c), .int .i64 (retE c)]) ∧ Chg S w v (retC c o) u := by
  obtain ⟨a, wa, wn, wc, rfl, h⟩ := h
  obtain ⟨r1, r2, r3⟩ := ret_open hg hn o
  rw [r1, r2, r3]
  have hrow := h.row
  obtain ⟨hl, hlc, hlm, _⟩ := id hrow
  have hln := hg.ln
  have hnw := hg.now
  obtain ⟨NOW, hNOW⟩ : ∃ q, c.now = q := ⟨_, rfl⟩
  have hhd := h.hd
  rw [hNOW] at hnw hhd ⊢
  obtain ⟨L, hL⟩ : ∃ q, c.l = q := ⟨_, rfl⟩
  rw [hL] at hrow hl hln ⊢
  have hwr : IntKind.u64.wrap (NOW + 1) = NOW + 1 := by rw [IntKind.wrap_u64]; omega
  have hnf : ¬ (1099511627776 : Int) ≤ NOW := by omega
  have hwn : wn ≤ 1000 := by omega
  obtain ⟨k0, k1⟩ := two_at hhd
  have k6 := hhd.lt
  have kf0 := hhd.frozen 0
  have hd1 := hhd.set_ 0 (.int .u64 (NOW + 1))
  have ho1 := hrow.box (i := 0) hhd (by decide) (.int .u64 (NOW + 1))
  have HSA := Lib.hid h.sa
  have HLT := Lib.hid h.lt
  have HF1 := Lib.hid ((Fr.refl S w).set (p := ⟨a, 0, none⟩) (Or.inl h.sa) (.int .u64 (NOW + 1)))
  have HHD := Lib.hid (show Whole (w.setCell ⟨a, 0, none⟩ (.int .u64 (NOW + 1))) a 62 #[.int .u64 (NOW + 1), .slice wa wn wc] from hd1)
  have HRW := Lib.hid ho1
  have HSZ := Lib.hid (show (w.setCell ⟨a, 0, none⟩ (.int .u64 (NOW + 1))).heap.size = w.heap.size by simp)
  clear h hg hrow hhd hd1 ho1 hNOW hL r1 r2 r3 hl hlm hln
  go_enter Try.func17, Try.ntmps17
  go_upto_region 6 with fail
  clear k0 k1 k6 kf0
  generalize w.setCell ⟨a, 0, none⟩ (.int .u64 (NOW + 1)) = w1 at *
  have hbd0 : Below w1.heap.size w1 w1.drew := (Below.refl _ _).drew
  have hb6 : Below w1.heap.size w1 ((w1.alloc (.cells #[.int .u16 o, .int .u64 (NOW + 1)] 52)).drew) := (below_new w1 _).drew
  obtain ⟨a7, c7, u7, hr7, ho7, r7, hg7, hw7⟩ := rc_app (ty := 47) (u := (w1.alloc (.cells #[.int .u16 o, .int .u64 (NOW + 1)] 52)).drew) (x := ⟨o, NOW + 1⟩) (p := ⟨w1.heap.size, 0, none⟩) (HRW.out.belowS hb6) (fun j y hj => ((one_wt w1 ⟨o, NOW + 1⟩ 52).keep (w' := (w1.alloc (.cells #[.int .u16 o, .int .u64 (NOW + 1)] 52)).drew) (fun g _ _ => rfl)).cells j y hj) (by omega)
  have hd6 := HHD.out.belowS hb6
  have hne : ∀ g, r7 = some g → g ≠ a := fun g hg e => by
    obtain ⟨_, cur, hc⟩ := hw7 g hg
    exact Whole.ne_ hc hd6 (by decide) e
  have hd7 := whole_kept hd6 hg7 hne
  have K0 := (two_at (HHD.out.belowS hbd0)).1
  have y1 : w1.drew.cell? ⟨a, 1, none⟩ = some (.slice wa wn wc) := (two_at (HHD.out.belowS hbd0)).2
  have y0 : ((w1.alloc (.cells #[.int .u16 o, .int .u64 (NOW + 1)] 52)).drew).cell? ⟨a, 1, none⟩ = some (.slice wa wn wc) := (two_at hd6).2
  have K6 := (two_at hd6).1
  have K7 := (two_at hd7).1
  have x0 := (two_at hd7).2
  have x6 := hd7.lt
  have xf := hd7.frozen 1
  have K8 : (u7.setCell ⟨a, 1, none⟩ (.slice a7 (wn + 1) c7)).cell? ⟨a, 0, none⟩ = some (.int .u64 (NOW + 1)) := (hd7.set_ 1 (.slice a7 (wn + 1) c7)).cell 0
  have k6 := (HHD.out.belowS hbd0).lt
  have k6' := hd6.lt
  have hs1 : w1.heap.size ≤ u7.heap.size := Nat.le_trans hb6.size hg7.size
  have R : Hid (Chg S w (.pointer (some ⟨a, 0, none⟩)) ⟨NOW + 1, L ++ [⟨o, NOW + 1⟩]⟩ (u7.setCell ⟨a, 1, none⟩ (.slice a7 (wn + 1) c7))) := Lib.hid (by
    have hz := HSZ.out
    have hzz : (u7.setCell ⟨a, 1, none⟩ (.slice a7 (wn + 1) c7)).heap.size = u7.heap.size := by simp
    have hown := (ho7.box (i := 1) hd7 (by decide) (.slice a7 (wn + 1) c7)).as (S' := fun g => (S g ∨ w.heap.size ≤ g) ∧ g < u7.heap.size) (fun g hg hl => ⟨hg.1.imp id fun h => by have := hb6.size; omega, hg.2⟩) (fun _ _ _ => rfl)
    refine ⟨fun g => (S g ∨ w.heap.size ≤ g) ∧ g < u7.heap.size, ⟨a, a7, wn + 1, c7, rfl, hd7.set_ 1 _, hown, ⟨Or.inl HSA.out, x6⟩, fun g hg => by rw [hzz]; exact hg.2⟩, fun g hg => hg.1, ?_⟩
    have f1 : Fr S w ((w1.alloc (.cells #[.int .u16 o, .int .u64 (NOW + 1)] 52)).drew) := HF1.out.then hb6
    have f2 : Fr S w u7 := ⟨hg7.os.trans f1.os, hg7.tape.trans f1.tape, hg7.output.trans f1.output, Nat.le_trans f1.size hg7.size, fun k hk hs => (hg7.block k (Nat.lt_of_lt_of_le hk f1.size) (fun e => hs (hw7 k e.symm).1)).trans (f1.block k hk hs)⟩
    exact f2.set (p := ⟨a, 1, none⟩) (Or.inl HSA.out) _)
  clear HHD HRW hd6 hd7 ho7 hg7 hw7 hb6 hbd0 HF1 HSA HLT hne
  refine wp_region_held_drew (S := fun u => u.cell? ⟨a, 0, none⟩ = some (.int .u64 (NOW + 1))) (by kernel_rfl) K0 (fun hHeld => ?_)
  refine wpAnyH_take (i := 0) (v := ?qvv0) rfl (by kernel_rfl) (by kernel_rfl) (by kernel_rfl) (fun _ _ _ h => h) (Or.inl ⟨by rfl, ?qhy0⟩) (by assumption) ?qrest0
  case qhy0 =>
    intro u hSu
    have s0 := hSu
    go_simp
    try with_reducible rfl
  try simp only [Act.put, List.getElem_toArray, List.getElem_cons_succ, List.getElem_cons_zero, List.setIfInBounds_toArray, List.set_cons_zero, List.set_cons_succ]
  refine wpAnyH_take (i := 1) (v := ?qvv1) rfl (by kernel_rfl) (by kernel_rfl) (by kernel_rfl) (fun _ _ _ h => h) (Or.inl ⟨by rfl, ?qhy1⟩) (by assumption) ?qrest1
  case qhy1 =>
    intro u hSu
    have s0 := hSu
    go_simp
    try with_reducible rfl
  try simp only [Act.put, List.getElem_toArray, List.getElem_cons_succ, List.getElem_cons_zero, List.setIfInBounds_toArray, List.set_cons_zero, List.set_cons_succ]
  refine wpAnyH_take (i := 2) (v := ?qvv2) rfl (by kernel_rfl) (by kernel_rfl) (by kernel_rfl) (fun _ _ _ h => h) (Or.inl ⟨by rfl, ?qhy2⟩) (by assumption) ?qrest2
  case qhy2 =>
    intro u hSu
    have s0 := hSu
    go_simp
    try with_reducible rfl
  try simp only [Act.put, List.getElem_toArray, List.getElem_cons_succ, List.getElem_cons_zero, List.setIfInBounds_toArray, List.set_cons_zero, List.set_cons_succ]
  refine wpAnyH_take (i := 3) (v := ?qvv3) rfl (by kernel_rfl) (by kernel_rfl) (by kernel_rfl) (fun _ _ _ h => h) (Or.inl ⟨by rfl, ?qhy3⟩) (by assumption) ?qrest3
  case qhy3 =>
    intro u hSu
    have s0 := hSu
    go_simp
    try with_reducible rfl
  try simp only [Act.put, List.getElem_toArray, List.getElem_cons_succ, List.getElem_cons_zero, List.setIfInBounds_toArray, List.set_cons_zero, List.set_cons_succ]
  refine wpAnyH_take (i := 5) (v := ?qvv5) rfl (by kernel_rfl) (by kernel_rfl) (by kernel_rfl) (fun _ _ _ h => h) (Or.inl ⟨by rfl, ?qhy5⟩) (by assumption) ?qrest5
  case qhy5 =>
    intro u hSu
    have s0 := hSu
    go_simp
    try with_reducible rfl
  try simp only [Act.put, List.getElem_toArray, List.getElem_cons_succ, List.getElem_cons_zero, List.setIfInBounds_toArray, List.set_cons_zero, List.set_cons_succ]
  refine wpAnyH_take (i := 6) (v := ?qvv6) rfl (by kernel_rfl) (by kernel_rfl) (by kernel_rfl) (fun _ _ _ h => h) (Or.inl ⟨by rfl, ?qhy6⟩) (by assumption) ?qrest6
  case qhy6 =>
    intro u hSu
    have s0 := hSu
    go_simp
    try with_reducible rfl
  try simp only [Act.put, List.getElem_toArray, List.getElem_cons_succ, List.getElem_cons_zero, List.setIfInBounds_toArray, List.set_cons_zero, List.set_cons_succ]
  refine wpAnyH_take (i := 7) (v := ?qvv7) rfl (by kernel_rfl) (by kernel_rfl) (by kernel_rfl) (fun _ _ _ h => h) (Or.inl ⟨by rfl, ?qhy7⟩) (by assumption) ?qrest7
  case qhy7 =>
    intro u hSu
    have s0 := hSu
    go_simp
    try with_reducible rfl
  try simp only [Act.put, List.getElem_toArray, List.getElem_cons_succ, List.getElem_cons_zero, List.setIfInBounds_toArray, List.set_cons_zero, List.set_cons_succ]
  refine wpAnyH_take (i := 8) (v := ?qvv8) rfl (by kernel_rfl) (by kernel_rfl) (by kernel_rfl) (fun _ _ _ h => h) (Or.inl ⟨by rfl, ?qhy8⟩) (by assumption) ?qrest8
  case qhy8 =>
    intro u hSu
    have s0 := hSu
    go_simp
    try with_reducible rfl
  try simp only [Act.put, List.getElem_toArray, List.getElem_cons_succ, List.getElem_cons_zero, List.setIfInBounds_toArray, List.set_cons_zero, List.set_cons_succ]
  refine wpAnyH_take (i := 9) (v := ?qvv9) rfl (by kernel_rfl) (by kernel_rfl) (by kernel_rfl) (fun _ _ _ h => h) (Or.inl ⟨by rfl, ?qhy9⟩) (by assumption) ?qrest9
  case qhy9 =>
    intro u hSu
    have s0 := hSu
    go_simp
    try with_reducible rfl
  try simp only [Act.put, List.getElem_toArray, List.getElem_cons_succ, List.getElem_cons_zero, List.setIfInBounds_toArray, List.set_cons_zero, List.set_cons_succ]
  refine wpAnyH_take (i := 10) (v := ?qvv10) rfl (by kernel_rfl) (by kernel_rfl) (by kernel_rfl) (fun _ _ _ h => h) (Or.inl ⟨by rfl, ?qhy10⟩) (by assumption) ?qrest10
  case qhy10 =>
    intro u hSu
    have s0 := hSu
    go_simp
    try with_reducible rfl
  try simp only [Act.put, List.getElem_toArray, List.getElem_cons_succ, List.getElem_cons_zero, List.setIfInBounds_toArray, List.set_cons_zero, List.set_cons_succ]
  refine wpAnyH_ready (rs := [4, 11]) (by kernel_rfl) (by simp) ?_
  refine AllReadyH.cons rfl ?_ (AllReadyH.cons rfl ?_ AllReadyH.nil)
  · intro K hK
    go_simp
    refine hK.out _ _ K0 (fun hHeld => ?_)
    clear hK K
    try simp only [Act.put, List.getElem_toArray, List.getElem_cons_succ, List.getElem_cons_zero, List.setIfInBounds_toArray, List.set_cons_zero, List.set_cons_succ]
    refine wpAnyH_ready (rs := [11]) (by kernel_rfl) (by simp) ?_
    refine AllReadyH.cons rfl (fun K hK => ?_) AllReadyH.nil
    go_simp
    refine hK.out _ _ K6 (fun hHeld => ?_)
    clear hK K
    try simp only [Act.put, List.getElem_toArray, List.getElem_cons_succ, List.getElem_cons_zero, List.setIfInBounds_toArray, List.set_cons_zero, List.set_cons_succ]
    refine wpAnyH_ready (rs := [12]) (by kernel_rfl) (by simp) ?_
    refine AllReadyH.cons rfl (fun K hK => ?_) AllReadyH.nil
    refine Lib.wp_append_run _ _ _ _ _ rfl (.slice wa wn wc) (.slice (some ⟨w1.heap.size, 0, none⟩) 1 1) rfl rfl _ _ hr7 ?_
    refine hK.out _ _ K7 (fun hHeld => ?_)
    clear hK K
    try simp only [Act.put, List.getElem_toArray, List.getElem_cons_succ, List.getElem_cons_zero, List.setIfInBounds_toArray, List.set_cons_zero, List.set_cons_succ]
    refine wpAnyH_take (i := 13) (v := ?qavv13) rfl (by kernel_rfl) (by kernel_rfl) (by kernel_rfl) (fun _ _ _ h => h) (Or.inl ⟨by rfl, ?qahy13⟩) (by assumption) ?qarest13
    case qahy13 =>
      intro u hSu
      have s0 := hSu
      go_simp
      try with_reducible rfl
    try simp only [Act.put, List.getElem_toArray, List.getElem_cons_succ, List.getElem_cons_zero, List.setIfInBounds_toArray, List.set_cons_zero, List.set_cons_succ]
    refine wpAnyH_take (i := 14) (v := ?qavv14) rfl (by kernel_rfl) (by kernel_rfl) (by kernel_rfl) (fun _ _ _ h => h) (Or.inl ⟨by rfl, ?qahy14⟩) (by assumption) ?qarest14
    case qahy14 =>
      intro u hSu
      have s0 := hSu
      go_simp
      try with_reducible rfl
    try simp only [Act.put, List.getElem_toArray, List.getElem_cons_succ, List.getElem_cons_zero, List.setIfInBounds_toArray, List.set_cons_zero, List.set_cons_succ]
    refine wpAnyH_ready (rs := [15]) (by kernel_rfl) (by simp) ?_
    refine AllReadyH.cons rfl (fun K hK => ?_) AllReadyH.nil
    go_simp
    refine hK.out _ _ ?qahS15 (fun hHeld => ?qarest15)
    case qahS15 => exact K8
    clear hK K
    try simp only [Act.put, List.getElem_toArray, List.getElem_cons_succ, List.getElem_cons_zero, List.setIfInBounds_toArray, List.set_cons_zero, List.set_cons_succ]
    refine wpAnyH_done (by kernel_rfl) ?_ _
    clear K0 K6 K7 hr7 hHeld y0 y1
    have k0 := K8
    have k6 : a < (u7.setCell ⟨a, 1, none⟩ (.slice a7 (wn + 1) c7)).heap.size := by simpa using x6
    go_wp2_with fail
    exact bodyPost_ret (v := .tuple #[.int .u64 (NOW + 1), .int .i64 0]) (by simp [results, Try.results17, go_sem]) rfl ⟨rfl, R.out⟩
  · intro K hK
    go_simp
    refine hK.out _ _ K6 (fun hHeld => ?_)
    clear hK K
    try simp only [Act.put, List.getElem_toArray, List.getElem_cons_succ, List.getElem_cons_zero, List.setIfInBounds_toArray, List.set_cons_zero, List.set_cons_succ]
    refine wpAnyH_ready (rs := [4]) (by kernel_rfl) (by simp) ?_
    refine AllReadyH.cons rfl (fun K hK => ?_) AllReadyH.nil
    go_simp
    refine hK.out _ _ K6 (fun hHeld => ?_)
    clear hK K
    try simp only [Act.put, List.getElem_toArray, List.getElem_cons_succ, List.getElem_cons_zero, List.setIfInBounds_toArray, List.set_cons_zero, List.set_cons_succ]
    refine wpAnyH_ready (rs := [12]) (by kernel_rfl) (by simp) ?_
    refine AllReadyH.cons rfl (fun K hK => ?_) AllReadyH.nil
    refine Lib.wp_append_run _ _ _ _ _ rfl (.slice wa wn wc) (.slice (some ⟨w1.heap.size, 0, none⟩) 1 1) rfl rfl _ _ hr7 ?_
    refine hK.out _ _ K7 (fun hHeld => ?_)
    clear hK K
    try simp only [Act.put, List.getElem_toArray, List.getElem_cons_succ, List.getElem_cons_zero, List.setIfInBounds_toArray, List.set_cons_zero, List.set_cons_succ]
    refine wpAnyH_take (i := 13) (v := ?qbvv13) rfl (by kernel_rfl) (by kernel_rfl) (by kernel_rfl) (fun _ _ _ h => h) (Or.inl ⟨by rfl, ?qbhy13⟩) (by assumption) ?qbrest13
    case qbhy13 =>
      intro u hSu
      have s0 := hSu
      go_simp
      try with_reducible rfl
    try simp only [Act.put, List.getElem_toArray, List.getElem_cons_succ, List.getElem_cons_zero, List.setIfInBounds_toArray, List.set_cons_zero, List.set_cons_succ]
    refine wpAnyH_take (i := 14) (v := ?qbvv14) rfl (by kernel_rfl) (by kernel_rfl) (by kernel_rfl) (fun _ _ _ h => h) (Or.inl ⟨by rfl, ?qbhy14⟩) (by assumption) ?qbrest14
    case qbhy14 =>
      intro u hSu
      have s0 := hSu
      go_simp
      try with_reducible rfl
    try simp only [Act.put, List.getElem_toArray, List.getElem_cons_succ, List.getElem_cons_zero, List.setIfInBounds_toArray, List.set_cons_zero, List.set_cons_succ]
    refine wpAnyH_ready (rs := [15]) (by kernel_rfl) (by simp) ?_
    refine AllReadyH.cons rfl (fun K hK => ?_) AllReadyH.nil
    go_simp
    refine hK.out _ _ ?qbhS15 (fun hHeld => ?qbrest15)
    case qbhS15 => exact K8
    clear hK K
    try simp only [Act.put, List.getElem_toArray, List.getElem_cons_succ, List.getElem_cons_zero, List.setIfInBounds_toArray, List.set_cons_zero, List.set_cons_succ]
    refine wpAnyH_done (by kernel_rfl) ?_ _
    clear K0 K6 K7 hr7 hHeld y0 y1
    have k0 := K8
    have k6 : a < (u7.setCell ⟨a, 1, none⟩ (.slice a7 (wn + 1) c7)).heap.size := by simpa using x6
    go_wp2_with fail
    exact bodyPost_ret (v := .tuple #[.int .u64 (NOW + 1), .int .i64 0]) (by simp [results, Try.results17, go_sem]) rfl ⟨rfl, R.out⟩
end
end Go.Proofs.Ytcpkiepdpmaeoaa.EP
