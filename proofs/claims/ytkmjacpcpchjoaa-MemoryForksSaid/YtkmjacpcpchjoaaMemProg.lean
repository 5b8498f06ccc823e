/-
  The program's memory: what is asked of it, and what turns it. Nothing here is a statement of the seed.
-/
import Derived.Test.YtkmjacpcpchjoaaMemFind
set_option linter.unusedSimpArgs false
set_option linter.unusedVariables false
namespace Go.Proofs.Ytkmjacpcpchjoaa.MF
open Go.RowKit PM PR PF MM MR

section
variable {w : World} {p t g gw : Nat} {M : Mm}
theorem there_at {a : Int} (h : thereB M a = true) : 80 ≤ a ∧ (a - 80).toNat < M.ws.length := by
  unfold thereB at h
  rw [decide_eq_true_eq] at h
  omega
theorem find_there (h : Pm w p t g gw M) (a : Int) (ha : thereB M a = true) : Calls Try.prog 47 #[.pointer (some ⟨p, 0, none⟩), .int .u32 a] w fun e w' =>
    e = .returned (.tuple #[pV (pageAt M a), .pointer (some ⟨gw, (a - 80).toNat, none⟩)]) ∧ Below w.heap.size w w' := by
  obtain ⟨h0, h1⟩ := there_at ha
  obtain ⟨h2, h3, h4⟩ := there_page h.ok ha
  have C := find_yes h ((a - 80) / 16).toNat ((a - 80) % 16).toNat (by omega) (by omega)
  rw [show 80 + ((((a - 80) / 16).toNat : Int) * 16 + ((a - 80) % 16).toNat) = a by omega, show ((a - 80) / 16).toNat * 16 + ((a - 80) % 16).toNat = (a - 80).toNat by omega] at C
  rw [show M.pg.getD ((a - 80) / 16).toNat zero = pageAt M a by unfold pageAt gPm; rw [if_neg (by omega), h4]] at C
  exact C
theorem size_any (h : Pm w p t g gw M) : Calls Try.prog 17 #[.pointer (some ⟨p, 0, none⟩)] w fun e w' => e = .returned (.int .i64 (80 + (M.ws.length : Int))) ∧ w = w' := by
  obtain ⟨d, h4, hd1, hd2, c8, c9, _, _⟩ := h.cells
  clear h
  generalize M.ws.length = m at *
  have hm : (m : Int) ≤ 4096 := by omega
  have hm0 : (0 : Int) ≤ m := by omega
  go_enter Try.func17, Try.ntmps17
  go_wp2_with fail
  go_ret
  exact ⟨ret_int (by go_num), rfl⟩
theorem pages_any (h : Pm w p t g gw M) : Calls Try.prog 19 #[.pointer (some ⟨p, 0, none⟩)] w fun e w' => e = .returned (.pointer (some ⟨t, 0, none⟩)) ∧ w = w' := by
  obtain ⟨d, h4, hd1, hd2, c8, c9, _, _⟩ := h.cells
  clear h
  go_enter Try.func19, Try.ntmps19
  go_wp2_with fail
  go_ret
  exact ⟨rfl, rfl⟩
theorem gate_any (h : Pm w p t g gw M) (i : Int) : Calls Try.prog 25 #[.pointer (some ⟨p, 0, none⟩), .int .i64 i] w fun e w' => e = .returned (.int .u32 (gate M i)) ∧ w = w' := by
  obtain ⟨d, h4, hd1, hd2, c8, c9, ck, _⟩ := h.cells
  clear h
  have C := Lib.hid (fun w => isGate_any i w)
  unfold gate
  by_cases hi : 0 ≤ i ∧ i < 8
  · rw [if_neg (by omega)]
    rw [decide_eq_true hi] at C
    obtain ⟨k, rfl⟩ := Int.eq_ofNat_of_zero_le hi.1
    have hk := ck k (by omega)
    rw [show (k : Int).toNat = k from rfl]
    have hk1 : (k : Int) < 8 := hi.2
    have hk0 : (0 : Int) ≤ k := hi.1
    clear ck hi
    generalize M.gt k = x at *
    go_enter Try.func25, Try.ntmps25
    go_wp2_with (go_at_call 50; (with_reducible refine (C.out _).mono ?_); rintro e w1 ⟨rfl, rfl⟩)
    go_ret
    exact ⟨rfl, rfl⟩
  · rw [if_pos (by omega)]
    rw [decide_eq_false hi] at C
    clear ck hi
    go_enter Try.func25, Try.ntmps25
    go_wp2_with (go_at_call 50; (with_reducible refine (C.out _).mono ?_); rintro e w1 ⟨rfl, rfl⟩)
    go_ret
    exact ⟨rfl, rfl⟩
/-- a call turns a memory: its answer, the memory behind it, what else stays -/
def MTurns (p t g gw : Nat) (x : Value) (M' : Mm) (w : World) (e : Ending) (w' : World) : Prop := e = .returned x ∧ Fr (MS p g gw) w w' ∧ Pm w' p t g gw M'
theorem setGate_any (h : Pm w p t g gw M) (i b : Int) : Calls Try.prog 28 #[.pointer (some ⟨p, 0, none⟩), .int .i64 i, .int .u32 b] w (MTurns p t g gw (.int .i64 (setE i)) (setM M i b) w) := by
  obtain ⟨d, h4, hd1, hd2, c8, c9, ck, fk⟩ := h.cells
  have C := Lib.hid (fun w => isGate_any i w)
  have H := Lib.hid h
  unfold setM setE
  by_cases hi : 0 ≤ i ∧ i < 8
  · rw [if_neg (by omega), if_pos rfl]
    rw [decide_eq_true hi] at C
    obtain ⟨k, rfl⟩ := Int.eq_ofNat_of_zero_le hi.1
    have hk := ck k (by omega)
    have hf := fk k
    rw [show (k : Int).toNat = k from rfl]
    have hk1 : (k : Int) < 8 := hi.2
    have hk0 : (0 : Int) ≤ k := hi.1
    clear ck hi fk h
    have HP := Lib.hid (H.out.gate (k := k) (by omega) b)
    generalize setG M.gt k b = x at *
    go_enter Try.func28, Try.ntmps28
    go_wp2_with (go_at_call 50; (with_reducible refine (C.out _).mono ?_); rintro e w1 ⟨rfl, rfl⟩)
    go_ret
    exact ⟨rfl, (Fr.refl _ _).set (Or.inl (Or.inl rfl)) _, HP.out⟩
  · rw [if_pos (by omega), if_neg (by omega)]
    rw [decide_eq_false hi] at C
    clear ck hi fk h
    go_enter Try.func28, Try.ntmps28
    go_wp2_with (go_at_call 50; (with_reducible refine (C.out _).mono ?_); rintro e w1 ⟨rfl, rfl⟩)
    go_ret
    exact ⟨rfl, Fr.refl _ _, H.out⟩
theorem word_cell (h : Pm w p t g gw M) {a : Int} (ha : thereB M a = true) : w.cell? ⟨gw, (a - 80).toNat, none⟩ = some (.int .u32 (word M a)) ∧ w.frozen? ⟨gw, (a - 80).toNat, none⟩ = false :=
  ⟨h.wr.cell (there_at ha).2, h.wr.frozen _⟩
theorem peek_any (h : Pm w p t g gw M) (a : Int) (ha : 0 ≤ a ∧ a ≤ 4294967295) : Calls Try.prog 24 #[.pointer (some ⟨p, 0, none⟩), .int .u32 a] w fun e w' => e = .returned (.int .u32 (peek M a)) ∧ Below w.heap.size w w' := by
  obtain ⟨d, h4, hd1, hd2, c8, c9, ck, fk⟩ := h.cells
  have hgw := h.lt.2.2.2
  unfold peek
  obtain ⟨ha0, ha1⟩ := ha
  by_cases h1 : a < 64
  · rw [if_pos h1]
    have C := Lib.hid (slot_any a ⟨ha0, h1⟩)
    clear h ck fk
    generalize slotW a = x at *
    go_enter Try.func24, Try.ntmps24
    go_wp2_with (go_at_call 46; (with_reducible refine (C.out.at _).mono ?_); rintro e w1 ⟨rfl, hb⟩)
    go_ret
    exact ⟨rfl, hb⟩
  · rw [if_neg h1]
    by_cases h2 : a < 72
    · rw [if_pos h2]
      obtain ⟨k, rfl⟩ : ∃ k : Nat, a = 64 + k := ⟨(a - 64).toNat, by omega⟩
      rw [show ((64 + (k : Int)) - 64).toNat = k by omega]
      have hk := ck k (by omega)
      have hk1 : (k : Int) < 8 := by omega
      have hk0 : (0 : Int) ≤ k := by omega
      clear h ck fk h1 h2 ha0 ha1
      generalize M.gt k = x at *
      go_enter Try.func24, Try.ntmps24
      go_wp2_with fail
      go_ret
      exact ⟨rfl, Below.refl _ _⟩
    · rw [if_neg h2]
      cases ht : thereB M a
      · rw [if_neg (by decide)]
        have C := Lib.hid (find_no h a ⟨ha0, ha1⟩ ht)
        clear h ck fk ht
        go_enter Try.func24, Try.ntmps24
        go_wp2_with (go_at_call 47; (with_reducible refine C.out.mono ?_); rintro e w1 ⟨rfl, hb⟩)
        go_ret
        exact ⟨rfl, hb.trans (below_new _ _ |>.mono hb.size)⟩
      · rw [if_pos rfl]
        have C := Lib.hid (find_there h a ht)
        obtain ⟨cw, fw⟩ := word_cell h ht
        clear h ck fk ht
        generalize word M a = x at *
        generalize pageAt M a = q at *
        generalize (a - 80).toNat = k at *
        obtain ⟨st, ex, wr, ow, ep⟩ := q
        change Hid (Calls _ _ _ _ fun e w' => e = .returned (.tuple #[pgV st ex wr ow ep, _]) ∧ _) at C
        go_enter Try.func24, Try.ntmps24
        go_wp2_with (go_at_call 47; (with_reducible refine C.out.mono ?_); rintro e w1 ⟨rfl, hb⟩; have cw1 := (hb.cell (p := ⟨gw, k, none⟩) hgw).trans cw; have hl1 := Nat.lt_of_lt_of_le hgw hb.size)
        go_ret
        exact ⟨rfl, hb.trans (below_new _ _ |>.mono hb.size)⟩
end

section
variable {w : World} {p t g gw : Nat} {M : Mm}
theorem end_alloc' {w w' : World} {o : Obj} (h : Below (w.alloc o).heap.size (w.alloc o) w') : Below w.heap.size w w' := (below_new w o).trans (h.mono (by simp))
theorem set_end {w1 : World} (h : Pm w p t g gw M) {a : Int} (ha : thereB M a = true) (hb : Below w.heap.size w w1) (o : Obj) (x : Int) : Fr (MS p g gw) w ((w1.setCell ⟨gw, (a - 80).toNat, none⟩ (.int .u32 x)).alloc o) ∧ Pm ((w1.setCell ⟨gw, (a - 80).toNat, none⟩ (.int .u32 x)).alloc o) p t g gw (setW M a x) :=
  ⟨((Fr.of_below hb).set (Or.inl (Or.inr (Or.inr rfl))) _).alloc _, ((h.belowS hb).word (there_at ha).2 x).belowS (below_new _ _)⟩
theorem set_end2 {w1 w2 : World} (h : Pm w p t g gw M) {a : Int} (ha : thereB M a = true) (hb : Below w.heap.size w w1) (o : Obj) (hb2 : Below (w1.alloc o).heap.size (w1.alloc o) w2) (x : Int) : Fr (MS p g gw) w (w2.setCell ⟨gw, (a - 80).toNat, none⟩ (.int .u32 x)) ∧ Pm (w2.setCell ⟨gw, (a - 80).toNat, none⟩ (.int .u32 x)) p t g gw (setW M a x) :=
  ⟨(((Fr.of_below hb).alloc _).then hb2).set (Or.inl (Or.inr (Or.inr rfl))) _, (((h.belowS hb).belowS (below_new _ _)).belowS hb2).word (there_at ha).2 x⟩
theorem put_any (h : Pm w p t g gw M) (a x : Int) (ha : 0 ≤ a ∧ a ≤ 4294967295) : Calls Try.prog 27 #[.pointer (some ⟨p, 0, none⟩), .int .u32 a, .int .u32 x] w (MTurns p t g gw (.int .i64 (putE M a)) (putM M a x) w) := by
  have hgw := h.lt.2.2.2
  have H := Lib.hid h
  unfold putM putE
  cases ht : thereB M a
  · simp only [Bool.false_eq_true, if_false]
    have C := Lib.hid (find_no h a ha ht)
    rw [if_neg (by omega)]
    clear h ht
    go_enter Try.func27, Try.ntmps27
    go_wp2_with (go_at_call 47; (with_reducible refine C.out.mono ?_); rintro e w1 ⟨rfl, hb⟩)
    go_ret
    exact ⟨rfl, (Fr.of_below hb).alloc _, (H.out.belowS hb).belowS (below_new _ _)⟩
  · simp only [if_true]
    have C := Lib.hid (find_there h a ht)
    have E := Lib.hid (fun w1 hb o => set_end (w1 := w1) h ht hb o x)
    obtain ⟨cw, fw⟩ := word_cell h ht
    clear h ht
    generalize setW M a x = M' at *
    generalize word M a = y at *
    generalize pageAt M a = q at *
    generalize (a - 80).toNat = k at *
    obtain ⟨st, ex, wr, ow, ep⟩ := q
    change Hid (Calls _ _ _ _ fun e w' => e = .returned (.tuple #[pgV st ex wr ow ep, _]) ∧ _) at C
    show Calls _ _ _ _ (MTurns p t g gw (.int .i64 (if st = 1 then 0 else 9)) (if (if st = 1 then (0 : Int) else 9) = 0 then M' else M) w)
    by_cases hs : st = 1
    · subst hs
      rw [if_pos rfl, if_pos rfl]
      go_enter Try.func27, Try.ntmps27
      go_wp2_with (go_at_call 47; (with_reducible refine C.out.mono ?_); rintro e w1 ⟨rfl, hb⟩; have cw1 := (hb.cell (p := ⟨gw, k, none⟩) hgw).trans cw; have fw1 := (hb.frozen (p := ⟨gw, k, none⟩) hgw).trans fw; have hl1 := Nat.lt_of_lt_of_le hgw hb.size)
      go_ret
      exact ⟨rfl, E.out _ hb _⟩
    · rw [if_neg hs, if_neg (by omega)]
      have hs' : (st != 1) = true := by simpa using hs
      clear hs
      go_enter Try.func27, Try.ntmps27
      go_wp2_with (go_at_call 47; (with_reducible refine C.out.mono ?_); rintro e w1 ⟨rfl, hb⟩; have cw1 := (hb.cell (p := ⟨gw, k, none⟩) hgw).trans cw; have fw1 := (hb.frozen (p := ⟨gw, k, none⟩) hgw).trans fw; have hl1 := Nat.lt_of_lt_of_le hgw hb.size)
      go_ret
      exact ⟨rfl, (Fr.of_below hb).alloc _, (H.out.belowS hb).belowS (below_new _ _)⟩
theorem store_any (h : Pm w p t g gw M) (a x ep o : Int) (ha : 0 ≤ a ∧ a ≤ 4294967295) : Calls Try.prog 26 #[.pointer (some ⟨p, 0, none⟩), .int .u32 a, .int .u32 x, .int .u64 ep, .int .u16 o] w (MTurns p t g gw (.bool (stoB M a ep o)) (stoM M a x ep o) w) := by
  have hgw := h.lt.2.2.2
  have H := Lib.hid h
  unfold stoM stoB
  cases ht : thereB M a
  · simp only [Bool.false_and, Bool.false_eq_true, if_false]
    have C := Lib.hid (find_no h a ha ht)
    have CW := Lib.hid (writes_any zero ep o)
    rw [show writesB zero ep o = false from rfl] at CW
    change Hid (Says _ _ #[pgV 0 false false 0 0, _, _] _) at CW
    clear h ht
    go_enter Try.func26, Try.ntmps26
    go_wp2_with (first | (go_at_call 47; (with_reducible refine C.out.mono ?_); rintro e w1 ⟨rfl, hb⟩) | (go_at_call 51; (with_reducible refine (CW.out.at _).mono ?_); rintro e w2 ⟨rfl, hb2⟩))
    go_ret
    exact ⟨rfl, ((Fr.of_below hb).alloc _).then hb2, ((H.out.belowS hb).belowS (below_new _ _)).belowS hb2⟩
  · simp only [Bool.true_and]
    have C := Lib.hid (find_there h a ht)
    have CW := Lib.hid (writes_any (pageAt M a) ep o)
    have E := Lib.hid (fun w1 hb o w2 hb2 => set_end2 (w1 := w1) (w2 := w2) h ht hb o hb2 x)
    obtain ⟨cw, fw⟩ := word_cell h ht
    clear h ht
    generalize setW M a x = M' at *
    generalize word M a = y at *
    generalize writesB (pageAt M a) ep o = b at *
    generalize pageAt M a = q at *
    generalize (a - 80).toNat = k at *
    obtain ⟨st, ex, wr, ow, epp⟩ := q
    change Hid (Calls _ _ _ _ fun e w' => e = .returned (.tuple #[pgV st ex wr ow epp, _]) ∧ _) at C
    change Hid (Says _ _ #[pgV st ex wr ow epp, _, _] _) at CW
    cases b
    · simp only [Bool.false_eq_true, if_false]
      go_enter Try.func26, Try.ntmps26
      go_wp2_with (first | (go_at_call 47; (with_reducible refine C.out.mono ?_); rintro e w1 ⟨rfl, hb⟩) | (go_at_call 51; (with_reducible refine (CW.out.at _).mono ?_); rintro e w2 ⟨rfl, hb2⟩))
      go_ret
      exact ⟨rfl, ((Fr.of_below hb).alloc _).then hb2, ((H.out.belowS hb).belowS (below_new _ _)).belowS hb2⟩
    · simp only [if_true]
      go_enter Try.func26, Try.ntmps26
      go_wp2_with (first | (go_at_call 47; (with_reducible refine C.out.mono ?_); rintro e w1 ⟨rfl, hb⟩; have cw1 := (hb.cell (p := ⟨gw, k, none⟩) hgw).trans cw; have fw1 := (hb.frozen (p := ⟨gw, k, none⟩) hgw).trans fw; have hl1 := Nat.lt_of_lt_of_le hgw hb.size) | (go_at_call 51; (with_reducible refine (CW.out.at _).mono ?_); rintro e w2 ⟨rfl, hb2⟩; have cw2 := (hb2.cell (p := ⟨gw, k, none⟩) (by simp; omega)).trans (((below_new w1 _).cell (p := ⟨gw, k, none⟩) hl1).trans cw1); have fw2 := (hb2.frozen (p := ⟨gw, k, none⟩) (by simp; omega)).trans (((below_new w1 _).frozen (p := ⟨gw, k, none⟩) hl1).trans fw1)))
      go_ret
      exact ⟨rfl, E.out _ hb _ _ hb2⟩
theorem fetch_any (h : Pm w p t g gw M) (a ep : Int) (ha : 0 ≤ a ∧ a ≤ 4294967295) : Calls Try.prog 22 #[.pointer (some ⟨p, 0, none⟩), .int .u32 a, .int .u64 ep] w fun e w' =>
    e = .returned (.tuple #[.int .u32 (fetchW M a ep), .int .u16 (fetchO M a ep), .bool (fetchB M a ep)]) ∧ Below w.heap.size w w' := by
  have hgw := h.lt.2.2.2
  by_cases h1 : a < 64
  · rw [show fetchB M a ep = true by simp [fetchB, h1], show fetchO M a ep = 0 by simp [fetchO, h1], show fetchW M a ep = slotW a by simp [fetchW, fetchB, h1, peek]]
    have C := Lib.hid (slot_any a ⟨ha.1, h1⟩)
    obtain ⟨ha0, ha1⟩ := ha
    clear h
    generalize slotW a = x at *
    go_enter Try.func22, Try.ntmps22
    go_wp2_with (go_at_call 46; (with_reducible refine (C.out.at _).mono ?_); rintro e w1 ⟨rfl, hb⟩)
    exact bodyPost_ret (v := .tuple #[.int .u32 x, .int .u16 0, .bool true]) (by simp [results, Try.results22, go_sem]) rfl ⟨rfl, hb⟩
  · have hB : fetchB M a ep = (thereB M a && runsB (pageAt M a) ep) := by simp [fetchB, h1]
    unfold fetchW fetchO
    rw [if_neg h1, hB]
    cases ht : thereB M a
    · simp only [Bool.false_and, Bool.false_eq_true, if_false]
      have C := Lib.hid (find_no h a ha ht)
      have CW := Lib.hid (runs_any zero ep)
      rw [show runsB zero ep = false from rfl] at CW
      change Hid (Says _ _ #[pgV 0 false false 0 0, _] _) at CW
      clear h ht hB
      go_enter Try.func22, Try.ntmps22
      go_wp2_with (first | (go_at_call 47; (with_reducible refine C.out.mono ?_); rintro e w1 ⟨rfl, hb⟩) | (go_at_call 48; (with_reducible refine (CW.out.at _).mono ?_); rintro e w2 ⟨rfl, hb2⟩))
      exact bodyPost_ret (v := .tuple #[.int .u32 0, .int .u16 0, .bool false]) (by simp [results, Try.results22, go_sem]) rfl ⟨rfl, hb.trans ((end_alloc' hb2).mono hb.size)⟩
    · simp only [Bool.true_and]
      have C := Lib.hid (find_there h a ht)
      have CW := Lib.hid (runs_any (pageAt M a) ep)
      have hp : peek M a = word M a := by
        have := there_at ht
        unfold peek
        rw [if_neg h1, if_neg (by omega), if_pos ht]
      obtain ⟨cw, fw⟩ := word_cell h ht
      rw [hp]
      clear h ht hp hB
      generalize word M a = y at *
      generalize runsB (pageAt M a) ep = b at *
      generalize pageAt M a = q at *
      generalize (a - 80).toNat = k at *
      obtain ⟨st, ex, wr, ow, epp⟩ := q
      change Hid (Calls _ _ _ _ fun e w' => e = .returned (.tuple #[pgV st ex wr ow epp, _]) ∧ _) at C
      change Hid (Says _ _ #[pgV st ex wr ow epp, _] _) at CW
      cases b
      · simp only [Bool.false_eq_true, if_false]
        go_enter Try.func22, Try.ntmps22
        go_wp2_with (first | (go_at_call 47; (with_reducible refine C.out.mono ?_); rintro e w1 ⟨rfl, hb⟩) | (go_at_call 48; (with_reducible refine (CW.out.at _).mono ?_); rintro e w2 ⟨rfl, hb2⟩))
        exact bodyPost_ret (v := .tuple #[.int .u32 0, .int .u16 0, .bool false]) (by simp [results, Try.results22, go_sem]) rfl ⟨rfl, hb.trans ((end_alloc' hb2).mono hb.size)⟩
      · simp only [if_true]
        go_enter Try.func22, Try.ntmps22
        go_wp2_with (first | (go_at_call 47; (with_reducible refine C.out.mono ?_); rintro e w1 ⟨rfl, hb⟩; have cw1 := (hb.cell (p := ⟨gw, k, none⟩) hgw).trans cw; have hl1 := Nat.lt_of_lt_of_le hgw hb.size; have PW := Whole.new w1 69 #[.int .u8 st, .bool ex, .bool wr, .int .u16 ow, .int .u64 epp]) | (go_at_call 48; (with_reducible refine (CW.out.at _).mono ?_); rintro e w2 ⟨rfl, hb2⟩; have cw2 := (hb2.cell (p := ⟨gw, k, none⟩) (by simp; omega)).trans (((below_new w1 _).cell (p := ⟨gw, k, none⟩) hl1).trans cw1); have PW2 := PW.belowS hb2; have p3 := PW2.cell 3; simp only [List.getElem?_toArray, List.getElem?_cons_zero, List.getElem?_cons_succ] at p3))
        have hB2 := Lib.hid (hb.trans ((end_alloc' hb2).mono hb.size))
        clear hb2 PW
        go_region
        all_goals
          go_wp2_with fail
          exact bodyPost_ret (v := .tuple #[.int .u32 y, .int .u16 ow, .bool true]) (by simp [results, Try.results22, go_sem]) rfl ⟨rfl, hB2.out.drew⟩
end

section
variable {w : World} {p t g gw : Nat} {M : Mm}
theorem load_any (h : Pm w p t g gw M) (a ep : Int) (ha : 0 ≤ a ∧ a ≤ 4294967295) : Calls Try.prog 23 #[.pointer (some ⟨p, 0, none⟩), .int .u32 a, .int .u64 ep] w fun e w' =>
    e = .returned (.tuple #[.int .u32 (loadW M a ep), .bool (loadB M a ep)]) ∧ Below w.heap.size w w' := by
  have hgw := h.lt.2.2.2
  by_cases h1 : a < 80
  · rw [show loadB M a ep = true by simp [loadB, h1], show loadW M a ep = peek M a by simp [loadW, loadB, h1]]
    have C := Lib.hid (peek_any h a ha)
    obtain ⟨ha0, ha1⟩ := ha
    clear h
    generalize peek M a = x at *
    go_enter Try.func23, Try.ntmps23
    go_wp2_with (go_at_call 24; (with_reducible refine C.out.mono ?_); rintro e w1 ⟨rfl, hb⟩)
    exact bodyPost_ret (v := .tuple #[.int .u32 x, .bool true]) (by simp [results, Try.results23, go_sem]) rfl ⟨rfl, hb⟩
  · have hB : loadB M a ep = (thereB M a && seenB (pageAt M a) ep) := by simp [loadB, h1]
    unfold loadW
    rw [hB]
    cases ht : thereB M a
    · simp only [Bool.false_and, Bool.false_eq_true, if_false]
      have C := Lib.hid (find_no h a ha ht)
      have CW := Lib.hid (reads_any zero ep)
      rw [show seenB zero ep = false from rfl] at CW
      change Hid (Says _ _ #[pgV 0 false false 0 0, _] _) at CW
      clear h ht hB
      go_enter Try.func23, Try.ntmps23
      go_wp2_with (first | (go_at_call 47; (with_reducible refine C.out.mono ?_); rintro e w1 ⟨rfl, hb⟩) | (go_at_call 49; (with_reducible refine (CW.out.at _).mono ?_); rintro e w2 ⟨rfl, hb2⟩))
      exact bodyPost_ret (v := .tuple #[.int .u32 0, .bool false]) (by simp [results, Try.results23, go_sem]) rfl ⟨rfl, hb.trans ((end_alloc' hb2).mono hb.size)⟩
    · simp only [Bool.true_and]
      have C := Lib.hid (find_there h a ht)
      have CW := Lib.hid (reads_any (pageAt M a) ep)
      have hp : peek M a = word M a := by
        have := there_at ht
        unfold peek
        rw [if_neg (by omega), if_neg (by omega), if_pos ht]
      obtain ⟨cw, fw⟩ := word_cell h ht
      rw [hp]
      clear h ht hp hB
      generalize word M a = y at *
      generalize seenB (pageAt M a) ep = b at *
      generalize pageAt M a = q at *
      generalize (a - 80).toNat = k at *
      obtain ⟨st, ex, wr, ow, epp⟩ := q
      change Hid (Calls _ _ _ _ fun e w' => e = .returned (.tuple #[pgV st ex wr ow epp, _]) ∧ _) at C
      change Hid (Says _ _ #[pgV st ex wr ow epp, _] _) at CW
      cases b
      · simp only [Bool.false_eq_true, if_false]
        go_enter Try.func23, Try.ntmps23
        go_wp2_with (first | (go_at_call 47; (with_reducible refine C.out.mono ?_); rintro e w1 ⟨rfl, hb⟩) | (go_at_call 49; (with_reducible refine (CW.out.at _).mono ?_); rintro e w2 ⟨rfl, hb2⟩))
        exact bodyPost_ret (v := .tuple #[.int .u32 0, .bool false]) (by simp [results, Try.results23, go_sem]) rfl ⟨rfl, hb.trans ((end_alloc' hb2).mono hb.size)⟩
      · simp only [if_true]
        go_enter Try.func23, Try.ntmps23
        go_wp2_with (first | (go_at_call 47; (with_reducible refine C.out.mono ?_); rintro e w1 ⟨rfl, hb⟩; have cw1 := (hb.cell (p := ⟨gw, k, none⟩) hgw).trans cw; have hl1 := Nat.lt_of_lt_of_le hgw hb.size) | (go_at_call 49; (with_reducible refine (CW.out.at _).mono ?_); rintro e w2 ⟨rfl, hb2⟩; have cw2 := (hb2.cell (p := ⟨gw, k, none⟩) (by simp; omega)).trans (((below_new w1 _).cell (p := ⟨gw, k, none⟩) hl1).trans cw1)))
        exact bodyPost_ret (v := .tuple #[.int .u32 y, .bool true]) (by simp [results, Try.results23, go_sem]) rfl ⟨rfl, hb.trans ((end_alloc' hb2).mono hb.size)⟩
end
/-! none at all -/
theorem size_nil (w : World) : Calls Try.prog 17 #[.pointer none] w fun e w' => e = .returned (.int .i64 0) ∧ w = w' := by
  go_enter Try.func17, Try.ntmps17
  go_wp2_with fail
  go_ret
  exact ⟨rfl, rfl⟩
theorem pages_nil (w : World) : Calls Try.prog 19 #[.pointer none] w fun e w' => e = .returned (.pointer none) ∧ w = w' := by
  go_enter Try.func19, Try.ntmps19
  go_wp2_with fail
  go_ret
  exact ⟨rfl, rfl⟩
theorem peek_nil (a : Int) (w : World) : Calls Try.prog 24 #[.pointer none, .int .u32 a] w fun e w' => e = .returned (.int .u32 0) ∧ w = w' := by
  go_enter Try.func24, Try.ntmps24
  go_wp2_with fail
  go_ret
  exact ⟨rfl, rfl⟩
theorem gate_nil (a : Int) (w : World) : Calls Try.prog 25 #[.pointer none, .int .i64 a] w fun e w' => e = .returned (.int .u32 0) ∧ w = w' := by
  go_enter Try.func25, Try.ntmps25
  go_wp2_with fail
  go_ret
  exact ⟨rfl, rfl⟩
theorem mfork_nil (w : World) : Calls Try.prog 21 #[.pointer none] w fun e w' => e = .returned (.pointer none) ∧ w = w' := by
  go_enter Try.func21, Try.ntmps21
  go_wp2_with fail
  go_ret
  exact ⟨rfl, rfl⟩
theorem fetch_nil (a ep : Int) (w : World) : Calls Try.prog 22 #[.pointer none, .int .u32 a, .int .u64 ep] w fun e w' => e = .returned (.tuple #[.int .u32 0, .int .u16 0, .bool false]) ∧ w = w' := by
  go_enter Try.func22, Try.ntmps22
  go_wp2_with fail
  exact bodyPost_ret (v := .tuple #[.int .u32 0, .int .u16 0, .bool false]) (by simp [results, Try.results22, go_sem]) rfl ⟨rfl, rfl⟩
theorem load_nil (a ep : Int) (w : World) : Calls Try.prog 23 #[.pointer none, .int .u32 a, .int .u64 ep] w fun e w' => e = .returned (.tuple #[.int .u32 0, .bool false]) ∧ w = w' := by
  go_enter Try.func23, Try.ntmps23
  go_wp2_with fail
  exact bodyPost_ret (v := .tuple #[.int .u32 0, .bool false]) (by simp [results, Try.results23, go_sem]) rfl ⟨rfl, rfl⟩
theorem put_nil (a x : Int) (w : World) : Calls Try.prog 27 #[.pointer none, .int .u32 a, .int .u32 x] w fun e w' => e = .returned (.int .i64 1) ∧ w = w' := by
  go_enter Try.func27, Try.ntmps27
  go_wp2_with fail
  go_ret
  exact ⟨rfl, rfl⟩
theorem setGate_nil (i b : Int) (w : World) : Calls Try.prog 28 #[.pointer none, .int .i64 i, .int .u32 b] w fun e w' => e = .returned (.int .i64 1) ∧ w = w' := by
  go_enter Try.func28, Try.ntmps28
  go_wp2_with fail
  go_ret
  exact ⟨rfl, rfl⟩
theorem store_nil (a x ep o : Int) (ha : 0 ≤ a ∧ a ≤ 4294967295) (w : World) : Calls Try.prog 26 #[.pointer none, .int .u32 a, .int .u32 x, .int .u64 ep, .int .u16 o] w fun e w' => e = .returned (.bool false) ∧ Below w.heap.size w w' := by
  have C := Lib.hid (find_nil a ha w)
  have CW := Lib.hid (writes_any zero ep o)
  rw [show writesB zero ep o = false from rfl] at CW
  change Hid (Says _ _ #[pgV 0 false false 0 0, _, _] _) at CW
  go_enter Try.func26, Try.ntmps26
  go_wp2_with (first | (go_at_call 47; (with_reducible refine C.out.mono ?_); rintro e w1 ⟨rfl, hb⟩) | (go_at_call 51; (with_reducible refine (CW.out.at _).mono ?_); rintro e w2 ⟨rfl, hb2⟩))
  go_ret
  exact ⟨rfl, hb.trans ((end_alloc' hb2).mono hb.size)⟩
end Go.Proofs.Ytkmjacpcpchjoaa.MF
