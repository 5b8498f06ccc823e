/-
  What is wrong with a module, as the program tells. Nothing here is a statement of the seed.
-/
import Derived.Test.YtajidaicojekdaaObjA
set_option linter.unusedSimpArgs false
set_option linter.unusedVariables false
namespace Go.Proofs.Ytajidaicojekdaa.OR
open Go.RowKit WM NR OM
set_option maxHeartbeats 4000000
set_option maxRecDepth 10000
theorem isLong_any (x : ByteArray) (w : World) : Calls Try.prog 132 #[.string x] w fun e w' => e = .returned (.bool (decide (96 < (x.size : Int)))) ∧ w = w' := by
  go_enter Try.func132, Try.ntmps132
  go_wp2_with fail
  go_ret
  exact ⟨rfl, rfl⟩
theorem isUnknown_any (k a b : Int) (w : World) : Calls Try.prog 135 #[.agg #[.int .u8 k, .int .u16 a, .int .u16 b]] w fun e w' => e = .returned (.bool (decide (7 < k))) ∧ Below w.heap.size w w' := by
  have HB := Lib.hid (below_new w (.cells #[.int .u8 k, .int .u16 a, .int .u16 b] 76))
  go_enter Try.func135, Try.ntmps135
  go_wp2_with fail
  go_ret
  exact ⟨rfl, HB.out⟩
theorem indexLong_any {w : World} {a : Option Addr} {n c : Nat} {l : List (List UInt8)} (h1 : Reads (· < w.heap.size) w (.slice a n c) (strs l)) :
    Calls Try.prog 61 #[.slice a n c, .func (.func 132) #[] #[]] w fun e w' => (∃ j : Int, e = .returned (.int .i64 j) ∧ (decide (0 ≤ j) = longB l)) ∧ w = w' := by
  obtain ⟨n1, m1, m2⟩ := reads_len h1
  rw [strs_len] at n1
  unfold maxLen at m2
  have hn : (n : Int) ≤ 9223372036854775807 := by omega
  have HA := Lib.hid h1
  have HL := Lib.hid n1
  clear h1 n1 m1 m2
  go_enter Try.func61, Try.ntmps61
  go_wp2_with fail
  go_loop [8] (fun i => ∃ k : Nat, k ≤ n ∧ i = .int .i64 (k : Int) ∧ Hid (longB (l.take k) = false)) (fun i => n - (intOf i).toNat)
  case atStart => exact ⟨0, by omega, rfl, Lib.hid rfl⟩
  case round =>
    obtain ⟨k, hk, rfl, hp⟩ := hrel
    by_cases hlt : k < n
    · have hlt' : (k : Int) < n := by omega
      obtain ⟨g, off, rfl, q1, c1⟩ := reads_at HA.out (Below.refl _ _) hlt
      have k1 : k < l.length := by rw [HL.out]; exact hlt
      rw [strs_at k1] at c1
      have CL := Lib.hid (isLong_any (bs (l.getD k [])) w)
      by_cases e : 96 < (l.getD k []).length
      · have hh := Lib.hid (long_hit k1 e)
        rw [decide_eq_true (show (96 : Int) < ((bs (l.getD k [])).size : Int) by rw [bs_size]; omega)] at CL
        clear e hp k1
        generalize bs (l.getD k []) = x at *
        go_wp2_with (go_at_call 132; refine CL.out.mono ?_; rintro e w1 ⟨rfl, rfl⟩)
        go_ret
        exact ⟨⟨_, rfl, by rw [hh.out]; simp⟩, rfl⟩
      · have hp2 := Lib.hid (long_more k1 hp.out e)
        rw [decide_eq_false (show ¬ (96 : Int) < ((bs (l.getD k [])).size : Int) by rw [bs_size]; omega)] at CL
        clear e hp k1
        generalize bs (l.getD k []) = x at *
        go_wp2_with (go_at_call 132; refine CL.out.mono ?_; rintro e w1 ⟨rfl, rfl⟩)
        go_roundw
        case rel => exact ⟨k + 1, by omega, by go_num, hp2⟩
        case measure => simp [intOf]; omega
    · obtain rfl : k = n := by omega
      have hp2 := Lib.hid (show longB l = false by have := hp.out; rwa [List.take_of_length_le (by rw [HL.out]; omega)] at this)
      clear hp
      go_wp2_with fail
      go_ret
      exact ⟨⟨_, rfl, by rw [hp2.out]; rfl⟩, rfl⟩
theorem containsLong_any {w : World} {a : Option Addr} {n c : Nat} {l : List (List UInt8)} (h1 : Reads (· < w.heap.size) w (.slice a n c) (strs l)) :
    Calls Try.prog 30 #[.slice a n c, .func (.func 132) #[] #[]] w fun e w' => e = .returned (.bool (longB l)) ∧ w = w' := by
  have C := Lib.hid (indexLong_any h1)
  clear h1
  generalize longB l = B at *
  go_enter Try.func30, Try.ntmps30
  go_wp2_with (go_at_call 61; refine C.out.mono ?_; rintro e w1 ⟨⟨j, rfl, hj⟩, rfl⟩)
  go_ret
  exact ⟨ret_bool (by simp), rfl⟩
theorem indexUnknown_any {w : World} {a : Option Addr} {n c : Nat} {l : List Rl} (h1 : ReadsR (· < w.heap.size) w (.slice a n c) l) :
    Calls Try.prog 69 #[.slice a n c, .func (.func 135) #[] #[]] w fun e w' => (∃ j : Int, e = .returned (.int .i64 j) ∧ (decide (0 ≤ j) = l.any fun r => decide (7 < r.kind))) ∧ Below w.heap.size w w' := by
  obtain ⟨n1, m1, m2⟩ := h1.len
  unfold maxLen at m2
  have hn : (n : Int) ≤ 9223372036854775807 := by omega
  have HA := Lib.hid h1
  have HL := Lib.hid n1
  have m1' : (n : Int) ≤ c := by omega
  clear h1 n1 m1 m2
  go_enter Try.func69, Try.ntmps69
  go_wp2_with fail
  go_loopw [8] (fun i wr => ∃ k : Nat, k ≤ n ∧ i = .int .i64 (k : Int) ∧ Hid ((l.take k).any (fun r => decide (7 < r.kind)) = false) ∧ Below w.heap.size w wr) (fun i _ => n - (intOf i).toNat)
  case atStart => exact ⟨0, by omega, rfl, Lib.hid rfl, Below.refl _ _⟩
  case round =>
    obtain ⟨k, hk, rfl, hp, hbl⟩ := hrel
    by_cases hlt : k < n
    · have hlt' : (k : Int) < n := by omega
      obtain ⟨g, off, rfl, q1, c0, c1, c2⟩ := HA.out.at hbl hlt
      have k1 : k < l.length := by rw [HL.out]; exact hlt
      have CL := Lib.hid (isUnknown_any ((l.getD k ⟨0, 0, 0⟩).kind : Int) ((l.getD k ⟨0, 0, 0⟩).at_ : Int) ((l.getD k ⟨0, 0, 0⟩).wh : Int) wr)
      by_cases e : 7 < (l.getD k ⟨0, 0, 0⟩).kind
      · have hh := Lib.hid (arg_hit k1 e)
        rw [decide_eq_true (show (7 : Int) < ((l.getD k ⟨0, 0, 0⟩).kind : Int) by omega)] at CL
        clear e hp k1
        generalize ((l.getD k ⟨0, 0, 0⟩).kind : Int) = y0 at *
        generalize ((l.getD k ⟨0, 0, 0⟩).at_ : Int) = y1 at *
        generalize ((l.getD k ⟨0, 0, 0⟩).wh : Int) = y2 at *
        go_wp2_with (go_at_call 135; refine CL.out.mono ?_; rintro e w1 ⟨rfl, hb1⟩)
        go_ret
        exact ⟨⟨_, rfl, by rw [hh.out]; simp⟩, below_of hbl hb1⟩
      · have hp2 := Lib.hid (arg_more k1 hp.out e)
        rw [decide_eq_false (show ¬ (7 : Int) < ((l.getD k ⟨0, 0, 0⟩).kind : Int) by omega)] at CL
        clear e hp k1
        generalize ((l.getD k ⟨0, 0, 0⟩).kind : Int) = y0 at *
        generalize ((l.getD k ⟨0, 0, 0⟩).at_ : Int) = y1 at *
        generalize ((l.getD k ⟨0, 0, 0⟩).wh : Int) = y2 at *
        go_wp2_with (go_at_call 135; refine CL.out.mono ?_; rintro e w1 ⟨rfl, hb1⟩)
        go_roundw
        case rel => exact ⟨k + 1, by omega, by go_num, hp2, below_of hbl hb1⟩
        case measure => simp [intOf]; omega
    · obtain rfl : k = n := by omega
      have hp2 := Lib.hid (show (l.any fun r => decide (7 < r.kind)) = false by have := hp.out; rwa [List.take_of_length_le (by rw [HL.out]; omega)] at this)
      clear hp
      go_wp2_with fail
      go_ret
      exact ⟨⟨_, rfl, by rw [hp2.out]; rfl⟩, hbl⟩
theorem containsUnknown_any {w : World} {a : Option Addr} {n c : Nat} {l : List Rl} (h1 : ReadsR (· < w.heap.size) w (.slice a n c) l) :
    Calls Try.prog 134 #[.slice a n c, .func (.func 135) #[] #[]] w fun e w' => e = .returned (.bool (l.any fun r => decide (7 < r.kind))) ∧ Below w.heap.size w w' := by
  have C := Lib.hid (indexUnknown_any h1)
  clear h1
  generalize (l.any fun r => decide (7 < r.kind)) = B at *
  go_enter Try.func134, Try.ntmps134
  go_wp2_with (go_at_call 69; refine C.out.mono ?_; rintro e w1 ⟨⟨j, rfl, hj⟩, hb1⟩)
  go_ret
  exact ⟨ret_bool (by simp), hb1⟩
section
variable {w : World} {ea : Option Addr} {en ec : Nat} {ia : Option Addr} {im ic : Nat} {ca : Option Addr} {cn cc : Nat} {da : Option Addr} {dn dc : Nat} {ra : Option Addr} {rn rc : Nat} {m : Md}
theorem hasMany_any (h : RdM (· < w.heap.size) w ea en ec ia im ic ca cn cc da dn dc ra rn rc m) :
    Calls Try.prog 133 #[mV (bs m.name) ea en ec ia im ic ca cn cc da dn dc ra rn rc] w fun e w' => e = .returned (.bool (manyB m)) ∧ Below w.heap.size w w' := by
  obtain ⟨l1, l2, l3, l4, l5⟩ := h.lens
  have hb0 := below_new w (.cells (mCs (bs m.name) ea en ec ia im ic ca cn cc da dn dc ra rn rc) 45)
  have HB0 := Lib.hid hb0
  obtain ⟨E, hE⟩ : ∃ E, E = manyB m := ⟨_, rfl⟩
  rw [← hE]
  have e2 : E = decide (8 < (en : Int) ∨ 16 < (im : Int) ∨ 512 < (cn : Int) ∨ 128 < (dn : Int) ∨ 256 < (rn : Int)) := by
    rw [hE]
    unfold manyB
    rw [l1, l2, l3, l4, l5]
    refine decide_eq_decide.2 ⟨?_, ?_⟩ <;> omega
  clear hE l1 l2 l3 l4 l5 h hb0
  generalize bs m.name = x at *
  by_cases h1 : (8 : Int) < en
  · have e3 : E = true := by rw [e2]; simp; omega
    subst e3
    clear e2
    go_enter Try.func133, Try.ntmps133
    go_wp2_with fail
    go_ret
    exact ⟨rfl, HB0.out⟩
  by_cases h2 : (16 : Int) < im
  · have e3 : E = true := by rw [e2]; simp; omega
    subst e3
    clear e2
    go_enter Try.func133, Try.ntmps133
    go_wp2_with fail
    go_ret
    exact ⟨rfl, HB0.out⟩
  by_cases h3 : (512 : Int) < cn
  · have e3 : E = true := by rw [e2]; simp; omega
    subst e3
    clear e2
    go_enter Try.func133, Try.ntmps133
    go_wp2_with fail
    go_ret
    exact ⟨rfl, HB0.out⟩
  by_cases h4 : (128 : Int) < dn
  · have e3 : E = true := by rw [e2]; simp; omega
    subst e3
    clear e2
    go_enter Try.func133, Try.ntmps133
    go_wp2_with fail
    go_ret
    exact ⟨rfl, HB0.out⟩
  have e3 : E = decide (256 < (rn : Int)) := by rw [e2]; refine decide_eq_decide.2 ⟨?_, ?_⟩ <;> omega
  subst e3
  clear e2
  go_enter Try.func133, Try.ntmps133
  go_wp2_with fail
  go_ret
  exact ⟨rfl, HB0.out⟩
theorem objCheck_any (h : RdM (· < w.heap.size) w ea en ec ia im ic ca cn cc da dn dc ra rn rc m) :
    Calls Try.prog 106 #[mV (bs m.name) ea en ec ia im ic ca cn cc da dn dc ra rn rc] w fun e w' => e = .returned (.int .i64 (chkM m : Nat)) ∧ Below w.heap.size w w' := by
  have hb0 := below_new w (.cells (mCs (bs m.name) ea en ec ia im ic ca cn cc da dn dc ra rn rc) 45)
  have HB0 := Lib.hid hb0
  have X1 := Lib.hid (Whole.new w 45 (mCs (bs m.name) ea en ec ia im ic ca cn cc da dn dc ra rn rc))
  have C0 := Lib.hid (fun (u : World) => isLong_any (bs m.name) u)
  have C1 := Lib.hid (containsLong_any (h.go hb0 hb0.size).ex)
  have C2 := Lib.hid (containsLong_any (h.go hb0 hb0.size).im)
  have C3 := Lib.hid (hasMany_any (h.go hb0 hb0.size))
  have C4 := Lib.hid (fun (u : World) (hb : Below w.heap.size w u) => containsUnknown_any ((h.rl.below hb).mono fun g hg => Nat.lt_of_lt_of_le hg hb.size))
  obtain ⟨E, hE⟩ : ∃ E : Nat, E = chkM m := ⟨_, rfl⟩
  rw [← hE]
  have e2 : E = if (decide (96 < ((bs m.name).size : Int)) || longB m.exps || longB m.imps || manyB m) = true then 5 else if (m.rels.any fun r => decide (7 < r.kind)) = true then 2 else 0 := by
    rw [hE, bs_size]
    unfold chkM farB argB
    have e3 : decide (96 < (m.name.length : Int)) = decide (96 < m.name.length) := by refine decide_eq_decide.2 ⟨?_, ?_⟩ <;> omega
    rw [e3]
    have e4 : (manyB m || decide (96 < m.name.length) || longB m.exps || longB m.imps) = (decide (96 < m.name.length) || longB m.exps || longB m.imps || manyB m) := by
      cases manyB m <;> cases decide (96 < m.name.length) <;> cases longB m.exps <;> cases longB m.imps <;> rfl
    rw [e4]
  clear hE h hb0
  generalize decide (96 < ((bs m.name).size : Int)) = B0 at *
  generalize longB m.exps = B1 at *
  generalize longB m.imps = B2 at *
  generalize manyB m = B3 at *
  generalize (m.rels.any fun r => decide (7 < r.kind)) = B4 at *
  generalize bs m.name = x at *
  obtain ⟨c0, c1, c2, c3, c4, c5⟩ := mod_cells X1.out
  cases B0
  case true =>
    simp only [Bool.true_or, if_true] at e2
    subst e2
    go_enter Try.func106, Try.ntmps106
    go_wp2_with (go_at_call 132; (with_reducible refine (C0.out _).mono ?_); rintro e w1 ⟨rfl, rfl⟩)
    go_ret
    exact ⟨rfl, HB0.out⟩
  cases B1
  case true =>
    simp only [Bool.true_or, Bool.or_true, if_true] at e2
    subst e2
    go_enter Try.func106, Try.ntmps106
    go_wp2_with (first | (go_at_call 132; (with_reducible refine (C0.out _).mono ?_); rintro e w1 ⟨rfl, rfl⟩) | (go_at_call 30; (with_reducible refine C1.out.mono ?_); rintro e w1 ⟨rfl, rfl⟩))
    go_ret
    exact ⟨rfl, HB0.out⟩
  cases B2
  case true =>
    simp only [Bool.true_or, Bool.or_true, if_true] at e2
    subst e2
    go_enter Try.func106, Try.ntmps106
    go_wp2_with (first | (go_at_call 132; (with_reducible refine (C0.out _).mono ?_); rintro e w1 ⟨rfl, rfl⟩) | (go_at_call 30; (with_reducible refine C1.out.mono ?_); rintro e w1 ⟨rfl, rfl⟩) | (go_at_call 30; (with_reducible refine C2.out.mono ?_); rintro e w1 ⟨rfl, rfl⟩))
    go_ret
    exact ⟨rfl, HB0.out⟩
  simp only [Bool.false_or] at e2
  cases B3
  case true =>
    simp only [if_true] at e2
    subst e2
    go_enter Try.func106, Try.ntmps106
    go_wp2_with (first | (go_at_call 132; (with_reducible refine (C0.out _).mono ?_); rintro e w1 ⟨rfl, rfl⟩) | (go_at_call 30; (with_reducible refine C1.out.mono ?_); rintro e w1 ⟨rfl, rfl⟩) | (go_at_call 30; (with_reducible refine C2.out.mono ?_); rintro e w1 ⟨rfl, rfl⟩) | (go_at_call 133; (with_reducible refine C3.out.mono ?_); rintro e w1 ⟨rfl, hb⟩; have Z := Lib.hid (HB0.out.trans (hb.mono HB0.out.size)); clear hb))
    go_ret
    exact ⟨rfl, Z.out⟩
  simp only [Bool.false_eq_true, if_false] at e2
  go_enter Try.func106, Try.ntmps106
  cases B4
  case true =>
    simp only [if_true] at e2
    subst e2
    go_wp2_with (first | (go_at_call 132; (with_reducible refine (C0.out _).mono ?_); rintro e w1 ⟨rfl, rfl⟩) | (go_at_call 30; (with_reducible refine C1.out.mono ?_); rintro e w1 ⟨rfl, rfl⟩) | (go_at_call 30; (with_reducible refine C2.out.mono ?_); rintro e w1 ⟨rfl, rfl⟩) | (go_at_call 133; (with_reducible refine C3.out.mono ?_); rintro e w1 ⟨rfl, hb⟩; have Z := Lib.hid (HB0.out.trans (hb.mono HB0.out.size)); obtain ⟨d0, d1, d2, d3, d4, d5⟩ := mod_cells (X1.out.belowS hb); have q0 := (X1.out.belowS hb).lt; clear hb c0 c1 c2 c3 c4 c5) | (go_at_call 134; (with_reducible refine (C4.out _ Z.out).mono ?_); rintro e w2 ⟨rfl, hb⟩; have Z2 := Lib.hid (Z.out.trans (hb.mono Z.out.size)); clear hb))
    go_ret
    exact ⟨rfl, Z2.out⟩
  case false =>
    simp only [Bool.false_eq_true, if_false] at e2
    subst e2
    go_wp2_with (first | (go_at_call 132; (with_reducible refine (C0.out _).mono ?_); rintro e w1 ⟨rfl, rfl⟩) | (go_at_call 30; (with_reducible refine C1.out.mono ?_); rintro e w1 ⟨rfl, rfl⟩) | (go_at_call 30; (with_reducible refine C2.out.mono ?_); rintro e w1 ⟨rfl, rfl⟩) | (go_at_call 133; (with_reducible refine C3.out.mono ?_); rintro e w1 ⟨rfl, hb⟩; have Z := Lib.hid (HB0.out.trans (hb.mono HB0.out.size)); obtain ⟨d0, d1, d2, d3, d4, d5⟩ := mod_cells (X1.out.belowS hb); have q0 := (X1.out.belowS hb).lt; clear hb c0 c1 c2 c3 c4 c5) | (go_at_call 134; (with_reducible refine (C4.out _ Z.out).mono ?_); rintro e w2 ⟨rfl, hb⟩; have Z2 := Lib.hid (Z.out.trans (hb.mono Z.out.size)); clear hb))
    go_ret
    exact ⟨rfl, Z2.out⟩
end
end Go.Proofs.Ytajidaicojekdaa.OR
