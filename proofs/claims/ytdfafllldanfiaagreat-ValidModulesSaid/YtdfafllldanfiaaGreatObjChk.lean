/-
  What is wrong with a module, as the reference tells; how many parts it has. Nothing here is a statement of the seed.
-/
import Derived.Test.YtdfafllldanfiaaGreatObjSame
set_option linter.unusedSimpArgs false
set_option linter.unusedVariables false
namespace Go.Proofs.YtdfafllldanfiaaGreat.OR
open Go.RowKit WM NR OM
set_option maxHeartbeats 4000000
set_option maxRecDepth 10000
theorem long_hit {l : List (List UInt8)} {k : Nat} (hk : k < l.length) (h : 96 < (l.getD k []).length) : longB l = true := by
  unfold longB
  rw [List.any_eq_true]
  refine ⟨l[k], List.getElem_mem hk, ?_⟩
  simp [hk] at h
  simpa using h
theorem long_more {l : List (List UInt8)} {k : Nat} (hk : k < l.length) (h : longB (l.take k) = false) (h2 : ¬ 96 < (l.getD k []).length) : longB (l.take (k + 1)) = false := by
  unfold longB at *
  rw [List.take_add_one, List.any_append, h]
  simp [hk] at h2
  simp [hk]
  omega
theorem long_any {w : World} {a : Option Addr} {n c : Nat} {l : List (List UInt8)} (h1 : Reads (· < w.heap.size) w (.slice a n c) (strs l)) :
    Calls Tryz.prog 37 #[.slice a n c] w fun e w' => e = .returned (.bool (longB l)) ∧ Below w.heap.size w w' := by
  obtain ⟨n1, m1, m2⟩ := reads_len h1
  rw [strs_len] at n1
  unfold maxLen at m2
  have hn : (n : Int) ≤ 9223372036854775807 := by omega
  have HA := Lib.hid h1
  have HL := Lib.hid n1
  clear h1 n1 m1 m2
  go_enter Tryz.func37, Tryz.ntmps37
  go_wp2_with fail
  go_loopw [3] (fun i wr => ∃ k : Nat, k ≤ n ∧ i = .int .i64 (k : Int) ∧ Hid (longB (l.take k) = false) ∧ Below w.heap.size w wr) (fun i _ => n - (intOf i).toNat)
  case atStart => exact ⟨0, by omega, rfl, Lib.hid rfl, Below.refl _ _⟩
  case round =>
    obtain ⟨k, hk, rfl, hp, hbl⟩ := hrel
    by_cases hlt : k < n
    · have hlt' : (k : Int) < n := by omega
      obtain ⟨g, off, rfl, q1, c1⟩ := reads_at HA.out hbl hlt
      have k1 : k < l.length := by rw [HL.out]; exact hlt
      rw [strs_at k1] at c1
      by_cases e : 96 < (l.getD k []).length
      · have hh := Lib.hid (long_hit k1 e)
        have e' : (96 : Int) < ((bs (l.getD k [])).size : Int) := by rw [bs_size]; omega
        clear hp k1 e
        generalize bs (l.getD k []) = x at *
        go_wp2_with fail
        go_ret
        exact ⟨by rw [hh.out]; rfl, hbl⟩
      · have hp2 := Lib.hid (long_more k1 hp.out e)
        have e' : ((bs (l.getD k [])).size : Int) ≤ 96 := by rw [bs_size]; omega
        clear hp k1 e
        generalize bs (l.getD k []) = x at *
        go_wp2_with fail
        go_roundw
        case rel => exact ⟨k + 1, by omega, by go_num, hp2, hbl⟩
        case measure => simp [intOf]; omega
    · obtain rfl : k = n := by omega
      have hp2 := Lib.hid (show longB l = false by have := hp.out; rwa [List.take_of_length_le (by rw [HL.out]; omega)] at this)
      clear hp
      go_wp2_with fail
      go_ret
      exact ⟨by rw [hp2.out]; rfl, hbl⟩
theorem arg_hit {l : List Rl} {k : Nat} (hk : k < l.length) (h : 7 < (l.getD k ⟨0, 0, 0⟩).kind) : (l.any fun r => decide (7 < r.kind)) = true := by
  rw [List.any_eq_true]
  refine ⟨l[k], List.getElem_mem hk, ?_⟩
  simp [hk] at h
  simpa using h
theorem arg_more {l : List Rl} {k : Nat} (hk : k < l.length) (h : ((l.take k).any fun r => decide (7 < r.kind)) = false) (h2 : ¬ 7 < (l.getD k ⟨0, 0, 0⟩).kind) : ((l.take (k + 1)).any fun r => decide (7 < r.kind)) = false := by
  rw [List.take_add_one, List.any_append, h]
  simp [hk] at h2
  simp [hk]
  omega
section
variable {w : World} {ea : Option Addr} {en ec : Nat} {ia : Option Addr} {im ic : Nat} {ca : Option Addr} {cn cc : Nat} {da : Option Addr} {dn dc : Nat} {ra : Option Addr} {rn rc : Nat} {m : Md}
abbrev mV (x : ByteArray) (ea : Option Addr) (en ec : Nat) (ia : Option Addr) (im ic : Nat) (ca : Option Addr) (cn cc : Nat) (da : Option Addr) (dn dc : Nat) (ra : Option Addr) (rn rc : Nat) : Value := .agg (mCs x ea en ec ia im ic ca cn cc da dn dc ra rn rc)
theorem refObjChk_any (h : RdM (· < w.heap.size) w ea en ec ia im ic ca cn cc da dn dc ra rn rc m) :
    Calls Tryz.prog 13 #[mV (bs m.name) ea en ec ia im ic ca cn cc da dn dc ra rn rc] w fun e w' => e = .returned (.int .i64 (chkM m : Nat)) ∧ Below w.heap.size w w' := by
  obtain ⟨l1, l2, l3, l4, l5⟩ := h.lens
  obtain ⟨_, _, b1⟩ := reads_len h.ex
  obtain ⟨_, _, b2⟩ := reads_len h.im
  obtain ⟨_, _, b3⟩ := reads_len h.cd
  obtain ⟨_, _, b4⟩ := reads_len h.dt
  obtain ⟨_, _, b5⟩ := h.rl.len
  obtain ⟨_, a1, _⟩ := reads_len h.ex
  obtain ⟨_, a2, _⟩ := reads_len h.im
  obtain ⟨_, a3, _⟩ := reads_len h.cd
  obtain ⟨_, a4, _⟩ := reads_len h.dt
  obtain ⟨_, a5, _⟩ := h.rl.len
  unfold maxLen at b1 b2 b3 b4 b5
  have d1 : (en : Int) ≤ 9223372036854775807 := by omega
  have d2 : (im : Int) ≤ 9223372036854775807 := by omega
  have d3 : (cn : Int) ≤ 9223372036854775807 := by omega
  have d4 : (dn : Int) ≤ 9223372036854775807 := by omega
  have d5 : (rn : Int) ≤ 9223372036854775807 := by omega
  have hb0 := below_new w (.cells (mCs (bs m.name) ea en ec ia im ic ca cn cc da dn dc ra rn rc) 26)
  have HB0 := Lib.hid hb0
  by_cases hM : manyB m = true
  · have e : chkM m = 5 := by unfold chkM farB; rw [hM]; rfl
    rw [e]
    have hm : 8 < en ∨ 16 < im ∨ 512 < cn ∨ 128 < dn ∨ 256 < rn := by
      unfold manyB at hM
      rw [decide_eq_true_eq] at hM
      omega
    clear hM e l1 l2 l3 l4 l5 b1 b2 b3 b4 b5 a1 a2 a3 a4 a5 h hb0
    by_cases h1 : (8 : Int) < en
    · clear hm
      go_enter Tryz.func13, Tryz.ntmps13
      go_wp2_with fail
      go_ret
      exact ⟨rfl, HB0.out⟩
    by_cases h2 : (16 : Int) < im
    · clear hm
      go_enter Tryz.func13, Tryz.ntmps13
      go_wp2_with fail
      go_ret
      exact ⟨rfl, HB0.out⟩
    by_cases h3 : (512 : Int) < cn
    · clear hm
      go_enter Tryz.func13, Tryz.ntmps13
      go_wp2_with fail
      go_ret
      exact ⟨rfl, HB0.out⟩
    by_cases h4 : (128 : Int) < dn
    · clear hm
      go_enter Tryz.func13, Tryz.ntmps13
      go_wp2_with fail
      go_ret
      exact ⟨rfl, HB0.out⟩
    have h5 : (256 : Int) < rn := by omega
    clear hm
    go_enter Tryz.func13, Tryz.ntmps13
    go_wp2_with fail
    go_ret
    exact ⟨rfl, HB0.out⟩
  · have hM' : manyB m = false := by simpa using hM
    have hm : en ≤ 8 ∧ im ≤ 16 ∧ cn ≤ 512 ∧ dn ≤ 128 ∧ rn ≤ 256 := by
      unfold manyB at hM'
      rw [decide_eq_false_iff_not] at hM'
      omega
    obtain ⟨h1, h2, h3, h4, h5⟩ := hm
    have h1' : (en : Int) ≤ 8 := by omega
    have h2' : (im : Int) ≤ 16 := by omega
    have h3' : (cn : Int) ≤ 512 := by omega
    have h4' : (dn : Int) ≤ 128 := by omega
    have h5' : (rn : Int) ≤ 256 := by omega
    have C1 := Lib.hid (fun (u : World) (hb : Below w.heap.size w u) => long_any ((h.ex.below hb).mono fun g hg => Nat.lt_of_lt_of_le hg hb.size))
    have C2 := Lib.hid (fun (u : World) (hb : Below w.heap.size w u) => long_any ((h.im.below hb).mono fun g hg => Nat.lt_of_lt_of_le hg hb.size))
    have e : chkM m = if decide (96 < m.name.length) || longB m.exps || longB m.imps then 5 else if argB m then 2 else 0 := by
      unfold chkM farB
      rw [hM', Bool.false_or]
    rw [e]
    have HR := Lib.hid h.rl
    have X1 := Lib.hid (Whole.new w 26 (mCs (bs m.name) ea en ec ia im ic ca cn cc da dn dc ra rn rc))
    unfold argB
    clear hM hM' e b1 b2 b3 b4 b5 a1 a2 a3 a4 h1 h2 h3 h4 h5 l1 l2 l3 l4 h
    generalize longB m.exps = B1 at *
    generalize longB m.imps = B2 at *
    by_cases hN : 96 < m.name.length
    · rw [decide_eq_true hN]
      simp only [Bool.true_or, if_true]
      have hN' : (96 : Int) < ((bs m.name).size : Int) := by rw [bs_size]; omega
      clear hN
      generalize bs m.name = x at *
      go_enter Tryz.func13, Tryz.ntmps13
      go_wp2_with fail
      go_ret
      exact ⟨rfl, HB0.out⟩
    · rw [decide_eq_false hN]
      simp only [Bool.false_or]
      have hN' : ((bs m.name).size : Int) ≤ 96 := by rw [bs_size]; omega
      clear hN
      generalize bs m.name = x at *
      cases B1
      case true =>
        simp only [Bool.true_or, if_true]
        go_enter Tryz.func13, Tryz.ntmps13
        go_wp2_with (go_at_call 37; (with_reducible refine (C1.out _ HB0.out).mono ?_); rintro e w1 ⟨rfl, hb⟩; have Z := Lib.hid (HB0.out.trans (hb.mono HB0.out.size)); clear hb)
        go_ret
        exact ⟨rfl, Z.out⟩
      simp only [Bool.false_or]
      cases B2
      case true =>
        simp only [if_true]
        go_enter Tryz.func13, Tryz.ntmps13
        go_wp2_with (first | (go_at_call 37; (with_reducible refine (C1.out _ HB0.out).mono ?_); rintro e w1 ⟨rfl, hb⟩; have Z := Lib.hid (HB0.out.trans (hb.mono HB0.out.size)); have X2 := X1.out.belowS hb; obtain ⟨c0, c1, c2, c3, c4, c5⟩ := mod_cells X2; clear hb X2) | (go_at_call 37; (with_reducible refine (C2.out _ Z.out).mono ?_); rintro e w2 ⟨rfl, hb⟩; have Z2 := Lib.hid (Z.out.trans (hb.mono Z.out.size)); clear hb))
        go_ret
        exact ⟨rfl, Z2.out⟩
      simp only [if_false, Bool.false_eq_true]
      have HL := Lib.hid l5
      have a5' : (rn : Int) ≤ rc := by omega
      obtain ⟨E, hE⟩ : ∃ E : Nat, E = (if (m.rels.any fun r => decide (7 < r.kind)) = true then 2 else 0) := ⟨_, rfl⟩
      rw [← hE]
      have HE := Lib.hid hE
      clear hE
      clear l5 a5 hb0
      go_enter Tryz.func13, Tryz.ntmps13
      go_wp2_with (first | (go_at_call 37; (with_reducible refine (C1.out _ HB0.out).mono ?_); rintro e w1 ⟨rfl, hb⟩; have Z := Lib.hid (HB0.out.trans (hb.mono HB0.out.size)); have X2 := Lib.hid (X1.out.belowS hb); obtain ⟨c0, c1, c2, c3, c4, c5⟩ := mod_cells X2.out; clear hb) | (go_at_call 37; (with_reducible refine (C2.out _ Z.out).mono ?_); rintro e w2 ⟨rfl, hb⟩; have Z2 := Lib.hid (Z.out.trans (hb.mono Z.out.size)); have X3 := Lib.hid (X2.out.belowS hb); clear hb c0 c1 c2 c3 c4 c5))
      clear C1 C2 HB0 X1 X2 Z
      go_loopw [3] (fun i wr => ∃ k : Nat, k ≤ rn ∧ i = .int .i64 (k : Int) ∧ Hid (((m.rels.take k).any fun r => decide (7 < r.kind)) = false) ∧ Below w2.heap.size w2 wr) (fun i _ => rn - (intOf i).toNat)
      case atStart => exact ⟨0, by omega, rfl, Lib.hid rfl, Below.refl _ _⟩
      case round =>
        obtain ⟨k, hk, rfl, hp, hbl⟩ := hrel
        have ZB := Lib.hid (Z2.out.trans (hbl.mono Z2.out.size))
        have X4 := X3.out.belowS hbl
        have x5 := X4.cell 5
        simp at x5
        have q0 := X4.lt
        clear X4
        by_cases hlt : k < rn
        · have hlt' : (k : Int) < rn := by omega
          obtain ⟨g, off, rfl, q1, c0, c1, c2⟩ := HR.out.at ZB.out hlt
          have k1 : k < m.rels.length := by rw [HL.out]; exact hlt
          by_cases e : 7 < (m.rels.getD k ⟨0, 0, 0⟩).kind
          · have hh := Lib.hid (arg_hit k1 e)
            have e' : (7 : Int) < ((m.rels.getD k ⟨0, 0, 0⟩).kind : Int) := by omega
            clear hp k1 e c1 c2
            generalize ((m.rels.getD k ⟨0, 0, 0⟩).kind : Int) = y at *
            go_wp2_with fail
            go_ret
            exact ⟨by rw [HE.out, hh.out]; rfl, ZB.out⟩
          · have hp2 := Lib.hid (arg_more k1 hp.out e)
            have e' : ((m.rels.getD k ⟨0, 0, 0⟩).kind : Int) ≤ 7 := by omega
            clear hp k1 e c1 c2
            generalize ((m.rels.getD k ⟨0, 0, 0⟩).kind : Int) = y at *
            go_wp2_with fail
            go_roundw
            case rel => exact ⟨k + 1, by omega, by go_num, hp2, hbl⟩
            case measure => simp [intOf]; omega
        · obtain rfl : k = rn := by omega
          have hp2 := Lib.hid (show (m.rels.any fun r => decide (7 < r.kind)) = false by have := hp.out; rwa [List.take_of_length_le (by rw [HL.out]; omega)] at this)
          clear hp
          go_wp2_with fail
          go_ret
          exact ⟨by rw [HE.out, hp2.out]; rfl, ZB.out⟩
end
end Go.Proofs.YtdfafllldanfiaaGreat.OR
