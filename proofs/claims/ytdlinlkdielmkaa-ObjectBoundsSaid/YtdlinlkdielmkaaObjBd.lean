/-
  Modules at their bounds: what they are, laid and read. Nothing here is a statement of the seed.
-/
import Derived.Test.YtdlinlkdielmkaaObjWBack
set_option linter.unusedSimpArgs false
set_option linter.unusedVariables false
namespace Go.Proofs.Ytdlinlkdielmkaa.OR
open Go.RowKit WM NR OM
section
variable {w : World} {ea : Option Addr} {en ec : Nat} {ia : Option Addr} {im ic : Nat} {ca : Option Addr} {cn cc : Nat} {da : Option Addr} {dn dc : Nat} {ra : Option Addr} {rn rc : Nat} {m : Md}
theorem put_yes_b (h : RdM (· < w.heap.size) w ea en ec ia im ic ca cn cc da dn dc ra rn rc m) (hf : FineM m) (hc : chkM m = 0) :
    Calls Try.prog 12 #[mV (bs m.name) ea en ec ia im ic ca cn cc da dn dc ra rn rc] w fun e w' => ∃ a n c, e = .returned (.tuple #[.slice a n c, .int .i64 0]) ∧ Reads (· < w'.heap.size) w' (.slice a n c) (u8s (putL m)) ∧ Below w.heap.size w w' := by
  refine (objPut_u h hf).mono fun e w' hh => ?_
  unfold IsPutU plM at hh
  rw [hc, if_pos rfl] at hh
  obtain ⟨a, n, c, rfl, hr, hb⟩ := hh
  exact ⟨a, n, c, rfl, hr.there.mono fun g hg => hg.2, hb⟩
theorem put_no_b (h : RdM (· < w.heap.size) w ea en ec ia im ic ca cn cc da dn dc ra rn rc m) (hf : FineM m) (hc : chkM m = 5) :
    Calls Try.prog 12 #[mV (bs m.name) ea en ec ia im ic ca cn cc da dn dc ra rn rc] w fun e w' => ∃ a c, e = .returned (.tuple #[.slice a 0 c, .int .i64 5]) ∧ Reads (· < w'.heap.size) w' (.slice a 0 c) (u8s []) ∧ Below w.heap.size w w' := by
  refine (objPut_u h hf).mono fun e w' hh => ?_
  unfold IsPutU plM at hh
  rw [hc, if_neg (by omega)] at hh
  obtain ⟨a, n, c, rfl, hr, hb⟩ := hh
  have hn : n = 0 := (reads_len hr).1.symm
  subst hn
  exact ⟨a, c, rfl, hr.there.mono fun g hg => hg.2, hb⟩
theorem get_yes_b {v : Value} (hf : FineM m) (hc : chkM m = 0) (h : Reads (· < w.heap.size) w v (u8s (putL m))) :
    Calls Try.prog 17 #[v] w fun en w' => ∃ ea en_ ec ia im ic ca cn cc da dn dc ra rn rc, en = .returned (.tuple #[mV (bs m.name) ea en_ ec ia im ic ca cn cc da dn dc ra rn rc, .int .i64 0]) ∧ RdM (· < w'.heap.size) w' ea en_ ec ia im ic ca cn cc da dn dc ra rn rc m ∧ Below w.heap.size w w' := by
  have hg := objGet_any h
  unfold IsGet at hg
  rw [getF_put hc hf] at hg
  refine hg.mono fun en w' hh => ?_
  obtain ⟨a, b, c, d, e, f, g, h, i, j, k, l, m, n, o, rfl, hO, hb⟩ := hh
  exact ⟨a, b, c, d, e, f, g, h, i, j, k, l, m, n, o, rfl, hO.reads.there, hb⟩
theorem get_no_b {v : Value} (h : Reads (· < w.heap.size) w v (u8s [])) :
    Calls Try.prog 17 #[v] w fun en w' => ∃ ea en_ ec ia im ic ca cn cc da dn dc ra rn rc, en = .returned (.tuple #[mV (bs []) ea en_ ec ia im ic ca cn cc da dn dc ra rn rc, .int .i64 4]) ∧ Below w.heap.size w w' := by
  have hg := objGet_any h
  unfold IsGet at hg
  rw [show getF [] = (4, zeroM) from getF_mark (by decide) (by decide)] at hg
  refine hg.mono fun en w' hh => ?_
  obtain ⟨a, b, c, d, e, f, g, h, i, j, k, l, m, n, o, rfl, hO, hb⟩ := hh
  exact ⟨a, b, c, d, e, f, g, h, i, j, k, l, m, n, o, rfl, hb⟩
end
section
variable {w : World} {B n c : Nat} {a : Option Addr}
theorem strs_zero (n : Nat) : strs (List.replicate n []) = (madeCells (Value.string ⟨#[]⟩).cells (n * 1)).toList := by
  rw [Nat.mul_one, show (Value.string ⟨#[]⟩).cells = #[Value.string ⟨#[]⟩] from rfl, toList_madeCells_one]
  unfold strs
  rw [List.map_replicate]
  rfl
theorem u32s_zero (n : Nat) : u32s (List.replicate n 0) = (madeCells (Value.int .u32 0).cells (n * 1)).toList := by
  rw [Nat.mul_one, show (Value.int .u32 0).cells = #[Value.int .u32 0] from rfl, toList_madeCells_one]
  unfold u32s
  rw [List.map_replicate]
  rfl
theorem u8s_zero (n : Nat) : u8s (List.replicate n 0) = (madeCells (Value.int .u8 0).cells (n * 1)).toList := by
  rw [Nat.mul_one, show (Value.int .u8 0).cells = #[Value.int .u8 0] from rfl, toList_madeCells_one]
  unfold u8s
  rw [List.map_replicate]
  rfl
theorem relC_zero (n : Nat) : relC (List.replicate n ⟨0, 0, 0⟩) = (madeCells (Value.agg #[.int .u8 0, .int .u16 0, .int .u16 0]).cells (n * 3)).toList := by
  rw [show (Value.agg #[.int .u8 0, .int .u16 0, .int .u16 0]).cells = #[Value.int .u8 0, .int .u16 0, .int .u16 0] from rfl]
  apply List.ext_getElem?
  intro i
  by_cases hi : i < n * 3
  · have hm : (madeCells #[Value.int .u8 0, .int .u16 0, .int .u16 0] (n * 3)).toList[i]? = some (#[Value.int .u8 0, .int .u16 0, .int .u16 0][i % 3]!) := by
      unfold madeCells
      simp [hi]
    rw [hm]
    obtain ⟨j, t, rfl, ht⟩ : ∃ j t, i = j * 3 + t ∧ t < 3 := ⟨i / 3, i % 3, by omega, by omega⟩
    have hj : j < n := by omega
    obtain ⟨h0, h1, h2⟩ := relC_at (List.replicate n ⟨0, 0, 0⟩) j (by rw [List.length_replicate]; exact hj)
    have e : (List.replicate n (⟨0, 0, 0⟩ : Rl)).getD j ⟨0, 0, 0⟩ = ⟨0, 0, 0⟩ := by
      rw [List.getD_eq_getElem?_getD, List.getElem?_replicate, if_pos hj]
      rfl
    rw [e] at h0 h1 h2
    rw [show (j * 3 + t) % 3 = t by omega]
    rcases (show t = 0 ∨ t = 1 ∨ t = 2 by omega) with rfl | rfl | rfl
    · exact h0
    · exact h1
    · exact h2
  · rw [List.getElem?_eq_none (by rw [relC_len, List.length_replicate]; omega), List.getElem?_eq_none (by rw [Array.length_toList, size_madeCells]; omega)]
theorem rd_e (h : w.ownsRow B 9 1 (.slice a n c) n (madeCells (Value.string ⟨#[]⟩).cells (n * 1)).toList) : RdM (· < w.heap.size) w a n c none 0 0 none 0 0 none 0 0 none 0 0 ⟨[], List.replicate n [], [], [], [], []⟩ := by
  rw [← strs_zero] at h
  exact ⟨(Reads.of_owns h).there.mono fun g hg => hg.2, Reads.nil _ _, Reads.nil _ _, Reads.nil _ _, ReadsR.nil _ _⟩
theorem rd_i (h : w.ownsRow B 9 1 (.slice a n c) n (madeCells (Value.string ⟨#[]⟩).cells (n * 1)).toList) : RdM (· < w.heap.size) w none 0 0 a n c none 0 0 none 0 0 none 0 0 ⟨[], [], List.replicate n [], [], [], []⟩ := by
  rw [← strs_zero] at h
  exact ⟨Reads.nil _ _, (Reads.of_owns h).there.mono fun g hg => hg.2, Reads.nil _ _, Reads.nil _ _, ReadsR.nil _ _⟩
theorem rd_c (h : w.ownsRow B 43 1 (.slice a n c) n (madeCells (Value.int .u32 0).cells (n * 1)).toList) : RdM (· < w.heap.size) w none 0 0 none 0 0 a n c none 0 0 none 0 0 ⟨[], [], [], List.replicate n 0, [], []⟩ := by
  rw [← u32s_zero] at h
  exact ⟨Reads.nil _ _, Reads.nil _ _, (Reads.of_owns h).there.mono fun g hg => hg.2, Reads.nil _ _, ReadsR.nil _ _⟩
theorem rd_d (h : w.ownsRow B 43 1 (.slice a n c) n (madeCells (Value.int .u32 0).cells (n * 1)).toList) : RdM (· < w.heap.size) w none 0 0 none 0 0 none 0 0 a n c none 0 0 ⟨[], [], [], [], List.replicate n 0, []⟩ := by
  rw [← u32s_zero] at h
  exact ⟨Reads.nil _ _, Reads.nil _ _, Reads.nil _ _, (Reads.of_owns h).there.mono fun g hg => hg.2, ReadsR.nil _ _⟩
theorem rd_r (h : w.ownsRow B 48 3 (.slice a n c) n (madeCells (Value.agg #[.int .u8 0, .int .u16 0, .int .u16 0]).cells (n * 3)).toList) : RdM (· < w.heap.size) w none 0 0 none 0 0 none 0 0 none 0 0 a n c ⟨[], [], [], [], [], List.replicate n ⟨0, 0, 0⟩⟩ := by
  rw [← relC_zero] at h
  exact ⟨Reads.nil _ _, Reads.nil _ _, Reads.nil _ _, Reads.nil _ _, readsR_there (readsR_owns h) |>.mono fun g hg => hg.2⟩
theorem rd_n (w : World) (l : List UInt8) : RdM (· < w.heap.size) w none 0 0 none 0 0 none 0 0 none 0 0 none 0 0 ⟨l, [], [], [], [], []⟩ := ⟨Reads.nil _ _, Reads.nil _ _, Reads.nil _ _, Reads.nil _ _, ReadsR.nil _ _⟩
theorem text_zero (h : w.ownsRow B 5 1 (.slice a n c) n (madeCells (Value.int .u8 0).cells (n * 1)).toList) : (convert 30 9 (.slice a n c)).run Try.prog w = .ok (.string (bs (List.replicate n 0))) w := by
  rw [← u8s_zero] at h
  exact text_run (Reads.of_owns h)
end
theorem fine_z {nm : List UInt8} {ex im : List (List UInt8)} {a b c : Nat} : FineM ⟨nm, ex, im, List.replicate a 0, List.replicate b 0, List.replicate c ⟨0, 0, 0⟩⟩ :=
  ⟨fun w hw => by rw [List.eq_of_mem_replicate hw]; omega, fun w hw => by rw [List.eq_of_mem_replicate hw]; omega, fun w hw => by rw [List.eq_of_mem_replicate hw]; decide⟩
theorem chk_z {a e i c d r k : Nat} (h : k = if 8 < e ∨ 16 < i ∨ 512 < c ∨ 128 < d ∨ 256 < r ∨ 96 < a then 5 else 0) : chkM ⟨List.replicate a 0, List.replicate e [], List.replicate i [], List.replicate c 0, List.replicate d 0, List.replicate r ⟨0, 0, 0⟩⟩ = k := by
  subst h
  have l1 : ∀ n, longB (List.replicate n []) = false := by
    intro n
    unfold longB
    rw [List.any_eq_false]
    intro s hs
    rw [List.eq_of_mem_replicate hs]
    decide
  have l2 : argB ⟨List.replicate a 0, List.replicate e [], List.replicate i [], List.replicate c 0, List.replicate d 0, List.replicate r ⟨0, 0, 0⟩⟩ = false := by
    unfold argB
    rw [List.any_eq_false]
    intro s hs
    rw [List.eq_of_mem_replicate hs]
    decide
  unfold chkM
  rw [l2]
  unfold farB manyB
  simp only [l1, List.length_replicate, Bool.or_false, Bool.false_eq_true, if_false, Bool.or_eq_true, decide_eq_true_eq]
  by_cases hh : 8 < e ∨ 16 < i ∨ 512 < c ∨ 128 < d ∨ 256 < r ∨ 96 < a
  · rw [if_pos hh, if_pos (by omega)]
  · rw [if_neg hh, if_neg (by omega)]
end Go.Proofs.Ytdlinlkdielmkaa.OR
