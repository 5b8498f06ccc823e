/-
  Numbers, words, texts and lists of words as bytes: what package wire and the reference for layer 3 lay.
-/
import Derived.Test.YtdlinlkdielmkaaWireRow
import Derived.Laws.BitsAllLaws
set_option linter.unusedSimpArgs false
set_option linter.unusedVariables false
namespace Go.Proofs.Ytdlinlkdielmkaa.NR
open Go.RowKit WM

theorem infoByte : (Try.prog.info? 5).map (fun i => (i.zero, i.size, i.bytes)) = some (some (.int .u8 0), 1, 1) := by kernel_rfl
theorem infoWord : (Try.prog.info? 43).map (fun i => (i.zero, i.size, i.bytes)) = some (some (.int .u32 0), 1, 4) := by kernel_rfl
theorem elemBytes : Try.prog.underlying 30 = some (.slice (Try.prog.elem 30)) := by kernel_rfl
theorem sizeBytes (u : World) : (sizeOf (Try.prog.elem 30)).run Try.prog u = .ok 1 u := by kernel_rfl
/-- a call tells bytes of its own -/
def IsBytes (B : Nat) (l : List UInt8) (w : World) (e : Ending) (w' : World) : Prop :=
  ∃ v, e = .returned v ∧ w'.ownsRow B 5 1 v l.length (u8s l) ∧ Below w.heap.size w w'
theorem or128 (m : Nat) : bits .or .u8 ((m : Int) % 256) 128 = ((UInt8.ofNat (m % 128 + 128)).toNat : Int) := by
  have e := u8_or_nat (m % 256) 128 (by omega) (by omega)
  rw [show ((m % 256 : Nat) : Int) = (m : Int) % 256 by omega] at e
  rw [show ((128 : Nat) : Int) = 128 from rfl] at e
  rw [e, toNat_ofNat]
  have h : ∀ a : Fin 256, a.val ||| 128 = a.val % 128 + 128 := by decide +kernel
  have h' := h ⟨m % 256, by omega⟩
  simp only at h'
  rw [h']
  omega
theorem low8 (m : Nat) : (m : Int) % 256 = ((UInt8.ofNat m).toNat : Int) := by rw [toNat_ofNat]; omega
theorem owns_snoc {w : World} {B : Nat} {v : Value} {xs : List UInt8} {c : UInt8} (h : w.ownsRow B 5 1 v (xs.length + 1) (u8s xs ++ [.int .u8 (c.toNat : Int)])) :
    w.ownsRow B 5 1 v (xs ++ [c]).length (u8s (xs ++ [c])) := by
  rw [u8s_append]
  simpa [u8s] using h
theorem oneAt (w : World) (u : Value) (t : TypeId) : ∀ j x, [u][j]? = some x → (w.alloc (.cells #[u] t)).cell? ((⟨w.heap.size, 0, none⟩ : Addr).add j) = some x := by
  intro j x hj
  cases j with
  | zero => simp at hj; subst hj; exact cell_of_row _ w.heap.size 0 #[u] t (0, 0) (heap_alloc_new w _)
  | succ j => simp at hj

theorem var_any (n : Nat) (w : World) (hn : n < 4294967296) :
    Calls Try.prog 55 #[.int .u32 (n : Int)] w (IsBytes w.heap.size (varL n) w) := by
  obtain ⟨i0, hi, hz0, hz1, hz2⟩ := info_parts infoByte
  go_enter Try.func55, Try.ntmps55
  go_wp2_with fail
  go_loopw [0, 3] (fun a v wr => ∃ (m : Nat) (xs : List UInt8) (q : Value), a = .int .u32 (m : Int) ∧ q = v ∧ (m : Int) < 4294967296 ∧ xs.length ≤ n ∧ wr.ownsRow w.heap.size 5 1 q xs.length (u8s xs) ∧ Below w.heap.size w wr ∧ Hid (xs ++ varL m = varL n) ∧ Hid (xs.length + m ≤ n)) (fun a _ _ => (intOf a).toNat)
  case atStart => exact ⟨n, [], _, rfl, rfl, by omega, by simp, World.ownsRow_nil _ _ _ _, Below.refl _ _, rfl, by show _ ≤ _; simp⟩
  case round =>
    obtain ⟨m, xs, q, rfl, rfl, hm, hx, hown, hw, HX, HL⟩ := hrel
    have hnb : (xs.length + 1) * 1 ≤ 140737488355328 := by have := HL.out; omega
    have hnm : xs.length + 1 ≤ maxLen := by unfold maxLen; omega
    have hbase := hw.size
    by_cases hlt : m < 128
    · have hlt' : ¬ (128 : Int) ≤ (m : Int) := by omega
      obtain ⟨c, Hc, L8⟩ : ∃ c, Hid (c = UInt8.ofNat m) ∧ (m : Int) = (c.toNat : Int) := ⟨_, Lib.hid rfl, by rw [toNat_ofNat]; omega⟩
      have L9 := Lib.hid L8
      clear L8
      go_wp2_with (at_builtin; refine wpList_append_own _ rfl _ _ 30 rfl w.heap.size 5 i0 (.int .u8 0) 1 1 Try.underlying30 hi hz0 hz1 hz2 rfl (by decide) _ _ _ rfl (hown.alloc _) ⟨wr.heap.size, 0, none⟩ 1 1 [.int .u8 (m : Int)] rfl rfl (oneAt _ _ _) ?c2 hnm hnb ?c5 ?_)
      case c2 => first | rfl | (intro u hu; simp at hu; subst hu; rfl)
      case c5 => first | omega | (simp; omega)
      intro v' w1 hown1 hgrow _
      have e : xs ++ [c] = varL n := by rw [Hc.out, ← varL_low m hlt]; exact HX.out
      have HO : w1.ownsRow w.heap.size 5 1 v' (varL n).length (u8s (varL n)) := by rw [← e]; rw [L9.out] at hown1; exact owns_snoc hown1
      have HB := (hw.alloc hw.size (.cells #[.int .u8 (m : Int)] 5)).grown hgrow (Nat.le_trans hw.size (by simp)) (fun g hg => (hown.lt g hg).1)
      go_wp2_with fail
      go_ret
      exact ⟨_, rfl, HO, HB⟩
    · have hlt' : (128 : Int) ≤ (m : Int) := by omega
      obtain ⟨c, Hc, L8⟩ : ∃ c, Hid (c = UInt8.ofNat (m % 128 + 128)) ∧ bits .or .u8 ((m : Int) % 256) 128 = (c.toNat : Int) := ⟨_, Lib.hid rfl, or128 m⟩
      go_wp2_with (at_builtin; refine wpList_append_own _ rfl _ _ 30 rfl w.heap.size 5 i0 (.int .u8 0) 1 1 Try.underlying30 hi hz0 hz1 hz2 rfl (by decide) _ _ _ rfl (hown.alloc _) ⟨wr.heap.size, 0, none⟩ 1 1 [.int .u8 (c.toNat : Int)] rfl rfl (oneAt _ _ _) ?d2 hnm hnb ?d5 ?_)
      case d2 => first | rfl | (intro u hu; simp at hu; subst hu; rfl)
      case d5 => first | omega | (simp; omega)
      intro v' w1 hown1 hgrow _
      have HO := owns_snoc hown1
      have HB := (hw.alloc hw.size (.cells #[.int .u8 (c.toNat : Int)] 5)).grown hgrow (Nat.le_trans hw.size (by simp)) (fun g hg => (hown.lt g hg).1)
      clear hown1 hgrow L8
      go_wp2_with fail
      go_roundw
      case rel => exact ⟨m / 128, xs ++ [c], _, by go_num, rfl, by omega, by have := HL.out; simp; omega, HO, HB, by show _ = _; rw [Hc.out, List.append_assoc, List.singleton_append, ← varL_high m (by omega)]; exact HX.out, by show _ ≤ _; have := HL.out; simp; omega⟩
      case measure => simp [intOf]; omega
theorem var_int (x : Int) (w : World) (h : 0 ≤ x ∧ x < 4294967296) : Calls Try.prog 55 #[.int .u32 x] w (IsBytes w.heap.size (varL x.toNat) w) := by
  obtain ⟨n, rfl⟩ := Int.eq_ofNat_of_zero_le h.1
  exact var_any n w (by omega)
theorem refVar_any (n : Nat) (w : World) (hn : n < 4294967296) :
    Calls Try.prog 30 #[.int .u32 (n : Int)] w (IsBytes w.heap.size (varL n) w) := by
  obtain ⟨i0, hi, hz0, hz1, hz2⟩ := info_parts infoByte
  go_enter Try.func30, Try.ntmps30
  go_wp2_with fail
  go_loopw [0, 3] (fun a v wr => ∃ (m : Nat) (xs : List UInt8) (q : Value), a = .int .u32 (m : Int) ∧ q = v ∧ (m : Int) < 4294967296 ∧ xs.length ≤ n ∧ wr.ownsRow w.heap.size 5 1 q xs.length (u8s xs) ∧ Below w.heap.size w wr ∧ Hid (xs ++ varL m = varL n) ∧ Hid (xs.length + m ≤ n)) (fun a _ _ => (intOf a).toNat)
  case atStart => exact ⟨n, [], _, rfl, rfl, by omega, by simp, World.ownsRow_nil _ _ _ _, Below.refl _ _, rfl, by show _ ≤ _; simp⟩
  case round =>
    obtain ⟨m, xs, q, rfl, rfl, hm, hx, hown, hw, HX, HL⟩ := hrel
    have hnb : (xs.length + 1) * 1 ≤ 140737488355328 := by have := HL.out; omega
    have hnm : xs.length + 1 ≤ maxLen := by unfold maxLen; omega
    have hbase := hw.size
    by_cases hlt : m < 128
    · have hlt' : ¬ (128 : Int) ≤ (m : Int) := by omega
      obtain ⟨c, Hc, L8⟩ : ∃ c, Hid (c = UInt8.ofNat m) ∧ (m : Int) = (c.toNat : Int) := ⟨_, Lib.hid rfl, by rw [toNat_ofNat]; omega⟩
      have L9 := Lib.hid L8
      clear L8
      go_wp2_with (at_builtin; refine wpList_append_own _ rfl _ _ 30 rfl w.heap.size 5 i0 (.int .u8 0) 1 1 Try.underlying30 hi hz0 hz1 hz2 rfl (by decide) _ _ _ rfl (hown.alloc _) ⟨wr.heap.size, 0, none⟩ 1 1 [.int .u8 (m : Int)] rfl rfl (oneAt _ _ _) ?c2 hnm hnb ?c5 ?_)
      case c2 => first | rfl | (intro u hu; simp at hu; subst hu; rfl)
      case c5 => first | omega | (simp; omega)
      intro v' w1 hown1 hgrow _
      have e : xs ++ [c] = varL n := by rw [Hc.out, ← varL_low m hlt]; exact HX.out
      have HO : w1.ownsRow w.heap.size 5 1 v' (varL n).length (u8s (varL n)) := by rw [← e]; rw [L9.out] at hown1; exact owns_snoc hown1
      have HB := (hw.alloc hw.size (.cells #[.int .u8 (m : Int)] 5)).grown hgrow (Nat.le_trans hw.size (by simp)) (fun g hg => (hown.lt g hg).1)
      go_wp2_with fail
      go_ret
      exact ⟨_, rfl, HO, HB⟩
    · have hlt' : (128 : Int) ≤ (m : Int) := by omega
      obtain ⟨c, Hc, L8⟩ : ∃ c, Hid (c = UInt8.ofNat (m % 128 + 128)) ∧ (m : Int) % 128 + 128 = (c.toNat : Int) := ⟨_, Lib.hid rfl, by rw [toNat_ofNat]; omega⟩
      go_wp2_with (at_builtin; refine wpList_append_own _ rfl _ _ 30 rfl w.heap.size 5 i0 (.int .u8 0) 1 1 Try.underlying30 hi hz0 hz1 hz2 rfl (by decide) _ _ _ rfl (hown.alloc _) ⟨wr.heap.size, 0, none⟩ 1 1 [.int .u8 (c.toNat : Int)] rfl rfl (oneAt _ _ _) ?d2 hnm hnb ?d5 ?_)
      case d2 => first | rfl | (intro u hu; simp at hu; subst hu; rfl)
      case d5 => first | omega | (simp; omega)
      intro v' w1 hown1 hgrow _
      have HO := owns_snoc hown1
      have HB := (hw.alloc hw.size (.cells #[.int .u8 (c.toNat : Int)] 5)).grown hgrow (Nat.le_trans hw.size (by simp)) (fun g hg => (hown.lt g hg).1)
      clear hown1 hgrow L8
      go_wp2_with fail
      go_roundw
      case rel => exact ⟨m / 128, xs ++ [c], _, by go_num, rfl, by omega, by have := HL.out; simp; omega, HO, HB, by show _ = _; rw [Hc.out, List.append_assoc, List.singleton_append, ← varL_high m (by omega)]; exact HX.out, by show _ ≤ _; have := HL.out; simp; omega⟩
      case measure => simp [intOf]; omega
theorem refVar_int (x : Int) (w : World) (h : 0 ≤ x ∧ x < 4294967296) : Calls Try.prog 30 #[.int .u32 x] w (IsBytes w.heap.size (varL x.toNat) w) := by
  obtain ⟨n, rfl⟩ := Int.eq_ofNat_of_zero_le h.1
  exact refVar_any n w (by omega)

def wcells (n k : Nat) : Array Value :=
  #[.int .u8 (if 0 < k then ((UInt8.ofNat n).toNat : Int) else 0), .int .u8 (if 1 < k then ((UInt8.ofNat (n / 256)).toNat : Int) else 0),
    .int .u8 (if 2 < k then ((UInt8.ofNat (n / 65536)).toNat : Int) else 0), .int .u8 (if 3 < k then ((UInt8.ofNat (n / 16777216)).toNat : Int) else 0)]
theorem wcells_end (n : Nat) : (wcells n 4).toList = u8s (wordL n) := rfl
theorem block_cell {w : World} {g : Nat} {t : TypeId} {cs : Array Value} (h : w.heap[g]? = some (.cells cs t (0, 0))) (i : Nat) : w.cell? ⟨g, i, none⟩ = cs[i]? := cell_of_row w g i cs t (0, 0) h
theorem block_free {w : World} {g : Nat} {t : TypeId} {cs : Array Value} (h : w.heap[g]? = some (.cells cs t (0, 0))) (i : Nat) : w.frozen? ⟨g, i, none⟩ = false := by simp [World.frozen?, h]
theorem block_set {w : World} {g : Nat} {t : TypeId} {cs : Array Value} (h : w.heap[g]? = some (.cells cs t (0, 0))) (i : Nat) (u : Value) : (w.setCell ⟨g, i, none⟩ u).heap[g]? = some (.cells (cs.setIfInBounds i u) t (0, 0)) := by
  simp [World.setCell, Array.getElem?_modify, h]
theorem owns_block {w : World} {g B : Nat} {t : TypeId} {cs : Array Value} (h : w.heap[g]? = some (.cells cs t (0, 0))) (hB : B ≤ g) (n : Nat) (hn : cs.size = n) (hm : n ≤ maxLen) : w.ownsRow B t 1 (.slice (some ⟨g, 0, none⟩) n n) n cs.toList :=
  ⟨by simp [hn], Or.inr ⟨g, n, cs, rfl, hB, h, Nat.le_refl _, hm, by simp [hn], by rw [List.take_of_length_le (by simp [hn])]⟩⟩
theorem wcell_0 {n : Nat} {w : World} {g : Nat} {t : TypeId} (h : w.heap[g]? = some (.cells (wcells n 0) t (0, 0))) (x : Int) (hx : x = ((n / 1 % 256 : Nat) : Int)) :
    (w.setCell ⟨g, 0, none⟩ (.int .u8 x)).heap[g]? = some (.cells (wcells n 1) t (0, 0)) := by
  rw [block_set h 0, hx, ← toNat_ofNat]
  try rw [Nat.div_one]
  rfl
theorem wcell_1 {n : Nat} {w : World} {g : Nat} {t : TypeId} (h : w.heap[g]? = some (.cells (wcells n 1) t (0, 0))) (x : Int) (hx : x = ((n / 256 % 256 : Nat) : Int)) :
    (w.setCell ⟨g, 1, none⟩ (.int .u8 x)).heap[g]? = some (.cells (wcells n 2) t (0, 0)) := by
  rw [block_set h 1, hx, ← toNat_ofNat]
  try rw [Nat.div_one]
  rfl
theorem wcell_2 {n : Nat} {w : World} {g : Nat} {t : TypeId} (h : w.heap[g]? = some (.cells (wcells n 2) t (0, 0))) (x : Int) (hx : x = ((n / 65536 % 256 : Nat) : Int)) :
    (w.setCell ⟨g, 2, none⟩ (.int .u8 x)).heap[g]? = some (.cells (wcells n 3) t (0, 0)) := by
  rw [block_set h 2, hx, ← toNat_ofNat]
  try rw [Nat.div_one]
  rfl
theorem wcell_3 {n : Nat} {w : World} {g : Nat} {t : TypeId} (h : w.heap[g]? = some (.cells (wcells n 3) t (0, 0))) (x : Int) (hx : x = ((n / 16777216 % 256 : Nat) : Int)) :
    (w.setCell ⟨g, 3, none⟩ (.int .u8 x)).heap[g]? = some (.cells (wcells n 4) t (0, 0)) := by
  rw [block_set h 3, hx, ← toNat_ofNat]
  try rw [Nat.div_one]
  rfl
theorem make4 : ∀ w, (Instr.makeSlice 30 (.int .i64 4) (.int .i64 4)).run Try.prog w = .ok (.slice (some ⟨w.heap.size, 0, none⟩) 4 4) (w.alloc (.cells #[.int .u8 0, .int .u8 0, .int .u8 0, .int .u8 0] 5)) := fun _ => by kernel_rfl
theorem word_any (n : Nat) (w : World) (hn : n < 4294967296) :
    Calls Try.prog 56 #[.int .u32 (n : Int)] w (IsBytes w.heap.size (wordL n) w) := by
  have hmk := make4
  go_enter Try.func56, Try.ntmps56
  go_wp2_with fail
  go_loopw [8] (fun i wr => ∃ k : Nat, k ≤ 4 ∧ i = .int .i64 (k : Int) ∧ wr.heap[w.heap.size]? = some (.cells (wcells n k) 5 (0, 0)) ∧ Below w.heap.size w wr) (fun i _ => 4 - (intOf i).toNat)
  case atStart => exact ⟨0, by omega, rfl, heap_alloc_new w _, below_new w _⟩
  case round =>
    obtain ⟨k, hk, rfl, hb, hw⟩ := hrel
    have hs0 := hw.size
    have h5 : k = 0 ∨ k = 1 ∨ k = 2 ∨ k = 3 ∨ k = 4 := by omega
    rcases h5 with rfl | rfl | rfl | rfl | rfl
    · have hc : wr.cell? ⟨w.heap.size, 0, none⟩ = some (.int .u8 0) := block_cell hb 0
      have hf := block_free hb 0
      go_wp2_with fail
      go_roundw
      case rel => exact ⟨1, by omega, by go_num, wcell_0 hb _ (by omega), hw.setCell (by simp) _⟩
      case measure => simp [intOf]
    · have hc : wr.cell? ⟨w.heap.size, 1, none⟩ = some (.int .u8 0) := block_cell hb 1
      have hf := block_free hb 1
      go_wp2_with fail
      go_roundw
      case rel => exact ⟨2, by omega, by go_num, wcell_1 hb _ (by omega), hw.setCell (by simp) _⟩
      case measure => simp [intOf]
    · have hc : wr.cell? ⟨w.heap.size, 2, none⟩ = some (.int .u8 0) := block_cell hb 2
      have hf := block_free hb 2
      go_wp2_with fail
      go_roundw
      case rel => exact ⟨3, by omega, by go_num, wcell_2 hb _ (by omega), hw.setCell (by simp) _⟩
      case measure => simp [intOf]
    · have hc : wr.cell? ⟨w.heap.size, 3, none⟩ = some (.int .u8 0) := block_cell hb 3
      have hf := block_free hb 3
      go_wp2_with fail
      go_roundw
      case rel => exact ⟨4, by omega, by go_num, wcell_3 hb _ (by omega), hw.setCell (by simp) _⟩
      case measure => simp [intOf]
    · have HO := owns_block hb (Nat.le_refl _) 4 rfl (by simp [maxLen])
      rw [wcells_end] at HO
      go_wp2_with fail
      go_ret
      exact ⟨_, rfl, HO, hw⟩
end Go.Proofs.Ytdlinlkdielmkaa.NR
