/-
  Words as digits: what Hex and Parse tell, of package word and of the reference.
-/
import Derived.Test.YtoohfmkhjhcopaaGreatDoorWordFn
import Derived.Laws.BytesArg
set_option linter.unusedSimpArgs false
set_option linter.unusedVariables false
namespace Go.Proofs.YtoohfmkhjhcopaaGreatDoor.WF
open Go.RowKit WM

def Blk (w : World) (g : Nat) (t : TypeId) (cs : Array Value) : Prop := w.heap[g]? = some (.cells cs t (0, 0))
section
variable {w w' : World} {g : Nat} {t : TypeId} {cs : Array Value}
theorem Blk.cell (h : Blk w g t cs) (i : Nat) : w.cell? ⟨g, i, none⟩ = cs[i]? := cell_of_row w g i cs t (0, 0) h
theorem Blk.frozen (h : Blk w g t cs) (i : Nat) : w.frozen? ⟨g, i, none⟩ = false := by
  unfold Blk at h
  simp [World.frozen?, h]
theorem Blk.new (w : World) (t : TypeId) (cs : Array Value) : Blk (w.alloc (.cells cs t)) w.heap.size t cs := heap_alloc_new w _
theorem Blk.drewN (h : Blk w g t cs) (n : Nat) : Blk (w.drewN n) g t cs := h
theorem Blk.set_ (h : Blk w g t cs) (i : Nat) (u : Value) : Blk (w.setCell ⟨g, i, none⟩ u) g t (cs.setIfInBounds i u) := by
  unfold Blk at h ⊢
  simp [World.setCell, Array.getElem?_modify, h]
theorem below_drewN {B : Nat} {a w : World} (h : Below B a w) (n : Nat) : Below B a (w.drewN n) := ⟨h.os, h.tape, h.output, h.size, h.block⟩
end

def hexd (d : Nat) : Int := if d < 10 then 48 + (d : Int) else 87 + (d : Int)
def hexCells (x k : Nat) : Array Value := ((List.range 8).map (fun j => Value.int .u8 (if 8 - k ≤ j then hexd (cutN x (4 * (7 - j)) 4) else 0))).toArray
def hexL (x : Nat) : List Int := (List.range 8).map (fun j => hexd (cutN x (4 * (7 - j)) 4))

theorem wordBits_int (x : Int) (a n : Int) (w : World) (hx : 0 ≤ x ∧ x < 4294967296) (h : 0 ≤ a ∧ 0 ≤ n ∧ a + n ≤ 32) :
    Calls Tryz.prog 71 #[.int .u32 x, .int .i64 a, .int .i64 n] w fun e w' => e = .returned (.int .u32 ((cutN x.toNat a.toNat n.toNat : Nat) : Int)) ∧ ∃ k, w' = w.drewN k := by
  obtain ⟨y, rfl⟩ := Int.eq_ofNat_of_zero_le hx.1
  simpa using wordBits_yes y a n w (by omega) h

theorem hexd_at (d : Nat) (h : d < 16) : ((({ data := #[48, 49, 50, 51, 52, 53, 54, 55, 56, 57, 97, 98, 99, 100, 101, 102] } : ByteArray)[d]'h).toNat : Int) = hexd d := by
  have h' : d = 0 ∨ d = 1 ∨ d = 2 ∨ d = 3 ∨ d = 4 ∨ d = 5 ∨ d = 6 ∨ d = 7 ∨ d = 8 ∨ d = 9 ∨ d = 10 ∨ d = 11 ∨ d = 12 ∨ d = 13 ∨ d = 14 ∨ d = 15 := by omega
  rcases h' with rfl | rfl | rfl | rfl | rfl | rfl | rfl | rfl | rfl | rfl | rfl | rfl | rfl | rfl | rfl | rfl <;> rfl
theorem hexCells_size (x k : Nat) : (hexCells x k).size = 8 := by simp [hexCells]
theorem hexCells_at (x k j : Nat) (h : j < 8) : (hexCells x k)[j]? = some (Value.int .u8 (if 8 - k ≤ j then hexd (cutN x (4 * (7 - j)) 4) else 0)) := by
  simp [hexCells, h]
theorem hexCells_succ (x k : Nat) (h : k < 8) : (hexCells x k).setIfInBounds (7 - k) (.int .u8 (hexd (cutN x (4 * k) 4))) = hexCells x (k + 1) := by
  apply Array.ext_getElem?
  intro j
  by_cases hj : j < 8
  · rw [Array.getElem?_setIfInBounds, hexCells_at x (k + 1) j hj, hexCells_at x k j hj, hexCells_size]
    by_cases e : 7 - k = j
    · subst e
      rw [if_pos rfl, if_pos (by omega), if_pos (by omega), show 7 - (7 - k) = k by omega]
    · rw [if_neg e]
      by_cases e2 : 8 - k ≤ j
      · rw [if_pos e2, if_pos (by omega)]
      · rw [if_neg e2, if_neg (by omega)]
  · rw [Array.getElem?_eq_none (by simp [hexCells_size]; omega), Array.getElem?_eq_none (by rw [hexCells_size]; omega)]
theorem hexCells_zero (x : Nat) : hexCells x 0 = #[.int .u8 0, .int .u8 0, .int .u8 0, .int .u8 0, .int .u8 0, .int .u8 0, .int .u8 0, .int .u8 0] := by
  simp [hexCells, List.range, List.range.loop]
theorem hexCells_end (x j : Nat) (h : j < 8) : (hexCells x 8)[j]? = some (Value.int .u8 ((hexL x).getD j 0)) := by
  rw [hexCells_at x 8 j h, if_pos (by omega)]
  simp [hexL, h]

theorem wordHex_any (x : Nat) (w : World) (hx : x < 4294967296) :
    Calls Tryz.prog 49 #[.int .u32 (x : Int)] w fun e w' => e = .returned (.string (strOfNums (hexL x))) ∧ Below w.heap.size w w' := by
  go_enter Tryz.func49, Tryz.ntmps49
  go_wp2_with fail
  go_loopw [4, 5] (fun _ i wr => ∃ k : Nat, k ≤ 8 ∧ i = .int .i64 k ∧ Blk wr w.heap.size 111 (hexCells x k) ∧ Below w.heap.size w wr) (fun _ i _ => 8 - (intOf i).toNat)
  case atStart => 
    refine ⟨0, by omega, rfl, ?_, ?_⟩
    · rw [hexCells_zero]
      exact Blk.new _ _ _
    · exact (Below.refl _ _).alloc (Nat.le_refl _) _
  case round =>
    obtain ⟨k, hk, rfl, hb, hw⟩ := hrel
    by_cases hlt : k < 8
    · have hc := hb.cell (7 - k)
      have hf := hb.frozen (7 - k)
      rw [hexCells_at x k (7 - k) (by omega)] at hc
      have hd16 : cutN x (4 * k) 4 < 16 := cutN_lt x (4 * k) 4
      have HD := Lib.hid (hexd_at _ hd16)
      have hd : ((cutN x (4 * k) 4 : Nat) : Int) < 16 := by omega
      go_wp2_with (first | (go_at_call 71; refine (wordBits_yes _ _ _ _ hx ⟨by omega, by omega, by omega⟩).mono ?_; rintro e w' ⟨rfl, m, rfl⟩))
      go_roundw
      case rel =>
        refine ⟨k + 1, by omega, by go_num, ?_, (below_drewN hw _).setCell (Nat.le_refl _) _⟩
        rw [HD.out, ← hexCells_succ x k hlt]
        exact (hb.drewN m).set_ _ _
      case measure => simp [intOf]; omega
    · obtain rfl : k = 8 := by omega
      have S := run_convert_bytes_arg (P := Tryz.prog) wr 53 5 Tryz.underlying53 Tryz.underlying5 w.heap.size 0 8 8 (hexL x) (by simp [hexL]) (fun i hi => by
        rw [Nat.zero_add, hb.cell, hexCells_end x i hi]) 9 Tryz.underlying9
      go_wp2
      go_ret
      exact ⟨rfl, hw⟩

theorem infoU8 : (Tryz.prog.info? 5).map (fun i => (i.zero, i.size, i.bytes)) = some (some (.int .u8 0), 1, 1) := by kernel_rfl
/-- the digits that the reference has laid when its counter stands at 7 - k -/
def hexPre (x k : Nat) : List Value := (List.range k).map (fun j => Value.int .u8 (hexd (cutN x (4 * (7 - j)) 4)))
theorem hexPre_succ (x k : Nat) : hexPre x (k + 1) = hexPre x k ++ [.int .u8 (hexd (cutN x (4 * (7 - k)) 4))] := by
  simp [hexPre, List.range_succ]
theorem hexPre_end (x : Nat) : hexPre x 8 = (hexL x).map (Value.int .u8) := by simp [hexPre, hexL]

set_option maxRecDepth 20000 in
theorem refHex_any (x : Nat) (w : World) (hx : x < 4294967296) :
    Calls Tryz.prog 33 #[.int .u32 (x : Int)] w fun e w' => e = .returned (.string (strOfNums (hexL x))) ∧ Below w.heap.size w w' := by
  obtain ⟨i0, hi, hz0, hz1, hz2⟩ := info_parts infoU8
  go_enter Tryz.func33, Tryz.ntmps33
  go_wp2_with fail
  go_loopw [3, 4] (fun v i wr => ∃ k : Nat, k ≤ 8 ∧ i = .int .i64 (7 - (k : Int)) ∧ wr.ownsRow w.heap.size 5 1 v k (hexPre x k) ∧ Below w.heap.size w wr) (fun _ i _ => (intOf i + 1).toNat)
  case atStart => 
    exact ⟨0, by omega, rfl, World.ownsRow_nil _ _ _ _, Below.refl _ _⟩
  case round =>
    obtain ⟨k, hk, rfl, hown, hw⟩ := hrel
    by_cases hlt : k < 8
    · have hd16 : cutN x (4 * (7 - k)) 4 < 16 := cutN_lt x (4 * (7 - k)) 4
      have HD := Lib.hid (hexd_at _ hd16)
      have hd : ((cutN x (4 * (7 - k)) 4 : Nat) : Int) < 16 := by omega
      have he : (4 * (7 - (k : Int))).toNat = 4 * (7 - k) := by omega
      go_wp2_with (first | (go_at_call 50; refine (refBits_yes _ _ _ _ hx ⟨by omega, by omega, by omega⟩).mono ?_; rintro e w' ⟨rfl, rfl⟩) | (at_builtin; refine wpList_append_own _ rfl _ _ 53 rfl w.heap.size 5 i0 (.int .u8 0) 1 1 Tryz.underlying53 hi hz0 hz1 hz2 rfl (by decide) _ _ _ rfl (hown.alloc _) ⟨w'.heap.size, 0, none⟩ 1 1 [.int .u8 (hexd (cutN x (4 * (7 - k)) 4))] rfl rfl ?c1 ?c2 ?c3 ?c4 ?c5 ?_))
      case c1 =>
        intro j u hu
        cases j with
        | zero => simp at hu; subst hu; rw [← HD.out]; exact (Blk.new _ _ _).cell 0
        | succ j => simp at hu
      case c2 => intro u hu; simp at hu; subst hu; rfl
      case c3 => unfold maxLen; omega
      case c4 => omega
      case c5 => have := hw.size; simp; omega
      intro v' w1 hown1 hgrow _
      go_wp2
      go_roundw
      case rel =>
        refine ⟨k + 1, by omega, by go_num, ?_, ?_⟩
        · rw [hexPre_succ]; exact hown1
        · exact (hw.alloc hw.size _).grown hgrow (Nat.le_trans hw.size (by simp)) (fun g hg => (hown.lt g hg).1)
      case measure => simp [intOf]; omega
    · obtain rfl : k = 8 := by omega
      obtain ⟨_, hv⟩ := hown
      rcases hv with ⟨_, h0⟩ | ⟨g, cap, cur, rfl, hg, hcell, hcap, hcm, hsz, hcur⟩
      · cases h0
      have S := run_convert_bytes_arg (P := Tryz.prog) wr 53 5 Tryz.underlying53 Tryz.underlying5 g 0 8 cap (hexL x) (by simp [hexL]) (fun i hi => by
        rw [Nat.zero_add, cell_of_row wr g i cur _ _ hcell]
        have h1 : (cur.toList.take (8 * 1))[i]? = cur.toList[i]? := by rw [List.getElem?_take, if_pos (by omega)]
        rw [hcur, hexPre_end] at h1
        rw [← Array.getElem?_toList, ← h1]
        simp [hexL, hi]) 9 Tryz.underlying9
      go_wp2
      go_ret
      exact ⟨rfl, hw⟩
end Go.Proofs.YtoohfmkhjhcopaaGreatDoor.WF
