/-
  Texts in small letters: package name and the reference.
-/
import Derived.Test.YtenilpofmfcofaaNameTop
import Derived.Lib.ConvBytes
import Derived.Laws.IdiomStrings
import Derived.Laws.BytesArg
set_option linter.unusedSimpArgs false
set_option linter.unusedVariables false
namespace Go.Proofs.Ytenilpofmfcofaa.NF
open Go.RowKit NM

theorem below_bytes (w : World) (e : TypeId) (s : ByteArray) : Below w.heap.size w (Lib.bytesWorld w e s) := by
  refine ⟨?_, ?_, ?_, by rw [Lib.bytesWorld_size]; omega, fun b hb => Lib.bytesWorld_at_old w e s b hb⟩
  all_goals (unfold Lib.bytesWorld World.freeze; split <;> rfl)
def foldAt (l : List UInt8) (k j : Nat) : Nat := if j < k then bt (fold l) j else bt l j
/-- the cells of a text whose first k bytes are in small letters -/
def Folded (l : List UInt8) (k : Nat) (cs : Array Value) : Prop := ∀ j, j < l.length → cs[j]? = some (.int .u8 (foldAt l k j : Nat))
theorem Folded.same {l : List UInt8} {k : Nat} {cs : Array Value} (h : Folded l k cs) (hk : bt (fold l) k = bt l k) : Folded l (k + 1) cs := fun j hj => by
  rw [h j hj]
  unfold foldAt
  by_cases e : j = k
  · subst e; rw [if_neg (by omega), if_pos (by omega), hk]
  · by_cases h2 : j < k
    · rw [if_pos h2, if_pos (by omega)]
    · rw [if_neg h2, if_neg (by omega)]
theorem Folded.put {l : List UInt8} {k : Nat} {cs : Array Value} (h : Folded l k cs) (hk : k < l.length) {v : Int} (hv : v = (bt (fold l) k : Nat)) : Folded l (k + 1) (cs.setIfInBounds k (.int .u8 v)) := fun j hj => by
  have hsz : k < cs.size := (Array.getElem?_eq_some_iff.1 (h k hk)).1
  rw [Array.getElem?_setIfInBounds]
  by_cases e : k = j
  · subst e
    rw [if_pos rfl, if_pos hsz, hv]
    unfold foldAt
    rw [if_pos (by omega)]
  · rw [if_neg e, h j hj]
    unfold foldAt
    by_cases h2 : j < k
    · rw [if_pos h2, if_pos (by omega)]
    · rw [if_neg h2, if_neg (by omega)]
theorem fold_any (s : ByteArray) (w : World) (hs : s.size ≤ 9223372036854775807) :
    Calls Try.prog 15 #[.string s] w fun e w' => e = .returned (.string (bs (fold s.data.toList))) ∧ Below w.heap.size w w' := by
  have hconv := Lib.run_convert_string_bytes (P := Try.prog) w 9 40 5 s Try.underlying9 Try.underlying40 Try.underlying5
  have B0 := below_bytes w 5 s
  have N0 := Lib.bytesWorld_at_new w 5 s
  have F0 : Folded s.data.toList 0 (Lib.bytesCells w 5 s) := by
    intro j hj
    rw [size_list] at hj
    have := Lib.bytesWorld_cell w 5 s j hj
    have c := cell_of_row _ _ j _ _ _ N0
    rw [← c, this]
    rfl
  have S0 : s.size ≤ (Lib.bytesCells w 5 s).size := by
    unfold Lib.bytesCells
    simp
  generalize Lib.bytesWorld w 5 s = W0 at *
  generalize Lib.bytesCells w 5 s = cs0 at *
  generalize grownCap w s.size 0 5 = C at *
  have HN := Lib.hid N0
  have HF := Lib.hid F0
  clear N0 F0
  go_enter Try.func15, Try.ntmps15
  go_wp2_with fail
  have hlim : (0 : Int) ≤ s.size := by omega
  go_loopw [4, 5, 10] (fun _ _ i wr => ∃ (k : Nat) (cs : Array Value) (lo hi : Nat), i = .int .i64 k ∧ k ≤ s.size ∧ Hid (wr.heap[w.heap.size]? = some (.cells cs 5 (lo, hi))) ∧ s.size ≤ lo ∧ Hid (Folded s.data.toList k cs) ∧ Below w.heap.size w wr) (fun _ _ i _ => s.size - (intOf i).toNat)
  case atStart => exact ⟨0, cs0, _, _, rfl, by omega, HN.out, S0, HF.out, B0⟩
  case round =>
    obtain ⟨k, cs, lo, hi, rfl, hk, HC, hlo, HX, hbw⟩ := hrel
    by_cases hlt : k < s.size
    · have hlt' : (k : Int) < s.size := by omega
      have hc : wr.cell? ⟨w.heap.size, k, none⟩ = some (.int .u8 (bt s.data.toList k : Nat)) := by
        rw [cell_of_row _ _ k _ _ _ HC.out, HX.out k (by rw [size_list]; exact hlt)]
        unfold foldAt
        rw [if_neg (by omega)]
      have hf : wr.frozen? ⟨w.heap.size, k, none⟩ = false := by
        have := HC.out
        simp [World.frozen?, this]
        omega
      have hb256 := bt_lt s.data.toList k
      have BF := Lib.hid (bt_fold s.data.toList k)
      have HX2 : Hid (bt (fold s.data.toList) k = bt s.data.toList k → Folded s.data.toList (k + 1) cs) := fun h => HX.out.same h
      have HX3 : Hid (∀ v : Int, v = (bt (fold s.data.toList) k : Nat) → Folded s.data.toList (k + 1) (cs.setIfInBounds k (.int .u8 v))) := fun v hv => HX.out.put (by rw [size_list]; exact hlt) hv
      generalize bt s.data.toList k = b at *
      generalize bt (fold s.data.toList) k = f at *
      by_cases hu : 65 ≤ b ∧ b ≤ 90
      · have hF : f = b + 32 := by have := BF.out; rwa [if_pos hu] at this
        obtain ⟨u1, u2⟩ := hu
        have u1' : (65 : Int) ≤ b := by omega
        have u2' : (b : Int) ≤ 90 := by omega
        have K := Lib.hid (HX3.out ((b : Int) - 65 + 97) (by omega))
        clear hF
        go_wp2_with fail
        go_roundw
        case rel =>
          refine ⟨k + 1, _, lo, hi, by go_num, by omega, ?_, hlo, K.out, hbw.setCell (Nat.le_refl _) _⟩
          have h := HC.out
          show _ = _
          simp [World.setCell, Array.getElem?_modify, h]
        case measure => simp [intOf]; omega
      · have hF : f = b := by have := BF.out; rwa [if_neg hu] at this
        have K := Lib.hid (HX2.out hF)
        clear hF
        by_cases h65 : 65 ≤ b
        · have u1 : (65 : Int) ≤ b := by omega
          have u2 : ¬ (b : Int) ≤ 90 := by omega
          go_wp2_with fail
          go_roundw
          case rel => exact ⟨k + 1, cs, lo, hi, by go_num, by omega, HC.out, hlo, K.out, hbw⟩
          case measure => simp [intOf]; omega
        · have u1 : ¬ (65 : Int) ≤ b := by omega
          go_wp2_with fail
          go_roundw
          case rel => exact ⟨k + 1, cs, lo, hi, by go_num, by omega, HC.out, hlo, K.out, hbw⟩
          case measure => simp [intOf]; omega
    · have hn : ¬ (k : Int) < s.size := by omega
      have hks : k = s.size := by omega
      have S := run_convert_bytes_back (P := Try.prog) wr 40 9 5 ⟨w.heap.size, 0, none⟩ C (fold s.data.toList) Try.underlying40 Try.underlying5 Try.underlying9 (fun j hj => by
        rw [fold_length] at hj
        have ha : (⟨w.heap.size, 0, none⟩ : Addr).add j = ⟨w.heap.size, j, none⟩ := by simp [Addr.add]; omega
        rw [ha, cell_of_row _ _ j _ _ _ HC.out, HX.out j hj]
        unfold foldAt
        rw [if_pos (by rw [hks, ← size_list]; exact hj)]
        unfold bt
        rw [List.getD_eq_getElem?_getD, List.getElem?_eq_getElem (by rw [fold_length]; exact hj)]
        rfl)
      rw [fold_length, size_list] at S
      clear hks
      go_wp2_with fail
      go_ret
      exact ⟨rfl, hbw⟩
theorem infoU8 : (Try.prog.info? 5).map (fun i => (i.zero, i.size, i.bytes)) = some (some (.int .u8 0), 1, 1) := by kernel_rfl
def bytesV (l : List UInt8) : List Value := l.map fun c => Value.int .u8 (c.toNat : Nat)
theorem take_snoc (l : List UInt8) (k : Nat) (h : k < l.length) : ∃ c : UInt8, l.take (k + 1) = l.take k ++ [c] ∧ c.toNat = bt l k := by
  refine ⟨l[k], List.take_succ_eq_append_getElem h, ?_⟩
  unfold bt
  rw [List.getD_eq_getElem?_getD, List.getElem?_eq_getElem h]
  rfl
theorem bytes_snoc (l : List UInt8) (k : Nat) (h : k < l.length) (v : Int) (hv : v = (bt l k : Nat)) : bytesV (l.take (k + 1)) = bytesV (l.take k) ++ [.int .u8 v] := by
  obtain ⟨c, e, hc⟩ := take_snoc l k h
  rw [e, hv, ← hc]
  simp [bytesV]
theorem one_cell (w : World) (t : TypeId) (v : Value) : ∀ j u, [v][j]? = some u → (w.alloc (.cells #[v] t)).cell? ((⟨w.heap.size, 0, none⟩ : Addr).add j) = some u := by
  intro j u hu
  cases j with
  | zero => simp at hu; subst hu; exact (Blk.new _ _ _).cell 0
  | succ j => simp at hu
theorem one_plain (k : IntKind) (v : Int) : ∀ u ∈ [Value.int k v], u.oneCell' = true := by
  intro u hu; simp at hu; subst hu; rfl
theorem refFold_any (s : ByteArray) (w : World) (hs : s.size ≤ 2097152) :
    Calls Try.prog 16 #[.string s] w fun e w' => e = .returned (.string (bs (fold s.data.toList))) ∧ Below w.heap.size w w' := by
  obtain ⟨i0, hi, hz0, hz1, hz2⟩ := info_parts infoU8
  have HS := Lib.hid hs
  have hs' : (s.size : Int) ≤ 2097152 := by omega
  go_enter Try.func16, Try.ntmps16
  go_wp2_with fail
  go_loopw [3, 4, 5] (fun v i _ wr => ∃ (k : Nat) (q : Value), i = .int .i64 k ∧ q = v ∧ k ≤ s.size ∧ wr.ownsRow w.heap.size 5 1 q k (bytesV ((fold s.data.toList).take k)) ∧ Below w.heap.size w wr) (fun _ i _ _ => s.size - (intOf i).toNat)
  case atStart => exact ⟨0, _, rfl, rfl, by omega, World.ownsRow_nil _ _ _ _, Below.refl _ _⟩
  case round =>
    obtain ⟨k, q, rfl, rfl, hk, hown, hw⟩ := hrel
    by_cases hlt : k < s.size
    · have hlt' : (k : Int) < s.size := by omega
      have hb := byte_at s k hlt
      have hb256 := bt_lt s.data.toList k
      have BF := Lib.hid (bt_fold s.data.toList k)
      have SN := Lib.hid (fun v hv => bytes_snoc (fold s.data.toList) k (by rw [fold_length, size_list]; exact hlt) v hv)
      have hn8 : (k + 1) * 1 ≤ 140737488355328 := by omega
      have hnm : k + 1 ≤ maxLen := by unfold maxLen; omega
      generalize bt s.data.toList k = b at *
      generalize bt (fold s.data.toList) k = f at *
      by_cases hu : 65 ≤ b ∧ b ≤ 90
      · have hF : f = b + 32 := by have := BF.out; rwa [if_pos hu] at this
        obtain ⟨u1, u2⟩ := hu
        have u1' : (65 : Int) ≤ b := by omega
        have u2' : (b : Int) ≤ 90 := by omega
        have K := Lib.hid (SN.out ((b : Int) + 32) (by omega))
        clear hF
        go_wp2_with (first | (at_builtin; refine wpList_append_own _ rfl _ _ 40 rfl w.heap.size 5 i0 (.int .u8 0) 1 1 Try.underlying40 hi hz0 hz1 hz2 rfl (by decide) _ _ _ rfl (hown.alloc _) ⟨wr.heap.size, 0, none⟩ 1 1 [.int .u8 ((b : Int) + 32)] rfl rfl (one_cell _ _ _) (one_plain _ _) hnm hn8 (by have := hw.size; simp; omega) ?_))
        intro v' w1 hown1 hgrow _
        go_wp2_with fail
        go_roundw
        case rel =>
          refine ⟨k + 1, _, by go_num, rfl, by omega, ?_, ?_⟩
          · rw [K.out]; exact hown1
          · exact (hw.alloc hw.size _).grown hgrow (Nat.le_trans hw.size (by simp)) (fun g hg => (hown.lt g hg).1)
        case measure => simp [intOf]; omega
      · have hF : f = b := by have := BF.out; rwa [if_neg hu] at this
        have K := Lib.hid (SN.out (b : Int) (by omega))
        clear hF
        have hor : ¬ (65 : Int) ≤ b ∨ (65 : Int) ≤ b ∧ ¬ (b : Int) ≤ 90 := by omega
        rcases hor with u1 | ⟨u1, u2⟩
        all_goals
          go_wp2_with (first | (at_builtin; refine wpList_append_own _ rfl _ _ 40 rfl w.heap.size 5 i0 (.int .u8 0) 1 1 Try.underlying40 hi hz0 hz1 hz2 rfl (by decide) _ _ _ rfl (hown.alloc _) ⟨wr.heap.size, 0, none⟩ 1 1 [.int .u8 (b : Int)] rfl rfl (one_cell _ _ _) (one_plain _ _) hnm hn8 (by have := hw.size; simp; omega) ?_))
          intro v' w1 hown1 hgrow _
          go_wp2_with fail
          go_roundw
          case rel =>
            refine ⟨k + 1, _, by go_num, rfl, by omega, ?_, ?_⟩
            · rw [K.out]; exact hown1
            · exact (hw.alloc hw.size _).grown hgrow (Nat.le_trans hw.size (by simp)) (fun g hg => (hown.lt g hg).1)
          case measure => simp [intOf]; omega
    · have hn : ¬ (k : Int) < s.size := by omega
      have hks : k = s.size := by omega
      have hT : (fold s.data.toList).take k = fold s.data.toList := List.take_of_length_le (by rw [fold_length, size_list, hks]; exact Nat.le_refl _)
      rw [hT] at hown
      clear hT
      rcases hown.2 with ⟨rfl, h0⟩ | ⟨g, cap, cur, rfl, hg, hcell, hcap, hcm, hsz, hcur⟩
      · have E : Hid (fold s.data.toList = []) := List.length_eq_zero_iff.1 (by rw [fold_length, size_list, ← hks]; exact h0)
        have S := run_convert_bytes_nil (P := Try.prog) wr 40 5 Try.underlying40 Try.underlying5 0 0 9 Try.underlying9
        clear hks h0 hown
        go_wp2_with fail
        go_ret
        exact ⟨by rw [E.out]; rfl, hw⟩
      · have S := run_convert_bytes_back (P := Try.prog) wr 40 9 5 ⟨g, 0, none⟩ cap (fold s.data.toList) Try.underlying40 Try.underlying5 Try.underlying9 (fun j hj => by
          have ha : (⟨g, 0, none⟩ : Addr).add j = ⟨g, j, none⟩ := by simp [Addr.add]; omega
          rw [ha, hown.cellAt j (by rw [fold_length, size_list] at hj; omega)]
          unfold bytesV
          rw [List.getElem?_map, List.getElem?_eq_getElem hj]
          rfl)
        rw [fold_length, size_list, ← hks] at S
        clear hks hown hcell hsz hcur
        go_wp2_with fail
        go_ret
        exact ⟨rfl, hw⟩
end Go.Proofs.Ytenilpofmfcofaa.NF
