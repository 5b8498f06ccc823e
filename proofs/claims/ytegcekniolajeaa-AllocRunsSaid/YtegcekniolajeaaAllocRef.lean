/-
  What the document's own answer tells of a row: whether some are free, where there is room, how many are free; and whether two rows are one. Nothing here is a statement of the seed.
-/
import Derived.Test.YtegcekniolajeaaAllocRow
set_option linter.unusedSimpArgs false
set_option linter.unusedVariables false
namespace Go.Proofs.Ytegcekniolajeaa.AF
open Go.RowKit AL NR

theorem reads_cell {G : Nat → Prop} {w : World} {g off : Nat} {l : List Bool} (hc : ∀ j, j < (bls l).length → w.cell? ⟨g, off + j, none⟩ = (bls l)[j]?) (j : Nat) (hj : j < l.length) : w.cell? ⟨g, off + j, none⟩ = some (.bool (l.getD j false)) := by
  rw [hc j (by rw [bls_len]; exact hj), bls_at l j hj]
  simp [hj]
theorem at_true {l : List Bool} {i k : Nat} (h : i + k < l.length) (hk : k ≤ ld (l.drop i)) (hv : l.getD (i + k) false = true) : ld (l.drop i) = k := by
  apply ld_true _ k hk
  rw [List.getElem?_drop, List.getElem?_eq_getElem h]
  simpa [h] using hv
theorem at_false {l : List Bool} {i k : Nat} (h : i + k < l.length) (hk : k ≤ ld (l.drop i)) (hv : l.getD (i + k) false = false) : k + 1 ≤ ld (l.drop i) := by
  apply ld_false _ k hk
  rw [List.getElem?_drop, List.getElem?_eq_getElem h]
  simpa [h] using hv
set_option maxHeartbeats 1000000 in
theorem refFree_any {G : Nat → Prop} (l : List Bool) (v : Value) (w : World) (h : Reads G w v (bls l)) (hl : l.length ≤ 401) (i n : Nat) (hi : i ≤ l.length) (hn : n ≤ 9223372036854775807) :
    Calls Try.prog 22 #[v, .int .i64 (i : Int), .int .i64 (n : Int)] w fun e w' => e = .returned (.bool (decide (n ≤ ld (l.drop i)))) ∧ w = w' := by
  have hld := ld_le (l.drop i)
  rw [List.length_drop] at hld
  by_cases h1 : l.length - i < n
  · obtain ⟨a, cap, rfl, _⟩ := h
    rw [bls_len, decide_eq_false (by omega)]
    generalize l.length = m at *
    clear hld
    have h2 : (m : Int) - i < n := by omega
    have h3 : (m : Int) ≤ 401 := by omega
    have h4 : (i : Int) ≤ m := by omega
    go_enter Try.func22, Try.ntmps22
    go_wp2_with fail
    go_ret
    exact ⟨rfl, rfl⟩
  · by_cases h0 : n = 0
    · subst h0
      obtain ⟨a, cap, rfl, _⟩ := h
      rw [bls_len, decide_eq_true (by omega)]
      generalize l.length = m at *
      clear hld
      have h2 : ¬ (m : Int) - i < 0 := by omega
      have h3 : (m : Int) ≤ 401 := by omega
      have h4 : (i : Int) ≤ m := by omega
      show Calls _ _ #[_, _, .int .i64 0] _ _
      go_enter Try.func22, Try.ntmps22
      go_wp2_with fail
      go_loopw [7] (fun x wr => x = .int .i64 (i : Int) ∧ wr = w) (fun _ _ => 0)
      case atStart => exact ⟨rfl, rfl⟩
      case round =>
        obtain ⟨rfl, rfl⟩ := hrel
        go_wp2_with fail
        go_ret
        exact ⟨rfl, rfl⟩
    · have hne : bls l ≠ [] := by intro e; have := congrArg List.length e; rw [bls_len] at this; simp at this; rw [this] at h1; simp at h1; omega
      obtain ⟨g, off, cap, rfl, _, hlc, hcm, hc⟩ := h.cells hne
      have C := Lib.hid (reads_cell (G := G) hc)
      clear h hc hne
      rw [bls_len] at *
      generalize hm : l.length = m at *
      have HM := Lib.hid hm
      clear hm
      have h2 : (n : Int) ≤ (m : Int) - i := by omega
      have h3 : (m : Int) ≤ 401 := by omega
      have h4 : (i : Int) ≤ m := by omega
      have h5 : (1 : Int) ≤ n := by omega
      have HD := Lib.hid hld
      clear hld
      go_enter Try.func22, Try.ntmps22
      go_wp2_with fail
      go_loopw [7] (fun x wr => ∃ k : Nat, k ≤ n ∧ x = .int .i64 ((i + k : Nat) : Int) ∧ wr = w ∧ Hid (k ≤ ld (l.drop i))) (fun x _ => i + n - (intOf x).toNat)
      case atStart => exact ⟨0, by omega, rfl, rfl, Nat.zero_le _⟩
      case round =>
        obtain ⟨k, hk, rfl, rfl, hkd⟩ := hrel
        by_cases hlt : k < n
        · have hc := C.out (i + k) (by omega)
          have ht := Lib.hid (fun e => at_true (l := l) (i := i) (k := k) (by rw [HM.out]; omega) hkd.out e)
          have hf := Lib.hid (fun e => at_false (l := l) (i := i) (k := k) (by rw [HM.out]; omega) hkd.out e)
          generalize l.getD (i + k) false = b at *
          cases b
          · go_wp2_with fail
            go_roundw
            case rel => exact ⟨k + 1, by omega, by go_num, by first | rfl | trivial, hf.out rfl⟩
            case measure => simp [intOf]; omega
          · have e := ht.out rfl
            go_wp2_with fail
            go_ret
            exact ⟨ret_bool (by first | (rw [e]; simp; omega) | (simp; omega)), rfl⟩
        · obtain rfl : k = n := by omega
          go_wp2_with fail
          go_ret
          exact ⟨ret_bool (by have := hkd.out; simp [this]), rfl⟩

theorem reads_nil {G : Nat → Prop} {w : World} {v : Value} (h : Reads G w v (bls [])) : ∃ a cap, v = .slice a 0 cap := by
  obtain ⟨a, cap, e, _⟩ := h
  exact ⟨a, cap, e⟩
/-- what the document's own answer tells of room -/
def findV (l : List Bool) (n : Int) : Value := if n < 1 then .tuple #[.int .i64 0, .int .i64 2] else match F l n.toNat with
  | none => .tuple #[.int .i64 0, .int .i64 7]
  | some k => .tuple #[.int .i64 (k : Int), .int .i64 0]
theorem refFind_low {l : List Bool} (v : Value) (w : World) (n : Int) (hn : n < 1) : Calls Try.prog 11 #[v, .int .i64 n] w fun e w' => e = .returned (findV l n) ∧ w = w' := by
  unfold findV
  rw [if_pos hn]
  go_enter Try.func11, Try.ntmps11
  go_wp2_with fail
  go_ret2
  exact ⟨rfl, rfl⟩
theorem fdr_here {l : List Bool} {n i : Nat} (h : i < l.length) : (n ≤ ld (l.drop i) → fdr n i (l.drop i) = some i) ∧ (¬ n ≤ ld (l.drop i) → fdr n i (l.drop i) = fdr n (i + 1) (l.drop (i + 1))) := by
  rw [List.drop_eq_getElem_cons h]
  exact ⟨fun hx => by rw [fdr, if_pos hx], fun hx => by rw [fdr, if_neg hx]⟩
theorem fdr_done {l : List Bool} {n : Nat} : fdr n l.length (l.drop l.length) = none := by rw [List.drop_length]; rfl
set_option maxHeartbeats 1000000 in
theorem refFind_any {G : Nat → Prop} (l : List Bool) (v : Value) (w : World) (h : Reads G w v (bls l)) (hl : l.length ≤ 400) (n : Int) (hn : n ≤ 9223372036854775807) :
    Calls Try.prog 11 #[v, .int .i64 n] w fun e w' => e = .returned (findV l n) ∧ w = w' := by
  by_cases h1 : n < 1
  · exact refFind_low v w n h1
  obtain ⟨N, rfl⟩ := Int.eq_ofNat_of_zero_le (show 0 ≤ n by omega)
  have hF := fdr_F l N (by omega)
  have C := Lib.hid (fun i (hi : i ≤ l.length) => refFree_any l v w h (by omega) i N hi (by omega))
  obtain ⟨a, cap, hv, _⟩ := h.shape
  rw [bls_len] at hv
  subst hv
  have HV : Hid (∀ o : Option Nat, F l N = o → findV l N = match o with
      | none => .tuple #[.int .i64 0, .int .i64 7]
      | some k => .tuple #[.int .i64 (k : Int), .int .i64 0]) := Lib.hid (fun o ho => by unfold findV; rw [if_neg h1, Int.toNat_natCast, ho])
  have HS := Lib.hid (fun i (hi : i < l.length) => fdr_here (l := l) (n := N) hi)
  have HE := Lib.hid (fdr_done (l := l) (n := N))
  have HF := Lib.hid hF
  have hN : (1 : Int) ≤ N := by omega
  clear h hF
  generalize findV l N = V at *
  generalize hm : l.length = m at *
  have hm3 : (m : Int) ≤ 400 := by omega
  have HM := Lib.hid hm
  clear hm
  go_enter Try.func11, Try.ntmps11
  go_wp2_with fail
  go_loopw [6] (fun x wr => ∃ i : Nat, i ≤ m ∧ x = .int .i64 (i : Int) ∧ w = wr ∧ Hid (fdr N i (l.drop i) = F l N)) (fun x _ => m - (intOf x).toNat)
  case atStart => exact ⟨0, by omega, rfl, rfl, HF.out⟩
  case round =>
    obtain ⟨i, hi, rfl, rfl, hf⟩ := hrel
    by_cases hlt : i < m
    · have c := Lib.hid (C.out i hi)
      have s := Lib.hid (HS.out i hlt)
      by_cases hq : N ≤ ld (l.drop i)
      · rw [decide_eq_true hq] at c
        have e := Lib.hid (HV.out _ (hf.out.symm.trans (s.out.1 hq)))
        clear hq
        go_wp2_with (go_at_call 22; refine c.out.mono ?_; rintro e1 w1 ⟨rfl, rfl⟩)
        go_ret2
        exact ⟨by rw [e.out]; rfl, rfl⟩
      · rw [decide_eq_false hq] at c
        have e := Lib.hid ((s.out.2 hq).symm.trans hf.out)
        clear hq
        go_wp2_with (go_at_call 22; refine c.out.mono ?_; rintro e1 w1 ⟨rfl, rfl⟩)
        go_roundw
        case rel => exact ⟨i + 1, by omega, by go_num, by first | rfl | trivial, e.out⟩
        case measure => simp [intOf]; omega
    · obtain rfl : i = m := by omega
      have e := Lib.hid (HV.out _ (hf.out.symm.trans HE.out))
      go_wp2_with fail
      go_ret2
      exact ⟨by rw [e.out]; rfl, rfl⟩
theorem fre_step {l : List Bool} {i : Nat} (h : i < l.length) : fre (l.drop i) = (if l.getD i false = true then 0 else 1) + fre (l.drop (i + 1)) := by
  rw [List.drop_eq_getElem_cons h]
  have e : l.getD i false = l[i] := by simp [h]
  rw [e]
  unfold fre
  rw [List.countP_cons]
  cases l[i] <;> simp <;> omega
theorem fre_done (l : List Bool) : fre (l.drop l.length) = 0 := by rw [List.drop_length]; rfl
set_option maxHeartbeats 1000000 in
theorem refFree1_any {G : Nat → Prop} (l : List Bool) (v : Value) (w : World) (h : Reads G w v (bls l)) (hl : l.length ≤ 400) :
    Calls Try.prog 18 #[v] w fun e w' => e = .returned (.int .i64 (fre l : Int)) ∧ w = w' := by
  by_cases h0 : l = []
  · subst h0
    obtain ⟨a, cap, rfl⟩ := reads_nil h
    clear h
    go_enter Try.func18, Try.ntmps18
    go_wp2_with fail
    go_loopw [3, 4] (fun x y wr => x = .int .i64 0 ∧ y = .int .i64 0 ∧ w = wr) (fun _ _ _ => 0)
    case atStart => exact ⟨rfl, rfl, rfl⟩
    case round =>
      obtain ⟨rfl, rfl, rfl⟩ := hrel
      go_wp2_with fail
      go_ret
      exact ⟨rfl, rfl⟩
  · have hne : bls l ≠ [] := by intro e; have := congrArg List.length e; rw [bls_len] at this; simp at this; exact h0 this
    obtain ⟨g, off, cap, rfl, _, hlc, hcm, hc⟩ := h.cells hne
    have C := Lib.hid (reads_cell (G := G) hc)
    have hfl := fre_le l
    have HS := Lib.hid (fun i (hi : i < l.length) => fre_step (l := l) hi)
    have HE := Lib.hid (fre_done l)
    have HZ : Hid (fre (l.drop 0) = fre l) := Lib.hid (by rw [List.drop_zero])
    clear h hc hne h0
    rw [bls_len] at *
    generalize l.length = m at *
    generalize fre l = T at *
    have hm3 : (m : Int) ≤ 400 := by omega
    go_enter Try.func18, Try.ntmps18
    go_wp2_with fail
    go_loopw [3, 4] (fun x y wr => ∃ i c : Nat, i ≤ m ∧ c ≤ i ∧ x = .int .i64 (c : Int) ∧ y = .int .i64 (i : Int) ∧ w = wr ∧ Hid (c + fre (l.drop i) = T)) (fun _ y _ => m - (intOf y).toNat)
    case atStart => exact ⟨0, 0, by omega, by omega, rfl, rfl, rfl, by show _ = _; rw [HZ.out]; omega⟩
    case round =>
      obtain ⟨i, c, hi, hci, rfl, rfl, rfl, hf⟩ := hrel
      by_cases hlt : i < m
      · have hcc := C.out i hlt
        have hs := Lib.hid (HS.out i hlt)
        generalize l.getD i false = b at *
        cases b
        · have e : Hid (c + 1 + fre (l.drop (i + 1)) = T) := Lib.hid (by have := hs.out; rw [if_neg (by simp)] at this; have := hf.out; omega)
          clear hs
          go_wp2_with fail
          go_roundw
          case rel => exact ⟨i + 1, c + 1, by omega, by omega, by go_num, by go_num, by first | rfl | trivial, e⟩
          case measure => simp [intOf]; omega
        · have e : Hid (c + fre (l.drop (i + 1)) = T) := Lib.hid (by have := hs.out; rw [if_pos rfl] at this; have := hf.out; omega)
          clear hs
          go_wp2_with fail
          go_roundw
          case rel => exact ⟨i + 1, c, by omega, by omega, by go_num, by go_num, by first | rfl | trivial, e⟩
          case measure => simp [intOf]; omega
      · obtain rfl : i = m := by omega
        have e : c = T := by have := hf.out; rw [HE.out] at this; omega
        subst e
        go_wp2_with fail
        go_ret
        exact ⟨rfl, rfl⟩
end Go.Proofs.Ytegcekniolajeaa.AF
