/-
  What package asm guesses of a line: an operation, registers, numbers. Nothing here is a statement of the seed.
-/
import Derived.Test.YtoohfmkhjhcopaaGreatDoorAsmCut
set_option linter.unusedSimpArgs false
set_option linter.unusedVariables false
namespace Go.Proofs.YtoohfmkhjhcopaaGreatDoor.AF
open Go.RowKit WM IM WF IF AM

theorem guessReg_any (l : List UInt8) (w : World) :
    Calls Tryz.prog 45 #[.string (bs l)] w fun e w' => e = .returned (.int .u8 (gReg l)) ∧ w = w' := by
  have C := Tryz.strings_TrimPrefix (bs l) ⟨#[114]⟩ w
  rw [bs_list] at C
  change Calls Tryz.prog 67 #[.string (bs l), .string ⟨#[114]⟩] w fun e w' => e = .returned (.string (bs (Lib.trimPrefix l [114]))) ∧ w' = w at C
  unfold gReg
  generalize Lib.trimPrefix l [114] = t at *
  have hz : (bs t).size = t.length := bs_size t
  match t, hz with
  | [], hz =>
    go_enter Tryz.func45, Tryz.ntmps45
    go_wp2_with (go_at_call 67; refine C.mono ?_; rintro e w' ⟨rfl, rfl⟩)
    go_ret
    exact ⟨rfl, rfl⟩
  | [c], hz =>
    have hc := c.toNat_lt
    go_enter Tryz.func45, Tryz.ntmps45
    go_wp2_with (go_at_call 67; refine C.mono ?_; rintro e w' ⟨rfl, rfl⟩)
    go_ret
    exact ⟨rfl, rfl⟩
  | c :: c' :: r, hz =>
    have hz' : ((bs (c :: c' :: r)).size : Int) ≠ 1 := by rw [hz]; simp; omega
    generalize bs (c :: c' :: r) = S at *
    go_enter Tryz.func45, Tryz.ntmps45
    go_wp2_with (go_at_call 67; refine C.mono ?_; rintro e w' ⟨rfl, rfl⟩)
    go_ret
    exact ⟨by simp, rfl⟩
theorem guessNum_any (l : List UInt8) (hl : l.length ≤ 140737488355328) : SaysT 46 #[.string (bs l)] (.int .i32 (gNum l)) := by
  intro w T
  have hs : (bs l).size ≤ 140737488355328 := by rw [bs_size]; exact hl
  cases h : Lib.parseIntB 32 l with
  | ok v =>
    have C := Tryz.strconv_ParseInt_10_at32_ok (bs l) (by omega) v (by rw [bs_list]; exact h) w
    have hv := Lib.parseIntB_bounds h
    have E : Hid (gNum l = v) := by show _ = _; unfold gNum; rw [h]
    obtain ⟨v0, v1⟩ : -2147483648 ≤ v ∧ v ≤ 2147483647 := by simp at hv; omega
    clear hv h
    have C' : Calls Tryz.prog 68 #[.string (bs l), .int .i64 10, .int .i64 32] w fun e w' => e = .returned (.tuple #[.int .i64 v, .nilIface]) ∧ Below w.heap.size w w' := C.mono fun e w' ⟨he, hw⟩ => ⟨he, by
      rcases hw with rfl | ⟨t, rfl⟩
      · exact Below.refl _ _
      · exact Lib.bytesWorld_below _ _ _⟩
    clear C
    generalize bs l = s at *
    go_enter Tryz.func46, Tryz.ntmps46
    go_wp2_with (go_at_call 68; refine C'.mono ?_; rintro e w' ⟨rfl, hb⟩)
    go_ret
    exact ⟨by rw [E.out]; simp, hb⟩
  | range =>
    obtain ⟨tp, p, hv⟩ := T.rng
    have C := Tryz.strconv_ParseInt_10_at32_range_var (bs l) (by omega) (by rw [bs_list]; exact h) tp p w hv
    have E : Hid (gNum l = 0) := by show _ = _; unfold gNum; rw [h]
    generalize Lib.intSat 32 (bs l).data.toList = z at *
    generalize bs l = s at *
    go_enter Tryz.func46, Tryz.ntmps46
    go_wp2_with (go_at_call 68; refine C.mono ?_; rintro e w' ⟨N, rfl, _, _, hb⟩)
    go_ret
    exact ⟨by rw [E.out]; rfl, hb⟩
  | _ =>
    obtain ⟨tp, p, hv⟩ := T.syn
    have C := Tryz.strconv_ParseInt_10_at32_syntax_var (bs l) (by omega) (by rw [bs_list]; exact h) tp p w hv
    have E : Hid (gNum l = 0) := by show _ = _; unfold gNum; rw [h]
    generalize bs l = s at *
    go_enter Tryz.func46, Tryz.ntmps46
    go_wp2_with (go_at_call 68; refine C.mono ?_; rintro e w' ⟨N, rfl, _, _, hb⟩)
    go_ret
    exact ⟨by rw [E.out]; rfl, hb⟩
theorem mnem_loadAt (S : Nat → ByteArray) (w : World) (hc : ∀ k, k < 22 → w.cell? ⟨0, k, none⟩ = some (.string (S k))) :
    (Instr.loadAt 55 (.pointer (some ⟨0, 0, none⟩))).run Tryz.prog w = .ok (.agg ((List.range 22).map fun k => Value.string (S k)).toArray) w := by
  have hA : (isAgg 55).run Tryz.prog w = .ok true w := by kernel_rfl
  have hz : (sizeOf 55).run Tryz.prog w = .ok 22 w := by kernel_rfl
  have hl := run_loadCells (P := Tryz.prog) w ⟨0, 0, none⟩ 22 (fun k => Value.string (S k)) (fun j hj => by
    rw [show (Addr.add ⟨0, 0, none⟩ j) = ⟨0, j, none⟩ by simp [Addr.add]; intro h; exact h.symm]
    exact hc j hj)
  unfold Instr.loadAt loadVar
  simp [Sem.run_bind, Instr.sureAddr, hA, Result.andThen, hz, hl]
theorem wpList_load {P : Program} (w : World) {ops : Array Oper} {rest : List Oper} {o : Oper} {a : Act} {Q : Exit → Act → World → Prop} (hg : o.guard = none) (t : TypeId) (x : Operand) (hop : o.op = Op.load t x) (v : Value)
    (hrun : (Instr.loadAt t (a.eval x)).run P w = .ok v w) (hK : wpList P ops Q rest (a.put o.dst v) w) : wpList P ops Q (o :: rest) a w := by
  refine wpList_plain hg fun K hK' => ?_
  unfold Oper.wp
  simp [execOp, hop, hrun, Result.andThen]
  exact hK' _ _ hK
theorem bs_toList (l : List UInt8) : (bs l).toList = l := by rw [Lib.toList_data]; rfl
theorem mnem_idx (cs : Array Value) (k : Nat) (v : Value) (hk : k < 22) (h : cs[k]? = some v) (w : World) : (Instr.index 55 (.agg cs) (.int .i64 k)).run Tryz.prog w = .ok v w := by
  have hA : (isAgg 9).run Tryz.prog w = .ok false w := run_isAgg_plain Tryz.underlying9 rfl w
  have hz : (sizeOf 9).run Tryz.prog w = .ok 1 w := by kernel_rfl
  have hu : (underlying 55).run Tryz.prog w = .ok (.array 22 9) w := run_underlying Tryz.underlying55 w
  have hi : (asIntOf (.int .i64 (k : Int))).run Tryz.prog w = .ok (.i64, (k : Int)) w := rfl
  have hlt : (k : Int) < 22 := by omega
  unfold Instr.index
  simp [Sem.run_bind, hi, hu, Result.andThen, hlt, hz, part, hA, h]
  omega
set_option maxRecDepth 100000 in
theorem operation_way (S : Nat → ByteArray) (t : ByteArray) (w : World) (hc : ∀ k, k < 22 → w.cell? ⟨0, k, none⟩ = some (.string (S k))) :
    Calls Tryz.prog 43 #[.string t] w fun e w' => ((∃ k : Nat, k < 22 ∧ (∀ j, j < k → (S j).toList ≠ t.toList) ∧ (S k).toList = t.toList ∧ e = .returned (.tuple #[.int .u8 k, .bool true])) ∨ ((∀ j, j < 22 → (S j).toList ≠ t.toList) ∧ e = .returned (.tuple #[.int .u8 0, .bool false]))) ∧ w = w' := by
  have HL := Lib.hid (mnem_loadAt S w hc)
  have HI : Hid (∀ k : Nat, k < 22 → ∀ w : World, (Instr.index 55 (.agg ((List.range 22).map fun k => Value.string (S k)).toArray) (.int .i64 k)).run Tryz.prog w = .ok (.string (S k)) w) := by
    show ∀ k : Nat, _
    intro k hk w
    exact mnem_idx _ k _ hk (by simp [hk]) w
  clear hc
  generalize ((List.range 22).map fun k => Value.string (S k)).toArray = A at *
  go_enter Tryz.func43, Tryz.ntmps43
  go_wp2_with (refine wpList_load _ rfl 55 (Operand.global 0) rfl (.agg A) HL.out ?_)
  go_loop [4, 5, 7] (fun _ _ i => ∃ k : Nat, k ≤ 22 ∧ i = .int .i64 k ∧ Hid (∀ j : Nat, j < k → (S j).toList ≠ t.toList)) (fun _ _ i => 22 - (intOf i).toNat)
  case atStart => exact ⟨0, by omega, rfl, fun j hj => by omega⟩
  case round =>
    obtain ⟨k, hk, rfl, hn⟩ := hrel
    by_cases hlt : k < 22
    · have hlt' : (k : Int) < 22 := by omega
      have hi := HI.out k hlt
      clear HI
      by_cases e : (S k).toList = t.toList
      · have ht : ((S k).toList == t.toList) = true := by simpa using e
        have E := Lib.hid e
        clear e
        go_wp2_with fail
        go_ret2
        exact ⟨.inl ⟨k, hlt, hn.out, E.out, rfl⟩, rfl⟩
      · have ht : ((S k).toList == t.toList) = false := by simpa using e
        have E := Lib.hid e
        clear e
        go_wp2_with fail
        go_roundw
        case rel =>
          refine ⟨k + 1, by omega, by go_num, fun j hj => ?_⟩
          by_cases ej : j = k
          · subst ej; exact E.out
          · exact hn.out j (by omega)
        case measure => simp [intOf]; omega
    · obtain rfl : k = 22 := by omega
      clear HI
      go_wp2_with fail
      go_ret2
      exact ⟨.inr ⟨hn.out, rfl⟩, rfl⟩
theorem opOf_first {l : List UInt8} {k : Nat} (hk : k < 22) (h1 : ∀ j, j < k → mn (j : Int) ≠ l) (h2 : mn (k : Int) = l) : opOf l = some k := by
  cases h : opOf l with
  | none => exact absurd h2 (opOf_none h (by omega))
  | some n =>
    have := opOf_some h
    rcases Nat.lt_trichotomy n k with h' | h' | h'
    · exact absurd this.2 (h1 n h')
    · rw [h']
    · rw [← h2, opOf_mn (by omega)] at h
      simpa using h.symm
def opV (l : List UInt8) : Value := match opOf l with
  | some n => .tuple #[.int .u8 n, .bool true]
  | none => .tuple #[.int .u8 0, .bool false]
theorem operation_eq (l : List UInt8) (w : World) (T : Tab w) : Calls Tryz.prog 43 #[.string (bs l)] w fun e w' => e = .returned (opV l) ∧ w = w' :=
  (operation_way (fun k => bs (mn k)) (bs l) w (fun k hk => by have := mnem_at T (o := (k : Int)) (by omega); rwa [Int.toNat_natCast] at this)).mono fun e w' ⟨he, hw⟩ => by
    refine ⟨?_, hw⟩
    simp only [bs_toList] at he
    unfold opV
    rcases he with ⟨k, hk, h1, h2, h3⟩ | ⟨h1, h3⟩
    · rw [opOf_first hk h1 h2]
      exact h3
    · cases h : opOf l with
      | none => exact h3
      | some n =>
        have := opOf_some h
        exact absurd this.2 (h1 n (by omega))
end Go.Proofs.YtoohfmkhjhcopaaGreatDoor.AF
