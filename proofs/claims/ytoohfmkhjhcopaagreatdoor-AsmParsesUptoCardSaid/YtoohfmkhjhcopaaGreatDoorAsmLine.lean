/-
  What package asm tells of one line. Nothing here is a statement of the seed.
-/
import Derived.Test.YtoohfmkhjhcopaaGreatDoorAsmParse
import Derived.Test.YtoohfmkhjhcopaaGreatDoorIsaEnc
set_option linter.unusedSimpArgs false
set_option linter.unusedVariables false
namespace Go.Proofs.YtoohfmkhjhcopaaGreatDoor.AF
open Go.RowKit WM IM WF IF AM

def w5 : List UInt8 := [119, 111, 114, 100, 32]
def encI (i : I5) : Int := enc i.1 i.2.1 i.2.2.1 i.2.2.2.1 i.2.2.2.2
/-- is it eight digits? -/
noncomputable def hexW (l : List UInt8) : Option Int := open Classical in if okW (bs l) then some (pv (bs l) 8 : Int) else none
/-- a line's word -/
noncomputable def lw (l : List UInt8) : Option Int := if Lib.hasPrefix l w5 then hexW (Lib.trimPrefix l w5) else (pC l).map encI
/-- does it tell nothing? -/
def idle (l : List UInt8) : Bool := l.isEmpty || Lib.hasPrefix l [59]
noncomputable def lwV (x : Option Int) : Value := match x with
  | some x => .tuple #[.int .u32 x, .int .i64 0]
  | none => .tuple #[.int .u32 0, .int .i64 60]
theorem tells_any (l : List UInt8) (w : World) : Calls Tryz.prog 35 #[.string (bs l)] w fun e w' => e = .returned (.bool (idle l)) ∧ w = w' := by
  have C := Tryz.strings_HasPrefix (bs l) ⟨#[59]⟩ w
  rw [bs_list] at C
  change Calls Tryz.prog 55 #[.string (bs l), .string ⟨#[59]⟩] w fun e w' => e = .returned (.bool (Lib.hasPrefix l [59])) ∧ w' = w at C
  unfold idle
  generalize Lib.hasPrefix l [59] = b at *
  cases l with
  | nil =>
    have ht : (bs []).toList = [] := bs_toList []
    generalize bs [] = S at *
    go_enter Tryz.func35, Tryz.ntmps35
    go_wp2_with (go_at_call 55; refine C.mono ?_; rintro e w' ⟨rfl, rfl⟩)
    all_goals go_ret
    all_goals exact ⟨by simp [ht], rfl⟩
  | cons c r =>
    have ht : ((bs (c :: r)).toList == []) = false := by rw [bs_toList]; rfl
    have hi : (c :: r).isEmpty = false := rfl
    generalize bs (c :: r) = S at *
    rw [hi]
    clear hi
    go_enter Tryz.func35, Tryz.ntmps35
    go_wp2_with (go_at_call 55; refine C.mono ?_; rintro e w' ⟨rfl, rfl⟩)
    all_goals go_ret
    all_goals exact ⟨by simp, rfl⟩
theorem rawWord_any (l : List UInt8) (w : World) : Calls Tryz.prog 57 #[.string (bs l)] w fun e w' => e = .returned (lwV (hexW l)) ∧ w = w' := by
  unfold hexW
  by_cases h : okW (bs l)
  · have C := wordParse_yes (bs l) w h
    rw [if_pos h]
    unfold lwV
    simp only
    clear h
    generalize (pv (bs l) 8 : Int) = x at *
    generalize bs l = S at *
    go_enter Tryz.func57, Tryz.ntmps57
    go_wp2_with (go_at_call 85; refine C.mono ?_; rintro e w' ⟨rfl, rfl⟩)
    go_ret2
    exact ⟨rfl, rfl⟩
  · have C := wordParse_no (bs l) w h
    rw [if_neg h]
    unfold lwV
    simp only
    clear h
    generalize bs l = S at *
    go_enter Tryz.func57, Tryz.ntmps57
    go_wp2_with (go_at_call 85; refine C.mono ?_; rintro e w' ⟨rfl, rfl⟩)
    go_ret2
    exact ⟨rfl, rfl⟩
theorem lineWord_raw (L S : ByteArray) (x : Int) (k : Int) (C0 : ∀ w, Calls Tryz.prog 56 #[.string L, .string ⟨#[119, 111, 114, 100, 32]⟩] w fun e w' => e = .returned (.tuple #[.string S, .bool true]) ∧ w' = w)
    (C1 : ∀ w, Calls Tryz.prog 57 #[.string S] w fun e w' => e = .returned (.tuple #[.int .u32 x, .int .i64 k]) ∧ w = w') : Says Tryz.prog 36 #[.string L] (.tuple #[.int .u32 x, .int .i64 k]) := says_same fun w => by
  go_enter Tryz.func36, Tryz.ntmps36
  go_wp2_with (first | (go_at_call 56; refine (C0 _).mono ?_; rintro e w' ⟨rfl, rfl⟩) | (go_at_call 57; refine (C1 _).mono ?_; rintro e w' ⟨rfl, rfl⟩))
  go_ret2
  exact ⟨rfl, rfl⟩
theorem lineWord_no (L S : ByteArray) (C0 : ∀ w, Calls Tryz.prog 56 #[.string L, .string ⟨#[119, 111, 114, 100, 32]⟩] w fun e w' => e = .returned (.tuple #[.string S, .bool false]) ∧ w' = w)
    (C1 : SaysT 13 #[.string L] (.tuple #[insV 0 0 0 0 0, .int .i64 60])) : SaysT 36 #[.string L] (.tuple #[.int .u32 0, .int .i64 60]) := by
  intro w T
  have HT := Lib.hid T
  clear T
  go_enter Tryz.func36, Tryz.ntmps36
  go_wp2_with (first | (go_at_call 56; refine (C0 _).mono ?_; rintro e w' ⟨rfl, rfl⟩) | (go_at_call 13; refine (C1 _ HT.out).mono ?_; rintro e w1 ⟨rfl, hb⟩))
  go_ret2
  exact ⟨rfl, ball hb⟩
theorem lineWord_ins (L S : ByteArray) (o d a b m x : Int) (C0 : ∀ w, Calls Tryz.prog 56 #[.string L, .string ⟨#[119, 111, 114, 100, 32]⟩] w fun e w' => e = .returned (.tuple #[.string S, .bool false]) ∧ w' = w)
    (C1 : SaysT 13 #[.string L] (.tuple #[insV o d a b m, .int .i64 0])) (C2 : Says Tryz.prog 58 #[insV o d a b m] (.tuple #[.int .u32 x, .int .i64 0])) : SaysT 36 #[.string L] (.tuple #[.int .u32 x, .int .i64 0]) := by
  intro w T
  have HT := Lib.hid T
  clear T
  go_enter Tryz.func36, Tryz.ntmps36
  go_wp2_with (first | (go_at_call 56; refine (C0 _).mono ?_; rintro e w' ⟨rfl, rfl⟩) | (go_at_call 13; refine (C1 _ HT.out).mono ?_; rintro e w1 ⟨rfl, hb⟩) | (go_at_call 58; refine (C2 _).mono ?_; rintro e w2 ⟨rfl, hb2⟩))
  go_ret2
  exact ⟨rfl, btr hb (end_alloc hb2)⟩
theorem lineWord_any (l : List UInt8) (hl : l.length ≤ 140737488355328) : SaysT 36 #[.string (bs l)] (lwV (lw l)) := by
  have C0 : ∀ w, Calls Tryz.prog 56 #[.string (bs l), .string ⟨#[119, 111, 114, 100, 32]⟩] w fun e w' => e = .returned (.tuple #[.string (bs (Lib.trimPrefix l w5)), .bool (Lib.hasPrefix l w5)]) ∧ w' = w := fun w => Tryz.strings_CutPrefix (bs l) ⟨#[119, 111, 114, 100, 32]⟩ w
  unfold lw
  cases h : Lib.hasPrefix l w5 with
  | true =>
    rw [h] at C0
    rw [if_pos rfl]
    have C1 := fun w => rawWord_any (Lib.trimPrefix l w5) w
    cases h2 : hexW (Lib.trimPrefix l w5) with
    | some x => rw [h2] at C1; exact saysT (lineWord_raw _ _ _ _ C0 C1)
    | none => rw [h2] at C1; exact saysT (lineWord_raw _ _ _ _ C0 C1)
  | false =>
    rw [h] at C0
    rw [if_neg (by simp)]
    have C1 := parse_any l hl
    cases h2 : pC l with
    | none => rw [h2] at C1; exact lineWord_no _ _ C0 C1
    | some i =>
      rw [h2] at C1
      exact lineWord_ins _ _ _ _ _ _ _ _ C0 C1 (encode_yes _ _ _ _ _ (pC_iff.1 h2).1)
end Go.Proofs.YtoohfmkhjhcopaaGreatDoor.AF
