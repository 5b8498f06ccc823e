/-
  What Print of package asm tells. Nothing here is a statement of the seed.
-/
import Derived.Test.YtoohfmkhjhcopaaGreatDoorAsmFn
set_option linter.unusedSimpArgs false
set_option linter.unusedVariables false
namespace Go.Proofs.YtoohfmkhjhcopaaGreatDoor.AF
open Go.RowKit WM IM WF IF AM

theorem dec_len : ∀ (k u : Nat), 1 ≤ k → u < 10 ^ k → (Lib.decDigits u).length ≤ k
  | 0, _, h, _ => by omega
  | 1, u, _, h => by
    rw [Lib.decDigits, dif_pos (by simpa using h)]
    simp
  | k + 2, u, _, h => by
    rw [Lib.decDigits]
    split
    · simp
    · have := dec_len (k + 1) (u / 10) (by omega) (by rw [Nat.pow_succ] at h; omega)
      simp
      omega
theorem itoa_len (m : Int) (h : -1048576 ≤ m ∧ m ≤ 1048575) : (Lib.itoa m).length ≤ 8 := by
  unfold Lib.itoa
  split
  · have := dec_len 7 m.natAbs (by omega) (by simp; omega)
    simp
    omega
  · have := dec_len 7 m.toNat (by omega) (by simp; omega)
    omega
theorem rg_len {d : Int} (h : 0 ≤ d ∧ d ≤ 7) : (rg d).length = 2 := by
  unfold rg
  rw [itoa_reg h]
  rfl
/-- a line that grows by a part -/
def cat1 (u : Bool) (S D : ByteArray) : ByteArray := if u then S ++ ((⟨#[32]⟩ : ByteArray) ++ D) else S
theorem cat1_bs (u : Bool) (l x : List UInt8) : cat1 u (bs l) (bs x) = bs (l ++ seg u x) := by
  cases u with
  | false => show bs l = bs (l ++ []); rw [List.append_nil]
  | true =>
    show bs l ++ (bs [32] ++ bs x) = bs (l ++ 32 :: x)
    rw [app_bs, app_bs]
    rfl
set_option maxHeartbeats 4000000 in
theorem print_way (o d a b m : Int) (u0 u1 u2 u3 : Bool) (S D A B M : ByteArray) (hm : -1048576 ≤ m ∧ m ≤ 1048575)
    (C0 : Says Tryz.prog 19 #[insV o d a b m] (.int .i64 0)) (C1 : SaysT 10 #[.int .u8 o] (.string S))
    (C2 : ∀ w, Calls Tryz.prog 20 #[.int .u8 o] w fun e w' => e = .returned (.tuple #[.bool u0, .bool u1, .bool u2, .bool u3]) ∧ w = w')
    (C3 : Says Tryz.prog 21 #[.int .u8 d] (.string D)) (C4 : Says Tryz.prog 21 #[.int .u8 a] (.string A))
    (C5 : Says Tryz.prog 21 #[.int .u8 b] (.string B)) (C6 : SaysT 22 #[.int .i64 m, .int .i64 10] (.string M))
    (s0 : S.size ≤ 9) (s1 : D.size ≤ 9) (s2 : A.size ≤ 9) (s3 : B.size ≤ 9) (s4 : M.size ≤ 9) :
    SaysT 8 #[insV o d a b m] (.tuple #[.string (cat1 u3 (cat1 u2 (cat1 u1 (cat1 u0 S D) A) B) M), .int .i64 0]) := by
  intro w T
  have HT := Lib.hid (T.below (below_new w (.cells #[.int .u8 o, .int .u8 d, .int .u8 a, .int .u8 b, .int .i32 m] 24)))
  clear T
  obtain ⟨m0, m1⟩ := hm
  have hb := Below.refl (w.alloc (.cells #[.int .u8 o, .int .u8 d, .int .u8 a, .int .u8 b, .int .i32 m] 24)).heap.size (w.alloc (.cells #[.int .u8 o, .int .u8 d, .int .u8 a, .int .u8 b, .int .i32 m] 24))
  have HC2 := Lib.hid C2
  clear C2
  cases u0 <;> cases u1 <;> cases u2 <;> cases u3
  all_goals
    go_enter Tryz.func8, Tryz.ntmps8
    go_wp2_with (first | (go_at_call 19; refine (inw C0 _ _ hb).mono ?_; rintro e w1 ⟨rfl, hb⟩; obtain ⟨hc, hf⟩ := bcell hb) | (go_at_call 10; refine (inT C1 _ HT _ hb).mono ?_; rintro e w1 ⟨rfl, hb⟩; obtain ⟨hc, hf⟩ := bcell hb) | (go_at_call 20; refine (HC2.out _).mono ?_; rintro e w' ⟨rfl, rfl⟩) | (go_at_call 21; (first | (with_reducible refine (inw C3 _ _ hb).mono ?_) | (with_reducible refine (inw C4 _ _ hb).mono ?_) | (with_reducible refine (inw C5 _ _ hb).mono ?_)); rintro e w1 ⟨rfl, hb⟩; obtain ⟨hc, hf⟩ := bcell hb) | (go_at_call 22; refine (inT C6 _ HT _ hb).mono ?_; rintro e w1 ⟨rfl, hb⟩; obtain ⟨hc, hf⟩ := bcell hb))
  all_goals go_ret2
  all_goals exact ⟨rfl, end_alloc hb⟩
theorem ins_fit {o d a b m : Int} (h : InsOk o d a b m) : Fit o d a b m := by unfold InsOk at h; unfold Fit; omega
theorem print_yes (o d a b m : Int) (h : InsOk o d a b m) : SaysT 8 #[insV o d a b m] (.tuple #[.string (bs (pr o d a b m)), .int .i64 0]) := by
  have h' := h
  unfold InsOk at h'
  have C0 := check_any o d a b m (ins_fit h)
  rw [(chk_good (by omega) (by omega) (by omega) (by omega)).2 h] at C0
  have C := print_way o d a b m (uD o) (uA o) (uB o) (uI o) (bs (mn o)) (bs (rg d)) (bs (rg a)) (bs (rg b)) (bs (Lib.itoa m)) (by omega) C0 (mnemonic_any o (by omega)) (fun w => uses_any o w (by omega))
    (printRegister_any d (by omega)) (printRegister_any a (by omega)) (printRegister_any b (by omega)) (formatInt_any m (by omega)) (by rw [bs_size]; have := (mn_fine (o := o) (by omega)).2.2.2.1; omega)
    (by rw [bs_size, rg_len (by omega)]; omega) (by rw [bs_size, rg_len (by omega)]; omega) (by rw [bs_size, rg_len (by omega)]; omega) (by rw [bs_size]; have := itoa_len m (by omega); omega)
  rw [cat1_bs, cat1_bs, cat1_bs, cat1_bs] at C
  rw [show pr o d a b m = mn o ++ seg (uD o) (rg d) ++ seg (uA o) (rg a) ++ seg (uB o) (rg b) ++ seg (uI o) (Lib.itoa m) by unfold pr; simp only [List.append_assoc]]
  exact C
theorem print_no (o d a b m K : Int) (h : Fit o d a b m) (hK : chk o d a b m = K) (h0 : K ≠ 0) : Says Tryz.prog 8 #[insV o d a b m] (.tuple #[.string ⟨#[]⟩, .int .i64 K]) := by
  intro w
  have C0 := check_any o d a b m h
  rw [hK] at C0
  have h0' : (K != 0) = true := by simpa using h0
  clear hK h h0
  have hb := Below.refl (w.alloc (.cells #[.int .u8 o, .int .u8 d, .int .u8 a, .int .u8 b, .int .i32 m] 24)).heap.size (w.alloc (.cells #[.int .u8 o, .int .u8 d, .int .u8 a, .int .u8 b, .int .i32 m] 24))
  go_enter Tryz.func8, Tryz.ntmps8
  go_wp2_with (go_at_call 19; refine (inw C0 _ _ hb).mono ?_; rintro e w1 ⟨rfl, hb⟩; obtain ⟨hc, hf⟩ := bcell hb)
  go_ret2
  exact ⟨rfl, end_alloc hb⟩
/-- what Print tells of any instruction -/
def prK (i : I5) : List UInt8 := if chkI i = 0 then prI i else []
theorem print_any (i : I5) (h : Fit i.1 i.2.1 i.2.2.1 i.2.2.2.1 i.2.2.2.2) : SaysT 8 #[insV i.1 i.2.1 i.2.2.1 i.2.2.2.1 i.2.2.2.2] (.tuple #[.string (bs (prK i)), .int .i64 (chkI i)]) := by
  obtain ⟨o, d, a, b, m⟩ := i
  have h' := h
  simp only [Fit] at h'
  unfold prK
  by_cases e : chkI (o, d, a, b, m) = 0
  · rw [if_pos e, e]
    exact print_yes o d a b m ((chk_good (by omega) (by omega) (by omega) (by omega)).1 e)
  · rw [if_neg e]
    exact saysT (print_no o d a b m _ h rfl e)
end Go.Proofs.YtoohfmkhjhcopaaGreatDoor.AF
