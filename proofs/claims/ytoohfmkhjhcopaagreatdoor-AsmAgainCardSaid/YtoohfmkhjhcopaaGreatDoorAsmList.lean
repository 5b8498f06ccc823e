/-
  Words as lines: what package asm and the reference tell. Nothing here is a statement of the seed.
-/
import Derived.Test.YtoohfmkhjhcopaaGreatDoorAsmMath4
import Derived.Test.YtoohfmkhjhcopaaGreatDoorAsmBuild
import Derived.Test.YtoohfmkhjhcopaaGreatDoorAsmRefP
import Derived.Test.YtoohfmkhjhcopaaGreatDoorIsaDec
set_option linter.unusedSimpArgs false
set_option linter.unusedVariables false
namespace Go.Proofs.YtoohfmkhjhcopaaGreatDoor.AF
open Go.RowKit WM IM WF IF AM NR

theorem wordLine_ins (x o d a b m : Int) (S : ByteArray) (C0 : Says Tryz.prog 48 #[.int .u32 x] (.tuple #[insV o d a b m, .int .i64 0])) (C1 : SaysT 8 #[insV o d a b m] (.tuple #[.string S, .int .i64 0])) :
    SaysT 30 #[.int .u32 x] (.string S) := by
  intro w T
  have HT : Hid (∀ u, Below w.heap.size w u → Tab u) := fun u hb => T.below hb
  clear T
  have hb := Below.refl w.heap.size w
  go_enter Tryz.func30, Tryz.ntmps30
  go_wp2_with (first | (go_at_call 48; refine (inw C0 w _ hb).mono ?_; rintro e w1 ⟨rfl, hb⟩; have HT1 := Lib.hid (HT.out _ (ball (o := .cells #[.int .u8 o, .int .u8 d, .int .u8 a, .int .u8 b, .int .i32 m] 24) hb))) | (go_at_call 8; refine (C1 _ HT1.out).mono ?_; rintro e w2 ⟨rfl, hb2⟩))
  go_ret
  exact ⟨rfl, btr hb (end_alloc hb2)⟩
theorem wordLine_raw (x K : Int) (S : ByteArray) (hK : K ≠ 0) (hS : S.size ≤ 9) (C0 : Says Tryz.prog 48 #[.int .u32 x] (.tuple #[insV 0 0 0 0 0, .int .i64 K])) (C1 : Says Tryz.prog 49 #[.int .u32 x] (.string S)) :
    Says Tryz.prog 30 #[.int .u32 x] (.string ((⟨#[119, 111, 114, 100, 32]⟩ : ByteArray) ++ S)) := by
  intro w
  have hK' : (K != 0) = true := by simpa using hK
  clear hK
  have hb := Below.refl w.heap.size w
  go_enter Tryz.func30, Tryz.ntmps30
  go_wp2_with (first | (go_at_call 48; refine (inw C0 w _ hb).mono ?_; rintro e w1 ⟨rfl, hb⟩) | (go_at_call 49; refine (C1 _).mono ?_; rintro e w2 ⟨rfl, hb2⟩))
  go_ret
  exact ⟨rfl, btr hb (end_alloc hb2)⟩
theorem hexS (x : Int) (hx : 0 ≤ x ∧ x ≤ 4294967295) : Says Tryz.prog 49 #[.int .u32 x] (.string (bs (hexB x))) := fun w => by
  have h := wordHex_any x.toNat w (by omega)
  rw [show ((x.toNat : Nat) : Int) = x by omega, hexB_str] at h
  exact h
theorem refHexS (x : Int) (hx : 0 ≤ x ∧ x ≤ 4294967295) : Says Tryz.prog 33 #[.int .u32 x] (.string (bs (hexB x))) := fun w => by
  have h := refHex_any x.toNat w (by omega)
  rw [show ((x.toNat : Nat) : Int) = x by omega, hexB_str] at h
  exact h
theorem wordLine_any (x : Int) (hx : 0 ≤ x ∧ x ≤ 4294967295) : SaysT 30 #[.int .u32 x] (.string (bs (wl x))) := by
  have C0 := decode_any x hx
  unfold decV at C0
  unfold wl
  cases h : hasB x with
  | true =>
    rw [h, if_pos rfl, if_pos rfl] at C0
    rw [if_pos rfl]
    exact wordLine_ins x _ _ _ _ _ _ C0 (print_yes _ _ _ _ _ (has_good hx h).1)
  | false =>
    rw [h, if_neg (by simp), if_neg (by simp)] at C0
    rw [if_neg (by simp), ← app_bs]
    exact saysT (wordLine_raw x 10 _ (by omega) (by rw [bs_size, hex_len]; omega) C0 (hexS x hx))
/-- numbers as words -/
def LI (l : List Nat) : List Int := l.map fun (n : Nat) => (n : Int)
theorem LI_len (l : List Nat) : (LI l).length = l.length := by simp [LI]
theorem LI_bd {l : List Nat} (h : ∀ x ∈ l, x < 4294967296) : ∀ x ∈ LI l, 0 ≤ x ∧ x ≤ 4294967295 := by
  intro x hx
  obtain ⟨n, hn, rfl⟩ := List.mem_map.1 hx
  have := h n hn
  omega
theorem LI_step (l : List Nat) (k : Nat) (h : k < l.length) : wls (LI (l.take (k + 1))) = (wls (LI (l.take k)) ++ wl (l[k] : Int)) ++ [10] := by
  rw [List.take_succ_eq_append_getElem h]
  unfold LI
  rw [List.map_append, List.map_cons, List.map_nil, wls_snoc, List.append_assoc]
theorem wls_part {l : List Nat} (h : ∀ x ∈ l, x < 4294967296) (k : Nat) : (wls (LI (l.take k))).length ≤ 25 * l.length := by
  have h1 := wls_len (LI (l.take k)) (LI_bd fun x hx => h x (List.mem_of_mem_take hx))
  rw [LI_len, List.length_take] at h1
  omega
theorem list_any (l : List Nat) (v : Value) (w : World) (T : Tab w) (hr : Reads (· < w.heap.size) w v (u32s l)) (hl : l.length ≤ 1000000) (hw : ∀ x ∈ l, x < 4294967296) :
    Calls Tryz.prog 15 #[v] w fun e w' => e = .returned (.string (bs (wls (LI l)))) ∧ Below w.heap.size w w' := by
  have HT : Hid (∀ u, Below w.heap.size w u → Tab u) := fun u hb => T.below hb
  clear T
  obtain ⟨a, cap, rfl, hcap, hcm⟩ := hr.shape
  rw [u32s_len] at *
  unfold maxLen at hcm
  have HR := Lib.hid hr
  clear hr
  have HW := Lib.hid hw
  clear hw
  have HP := Lib.hid (wls_part HW.out)
  generalize hn : l.length = n at *
  have HN := Lib.hid hn
  clear hn
  go_enter Tryz.func15, Tryz.ntmps15
  go_wp2_with fail
  go_loopw [5, 8] (fun _ i wr => ∃ k : Nat, k ≤ n ∧ i = .int .i64 (k : Int) ∧ IsB w.heap.size w.heap.size (wls (LI (l.take k))) wr ∧ Below w.heap.size w wr) (fun _ i _ => n - (intOf i).toNat)
  case atStart => exact ⟨0, by omega, rfl, by simpa [wls, LI] using isB_new w, below_new _ _⟩
  case round =>
    obtain ⟨k, hk, rfl, hI, hb⟩ := hrel
    have hbs := hb.size
    by_cases hlt : k < n
    · have hlt' : (k : Int) < n := by omega
      have hkl : k < l.length := by rw [HN.out]; exact hlt
      have hx : l[k] < 4294967296 := HW.out _ (List.getElem_mem hkl)
      have HS := Lib.hid (LI_step l k hkl)
      obtain ⟨g, off, cap', hv, hg, hcap', hcm', hc⟩ := (HR.out.below hb).cells (by intro h; have := congrArg List.length h; simp [u32s] at this; subst this; simp at hkl)
      simp only [Value.slice.injEq, true_and, u32s_len] at hv
      obtain ⟨rfl, hv2, rfl⟩ := hv
      have hck := hc k (by rw [u32s_len]; exact hkl)
      rw [u32s_at l k hkl] at hck
      clear hc hv2
      have hlen := HP.out k
      have hwl := wl_len (x := (l[k] : Int)) ⟨by omega, by omega⟩
      have CW := Lib.hid (wordLine_any (l[k] : Int) ⟨by omega, by omega⟩)
      generalize hX : wl (l[k] : Int) = X at *
      generalize hY : wls (LI (l.take k)) = Y at *
      have HI := Lib.hid hI
      clear hI
      generalize (l[k] : Nat) = x at *
      have hxi : (x : Int) < 4294967296 := by omega
      go_wp2_with (first | (go_at_call 30; refine (CW.out _ (HT.out _ hb)).mono ?_; rintro e w2 ⟨rfl, hb2⟩; have hI2 := Lib.hid (isB_below HI.out hb2); have h2 := hb2.size) | (go_at_call 29; (first | (refine (write_any _ _ _ X _ hI2.out (by omega) (by omega)).mono ?_; rintro e w3 ⟨rfl, hI3', hb3⟩; have hI3 := Lib.hid hI3'; clear hI3' hI2; have h3 := hb3.size) | (refine (write_any _ _ _ [10] _ hI3.out (by simp; omega) (by omega)).mono ?_; rintro e w4 ⟨rfl, hI4', hb4⟩; have hI4 := Lib.hid hI4'; clear hI4' hI3))))
      go_roundw
      case rel => exact ⟨k + 1, by omega, by go_num, by rw [HS.out]; exact hI4.out, ((hb.trans (hb2.mono hbs)).trans hb3).trans hb4⟩
      case measure => simp [intOf]; omega
    · obtain rfl : k = n := by omega
      have e : l.take k = l := List.take_of_length_le (by rw [HN.out]; omega)
      rw [e] at hI
      have HI := Lib.hid hI
      clear hI
      go_wp2_with (go_at_call 31; refine (text_any _ _ _ _ HI.out hbs).mono ?_; rintro e w2 ⟨rfl, hb2⟩)
      go_ret
      exact ⟨rfl, hb.trans hb2⟩
end Go.Proofs.YtoohfmkhjhcopaaGreatDoor.AF
