/-
  Words as lines: what the reference tells. Nothing here is a statement of the seed.
-/
import Derived.Test.YtoohfmkhjhcopaaGreatDoorAsmList
set_option linter.unusedSimpArgs false
set_option linter.unusedVariables false
namespace Go.Proofs.YtoohfmkhjhcopaaGreatDoor.AF
open Go.RowKit WM IM WF IF AM NR

set_option maxHeartbeats 2000000 in
theorem refList_any (l : List Nat) (v : Value) (w : World) (hr : Reads (· < w.heap.size) w v (u32s l)) (hl : l.length ≤ 1000000) (hw : ∀ x ∈ l, x < 4294967296) :
    Calls Tryz.prog 16 #[v] w fun e w' => e = .returned (.string (bs (wls (LI l)))) ∧ Below w.heap.size w w' := by
  obtain ⟨a, cap, rfl, hcap, hcm⟩ := hr.shape
  rw [u32s_len] at *
  unfold maxLen at hcm
  have HR := Lib.hid hr
  clear hr
  have HW := Lib.hid hw
  clear hw
  have HP := Lib.hid (wls_part HW.out)
  generalize hn : l.length = n at *
  have HN := Lib.hid hn
  clear hn
  go_enter Tryz.func16, Tryz.ntmps16
  go_wp2_with fail
  go_loopw [3, 4] (fun s i wr => ∃ k : Nat, k ≤ n ∧ i = .int .i64 (k : Int) ∧ s = .string (bs (wls (LI (l.take k)))) ∧ Below w.heap.size w wr) (fun _ i _ => n - (intOf i).toNat)
  case atStart => exact ⟨0, by omega, rfl, rfl, Below.refl _ _⟩
  case round =>
    obtain ⟨k, hk, rfl, rfl, hb⟩ := hrel
    have hbs := hb.size
    by_cases hlt : k < n
    · have hlt' : (k : Int) < n := by omega
      have hkl : k < l.length := by rw [HN.out]; exact hlt
      have hx : l[k] < 4294967296 := HW.out _ (List.getElem_mem hkl)
      have HS := Lib.hid (LI_step l k hkl)
      obtain ⟨g, off, cap', hv, hg, hcap', hcm', hc⟩ := HR.out.cells (by intro h; have := congrArg List.length h; simp [u32s] at this; subst this; simp at hkl)
      simp only [Value.slice.injEq, true_and, u32s_len] at hv
      obtain ⟨rfl, hv2, rfl⟩ := hv
      have hck' := hc k (by rw [u32s_len]; exact hkl)
      rw [u32s_at l k hkl] at hck'
      have HC : Hid (∀ u, Below w.heap.size w u → u.cell? ⟨g, off + k, none⟩ = some (.int .u32 (l[k] : Int))) := fun u h => (h.cell (p := ⟨g, off + k, none⟩) hg).trans hck'
      clear hc hv2 hck'
      have hck := HC.out _ hb
      have hlen : (bs (wls (LI (l.take k)))).size ≤ 25 * n := by rw [bs_size]; exact HP.out k
      have hxi : (0 : Int) ≤ (l[k] : Int) ∧ (l[k] : Int) ≤ 4294967295 := by omega
      have hwl : (bs (wl (l[k] : Int))).size ≤ 24 := by rw [bs_size]; exact wl_len hxi
      have CD := refDecode_any (l[k] : Int) hxi
      have CH := Lib.hid (refHexS (l[k] : Int) hxi)
      have hhl : (bs (hexB (l[k] : Int))).size ≤ 9 := by rw [bs_size, hex_len]; omega
      have HS' : Hid ((bs (wls (LI (l.take k))) ++ bs (wl (l[k] : Int))) ++ (⟨#[10]⟩ : ByteArray) = bs (wls (LI (l.take (k + 1))))) := by
        show _ = _
        rw [HS.out, show (⟨#[10]⟩ : ByteArray) = bs [10] from rfl, app_bs, app_bs]
      clear HS
      have hq : ∃ o d a b m K S, Says Tryz.prog 32 #[.int .u32 (l[k] : Int)] (.tuple #[insV o d a b m, .int .i64 K]) ∧ Says Tryz.prog 9 #[insV o d a b m] (.tuple #[.string S, .int .i64 0]) ∧
          (K = 0 ∧ S = bs (wl (l[k] : Int)) ∨ (K == 0) = false ∧ (K != 0) = true ∧ (⟨#[119, 111, 114, 100, 32]⟩ : ByteArray) ++ bs (hexB (l[k] : Int)) = bs (wl (l[k] : Int))) := by
        unfold decV at CD
        cases h : hasB (l[k] : Int) with
        | true =>
          rw [h, if_pos rfl, if_pos rfl] at CD
          exact ⟨_, _, _, _, _, _, _, CD, refPrint_yes _ _ _ _ _ (has_good hxi h).1, Or.inl ⟨rfl, by unfold wl; rw [if_pos h]; rfl⟩⟩
        | false =>
          rw [h, if_neg (by simp), if_neg (by simp)] at CD
          refine ⟨_, _, _, _, _, _, _, CD, refPrint_yes 0 0 0 0 0 (by unfold InsOk; omega), Or.inr ⟨rfl, rfl, ?_⟩⟩
          unfold wl
          rw [if_neg (by rw [h]; simp), ← app_bs]
          rfl
      clear CD
      obtain ⟨o, d, a, b, m, K, S, CD, CP, hKS⟩ := hq
      have HCD := Lib.hid CD
      have HCP := Lib.hid CP
      clear CD CP
      generalize bs (wls (LI (l.take k))) = Y at *
      generalize bs (wl (l[k] : Int)) = X at *
      generalize bs (hexB (l[k] : Int)) = Z at *
      generalize (l[k] : Nat) = x at *
      have hb' := Lib.hid hb
      rcases hKS with ⟨rfl, rfl⟩ | ⟨hK1, hK2, hKX⟩
      · go_wp2_with (first | (go_at_call 32; refine (inw HCD.out _ _ hb).mono ?_; rintro e w1 ⟨rfl, hb1⟩; clear hck hb; have hb2 := ball (o := .cells #[.int .u8 o, .int .u8 d, .int .u8 a, .int .u8 b, .int .i32 m] 24) hb1; obtain ⟨⟨k0, k1, k2, k3, k4⟩, hf, hltt⟩ := blk5 (Blk.new w1 24 #[.int .u8 o, .int .u8 d, .int .u8 a, .int .u8 b, .int .i32 m])) | (go_at_call 9; refine (inw HCP.out _ _ hb2).mono ?_; rintro e w2 ⟨rfl, hb3⟩; have hck := HC.out _ hb3; clear hb2) | (go_at_call 33; refine (inw CH.out _ _ hb3).mono ?_; rintro e w3 ⟨rfl, hb4⟩))
        refine ⟨⟨k + 1, by omega, by go_num, by rw [← HS'.out], hb3⟩, by simp [intOf]; omega⟩
      · go_wp2_with (first | (go_at_call 32; refine (inw HCD.out _ _ hb).mono ?_; rintro e w1 ⟨rfl, hb1⟩; clear hck hb; have hb2 := ball (o := .cells #[.int .u8 o, .int .u8 d, .int .u8 a, .int .u8 b, .int .i32 m] 24) hb1; obtain ⟨⟨k0, k1, k2, k3, k4⟩, hf, hltt⟩ := blk5 (Blk.new w1 24 #[.int .u8 o, .int .u8 d, .int .u8 a, .int .u8 b, .int .i32 m])) | (go_at_call 9; refine (inw HCP.out _ _ hb2).mono ?_; rintro e w2 ⟨rfl, hb3⟩; have hck := HC.out _ hb3; clear hb2) | (go_at_call 33; refine (inw CH.out _ _ hb3).mono ?_; rintro e w3 ⟨rfl, hb4⟩))
        refine ⟨⟨k + 1, by omega, by go_num, by rw [← HS'.out], hb4⟩, by simp [intOf]; omega⟩
    · obtain rfl : k = n := by omega
      have e : l.take k = l := List.take_of_length_le (by rw [HN.out]; omega)
      rw [e]
      go_wp2_with fail
      go_ret
      exact ⟨rfl, hb⟩
end Go.Proofs.YtoohfmkhjhcopaaGreatDoor.AF
