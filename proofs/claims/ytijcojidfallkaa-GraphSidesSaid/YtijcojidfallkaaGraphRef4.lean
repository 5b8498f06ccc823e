/-
  The reference of layer 14: all of a list; what is ready. Nothing here is a statement of the seed.
-/
import Derived.Test.YtijcojidfallkaaGraphRef3
set_option linter.unusedSimpArgs false
set_option linter.unusedVariables false
namespace Go.Proofs.Ytijcojidfallkaa.GF
open Go.RowKit WM NR OM OR GM GR
set_option maxHeartbeats 4000000
set_option maxRecDepth 10000
section
variable {w : World} {la : Option Addr} {ln lc : Nat} {l : List Nr}
theorem refAll_any (h : RdG (· < w.heap.size) w la ln lc l) {a : Option Addr} {n c : Nat} {ds : List (List UInt8)} (hd : Reads (· < w.heap.size) w (.slice a n c) (strs ds)) :
    Calls Try.prog 46 #[gV la ln lc, .slice a n c] w fun e w' => e = .returned (.bool (allM (ndL l) ds)) ∧ Below w.heap.size w w' := by
  obtain ⟨n1, m1, m2⟩ := reads_len hd
  rw [strs_len] at n1
  unfold maxLen at m2
  have hn : (n : Int) ≤ 9223372036854775807 := by omega
  have q2 : (n : Int) ≤ c := by omega
  have HX := Lib.hid (Whole.new w 29 (gC la ln lc))
  have HB := Lib.hid (below_new w (.cells (gC la ln lc) 29))
  have HE := Lib.hid h
  have HD := Lib.hid hd
  have HL := Lib.hid n1
  have HR := Lib.hid (show allM (ndL l) ds = true ↔ ∀ x ∈ ds, hasM (ndL l) x = true from all_iff)
  generalize allM (ndL l) ds = R at *
  clear h hd n1 m2
  go_enter Try.func46, Try.ntmps46
  go_upto_region 1 with fail
  generalize w.alloc (.cells (gC la ln lc) 29) = W at *
  go_wp2_with fail
  go_loopw [5] (fun i wr => ∃ k : Nat, k ≤ n ∧ i = .int .i64 (k : Int) ∧ Hid (∀ x ∈ ds.take k, hasM (ndL l) x = true) ∧ Hid (Below W.heap.size W wr)) (fun i _ => n - (intOf i).toNat)
  case atStart => exact ⟨0, by omega, rfl, Lib.hid (by simp), Lib.hid (Below.refl _ _)⟩
  case round =>
    obtain ⟨k, hk, rfl, hp, HF⟩ := hrel
    by_cases hlt : k < n
    · have hlt' : (k : Int) < n := by omega
      have k0 : (0 : Int) ≤ k := by omega
      have kl : k < ds.length := by rw [HL.out]; exact hlt
      have HB1 := Lib.hid (HB.out.trans (HF.out.mono HB.out.size))
      obtain ⟨g, off, rfl, _, e1⟩ := reads_at HD.out HB1.out hlt
      rw [strs_at kl] at e1
      have hx := HX.out.belowS HF.out
      have hK := Lib.hid (fun (u : World) (hu : Below wr.heap.size wr u) => show u.cell? ⟨w.heap.size, 0, none⟩ = some (.slice la ln lc) ∧ u.cell? ⟨g, off + k, none⟩ = some (.string (bs (ds.getD k []))) from
        ⟨(hx.belowS hu).cell 0, (hu.cell (p := ⟨g, off + k, none⟩) (World.block_lt_of_cell? _ _ e1)).trans e1⟩)
      have C := Lib.hid (fun u (hu : Below w.heap.size w u) => refHas_any (HE.out.go hu hu.size) (ds.getD k []))
      have hW : Below wr.heap.size wr wr.drew := (Below.refl _ _).drew
      have HBd := Lib.hid (HB1.out.trans (hW.mono HB1.out.size))
      have HT := Lib.hid (fun x => mem_take_succ ds [] k kl x)
      have HM := Lib.hid (getD_memT kl)
      clear hx e1 kl
      obtain ⟨b, hb⟩ : ∃ b, b = hasM (ndL l) (ds.getD k []) := ⟨_, rfl⟩
      rw [← hb] at C
      have hBB := Lib.hid hb
      clear hb
      generalize ds.getD k [] = x at *
      obtain ⟨X, hX⟩ : ∃ X, X = bs x := ⟨_, rfl⟩
      rw [← hX] at C hK
      clear hX
      have K0 := hK.out _ hW
      cases b with
      | false =>
        have hh := Lib.hid (show R = false by
          rw [← Bool.not_eq_true, HR.out]
          intro h
          have := h x HM.out
          rw [← hBB.out] at this
          cases this)
        clear hp HR HD HE HT
        go_upto_region 4 with fail
        go_region_held3 (fun u => u.cell? ⟨w.heap.size, 0, none⟩ = some (.slice la ln lc) ∧ u.cell? ⟨g, off + k, none⟩ = some (.string X))
          (first | with_reducible exact K0 | with_reducible exact K1)
          (first | (go_at_call 31; (with_reducible refine (C.out _ HBd.out).mono ?_); rintro e w1 ⟨rfl, hb1⟩; have hB1 := below_of hW hb1; have K1 := hK.out _ hB1))
        rename_i hHeld
        clear hHeld
        go_wp2_with fail
        go_ret
        exact ⟨ret_bool hh.out.symm, HB1.out.trans (hB1.mono HB1.out.size)⟩
      | true =>
        have hp2 := Lib.hid (show ∀ y ∈ ds.take (k + 1), hasM (ndL l) y = true from fun y hy => by
          rcases (HT.out y).1 hy with h | h
          · exact hp.out y h
          · rw [h, ← hBB.out])
        clear hp HR HD HE HT
        go_upto_region 4 with fail
        go_region_held3 (fun u => u.cell? ⟨w.heap.size, 0, none⟩ = some (.slice la ln lc) ∧ u.cell? ⟨g, off + k, none⟩ = some (.string X))
          (first | with_reducible exact K0 | with_reducible exact K1)
          (first | (go_at_call 31; (with_reducible refine (C.out _ HBd.out).mono ?_); rintro e w1 ⟨rfl, hb1⟩; have hB1 := below_of hW hb1; have K1 := hK.out _ hB1))
        rename_i hHeld
        clear hHeld
        have HF2 := Lib.hid (HF.out.trans (hB1.mono HF.out.size))
        clear K0 K1
        go_wp2_with fail
        go_roundw
        case rel => exact ⟨k + 1, by omega, by go_num, hp2, HF2⟩
        case measure => simp [intOf]; omega
    · obtain rfl : k = n := by omega
      have hh := Lib.hid (show R = true by
        have := hp.out
        rw [List.take_of_length_le (by rw [HL.out]; omega)] at this
        exact HR.out.2 this)
      have HB1 := Lib.hid (HB.out.trans (HF.out.mono HB.out.size))
      clear hp HR HE HD
      go_wp2_with fail
      go_ret
      exact ⟨ret_bool hh.out.symm, HB1.out⟩
end
end Go.Proofs.Ytijcojidfallkaa.GF
