/-
  Texts laid, as the reference lays them. Nothing here is a statement of the seed.
-/
import Derived.Test.YtdlinlkdielmkaaObjChk
set_option linter.unusedSimpArgs false
set_option linter.unusedVariables false
namespace Go.Proofs.Ytdlinlkdielmkaa.OR
open Go.RowKit WM NR OM
set_option maxHeartbeats 4000000
set_option maxRecDepth 10000
theorem textsB_take {l : List (List UInt8)} {k : Nat} (hk : k < l.length) : textsB (l.take (k + 1)) = textsB (l.take k) ++ textL (l.getD k []) := by
  rw [List.take_add_one, textsB_append]
  simp [hk, textsB]
theorem textL_len {s : List UInt8} (h : s.length ≤ 96) : (textL s).length ≤ 101 := by
  unfold textL
  rw [List.length_append]
  have := varL_five (s.length % 4294967296) (by omega)
  omega
theorem textsB_len : ∀ (l : List (List UInt8)), (∀ s ∈ l, s.length ≤ 96) → (textsB l).length ≤ 101 * l.length
  | [], _ => by simp [textsB]
  | s :: l, h => by
    have h1 := textL_len (h s (by simp))
    have h2 := textsB_len l (fun x hx => h x (by simp [hx]))
    simp only [textsB, List.length_append, List.length_cons]
    omega
/-- bytes that were told, ready to be appended -/
theorem owns_give {w : World} {B : Nat} {v : Value} {xs : List UInt8} (h : w.ownsRow B 5 1 v xs.length (u8s xs)) (h0 : xs ≠ []) :
    ∃ g cap, v = .slice (some ⟨g, 0, none⟩) xs.length cap ∧ (∀ j u, (u8s xs)[j]? = some u → w.cell? ((⟨g, 0, none⟩ : Addr).add j) = some u) := by
  obtain ⟨g, cap, rfl, h1, _⟩ := owns_parts h (by simpa [u8s] using h0)
  exact ⟨g, cap, rfl, h1⟩
theorem textL_ne (s : List UInt8) : textL s ≠ [] := by
  unfold textL
  intro h
  exact varL_ne _ (List.append_eq_nil_iff.1 h).1
theorem refTexts_any {w : World} {a : Option Addr} {n c : Nat} {l : List (List UInt8)} (h1 : Reads (· < w.heap.size) w (.slice a n c) (strs l)) (hn : n ≤ 16) (h96 : ∀ s ∈ l, s.length ≤ 96) :
    Calls Try.prog 28 #[.slice a n c] w (IsBytes w.heap.size (textsL l) w) := by
  obtain ⟨i0, hi, hz0, hz1, hz2⟩ := info_parts infoByte
  obtain ⟨n1, m1, m2⟩ := reads_len h1
  rw [strs_len] at n1
  have hnI : (n : Int) ≤ 16 := by omega
  have C := Lib.hid (refVar_int (n : Int) w (by omega))
  have L5 := varL_five n (by omega)
  have EL := Lib.hid (show textsL l = varL n ++ textsB l by unfold textsL; rw [n1, Nat.mod_eq_of_lt (by omega)])
  have e0 : Hid ((n : Int).toNat = n) := by show _ = _; omega
  generalize hL : varL n = L at *
  have HL := Lib.hid hL
  clear hL
  have HA := Lib.hid h1
  have HN := Lib.hid n1
  have H96 := Lib.hid h96
  clear h1 n1 m1 m2 h96
  go_enter Try.func28, Try.ntmps28
  go_wp2_with fail
  refine C.out.mono ?_
  rintro e w1 ⟨v1, rfl, hown1, hb1⟩
  rw [e0.out, HL.out] at hown1
  go_wp2_with fail
  go_loopw [3, 4] (fun s i wr => ∃ (k : Nat) (q : Value), k ≤ n ∧ i = .int .i64 (k : Int) ∧ q = s ∧ Hid (wr.ownsRow w.heap.size 5 1 q (L ++ textsB (l.take k)).length (u8s (L ++ textsB (l.take k)))) ∧ Below w.heap.size w wr) (fun _ i _ => n - (intOf i).toNat)
  case atStart => exact ⟨0, _, by omega, rfl, rfl, Lib.hid (by simpa [textsB] using hown1), hb1⟩
  case round =>
    obtain ⟨k, q, hk, rfl, rfl, hown, hb⟩ := hrel
    have hbs := hb.size
    by_cases hlt : k < n
    · have hlt' : (k : Int) < n := by omega
      have hkl : k < l.length := by rw [HN.out]; exact hlt
      obtain ⟨g, off, rfl, q1, c1⟩ := reads_at HA.out hb hlt
      rw [strs_at hkl] at c1
      have h96k : (l.getD k []).length ≤ 96 := H96.out _ (by have e : l.getD k [] = l[k] := by simp [hkl]
                                                             rw [e]; exact List.getElem_mem hkl)
      have ht := textL_len h96k
      have HB' := Lib.hid (textsB_len (l.take k) (fun s hs => H96.out s (List.mem_of_mem_take hs)))
      have HS := Lib.hid (textsB_take hkl)
      have hne := textL_ne (l.getD k [])
      have CW := Lib.hid (refText_any (bs (l.getD k [])) wr (by rw [bs_size]; omega))
      rw [bs_list] at CW
      generalize hT : textL (l.getD k []) = T at *
      clear hT
      generalize bs (l.getD k []) = x at *
      have HTk := Lib.hid (show (l.take k).length = k by rw [List.length_take]; omega)
      have hlen : (L ++ textsB (l.take k)).length ≤ 1700 := by have := HB'.out; rw [HTk.out] at this; rw [List.length_append]; omega
      have HW := Lib.hid hown.out
      clear hown HB' h96k
      generalize hX : L ++ textsB (l.take k) = X at *
      have HX := Lib.hid hX
      clear hX
      go_wp2_with fail
      refine CW.out.mono ?_
      rintro e w2 ⟨v2, rfl, hown2, hb2⟩
      obtain ⟨g2, cap2, rfl, hcells⟩ := owns_give hown2 hne
      have hown3 := owns_below HW.out hb2
      have hbb := hb2.size
      have hnm : X.length + T.length ≤ maxLen := by unfold maxLen; omega
      have hnb : (X.length + T.length) * 1 ≤ 140737488355328 := by omega
      go_wp2_with (at_builtin; refine wpList_append_own _ rfl _ _ 30 rfl w.heap.size 5 i0 (.int .u8 0) 1 1 Try.underlying30 hi hz0 hz1 hz2 rfl (by decide) _ _ _ rfl hown3 ⟨g2, 0, none⟩ T.length cap2 (u8s T) rfl (by rw [u8s_len]; omega) hcells (u8s_one _) hnm hnb (by omega) ?_)
      intro v' w3 hown4 hgrow _
      go_wp2_with fail
      go_roundw
      case rel =>
        refine ⟨k + 1, _, by omega, by go_num, rfl, Lib.hid ?_, (below_of hb hb2).grown hgrow (by omega) (fun g hg => (hown3.lt g hg).1)⟩
        rw [HS.out, ← List.append_assoc, HX.out, u8s_append, List.length_append]
        exact hown4
      case measure => simp [intOf]; omega
    · obtain rfl : k = n := by omega
      have e : textsL l = L ++ textsB (l.take k) := by rw [EL.out, List.take_of_length_le (by rw [HN.out]; omega)]
      have HE := Lib.hid e
      clear e
      go_wp2_with fail
      go_ret
      refine ⟨_, rfl, ?_, hb⟩
      rw [HE.out]
      exact hown.out
end Go.Proofs.Ytdlinlkdielmkaa.OR
