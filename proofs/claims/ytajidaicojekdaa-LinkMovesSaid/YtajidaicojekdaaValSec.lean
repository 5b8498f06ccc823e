/-
  A text that a list has already, as the program finds it. Nothing here is a statement of the seed.
-/
import Derived.Test.YtajidaicojekdaaValIdx
set_option linter.unusedSimpArgs false
set_option linter.unusedVariables false
namespace Go.Proofs.Ytajidaicojekdaa.VR
open Go.RowKit WM NR OM OR VM
set_option maxHeartbeats 4000000
set_option maxRecDepth 10000
theorem elemTexts : Try.prog.underlying 23 = some (.slice (Try.prog.elem 23)) := by kernel_rfl
theorem sizeText (u : World) : (sizeOf (Try.prog.elem 23)).run Try.prog u = .ok 1 u := by kernel_rfl
theorem index_any {w : World} {a : Option Addr} {n c : Nat} {l : List (List UInt8)} (h1 : Reads (· < w.heap.size) w (.slice a n c) (strs l)) (s : List UInt8) :
    Calls Try.prog 88 #[.slice a n c, .string (bs s)] w fun e w' => e = .returned (.int .i64 (ff (fun j => decide (s = l.getD j [])) n)) ∧ w = w' := by
  obtain ⟨n1, m1, m2⟩ := reads_len h1
  rw [strs_len] at n1
  unfold maxLen at m2
  have hn : (n : Int) ≤ 9223372036854775807 := by omega
  have HA := Lib.hid h1
  have HL := Lib.hid n1
  clear h1 n1 m1 m2
  obtain ⟨p, hpd⟩ : ∃ p : Nat → Bool, p = fun j => decide (s = l.getD j []) := ⟨_, rfl⟩
  rw [← hpd]
  have HP := Lib.hid hpd
  clear hpd
  obtain ⟨E, hE⟩ : ∃ E, E = ff p n := ⟨_, rfl⟩
  rw [← hE]
  have HE := Lib.hid hE
  clear hE
  go_enter Try.func88, Try.ntmps88
  go_wp2_with fail
  go_loop [8] (fun i => ∃ k : Nat, k ≤ n ∧ i = .int .i64 (k : Int) ∧ Hid (∀ j, j < k → p j = false)) (fun i => n - (intOf i).toNat)
  case atStart => exact ⟨0, by omega, rfl, Lib.hid (fun j hj => by omega)⟩
  case round =>
    obtain ⟨k, hk, rfl, hp⟩ := hrel
    by_cases hlt : k < n
    · have hlt' : (k : Int) < n := by omega
      obtain ⟨g, off, rfl, q1, c1⟩ := reads_at HA.out (Below.refl _ _) hlt
      have k1 : k < l.length := by rw [HL.out]; exact hlt
      rw [strs_at k1] at c1
      by_cases e : s = l.getD k []
      · have hh := Lib.hid (HE.out.trans (ff_yes hlt (by rw [HP.out]; exact decide_eq_true e) hp.out))
        rw [← e] at c1
        have exx : ((bs s).toList == (bs s).toList) = true := by simp
        clear hp k1 e
        generalize bs s = x at *
        go_wp2_with fail
        go_ret
        exact ⟨ret_int hh.out.symm, rfl⟩
      · have hp2 := Lib.hid (fun j (hj : j < k + 1) => if h : j < k then hp.out j h else by rw [show j = k by omega, HP.out]; exact decide_eq_false e)
        have exy : ((bs s).toList == (bs (l.getD k [])).toList) = false := by rw [bs_toList, bs_toList]; simpa using e
        clear hp k1 e
        generalize bs s = x at *
        generalize bs (l.getD k []) = y at *
        go_wp2_with fail
        go_roundw
        case rel => exact ⟨k + 1, by omega, by go_num, hp2⟩
        case measure => simp [intOf]; omega
    · obtain rfl : k = n := by omega
      have hh := Lib.hid (HE.out.trans (ff_no hp.out))
      clear hp
      go_wp2_with fail
      go_ret
      exact ⟨ret_int hh.out.symm, rfl⟩
theorem ff_mem {l : List (List UInt8)} {s : List UInt8} {n : Nat} (hn : l.length = n) : decide (0 ≤ ff (fun j => decide (s = l.getD j [])) n) = decide (s ∈ l) := by
  have key : ¬ 0 ≤ ff (fun j => decide (s = l.getD j [])) n ↔ ¬ s ∈ l := by
   rw [ff_neg]
   constructor
   · intro h hm
     obtain ⟨j, hj, rfl⟩ := List.getElem_of_mem hm
     have := h j (by omega)
     rw [decide_eq_false_iff_not] at this
     apply this
     rw [List.getD_eq_getElem?_getD, List.getElem?_eq_getElem hj]
     rfl
   · intro h j hj
     refine decide_eq_false fun e => h ?_
     rw [e, List.getD_eq_getElem?_getD, List.getElem?_eq_getElem (by omega)]
     exact List.getElem_mem _
  exact decide_eq_decide.2 ⟨fun h => Classical.byContradiction fun hh => key.2 hh h, fun h => Classical.byContradiction fun hh => key.1 hh h⟩
theorem contains_any {w : World} {a : Option Addr} {n c : Nat} {l : List (List UInt8)} (h1 : Reads (· < w.heap.size) w (.slice a n c) (strs l)) (s : List UInt8) :
    Calls Try.prog 62 #[.slice a n c, .string (bs s)] w fun e w' => e = .returned (.bool (decide (s ∈ l))) ∧ w = w' := by
  have C := Lib.hid (index_any h1 s)
  obtain ⟨n1, _, _⟩ := reads_len h1
  rw [strs_len] at n1
  rw [← ff_mem n1]
  clear h1 n1
  generalize ff (fun j => decide (s = l.getD j [])) n = r at *
  generalize bs s = x at *
  go_enter Try.func62, Try.ntmps62
  go_wp2_with (go_at_call 88; (with_reducible refine C.out.mono ?_); rintro e w1 ⟨rfl, rfl⟩)
  go_ret
  exact ⟨ret_bool (by first | rfl | (rw [Bool.eq_iff_iff]; simp; done)), rfl⟩
theorem dup_mem {l : List (List UInt8)} {k : Nat} (hk : k < l.length) : dupB l k = decide (l.getD k [] ∈ l.take k) := by
  unfold dupB
  rw [Bool.eq_iff_iff, List.any_eq_true, decide_eq_true_eq]
  constructor
  · rintro ⟨j, hj, h⟩
    rw [List.mem_range] at hj
    rw [of_decide_eq_true h, List.mem_take_iff_getElem]
    refine ⟨j, by omega, ?_⟩
    rw [List.getD_eq_getElem?_getD, List.getElem?_eq_getElem (by omega)]
    rfl
  · intro h
    rw [List.mem_take_iff_getElem] at h
    obtain ⟨j, hj, h⟩ := h
    refine ⟨j, by rw [List.mem_range]; omega, decide_eq_true ?_⟩
    rw [← h, List.getD_eq_getElem?_getD, List.getElem?_eq_getElem (by omega)]
    rfl
theorem second_any {w : World} {a : Option Addr} {n c : Nat} {l : List (List UInt8)} (h1 : Reads (· < w.heap.size) w (.slice a n c) (strs l)) :
    Calls Try.prog 137 #[.slice a n c] w fun e w' => e = .returned (.int .i64 (ff (dupB l) n)) ∧ w = w' := by
  obtain ⟨n1, m1, m2⟩ := reads_len h1
  rw [strs_len] at n1
  unfold maxLen at m2
  have hn : (n : Int) ≤ 9223372036854775807 := by omega
  have HA := Lib.hid h1
  have HL := Lib.hid n1
  clear h1 n1 m1 m2
  obtain ⟨E, hE⟩ : ∃ E, E = ff (dupB l) n := ⟨_, rfl⟩
  rw [← hE]
  have HE := Lib.hid hE
  clear hE
  go_enter Try.func137, Try.ntmps137
  go_wp2_with fail
  go_loop [7] (fun i => ∃ k : Nat, k ≤ n ∧ i = .int .i64 (k : Int) ∧ Hid (∀ j, j < k → dupB l j = false)) (fun i => n - (intOf i).toNat)
  case atStart => exact ⟨0, by omega, rfl, Lib.hid (fun j hj => by omega)⟩
  case round =>
    obtain ⟨k, hk, rfl, hp⟩ := hrel
    by_cases hlt : k < n
    · have hlt' : (k : Int) < n := by omega
      obtain ⟨v', r1, h2⟩ := HA.out.take (P := Try.prog) elemTexts sizeText k (by rw [strs_len, HL.out]; omega)
      obtain ⟨a', n', c', rfl⟩ := h2.form
      obtain ⟨g, off, rfl, q1, c1⟩ := reads_at HA.out (Below.refl _ _) hlt
      have k1 : k < l.length := by rw [HL.out]; exact hlt
      rw [strs_at k1] at c1
      rw [show (strs l).take k = strs (l.take k) by simp [strs]] at h2
      have CL := Lib.hid (contains_any h2 (l.getD k []))
      rw [← dup_mem k1] at CL
      obtain ⟨b, hb⟩ : ∃ b, b = dupB l k := ⟨_, rfl⟩
      rw [← hb] at CL
      clear h2
      cases b
      case true =>
        have hh := Lib.hid (HE.out.trans (ff_yes hlt hb.symm hp.out))
        clear hb hp k1
        generalize bs (l.getD k []) = x at *
        go_wp2_with (go_at_call 62; (with_reducible refine CL.out.mono ?_); rintro e w1 ⟨rfl, rfl⟩)
        go_ret
        exact ⟨ret_int hh.out.symm, rfl⟩
      case false =>
        have hp2 := Lib.hid (fun j (hj : j < k + 1) => if h : j < k then hp.out j h else by rw [show j = k by omega]; exact hb.symm)
        clear hb hp k1
        generalize bs (l.getD k []) = x at *
        go_wp2_with (go_at_call 62; (with_reducible refine CL.out.mono ?_); rintro e w1 ⟨rfl, rfl⟩)
        go_roundw
        case rel => exact ⟨k + 1, by omega, by go_num, hp2⟩
        case measure => simp [intOf]; omega
    · obtain rfl : k = n := by omega
      have hh := Lib.hid (HE.out.trans (ff_no hp.out))
      clear hp
      go_wp2_with fail
      go_ret
      exact ⟨ret_int hh.out.symm, rfl⟩
end Go.Proofs.Ytajidaicojekdaa.VR
