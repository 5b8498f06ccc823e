/-
  The first place of a list at which something is wrong, as the library looks for it. Nothing here is a statement of the seed.
-/
import Derived.Test.YtajidaicojekdaaValFn2
import Derived.Test.YtajidaicojekdaaObjSizeR
import Derived.BigQuiet
import Derived.Deep.QuietTactic
set_option linter.unusedSimpArgs false
set_option linter.unusedVariables false
namespace Go.Proofs.Ytajidaicojekdaa.VR
open Go.RowKit WM NR OM OR VM
set_option maxHeartbeats 4000000
set_option maxRecDepth 10000
theorem idxNames_any {w : World} {a : Option Addr} {n c : Nat} {l : List (List UInt8)} (h1 : Reads (· < w.heap.size) w (.slice a n c) (strs l)) {p : Nat → Bool} (hp0 : ∀ k, k < n → ∀ u : World, Below w.heap.size w u → Calls Try.prog 136 #[.string (bs (l.getD k []))] u fun e w' => e = .returned (.bool (p k)) ∧ Below u.heap.size u w') :
    Calls Try.prog 61 #[.slice a n c, .func (.func 136) #[] #[]] w fun e w' => e = .returned (.int .i64 (ff p n)) ∧ Below w.heap.size w w' := by
  obtain ⟨n1, m1, m2⟩ := reads_len h1
  rw [strs_len] at n1
  unfold maxLen at m2
  have hn : (n : Int) ≤ 9223372036854775807 := by omega
  have HA := Lib.hid h1
  have HL := Lib.hid n1
  have HC := Lib.hid hp0
  have m1' : (n : Int) ≤ c := by omega
  clear h1 n1 m1 m2 hp0
  obtain ⟨E, hE⟩ : ∃ E, E = ff p n := ⟨_, rfl⟩
  rw [← hE]
  have HE := Lib.hid hE
  clear hE
  go_enter Try.func61, Try.ntmps61
  go_wp2_with fail
  go_loopw [8] (fun i wr => ∃ k : Nat, k ≤ n ∧ i = .int .i64 (k : Int) ∧ Hid (∀ j, j < k → p j = false) ∧ Below w.heap.size w wr) (fun i _ => n - (intOf i).toNat)
  case atStart => exact ⟨0, by omega, rfl, Lib.hid (fun j hj => by omega), Below.refl _ _⟩
  case round =>
    obtain ⟨k, hk, rfl, hp, hbl⟩ := hrel
    by_cases hlt : k < n
    · have hlt' : (k : Int) < n := by omega
      obtain ⟨g, off, rfl, q1, c1⟩ := reads_at HA.out hbl hlt
      have k1 : k < l.length := by rw [HL.out]; exact hlt
      rw [strs_at k1] at c1
      have CL := Lib.hid (HC.out k hlt wr hbl)
      obtain ⟨b, hb⟩ : ∃ b, b = p k := ⟨_, rfl⟩
      rw [← hb] at CL
      cases b
      case true =>
        have hh := Lib.hid (HE.out.trans (ff_yes hlt hb.symm hp.out))
        clear hb hp k1
        generalize bs (l.getD k []) = x at *
        go_wp2_with (go_at_call 136; (with_reducible refine CL.out.mono ?_); rintro e w1 ⟨rfl, hb1⟩)
        go_ret
        exact ⟨ret_int hh.out.symm, below_of hbl hb1⟩
      case false =>
        have hp2 := Lib.hid (fun j (hj : j < k + 1) => if h : j < k then hp.out j h else by rw [show j = k by omega]; exact hb.symm)
        clear hb hp k1
        generalize bs (l.getD k []) = x at *
        go_wp2_with (go_at_call 136; (with_reducible refine CL.out.mono ?_); rintro e w1 ⟨rfl, hb1⟩)
        go_roundw
        case rel => exact ⟨k + 1, by omega, by go_num, hp2, below_of hbl hb1⟩
        case measure => simp [intOf]; omega
    · obtain rfl : k = n := by omega
      have hh := Lib.hid (HE.out.trans (ff_no hp.out))
      clear hp
      go_wp2_with fail
      go_ret
      exact ⟨ret_int hh.out.symm, hbl⟩
theorem idxWords_any {w : World} {a : Option Addr} {n c : Nat} {l : List Nat} (h1 : Reads (· < w.heap.size) w (.slice a n c) (u32s l)) {p : Nat → Bool} (hp0 : ∀ k, k < n → ∀ u : World, Below w.heap.size w u → Calls Try.prog 110 #[.int .u32 ((l.getD k 0 : Nat) : Int)] u fun e w' => e = .returned (.bool (p k)) ∧ Below u.heap.size u w') :
    Calls Try.prog 109 #[.slice a n c, .func (.func 110) #[] #[]] w fun e w' => e = .returned (.int .i64 (ff p n)) ∧ Below w.heap.size w w' := by
  obtain ⟨n1, m1, m2⟩ := reads_len h1
  rw [u32s_len] at n1
  unfold maxLen at m2
  have hn : (n : Int) ≤ 9223372036854775807 := by omega
  have HA := Lib.hid h1
  have HL := Lib.hid n1
  have HC := Lib.hid hp0
  have m1' : (n : Int) ≤ c := by omega
  clear h1 n1 m1 m2 hp0
  obtain ⟨E, hE⟩ : ∃ E, E = ff p n := ⟨_, rfl⟩
  rw [← hE]
  have HE := Lib.hid hE
  clear hE
  go_enter Try.func109, Try.ntmps109
  go_wp2_with fail
  go_loopw [8] (fun i wr => ∃ k : Nat, k ≤ n ∧ i = .int .i64 (k : Int) ∧ Hid (∀ j, j < k → p j = false) ∧ Below w.heap.size w wr) (fun i _ => n - (intOf i).toNat)
  case atStart => exact ⟨0, by omega, rfl, Lib.hid (fun j hj => by omega), Below.refl _ _⟩
  case round =>
    obtain ⟨k, hk, rfl, hp, hbl⟩ := hrel
    by_cases hlt : k < n
    · have hlt' : (k : Int) < n := by omega
      obtain ⟨g, off, rfl, q1, c1⟩ := reads_at HA.out hbl hlt
      have k1 : k < l.length := by rw [HL.out]; exact hlt
      rw [words_at k1] at c1
      have CL := Lib.hid (HC.out k hlt wr hbl)
      obtain ⟨b, hb⟩ : ∃ b, b = p k := ⟨_, rfl⟩
      rw [← hb] at CL
      cases b
      case true =>
        have hh := Lib.hid (HE.out.trans (ff_yes hlt hb.symm hp.out))
        clear hb hp k1
        generalize ((l.getD k 0 : Nat) : Int) = x at *
        go_wp2_with (go_at_call 110; (with_reducible refine CL.out.mono ?_); rintro e w1 ⟨rfl, hb1⟩)
        go_ret
        exact ⟨ret_int hh.out.symm, below_of hbl hb1⟩
      case false =>
        have hp2 := Lib.hid (fun j (hj : j < k + 1) => if h : j < k then hp.out j h else by rw [show j = k by omega]; exact hb.symm)
        clear hb hp k1
        generalize ((l.getD k 0 : Nat) : Int) = x at *
        go_wp2_with (go_at_call 110; (with_reducible refine CL.out.mono ?_); rintro e w1 ⟨rfl, hb1⟩)
        go_roundw
        case rel => exact ⟨k + 1, by omega, by go_num, hp2, below_of hbl hb1⟩
        case measure => simp [intOf]; omega
    · obtain rfl : k = n := by omega
      have hh := Lib.hid (HE.out.trans (ff_no hp.out))
      clear hp
      go_wp2_with fail
      go_ret
      exact ⟨ret_int hh.out.symm, hbl⟩
theorem idxKinds_any {w : World} {a : Option Addr} {n c : Nat} {l : List Rl} {P : Nat} (h1 : ReadsR (· < w.heap.size) w (.slice a n c) l) {p : Nat → Bool} (hp0 : ∀ k, k < n → ∀ u : World, Below w.heap.size w u → Calls Try.prog 112 #[.agg #[.int .u8 ((l.getD k ⟨0, 0, 0⟩).kind : Int), .int .u16 ((l.getD k ⟨0, 0, 0⟩).at_ : Int), .int .u16 ((l.getD k ⟨0, 0, 0⟩).wh : Int)], .pointer (some ⟨P, 0, none⟩)] u fun e w' => e = .returned (.bool (p k)) ∧ Below u.heap.size u w') :
    Calls Try.prog 69 #[.slice a n c, .func (.func 112) #[] #[.pointer (some ⟨P, 0, none⟩)]] w fun e w' => e = .returned (.int .i64 (ff p n)) ∧ Below w.heap.size w w' := by
  obtain ⟨n1, m1, m2⟩ := h1.len
  unfold maxLen at m2
  have hn : (n : Int) ≤ 9223372036854775807 := by omega
  have HA := Lib.hid h1
  have HL := Lib.hid n1
  have HC := Lib.hid hp0
  have m1' : (n : Int) ≤ c := by omega
  clear h1 n1 m1 m2 hp0
  obtain ⟨E, hE⟩ : ∃ E, E = ff p n := ⟨_, rfl⟩
  rw [← hE]
  have HE := Lib.hid hE
  clear hE
  go_enter Try.func69, Try.ntmps69
  go_wp2_with fail
  go_loopw [8] (fun i wr => ∃ k : Nat, k ≤ n ∧ i = .int .i64 (k : Int) ∧ Hid (∀ j, j < k → p j = false) ∧ Below w.heap.size w wr) (fun i _ => n - (intOf i).toNat)
  case atStart => exact ⟨0, by omega, rfl, Lib.hid (fun j hj => by omega), Below.refl _ _⟩
  case round =>
    obtain ⟨k, hk, rfl, hp, hbl⟩ := hrel
    by_cases hlt : k < n
    · have hlt' : (k : Int) < n := by omega
      obtain ⟨g, off, rfl, q1, c0, c1, c2⟩ := HA.out.at hbl hlt
      have k1 : k < l.length := by rw [HL.out]; exact hlt
      have CL := Lib.hid (HC.out k hlt wr hbl)
      obtain ⟨b, hb⟩ : ∃ b, b = p k := ⟨_, rfl⟩
      rw [← hb] at CL
      cases b
      case true =>
        have hh := Lib.hid (HE.out.trans (ff_yes hlt hb.symm hp.out))
        clear hb hp k1
        generalize ((l.getD k ⟨0, 0, 0⟩).kind : Int) = y0 at *
        generalize ((l.getD k ⟨0, 0, 0⟩).at_ : Int) = y1 at *
        generalize ((l.getD k ⟨0, 0, 0⟩).wh : Int) = y2 at *
        go_wp2_with (go_at_call 112; (with_reducible refine CL.out.mono ?_); rintro e w1 ⟨rfl, hb1⟩)
        go_ret
        exact ⟨ret_int hh.out.symm, below_of hbl hb1⟩
      case false =>
        have hp2 := Lib.hid (fun j (hj : j < k + 1) => if h : j < k then hp.out j h else by rw [show j = k by omega]; exact hb.symm)
        clear hb hp k1
        generalize ((l.getD k ⟨0, 0, 0⟩).kind : Int) = y0 at *
        generalize ((l.getD k ⟨0, 0, 0⟩).at_ : Int) = y1 at *
        generalize ((l.getD k ⟨0, 0, 0⟩).wh : Int) = y2 at *
        go_wp2_with (go_at_call 112; (with_reducible refine CL.out.mono ?_); rintro e w1 ⟨rfl, hb1⟩)
        go_roundw
        case rel => exact ⟨k + 1, by omega, by go_num, hp2, below_of hbl hb1⟩
        case measure => simp [intOf]; omega
    · obtain rfl : k = n := by omega
      have hh := Lib.hid (HE.out.trans (ff_no hp.out))
      clear hp
      go_wp2_with fail
      go_ret
      exact ⟨ret_int hh.out.symm, hbl⟩
theorem idxWhich_any {w : World} {a : Option Addr} {n c : Nat} {l : List Rl} {P : Nat} (h1 : ReadsR (· < w.heap.size) w (.slice a n c) l) {p : Nat → Bool} (hp0 : ∀ k, k < n → ∀ u : World, Below w.heap.size w u → Calls Try.prog 115 #[.agg #[.int .u8 ((l.getD k ⟨0, 0, 0⟩).kind : Int), .int .u16 ((l.getD k ⟨0, 0, 0⟩).at_ : Int), .int .u16 ((l.getD k ⟨0, 0, 0⟩).wh : Int)], .pointer (some ⟨P, 0, none⟩)] u fun e w' => e = .returned (.bool (p k)) ∧ Below u.heap.size u w') :
    Calls Try.prog 69 #[.slice a n c, .func (.func 115) #[] #[.pointer (some ⟨P, 0, none⟩)]] w fun e w' => e = .returned (.int .i64 (ff p n)) ∧ Below w.heap.size w w' := by
  obtain ⟨n1, m1, m2⟩ := h1.len
  unfold maxLen at m2
  have hn : (n : Int) ≤ 9223372036854775807 := by omega
  have HA := Lib.hid h1
  have HL := Lib.hid n1
  have HC := Lib.hid hp0
  have m1' : (n : Int) ≤ c := by omega
  clear h1 n1 m1 m2 hp0
  obtain ⟨E, hE⟩ : ∃ E, E = ff p n := ⟨_, rfl⟩
  rw [← hE]
  have HE := Lib.hid hE
  clear hE
  go_enter Try.func69, Try.ntmps69
  go_wp2_with fail
  go_loopw [8] (fun i wr => ∃ k : Nat, k ≤ n ∧ i = .int .i64 (k : Int) ∧ Hid (∀ j, j < k → p j = false) ∧ Below w.heap.size w wr) (fun i _ => n - (intOf i).toNat)
  case atStart => exact ⟨0, by omega, rfl, Lib.hid (fun j hj => by omega), Below.refl _ _⟩
  case round =>
    obtain ⟨k, hk, rfl, hp, hbl⟩ := hrel
    by_cases hlt : k < n
    · have hlt' : (k : Int) < n := by omega
      obtain ⟨g, off, rfl, q1, c0, c1, c2⟩ := HA.out.at hbl hlt
      have k1 : k < l.length := by rw [HL.out]; exact hlt
      have CL := Lib.hid (HC.out k hlt wr hbl)
      obtain ⟨b, hb⟩ : ∃ b, b = p k := ⟨_, rfl⟩
      rw [← hb] at CL
      cases b
      case true =>
        have hh := Lib.hid (HE.out.trans (ff_yes hlt hb.symm hp.out))
        clear hb hp k1
        generalize ((l.getD k ⟨0, 0, 0⟩).kind : Int) = y0 at *
        generalize ((l.getD k ⟨0, 0, 0⟩).at_ : Int) = y1 at *
        generalize ((l.getD k ⟨0, 0, 0⟩).wh : Int) = y2 at *
        go_wp2_with (go_at_call 115; (with_reducible refine CL.out.mono ?_); rintro e w1 ⟨rfl, hb1⟩)
        go_ret
        exact ⟨ret_int hh.out.symm, below_of hbl hb1⟩
      case false =>
        have hp2 := Lib.hid (fun j (hj : j < k + 1) => if h : j < k then hp.out j h else by rw [show j = k by omega]; exact hb.symm)
        clear hb hp k1
        generalize ((l.getD k ⟨0, 0, 0⟩).kind : Int) = y0 at *
        generalize ((l.getD k ⟨0, 0, 0⟩).at_ : Int) = y1 at *
        generalize ((l.getD k ⟨0, 0, 0⟩).wh : Int) = y2 at *
        go_wp2_with (go_at_call 115; (with_reducible refine CL.out.mono ?_); rintro e w1 ⟨rfl, hb1⟩)
        go_roundw
        case rel => exact ⟨k + 1, by omega, by go_num, hp2, below_of hbl hb1⟩
        case measure => simp [intOf]; omega
    · obtain rfl : k = n := by omega
      have hh := Lib.hid (HE.out.trans (ff_no hp.out))
      clear hp
      go_wp2_with fail
      go_ret
      exact ⟨ret_int hh.out.symm, hbl⟩
end Go.Proofs.Ytajidaicojekdaa.VR
