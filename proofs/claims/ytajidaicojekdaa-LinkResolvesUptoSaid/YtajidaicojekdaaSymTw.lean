/-
  Joined texts: SymTw, SymIdx. Nothing here is a statement of the seed.
-/
import Derived.Test.YtajidaicojekdaaSymPA
import Derived.Test.YtajidaicojekdaaShelf
set_option linter.unusedSimpArgs false
set_option linter.unusedVariables false
/-
  Has a list of texts one twice? Nothing here is a statement of the seed.
-/
namespace Go.Proofs.Ytajidaicojekdaa.SP
open Go.RowKit WM NR OM OR SM SR MV
set_option maxHeartbeats 4000000
set_option maxRecDepth 10000
theorem bs_inj {a b : List UInt8} (h : bs a = bs b) : a = b := by
  have := congrArg (fun x : ByteArray => x.data.toList) h
  simpa [bs] using this
theorem contains_eq (l : List (List UInt8)) (s : List UInt8) : Lib.containsS (l.map bs) (bs s) = decide (s ∈ l) := by
  rw [Bool.eq_iff_iff, Lib.containsS_iff, decide_eq_true_eq, List.mem_map]
  exact ⟨fun ⟨x, hx, e⟩ => by rw [← bs_inj e]; exact hx, fun h => ⟨s, h, rfl⟩⟩
theorem contains_any {w : World} {G : Nat → Prop} {a : Option Addr} {n c : Nat} {l : List (List UInt8)} (h : Reads G w (.slice a n c) (strs l)) (s : List UInt8) :
    Calls Try.prog 62 #[.slice a n c, .string (bs s)] w fun e w' => e = .returned (.bool (decide (s ∈ l))) ∧ w' = w := by
  obtain ⟨n1, m1, m2⟩ := reads_len h
  rw [strs_len] at n1
  unfold maxLen at m2
  by_cases h0 : l = []
  · subst h0
    obtain rfl : n = 0 := by simpa using n1.symm
    exact (Try.slices_Contains_string_empty a c (bs s) w).mono fun e w' ⟨he, hw⟩ => ⟨by rw [he]; simp, hw⟩
  · obtain ⟨g, off, cap, e, _, _, _, hc⟩ := h.cells (by intro e; apply h0; simpa [strs] using e)
    simp only [Value.slice.injEq] at e
    obtain ⟨rfl, _, rfl⟩ := e
    have C := Try.slices_Contains_string g off n c (l.map bs) (bs s) w (by simp; omega) (by omega) (fun j hj => by
      have hj' : j < l.length := by simpa using hj
      rw [hc j (by rw [strs_len]; exact hj'), strs_at hj']
      simp [hj'])
    rw [show (l.map bs).take n = l.map bs by rw [List.take_of_length_le (by simp; omega)], contains_eq] at C
    exact C
theorem dupB_up {l : List (List UInt8)} {k : Nat} (h : dupB (l.take k) = true) : dupB l = true := by
  unfold dupB at *
  simp only [Bool.not_eq_true', decide_eq_false_iff_not] at *
  exact fun hn => h (hn.sublist (List.take_sublist k l))
theorem twice_any {w : World} {a : Option Addr} {n c : Nat} {l : List (List UInt8)} (h : Reads (· < w.heap.size) w (.slice a n c) (strs l)) :
    Calls Try.prog 31 #[.slice a n c] w fun e w' => e = .returned (.bool (dupB l)) ∧ Below w.heap.size w w' := by
  obtain ⟨n1, m1, m2⟩ := reads_len h
  rw [strs_len] at n1
  unfold maxLen at m2
  have hn : (n : Int) ≤ 9223372036854775807 := by omega
  have m1' : (n : Int) ≤ c := by omega
  have HA := Lib.hid h
  have HL := Lib.hid n1
  clear h n1 m1 m2
  obtain ⟨D, hD⟩ : ∃ D, D = dupB l := ⟨_, rfl⟩
  rw [← hD]
  have HD := Lib.hid hD
  clear hD
  go_enter Try.func31, Try.ntmps31
  go_wp2_with fail
  go_loopw [7] (fun i wr => ∃ k : Nat, k ≤ n ∧ i = .int .i64 (k : Int) ∧ Hid (dupB (l.take k) = false) ∧ Below w.heap.size w wr) (fun i _ => n - (intOf i).toNat)
  case atStart => exact ⟨0, by omega, rfl, Lib.hid rfl, Below.refl _ _⟩
  case round =>
    obtain ⟨k, hk, rfl, hp, hbl⟩ := hrel
    by_cases hlt : k < n
    · have hlt' : (k : Int) < n := by omega
      have hkc : (k : Int) ≤ c := by omega
      obtain ⟨v', hr, hR⟩ := Reads.take (P := Try.prog) (t := 23) (HA.out.below hbl) Try.underlying23 Try.sizeOf9 k (by rw [strs_len, HL.out]; omega)
      obtain ⟨g, off, rfl, q1, c1⟩ := reads_at HA.out hbl hlt
      have k1 : k < l.length := by rw [HL.out]; exact hlt
      rw [strs_at k1] at c1
      obtain ⟨a1, x1, y1, rfl⟩ := hR.form
      have hsl : ∀ u, (Instr.slice 23 (.slice (some ⟨g, off, none⟩) n c) none (some (.int .i64 (k : Int))) none).run Try.prog u = .ok (.slice a1 x1 y1) u := fun u => hr .i64 u
      have hR2 : Reads (· < w.heap.size) wr (.slice a1 x1 y1) (strs (l.take k)) := by
        have : (strs l).take k = strs (l.take k) := by simp [strs, List.map_take]
        rw [← this]; exact hR
      have C := contains_any hR2 (l.getD k [])
      have hd := dupB_take l k k1
      rw [hp.out, Bool.false_or] at hd
      obtain ⟨b, hb⟩ : ∃ b, b = decide (l.getD k [] ∈ l.take k) := ⟨_, rfl⟩
      rw [← hb] at C hd
      have C := Lib.hid C
      have HDD := Lib.hid hd
      clear hb hd hr hR hR2 k1 hp
      generalize bs (l.getD k []) = x at *
      cases b
      · go_wp2_with (go_at_call 62; (with_reducible refine C.out.mono ?_); rintro e w1 ⟨rfl, rfl⟩)
        go_roundw
        case rel => exact ⟨k + 1, by omega, by go_num, HDD, hbl⟩
        case measure => simp [intOf]; omega
      · go_wp2_with (go_at_call 62; (with_reducible refine C.out.mono ?_); rintro e w1 ⟨rfl, rfl⟩)
        go_ret
        exact ⟨ret_bool (by rw [HD.out]; exact (dupB_up HDD.out).symm), hbl⟩
    · obtain rfl : k = n := by omega
      have hh := hp.out
      rw [List.take_of_length_le (by rw [HL.out]; exact Nat.le_refl _)] at hh
      have hh := Lib.hid hh
      clear hp
      go_wp2_with fail
      go_ret
      exact ⟨ret_bool (by rw [HD.out, hh.out]), hbl⟩
end Go.Proofs.Ytajidaicojekdaa.SP

/-
  The library's looks for one of a list, at the two tests of the program; is there one twice? Nothing here is a statement of the seed.
-/
namespace Go.Proofs.Ytajidaicojekdaa.SP
open Go.RowKit WM NR OM OR SM SR MV
set_option maxHeartbeats 4000000
set_option maxRecDepth 10000
theorem idx_names {w : World} {a : Option Addr} {n c : Nat} {l : List (List UInt8)} (h1 : Reads (· < w.heap.size) w (.slice a n c) (strs l)) {p : Nat → Bool} (hp0 : ∀ k, k < n → ∀ u : World, Below w.heap.size w u → Calls Try.prog 29 #[.string (bs (l.getD k []))] u fun e w' => e = .returned (.bool (p k)) ∧ Below u.heap.size u w') :
    Calls Try.prog 61 #[.slice a n c, .func (.func 29) #[] #[]] w fun e w' => ∃ r : Int, e = .returned (.int .i64 r) ∧ ((r = -1 ∧ ∀ k, k < n → p k = false) ∨ (0 ≤ r ∧ r ≤ 9223372036854775807 ∧ ∃ k, k < n ∧ p k = true)) ∧ Below w.heap.size w w' := by
  obtain ⟨n1, m1, m2⟩ := reads_len h1
  rw [strs_len] at n1
  unfold maxLen at m2
  have hn : (n : Int) ≤ 9223372036854775807 := by omega
  have HA := Lib.hid h1
  have HL := Lib.hid n1
  have HC := Lib.hid hp0
  have m1' : (n : Int) ≤ c := by omega
  clear h1 n1 m1 m2 hp0
  go_enter Try.func61, Try.ntmps61
  go_wp2_with fail
  go_loopw [8] (fun i wr => ∃ k : Nat, k ≤ n ∧ i = .int .i64 (k : Int) ∧ Hid (∀ j, j < k → p j = false) ∧ Below w.heap.size w wr) (fun i _ => n - (intOf i).toNat)
  case atStart => exact ⟨0, by omega, rfl, Lib.hid (fun j hj => by omega), Below.refl _ _⟩
  case round =>
    obtain ⟨k, hk, rfl, hp, hbl⟩ := hrel
    by_cases hlt : k < n
    · have hlt' : (k : Int) < n := by omega
      obtain ⟨g, off, rfl, q1, c1⟩ := reads_at HA.out hbl hlt
      have k1 : k < l.length := by rw [HL.out]; exact hlt
      rw [strs_at k1] at c1
      have CL := Lib.hid (HC.out k hlt wr hbl)
      obtain ⟨b, hb⟩ : ∃ b, b = p k := ⟨_, rfl⟩
      rw [← hb] at CL
      cases b
      case true =>
        have HB := Lib.hid hb.symm
        clear hb hp k1
        generalize bs (l.getD k []) = x at *
        go_wp2_with (go_at_call 29; (with_reducible refine CL.out.mono ?_); rintro e w1 ⟨rfl, hb1⟩)
        go_ret
        exact ⟨(k : Int), rfl, Or.inr ⟨by omega, by omega, k, hlt, HB.out⟩, below_of hbl hb1⟩
      case false =>
        have hp2 := Lib.hid (fun j (hj : j < k + 1) => if h : j < k then hp.out j h else by rw [show j = k by omega]; exact hb.symm)
        clear hb hp k1
        generalize bs (l.getD k []) = x at *
        go_wp2_with (go_at_call 29; (with_reducible refine CL.out.mono ?_); rintro e w1 ⟨rfl, hb1⟩)
        go_roundw
        case rel => exact ⟨k + 1, by omega, by go_num, hp2, below_of hbl hb1⟩
        case measure => simp [intOf]; omega
    · obtain rfl : k = n := by omega
      have hh := Lib.hid hp.out
      clear hp
      go_wp2_with fail
      go_ret
      exact ⟨-1, rfl, Or.inl ⟨rfl, hh.out⟩, hbl⟩
theorem any_names {w : World} {a : Option Addr} {n c : Nat} {l : List (List UInt8)} (h1 : Reads (· < w.heap.size) w (.slice a n c) (strs l)) {p : Nat → Bool} (hp0 : ∀ k, k < n → ∀ u : World, Below w.heap.size w u → Calls Try.prog 29 #[.string (bs (l.getD k []))] u fun e w' => e = .returned (.bool (p k)) ∧ Below u.heap.size u w') {q : Bool} (hq : q = true ↔ ∃ k, k < n ∧ p k = true) :
    Calls Try.prog 30 #[.slice a n c, .func (.func 29) #[] #[]] w fun e w' => e = .returned (.bool q) ∧ Below w.heap.size w w' := by
  have C := Lib.hid (idx_names h1 hp0)
  have HQ := Lib.hid hq
  clear h1 hp0 hq
  go_enter Try.func30, Try.ntmps30
  go_wp2_with (go_at_call 61; (with_reducible refine C.out.mono ?_); rintro e w1 ⟨r, rfl, hr, hb1⟩; have HR := Lib.hid hr; clear hr)
  go_ret
  refine ⟨ret_bool ?_, hb1⟩
  rcases HR.out with ⟨h, h2⟩ | ⟨h, _, h2⟩
  · have : q = false := by
      cases hq : q
      · rfl
      · obtain ⟨k, hk, h3⟩ := HQ.out.1 hq
        rw [h2 k hk] at h3
        cases h3
    rw [this, h]
    rfl
  · rw [HQ.out.2 h2]
    simp
    omega
theorem idx_there {w : World} {ta : Nat} {a : Option Addr} {n c : Nat} {l : List (List UInt8)} (h1 : Reads (· < w.heap.size) w (.slice a n c) (strs l)) {p : Nat → Bool} (hp0 : ∀ k, k < n → ∀ u : World, Below w.heap.size w u → Calls Try.prog 33 #[.pointer (some ⟨ta, 0, none⟩), .string (bs (l.getD k []))] u fun e w' => e = .returned (.bool (p k)) ∧ Below u.heap.size u w') :
    Calls Try.prog 61 #[.slice a n c, .func (.func 33) #[.pointer (some ⟨ta, 0, none⟩)] #[]] w fun e w' => ∃ r : Int, e = .returned (.int .i64 r) ∧ ((r = -1 ∧ ∀ k, k < n → p k = false) ∨ (0 ≤ r ∧ r ≤ 9223372036854775807 ∧ ∃ k, k < n ∧ p k = true)) ∧ Below w.heap.size w w' := by
  obtain ⟨n1, m1, m2⟩ := reads_len h1
  rw [strs_len] at n1
  unfold maxLen at m2
  have hn : (n : Int) ≤ 9223372036854775807 := by omega
  have HA := Lib.hid h1
  have HL := Lib.hid n1
  have HC := Lib.hid hp0
  have m1' : (n : Int) ≤ c := by omega
  clear h1 n1 m1 m2 hp0
  go_enter Try.func61, Try.ntmps61
  go_wp2_with fail
  go_loopw [8] (fun i wr => ∃ k : Nat, k ≤ n ∧ i = .int .i64 (k : Int) ∧ Hid (∀ j, j < k → p j = false) ∧ Below w.heap.size w wr) (fun i _ => n - (intOf i).toNat)
  case atStart => exact ⟨0, by omega, rfl, Lib.hid (fun j hj => by omega), Below.refl _ _⟩
  case round =>
    obtain ⟨k, hk, rfl, hp, hbl⟩ := hrel
    by_cases hlt : k < n
    · have hlt' : (k : Int) < n := by omega
      obtain ⟨g, off, rfl, q1, c1⟩ := reads_at HA.out hbl hlt
      have k1 : k < l.length := by rw [HL.out]; exact hlt
      rw [strs_at k1] at c1
      have CL := Lib.hid (HC.out k hlt wr hbl)
      obtain ⟨b, hb⟩ : ∃ b, b = p k := ⟨_, rfl⟩
      rw [← hb] at CL
      cases b
      case true =>
        have HB := Lib.hid hb.symm
        clear hb hp k1
        generalize bs (l.getD k []) = x at *
        go_wp2_with (go_at_call 33; (with_reducible refine CL.out.mono ?_); rintro e w1 ⟨rfl, hb1⟩)
        go_ret
        exact ⟨(k : Int), rfl, Or.inr ⟨by omega, by omega, k, hlt, HB.out⟩, below_of hbl hb1⟩
      case false =>
        have hp2 := Lib.hid (fun j (hj : j < k + 1) => if h : j < k then hp.out j h else by rw [show j = k by omega]; exact hb.symm)
        clear hb hp k1
        generalize bs (l.getD k []) = x at *
        go_wp2_with (go_at_call 33; (with_reducible refine CL.out.mono ?_); rintro e w1 ⟨rfl, hb1⟩)
        go_roundw
        case rel => exact ⟨k + 1, by omega, by go_num, hp2, below_of hbl hb1⟩
        case measure => simp [intOf]; omega
    · obtain rfl : k = n := by omega
      have hh := Lib.hid hp.out
      clear hp
      go_wp2_with fail
      go_ret
      exact ⟨-1, rfl, Or.inl ⟨rfl, hh.out⟩, hbl⟩
theorem any_there {w : World} {ta : Nat} {a : Option Addr} {n c : Nat} {l : List (List UInt8)} (h1 : Reads (· < w.heap.size) w (.slice a n c) (strs l)) {p : Nat → Bool} (hp0 : ∀ k, k < n → ∀ u : World, Below w.heap.size w u → Calls Try.prog 33 #[.pointer (some ⟨ta, 0, none⟩), .string (bs (l.getD k []))] u fun e w' => e = .returned (.bool (p k)) ∧ Below u.heap.size u w') {q : Bool} (hq : q = true ↔ ∃ k, k < n ∧ p k = true) :
    Calls Try.prog 30 #[.slice a n c, .func (.func 33) #[.pointer (some ⟨ta, 0, none⟩)] #[]] w fun e w' => e = .returned (.bool q) ∧ Below w.heap.size w w' := by
  have C := Lib.hid (idx_there h1 hp0)
  have HQ := Lib.hid hq
  clear h1 hp0 hq
  go_enter Try.func30, Try.ntmps30
  go_wp2_with (go_at_call 61; (with_reducible refine C.out.mono ?_); rintro e w1 ⟨r, rfl, hr, hb1⟩; have HR := Lib.hid hr; clear hr)
  go_ret
  refine ⟨ret_bool ?_, hb1⟩
  rcases HR.out with ⟨h, h2⟩ | ⟨h, _, h2⟩
  · have : q = false := by
      cases hq : q
      · rfl
      · obtain ⟨k, hk, h3⟩ := HQ.out.1 hq
        rw [h2 k hk] at h3
        cases h3
    rw [this, h]
    rfl
  · rw [HQ.out.2 h2]
    simp
    omega
end Go.Proofs.Ytajidaicojekdaa.SP
