/-
  The program's calls of layer 14 that only look at a map. Nothing here is a statement of the seed.
-/
import Derived.Test.YtijcojidfallkaaGraphPT
set_option linter.unusedSimpArgs false
set_option linter.unusedVariables false
namespace Go.Proofs.Ytijcojidfallkaa.GP
open Go.RowKit WM NR OM OR GM GR MV
set_option maxHeartbeats 4000000
set_option maxRecDepth 10000
theorem sethas_any {u : World} {b : Nat} {l : List Tx} (h : ME u b (memF l)) (s : Tx) (hs : s.length ≤ 9223372036854775807) :
    Calls Try.prog 37 #[.map (some b), .string (bs s)] u fun e w' => e = .returned (.bool (decide (s ∈ l))) ∧ Below u.heap.size u w' := by
  have hl := set_look h hs
  clear h hs
  generalize decide (s ∈ l) = q at *
  generalize bs s = x at *
  go_enter Try.func37, Try.ntmps37
  go_wp2_with fail
  go_ret
  exact ⟨rfl, by first | exact (Below.refl _ _).alloc (Nat.le_refl _) _ | (trace_state; fail)⟩
theorem all_any {S : Nat → Prop} {w : World} {a b : Nat} {k : Tx → Nat} {g : List Nd} (h : Pt S w a b k g) :
    Calls Try.prog 41 #[.pointer (some ⟨a, 0, none⟩)] w fun e u => e = .returned (.map (some b)) ∧ u = w := by
  have c0 := h.cell0
  clear h
  go_enter Try.func41, Try.ntmps41
  go_wp2_with fail
  go_ret
  exact ⟨rfl, rfl⟩
theorem lacks_any {S : Nat → Prop} {w : World} {a b : Nat} {k : Tx → Nat} {g : List Nd} (h : Pt S w a b k g) (m : Tx) (hm : m.length ≤ 9223372036854775807) :
    Calls Try.prog 35 #[.pointer (some ⟨a, 0, none⟩), .string (bs m)] w fun e u => e = .returned (.bool (!hasM g m)) ∧ Below w.heap.size w u := by
  have C := Lib.hid (all_any h)
  have hl := h.look_ok hm
  clear h hm
  generalize (nodF k g m).getD (.map none) = z at *
  generalize hasM g m = q at *
  generalize bs m = x at *
  go_enter Try.func35, Try.ntmps35
  go_wp2_with (go_at_call 41; (with_reducible refine C.out.mono ?_); rintro e w1 ⟨rfl, rfl⟩)
  go_ret
  exact ⟨rfl, Below.refl _ _⟩
theorem has_pt {S : Nat → Prop} {w : World} {a b : Nat} {k : Tx → Nat} {g : List Nd} (h : Pt S w a b k g) (m : Tx) (hm : m.length ≤ 9223372036854775807) :
    Calls Try.prog 17 #[.pointer (some ⟨a, 0, none⟩), .string (bs m)] w fun e u => e = .returned (.bool (hasM g m)) ∧ Below w.heap.size w u := by
  have C := Lib.hid (lacks_any h m hm)
  clear h hm
  generalize hasM g m = q at *
  generalize bs m = x at *
  go_enter Try.func17, Try.ntmps17
  go_wp2_with (go_at_call 35; (with_reducible refine C.out.mono ?_); rintro e w1 ⟨rfl, hb⟩)
  go_ret
  exact ⟨by cases q <;> rfl, hb⟩
theorem has_any {S : Nat → Prop} {w : World} {v : Value} {g : List Nd} (h : PT S w v g) (hg : GM.Good g) (hb : g.length ≤ 100) (m : List UInt8) (hm : m.length ≤ 9223372036854775807) :
    Calls Try.prog 17 #[v, .string (bs m)] w fun e u => e = .returned (.bool (hasM g m)) ∧ Below w.heap.size w u := by
  obtain ⟨a, b, k, rfl, h⟩ := h
  exact has_pt h m hm
theorem idx_lacks {w : World} {ta : Nat} {a : Option Addr} {n c : Nat} {l : List (List UInt8)} (h1 : Reads (· < w.heap.size) w (.slice a n c) (strs l)) {p : Nat → Bool} (hp0 : ∀ k, k < n → ∀ u : World, Below w.heap.size w u → Calls Try.prog 35 #[.pointer (some ⟨ta, 0, none⟩), .string (bs (l.getD k []))] u fun e w' => e = .returned (.bool (p k)) ∧ Below u.heap.size u w') :
    Calls Try.prog 52 #[.slice a n c, .func (.func 35) #[.pointer (some ⟨ta, 0, none⟩)] #[]] w fun e w' => ∃ r : Int, e = .returned (.int .i64 r) ∧ ((r = -1 ∧ ∀ k, k < n → p k = false) ∨ (0 ≤ r ∧ r ≤ 9223372036854775807 ∧ ∃ k, k < n ∧ p k = true)) ∧ Below w.heap.size w w' := by
  obtain ⟨n1, m1, m2⟩ := reads_len h1
  rw [strs_len] at n1
  unfold maxLen at m2
  have hn : (n : Int) ≤ 9223372036854775807 := by omega
  have HA := Lib.hid h1
  have HL := Lib.hid n1
  have HC := Lib.hid hp0
  have m1' : (n : Int) ≤ c := by omega
  clear h1 n1 m1 m2 hp0
  go_enter Try.func52, Try.ntmps52
  go_wp2_with fail
  go_loopw [8] (fun i wr => ∃ k : Nat, k ≤ n ∧ i = .int .i64 (k : Int) ∧ Hid (∀ j, j < k → p j = false) ∧ Below w.heap.size w wr) (fun i _ => n - (intOf i).toNat)
  case atStart => exact ⟨0, by omega, rfl, Lib.hid (fun j hj => by omega), Below.refl _ _⟩
  case round =>
    obtain ⟨k, hk, rfl, hp, hbl⟩ := hrel
    by_cases hlt : k < n
    · have hlt' : (k : Int) < n := by omega
      obtain ⟨g, off, rfl, q1, c1⟩ := reads_at HA.out hbl hlt
      have k1 : k < l.length := by rw [HL.out]; exact hlt
      rw [strs_at k1] at c1
      have CL := Lib.hid (HC.out k hlt wr hbl)
      obtain ⟨b, hb⟩ : ∃ b, b = p k := ⟨_, rfl⟩
      rw [← hb] at CL
      cases b
      case true =>
        have HB := Lib.hid hb.symm
        clear hb hp k1
        generalize bs (l.getD k []) = x at *
        go_wp2_with (go_at_call 35; (with_reducible refine CL.out.mono ?_); rintro e w1 ⟨rfl, hb1⟩)
        go_ret
        exact ⟨(k : Int), rfl, Or.inr ⟨by omega, by omega, k, hlt, HB.out⟩, below_of hbl hb1⟩
      case false =>
        have hp2 := Lib.hid (fun j (hj : j < k + 1) => if h : j < k then hp.out j h else by rw [show j = k by omega]; exact hb.symm)
        clear hb hp k1
        generalize bs (l.getD k []) = x at *
        go_wp2_with (go_at_call 35; (with_reducible refine CL.out.mono ?_); rintro e w1 ⟨rfl, hb1⟩)
        go_roundw
        case rel => exact ⟨k + 1, by omega, by go_num, hp2, below_of hbl hb1⟩
        case measure => simp [intOf]; omega
    · obtain rfl : k = n := by omega
      have hh := Lib.hid hp.out
      clear hp
      go_wp2_with fail
      go_ret
      exact ⟨-1, rfl, Or.inl ⟨rfl, hh.out⟩, hbl⟩
theorem any_lacks {w : World} {ta : Nat} {a : Option Addr} {n c : Nat} {l : List (List UInt8)} (h1 : Reads (· < w.heap.size) w (.slice a n c) (strs l)) {p : Nat → Bool} (hp0 : ∀ k, k < n → ∀ u : World, Below w.heap.size w u → Calls Try.prog 35 #[.pointer (some ⟨ta, 0, none⟩), .string (bs (l.getD k []))] u fun e w' => e = .returned (.bool (p k)) ∧ Below u.heap.size u w') {q : Bool} (hq : q = true ↔ ∃ k, k < n ∧ p k = true) :
    Calls Try.prog 34 #[.slice a n c, .func (.func 35) #[.pointer (some ⟨ta, 0, none⟩)] #[]] w fun e w' => e = .returned (.bool q) ∧ Below w.heap.size w w' := by
  have C := Lib.hid (idx_lacks h1 hp0)
  have HQ := Lib.hid hq
  clear h1 hp0 hq
  go_enter Try.func34, Try.ntmps34
  go_wp2_with (go_at_call 52; (with_reducible refine C.out.mono ?_); rintro e w1 ⟨r, rfl, hr, hb1⟩; have HR := Lib.hid hr; clear hr)
  go_ret
  refine ⟨ret_bool ?_, hb1⟩
  rcases HR.out with ⟨h, h2⟩ | ⟨h, _, h2⟩
  · have : q = false := by
      cases hq : q
      · rfl
      · obtain ⟨k, hk, h3⟩ := HQ.out.1 hq
        rw [h2 k hk] at h3
        cases h3
    rw [this, h]
    rfl
  · rw [HQ.out.2 h2]
    simp
    omega

/-- is one of some texts no node? -/
theorem lacks_all {S : Nat → Prop} {w : World} {a b : Nat} {k : Tx → Nat} {g : List Nd} (h : Pt S w a b k g) {na : Option Addr} {nn nc : Nat} {xs : List (List UInt8)} (hx : Reads (· < w.heap.size) w (.slice na nn nc) (strs xs)) (hxs : ∀ x ∈ xs, x.length ≤ 9223372036854775807) :
    Calls Try.prog 34 #[.slice na nn nc, .func (.func 35) #[.pointer (some ⟨a, 0, none⟩)] #[]] w fun e u => e = .returned (.bool (!allM g xs)) ∧ Below w.heap.size w u := by
  obtain ⟨n1, m1, m2⟩ := reads_len hx
  rw [strs_len] at n1
  refine any_lacks hx (p := fun j => !hasM g (xs.getD j [])) (fun j hj u hu => lacks_any (h.below hu) _ (hxs _ ?_)) ?_
  · rw [List.getD_eq_getElem?_getD, List.getElem?_eq_getElem (by omega)]; exact List.getElem_mem _
  · constructor
    · intro hq
      have h2 : ¬ allM g xs = true := by cases hh : allM g xs <;> simp [hh] at hq ⊢
      rw [all_iff] at h2
      have h3 : ∃ x ∈ xs, hasM g x = false := by
        by_cases h4 : ∃ x ∈ xs, hasM g x = false
        · exact h4
        · exact absurd (fun x hx => by
            cases h5 : hasM g x
            · exact absurd ⟨x, hx, h5⟩ h4
            · rfl) h2
      obtain ⟨x, hx, h4⟩ := h3
      obtain ⟨j, hj, e⟩ := List.mem_iff_getElem.1 hx
      refine ⟨j, by omega, ?_⟩
      rw [List.getD_eq_getElem?_getD, List.getElem?_eq_getElem hj, Option.getD_some, e, h4]
      rfl
    · rintro ⟨j, hj, h2⟩
      have h3 : ¬ allM g xs = true := fun h3 => by
        have := all_iff.1 h3 (xs.getD j []) (by rw [List.getD_eq_getElem?_getD, List.getElem?_eq_getElem (by omega)]; exact List.getElem_mem _)
        rw [this] at h2
        cases h2
      cases hh : allM g xs
      · rfl
      · exact absurd hh h3
end Go.Proofs.Ytijcojidfallkaa.GP
