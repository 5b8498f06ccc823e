/-
  Package name and the reference for layer 2: names, stems and versions, order.
-/
import Derived.Test.YtleggfofgpiabaaNameO
set_option linter.unusedSimpArgs false
set_option linter.unusedVariables false
namespace Go.Proofs.Ytleggfofgpiabaa.NF
open Go.RowKit NM

/-- a call tells a value, and nothing that was there turns -/
def Says (P : Program) (f : FuncId) (args : Array Value) (v : Value) : Prop := ∀ w : World, Calls P f args w fun e w' => e = .returned v ∧ Below w.heap.size w w'
theorem Says.at {P : Program} {f : FuncId} {args : Array Value} {v : Value} (h : Says P f args v) (w : World) : Calls P f args w fun e w' => e = .returned v ∧ Below w.heap.size w w' := h w
/-- the same, told of what was there when the law began -/
theorem inw {P : Program} {f : FuncId} {args : Array Value} {v : Value} (h : Says P f args v) (W0 u : World) (hb : Below W0.heap.size W0 u) :
    Calls P f args u fun e w' => e = .returned v ∧ Below W0.heap.size W0 w' := (h u).mono fun _ _ ⟨he, h2⟩ => ⟨he, hb.trans (h2.mono hb.size)⟩
theorem says_same {P : Program} {f : FuncId} {args : Array Value} {v : Value} (h : ∀ w : World, Calls P f args w fun e w' => e = .returned v ∧ w = w') : Says P f args v :=
  fun w => (h w).mono fun e w' ⟨he, hw⟩ => ⟨he, by subst hw; exact Below.refl _ _⟩
theorem says_drew {P : Program} {f : FuncId} {args : Array Value} {v : Value} (h : ∀ w : World, Calls P f args w fun e w' => e = .returned v ∧ ∃ n, w' = w.drewN n) : Says P f args v :=
  fun w => (h w).mono fun e w' ⟨he, n, hw⟩ => ⟨he, by subst hw; exact below_drewN (Below.refl _ _) n⟩
theorem chain2 {w w1 w2 : World} (h1 : Below w.heap.size w w1) (h2 : Below w1.heap.size w1 w2) : Below w.heap.size w w2 := h1.trans (h2.mono h1.size)
theorem chain3 {w w1 w2 w3 : World} (h1 : Below w.heap.size w w1) (h2 : Below w1.heap.size w1 w2) (h3 : Below w2.heap.size w2 w3) : Below w.heap.size w w3 := chain2 (chain2 h1 h2) h3
theorem chain4 {w w1 w2 w3 w4 : World} (h1 : Below w.heap.size w w1) (h2 : Below w1.heap.size w1 w2) (h3 : Below w2.heap.size w2 w3) (h4 : Below w3.heap.size w3 w4) : Below w.heap.size w w4 := chain2 (chain3 h1 h2 h3) h4
theorem post_len (l : List UInt8) : (post l).length ≤ l.length := by
  have e := pre_eq l
  cases h : hasAt l with
  | true =>
    rw [if_pos h] at e
    have : l.length = (pre l).length + ((post l).length + 1) := by conv => lhs; rw [e]
                                                                   simp
    omega
  | false => rw [(pre_none l h).2]; simp
theorem pre_size (s : ByteArray) : (bs (pre s.data.toList)).size ≤ s.size := by rw [bs_size, ← size_list]; exact pre_len_le _
theorem post_size (s : ByteArray) : (bs (post s.data.toList)).size ≤ s.size := by rw [bs_size, ← size_list]; exact post_len _
theorem pre_self (s : ByteArray) (h : hasAt s.data.toList = false) : bs (pre s.data.toList) = s := by rw [(pre_none _ h).1]; rfl

theorem cutS_yes (s : ByteArray) (hs : s.size ≤ 9223372036854775807) (h : hasAt s.data.toList = true) :
    Says Try.prog 57 #[.string s, .string ⟨#[64]⟩] (.tuple #[.string (bs (pre s.data.toList)), .string (bs (post s.data.toList)), .bool true]) := says_drew fun w => cut_yes s w hs h
theorem cutS_no (s : ByteArray) (hs : s.size ≤ 9223372036854775807) (h : hasAt s.data.toList = false) :
    Says Try.prog 57 #[.string s, .string ⟨#[64]⟩] (.tuple #[.string (bs (pre s.data.toList)), .string (bs []), .bool false]) := says_drew fun w => by
  rw [pre_self s h]; exact cut_no s w hs h
theorem isStemS (l : List UInt8) (b : Bool) (hb : stemL (runes l) = b) (hl : l.length ≤ 9223372036854775807) : Says Try.prog 58 #[.string (bs l)] (.bool b) := fun w => by
  have h := isStem_any (bs l) w (by rw [bs_size]; exact hl)
  rw [bs_list, hb] at h
  exact h
theorem parseVersionS (l : List UInt8) (hl : l.length ≤ 9223372036854775807) : Says Try.prog 59 #[.string (bs l)] (.tuple #[.int .i64 (ver l : Nat), .bool (decide (ver l ≠ 0))]) := fun w => by
  have h := parseVersion_any (bs l) w (by rw [bs_size]; exact hl)
  rw [bs_list] at h
  exact h
theorem parts_yes (s : ByteArray) (hs : s.size ≤ 9223372036854775807) (h : nameB s.data.toList = true) :
    Says Try.prog 33 #[.string s] (.tuple #[.string (bs (pre s.data.toList)), .int .i64 (ver (post s.data.toList) : Nat), .bool true]) := by
  intro w
  have h0 := h
  unfold nameB at h
  rw [Bool.and_eq_true] at h
  have p1 := pre_len_le s.data.toList
  have p2 := post_len s.data.toList
  rw [size_list] at p1 p2
  have C2 := isStemS (pre s.data.toList) true h.1 (by omega)
  cases ha : hasAt s.data.toList with
  | true =>
    have C1 := cutS_yes s hs ha
    have hv : decide (ver (post s.data.toList) ≠ 0) = true := by have := h.2; rw [ha] at this; simpa using this
    have C3 := parseVersionS (post s.data.toList) (by omega)
    rw [hv] at C3
    clear h h0 ha hv p1 p2
    generalize pre s.data.toList = A at *
    generalize post s.data.toList = B at *
    generalize ver B = V at *
    go_enter Try.func33, Try.ntmps33
    go_wp2_with (first | (go_at_call 57; refine (C1.at _).mono ?_; rintro e w1 ⟨rfl, h1⟩) | (go_at_call 58; refine (C2.at _).mono ?_; rintro e w2 ⟨rfl, h2⟩) | (go_at_call 59; refine (C3.at _).mono ?_; rintro e w3 ⟨rfl, h3⟩))
    exact bodyPost_ret (v := .tuple #[.string (bs A), .int .i64 (V : Nat), .bool true]) (by simp [results, Try.results33, go_sem]) rfl ⟨rfl, chain3 h1 h2 h3⟩
  | false =>
    have C1 := cutS_no s hs ha
    have E : Hid (ver (post s.data.toList) = 0) := by show _ = _; rw [(pre_none _ ha).2]; rfl
    clear h h0 ha p1 p2
    generalize pre s.data.toList = A at *
    go_enter Try.func33, Try.ntmps33
    go_wp2_with (first | (go_at_call 57; refine (C1.at _).mono ?_; rintro e w1 ⟨rfl, h1⟩) | (go_at_call 58; refine (C2.at _).mono ?_; rintro e w2 ⟨rfl, h2⟩))
    exact bodyPost_ret (v := .tuple #[.string (bs A), .int .i64 0, .bool true]) (by simp [results, Try.results33, go_sem]) rfl ⟨by rw [E.out]; rfl, chain2 h1 h2⟩
theorem parts_no (s : ByteArray) (hs : s.size ≤ 9223372036854775807) (h : nameB s.data.toList = false) :
    Says Try.prog 33 #[.string s] (.tuple #[.string ⟨#[]⟩, .int .i64 0, .bool false]) := by
  intro w
  unfold nameB at h
  have p1 := pre_len_le s.data.toList
  have p2 := post_len s.data.toList
  rw [size_list] at p1 p2
  have C2 := isStemS (pre s.data.toList) _ rfl (by omega)
  cases hst : stemL (runes (pre s.data.toList)) with
  | false =>
    rw [hst] at C2
    have C1 : ∃ t b, Says Try.prog 57 #[.string s, .string ⟨#[64]⟩] (.tuple #[.string (bs (pre s.data.toList)), .string t, .bool b]) := by
      cases ha : hasAt s.data.toList with
      | true => exact ⟨_, _, cutS_yes s hs ha⟩
      | false => exact ⟨_, _, cutS_no s hs ha⟩
    obtain ⟨t, b, C1⟩ := C1
    clear h hst p1 p2
    generalize pre s.data.toList = A at *
    go_enter Try.func33, Try.ntmps33
    go_wp2_with (first | (go_at_call 57; refine (C1.at _).mono ?_; rintro e w1 ⟨rfl, h1⟩) | (go_at_call 58; refine (C2.at _).mono ?_; rintro e w2 ⟨rfl, h2⟩))
    exact bodyPost_ret (v := .tuple #[.string ⟨#[]⟩, .int .i64 0, .bool false]) (by simp [results, Try.results33, go_sem]) rfl ⟨rfl, chain2 h1 h2⟩
  | true =>
    rw [hst] at C2
    have ha : hasAt s.data.toList = true := by
      rw [hst, Bool.true_and] at h
      cases ha : hasAt s.data.toList with
      | true => rfl
      | false => rw [ha] at h; cases h
    have C1 := cutS_yes s hs ha
    have hv : decide (ver (post s.data.toList) ≠ 0) = false := by rw [hst, ha] at h; simpa using h
    have C3 := parseVersionS (post s.data.toList) (by omega)
    rw [hv] at C3
    clear h hst ha hv p1 p2
    generalize pre s.data.toList = A at *
    generalize post s.data.toList = B at *
    generalize ver B = V at *
    go_enter Try.func33, Try.ntmps33
    go_wp2_with (first | (go_at_call 57; refine (C1.at _).mono ?_; rintro e w1 ⟨rfl, h1⟩) | (go_at_call 58; refine (C2.at _).mono ?_; rintro e w2 ⟨rfl, h2⟩) | (go_at_call 59; refine (C3.at _).mono ?_; rintro e w3 ⟨rfl, h3⟩))
    exact bodyPost_ret (v := .tuple #[.string ⟨#[]⟩, .int .i64 0, .bool false]) (by simp [results, Try.results33, go_sem]) rfl ⟨rfl, chain3 h1 h2 h3⟩
theorem checkS (s : ByteArray) (hs : s.size ≤ 9223372036854775807) (k : Int) (hk : chk s.data.toList = k) : Says Try.prog 21 #[.string s] (.int .i64 k) := by
  subst hk
  intro w
  cases hn : nameB s.data.toList with
  | false =>
    have C1 := parts_no s hs hn
    have E : Hid (chk s.data.toList = 6) := chk_bad _ hn
    clear hn
    go_enter Try.func21, Try.ntmps21
    go_wp2_with (first | (go_at_call 33; refine (C1.at _).mono ?_; rintro e w1 ⟨rfl, h1⟩))
    go_ret
    exact ⟨ret_int E.out.symm, h1⟩
  | true =>
    have C1 := parts_yes s hs hn
    have C2 := Lib.hid (fun w => nameRunes_any s w hs)
    by_cases hr : 24 < (runes s.data.toList).length
    · have E : Hid (chk s.data.toList = 5) := by show _ = _; unfold chk; rw [hn, if_pos rfl, if_pos hr]
      have hr' : 24 < (((runes s.data.toList).length : Nat) : Int) := by omega
      clear hn hr
      generalize (runes s.data.toList).length = R at *
      go_enter Try.func21, Try.ntmps21
      go_wp2_with (first | (go_at_call 33; refine (C1.at _).mono ?_; rintro e w1 ⟨rfl, h1⟩) | (go_at_call 34; refine (C2.out _).mono ?_; rintro e w2 ⟨rfl, h2⟩))
      go_ret
      exact ⟨ret_int E.out.symm, chain2 h1 h2⟩
    · have E : Hid (chk s.data.toList = 0) := by show _ = _; unfold chk; rw [hn, if_pos rfl, if_neg hr]
      have hr' : ¬ 24 < (((runes s.data.toList).length : Nat) : Int) := by omega
      clear hn hr
      generalize (runes s.data.toList).length = R at *
      go_enter Try.func21, Try.ntmps21
      go_wp2_with (first | (go_at_call 33; refine (C1.at _).mono ?_; rintro e w1 ⟨rfl, h1⟩) | (go_at_call 34; refine (C2.out _).mono ?_; rintro e w2 ⟨rfl, h2⟩))
      go_ret
      exact ⟨ret_int E.out.symm, chain2 h1 h2⟩
theorem split_yes (s : ByteArray) (hs : s.size ≤ 9223372036854775807) (h : chk s.data.toList = 0) :
    Says Try.prog 30 #[.string s] (.tuple #[.string (bs (pre s.data.toList)), .int .i64 (ver (post s.data.toList) : Nat), .int .i64 0]) := by
  intro w
  have C1 := checkS s hs 0 h
  have C2 := parts_yes s hs (chk_name _ h)
  have hsh := chk_short _ h
  have hp := pre_len_le s.data.toList
  have C3 : Says Try.prog 24 #[.string (bs (pre s.data.toList))] (.string (bs (pre s.data.toList))) := fun w => clone_any _ w (by rw [bs_size]; omega)
  clear h hsh hp
  generalize pre s.data.toList = A at *
  generalize post s.data.toList = B at *
  generalize ver B = V at *
  go_enter Try.func30, Try.ntmps30
  go_wp2_with (first | (go_at_call 21; refine (C1.at _).mono ?_; rintro e w1 ⟨rfl, h1⟩) | (go_at_call 33; refine (C2.at _).mono ?_; rintro e w2 ⟨rfl, h2⟩) | (go_at_call 24; refine (C3.at _).mono ?_; rintro e w3 ⟨rfl, h3⟩))
  exact bodyPost_ret (v := .tuple #[.string (bs A), .int .i64 (V : Nat), .int .i64 0]) (by simp [results, Try.results30, go_sem]) rfl ⟨rfl, chain3 h1 h2 h3⟩
theorem split_no (s : ByteArray) (hs : s.size ≤ 9223372036854775807) (k : Int) (hk : chk s.data.toList = k) (h : k ≠ 0) :
    Says Try.prog 30 #[.string s] (.tuple #[.string ⟨#[]⟩, .int .i64 0, .int .i64 k]) := by
  intro w
  have C1 := checkS s hs k hk
  have h' : (k != 0) = true := by simpa using h
  clear hk h
  go_enter Try.func30, Try.ntmps30
  go_wp2_with (first | (go_at_call 21; refine (C1.at _).mono ?_; rintro e w1 ⟨rfl, h1⟩))
  exact bodyPost_ret (v := .tuple #[.string ⟨#[]⟩, .int .i64 0, .int .i64 k]) (by simp [results, Try.results30, go_sem]) rfl ⟨rfl, h1⟩
end Go.Proofs.Ytleggfofgpiabaa.NF
