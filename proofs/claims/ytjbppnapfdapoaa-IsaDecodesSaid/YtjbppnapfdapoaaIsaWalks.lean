/-
  The laws of layer 4, walked: each answers true.
-/
import Derived.Test.YtjbppnapfdapoaaIsaAwake
import Derived.Test.YtjbppnapfdapoaaIsaTgt
set_option linter.unusedSimpArgs false
set_option linter.unusedVariables false
namespace Go.Proofs.Ytjbppnapfdapoaa.WK
open Go.RowKit WM IM WF IF

theorem later {W w1 w2 : World} {o : Obj} (h1 : Below W.heap.size W w1) (h2 : Below (w1.alloc o).heap.size (w1.alloc o) w2) : Below W.heap.size W w2 :=
  (h1.alloc h1.size o).trans (h2.mono (by have := h1.size; simp; omega))
theorem chain2 {w w1 w2 : World} (h1 : Below w.heap.size w w1) (h2 : Below w1.heap.size w1 w2) : Below w.heap.size w w2 := h1.trans (h2.mono h1.size)
theorem IsaEncodes_walk (o d a b m : Int) (h : Fit o d a b m) (w : World) :
    Calls Try.prog 4 #[insV o d a b m] w fun e w' => e = .returned (.bool true) ∧ Below w.heap.size w w' := by
  have CE : ∃ E K : Int, Says Try.prog 15 #[insV o d a b m] (.tuple #[.int .u32 E, .int .i64 K]) ∧ Says Try.prog 16 #[insV o d a b m] (.tuple #[.int .u32 E, .int .i64 K]) := by
    by_cases hk : chk o d a b m = 0
    · have hg := (chk_good h.1.1 h.2.1.1 h.2.2.1.1 h.2.2.2.1.1).1 hk
      exact ⟨_, _, encode_yes _ _ _ _ _ hg, refEncode_yes _ _ _ _ _ hg⟩
    · exact ⟨_, _, encode_no _ _ _ _ _ _ h rfl hk, refEncode_no _ _ _ _ _ _ h rfl hk⟩
  obtain ⟨E, K, C1, C2⟩ := CE
  have H1 := Lib.hid C1
  have H2 := Lib.hid C2
  have H3 := Lib.hid awakeS
  clear C1 C2 h
  go_enter Try.func4, Try.ntmps4
  go_wp2_with (first | (go_at_call 15; refine (H1.out.at _).mono ?_; rintro e w1 ⟨rfl, hb⟩; obtain ⟨hc, hf⟩ := bcell hb) | (go_at_call 16; refine (inw H2.out (w.alloc _) _ hb).mono ?_; rintro e w2 ⟨rfl, hb2⟩) | (go_at_call 14; refine (inw H3.out (w.alloc _) _ hb2).mono ?_; rintro e w3 ⟨rfl, hb3⟩))
  go_ret
  exact ⟨rfl, end_alloc hb3⟩
theorem IsaTargets_walk (t o d a b m : Int) (ht : 0 ≤ t ∧ t ≤ 4294967295) (h : Fit o d a b m) (w : World) :
    Calls Try.prog 6 #[.int .u32 t, insV o d a b m] w fun e w' => e = .returned (.bool true) ∧ Below w.heap.size w w' := by
  have H1 := Lib.hid (target_any t o d a b m ht h)
  have H2 := Lib.hid (refTarget_any t o d a b m ht h)
  unfold tgtV at H1 H2
  generalize (if goB o d a b m then goTo t o m else 0) = E at *
  generalize goB o d a b m = g at *
  have H3 := Lib.hid awakeS
  clear ht h
  go_enter Try.func6, Try.ntmps6
  go_wp2_with (first | (go_at_call 19; refine (H1.out.at _).mono ?_; rintro e w1 ⟨rfl, hb⟩; obtain ⟨hc, hf⟩ := bcell hb) | (go_at_call 20; refine (inw H2.out (w.alloc _) _ hb).mono ?_; rintro e w2 ⟨rfl, hb2⟩) | (go_at_call 14; refine (inw H3.out (w.alloc _) _ hb2).mono ?_; rintro e w3 ⟨rfl, hb3⟩))
  go_ret
  exact ⟨rfl, end_alloc hb3⟩
/-- what Decode tells, by its parts -/
theorem dec_parts (x : Int) (hx : 0 ≤ x ∧ x ≤ 4294967295) : ∃ o d a b m K : Int, decV x = .tuple #[insV o d a b m, .int .i64 K] ∧ Fit o d a b m := by
  unfold decV
  cases hasB x with
  | true => exact ⟨_, _, _, _, _, _, rfl, part_fit hx⟩
  | false => exact ⟨0, 0, 0, 0, 0, _, rfl, by unfold Fit; omega⟩
theorem IsaDecodes_walk (x : Int) (hx : 0 ≤ x ∧ x ≤ 4294967295) (w : World) :
    Calls Try.prog 5 #[.int .u32 x] w fun e w' => e = .returned (.bool true) ∧ Below w.heap.size w w' := by
  have H1 := decode_any x hx
  have H2 := refDecode_any x hx
  obtain ⟨o, d, a, b, m, K, e, hf⟩ := dec_parts x hx
  rw [e] at H1 H2
  have C1 := Lib.hid H1
  have C2 := Lib.hid H2
  have C3 := Lib.hid awakeS
  clear H1 H2 e hf
  go_enter Try.func5, Try.ntmps5
  go_wp2_with (first | (go_at_call 17; refine (C1.out.at _).mono ?_; rintro e w1 ⟨rfl, hb⟩; obtain ⟨hc, hf⟩ := bcell hb) | (go_at_call 18; refine (C2.out.at _).mono ?_; rintro e w2 ⟨rfl, hb2⟩; obtain ⟨hc2, hf2⟩ := bcell hb2; have hz : w1.heap.size < w2.heap.size := by (have := hb2.size; simp at this; omega)) | (go_at_call 14; refine (C3.out.at _).mono ?_; rintro e w3 ⟨rfl, hb3⟩))
  go_ret
  exact ⟨rfl, later (later hb hb2) hb3⟩
theorem has_zero : hasB 0 = true := by decide
theorem ok_zero : InsOk 0 0 0 0 0 := by unfold InsOk; omega
theorem enc_zero : enc 0 0 0 0 0 = 0 := by decide
/-- what is laid is read as it was; what is none is 0 -/
theorem there (o d a b m : Int) (h : Fit o d a b m) : (Says Try.prog 15 #[insV o d a b m] (.tuple #[.int .u32 (enc o d a b m), .int .i64 0]) ∧ Says Try.prog 17 #[.int .u32 (enc o d a b m)] (.tuple #[insV o d a b m, .int .i64 0])) ∨
    ∃ K : Int, (K == 0) = false ∧ (K != 0) = true ∧ Says Try.prog 15 #[insV o d a b m] (.tuple #[.int .u32 0, .int .i64 K]) ∧ Says Try.prog 17 #[.int .u32 0] (.tuple #[insV 0 0 0 0 0, .int .i64 0]) ∧ Says Try.prog 12 #[insV o d a b m] (.int .i64 K) := by
  by_cases hk : chk o d a b m = 0
  · left
    have hg := (chk_good h.1.1 h.2.1.1 h.2.2.1.1 h.2.2.2.1.1).1 hk
    refine ⟨encode_yes _ _ _ _ _ hg, ?_⟩
    have D := decode_any (enc o d a b m) (enc_bd hg)
    obtain ⟨e1, e2, e3, e4, e5⟩ := parts_enc hg
    unfold decV at D
    rw [has_enc hg, e1, e2, e3, e4, e5] at D
    exact D
  · right
    refine ⟨chk o d a b m, by simpa using hk, by simpa using hk, encode_no _ _ _ _ _ _ h rfl hk, ?_, check_any _ _ _ _ _ h⟩
    have D := decode_any 0 (by omega)
    unfold decV at D
    rw [has_zero] at D
    exact D
/-- what is read is laid so -/
theorem back (x : Int) (hx : 0 ≤ x ∧ x ≤ 4294967295) : ∃ o d a b m Y K : Int, Says Try.prog 17 #[.int .u32 x] (.tuple #[insV o d a b m, .int .i64 K]) ∧ Says Try.prog 15 #[insV o d a b m] (.tuple #[.int .u32 Y, .int .i64 0]) ∧
    (K = 0 ∧ Y = x ∨ K = 10 ∧ o = 0 ∧ d = 0 ∧ a = 0 ∧ b = 0 ∧ m = 0) := by
  have D := decode_any x hx
  unfold decV at D
  cases hh : hasB x with
  | true =>
    obtain ⟨hg, he⟩ := has_good hx hh
    rw [hh] at D
    have E := encode_yes _ _ _ _ _ hg
    rw [he] at E
    exact ⟨_, _, _, _, _, _, _, D, E, Or.inl ⟨rfl, rfl⟩⟩
  | false =>
    rw [hh] at D
    exact ⟨_, _, _, _, _, _, _, D, encode_yes _ _ _ _ _ ok_zero, Or.inr ⟨rfl, rfl, rfl, rfl, rfl, rfl⟩⟩
set_option maxHeartbeats 1000000 in
theorem IsaBack_walk (o d a b m x : Int) (h : Fit o d a b m) (hx : 0 ≤ x ∧ x ≤ 4294967295) (w : World) :
    Calls Try.prog 7 #[insV o d a b m, .int .u32 x] w fun e w' => e = .returned (.bool true) ∧ Below w.heap.size w w' := by
  have H1 := there o d a b m h
  obtain ⟨o', d', a', b', m', Y, K', D', E', h'⟩ := back x hx
  have C3 := Lib.hid awakeS
  clear h hx
  generalize enc o d a b m = E at *
  rcases H1 with ⟨c1, c2⟩ | ⟨K, k1, k2, c1, c2, c3⟩ <;> rcases h' with ⟨rfl, rfl⟩ | ⟨rfl, rfl, rfl, rfl, rfl, rfl⟩
  · have H1 := Lib.hid c1
    have H2 := Lib.hid c2
    have H4 := Lib.hid D'
    have H5 := Lib.hid E'
    clear c1 c2 D' E'
    go_enter Try.func7, Try.ntmps7
    go_wp2_with (first | (go_at_call 15; first | ((with_reducible refine (H1.out.at _).mono ?_); rintro e w1 ⟨rfl, hb⟩; obtain ⟨hc, hf⟩ := bcell hb) | ((with_reducible refine (H5.out.at _).mono ?_); rintro e w4 ⟨rfl, hb4⟩; obtain ⟨hc4, hf4⟩ := bcell hb4)) | (go_at_call 17; first | ((with_reducible refine (H2.out.at _).mono ?_); rintro e w2 ⟨rfl, hb2⟩; obtain ⟨hc2, hf2⟩ := bcell hb2; have hz : w.heap.size < w1.heap.size := (by have := hb.size; simp at this; omega); have hz2 : w1.heap.size ≤ w2.heap.size := (by have := hb2.size; simpa using this); have hzz : w.heap.size < w2.heap.size := Nat.lt_of_lt_of_le hz hz2) | ((with_reducible refine (H4.out.at _).mono ?_); rintro e w3 ⟨rfl, hb3⟩; obtain ⟨hc3, hf3⟩ := bcell hb3)) | (go_at_call 14; refine (C3.out.at _).mono ?_; rintro e w5 ⟨rfl, hb5⟩))
    go_ret
    exact ⟨rfl, chain2 (later (later (chain2 (end_alloc hb) hb2) hb3) hb4) hb5⟩
  · have H1 := Lib.hid c1
    have H2 := Lib.hid c2
    have H4 := Lib.hid D'
    have H5 := Lib.hid E'
    clear c1 c2 D' E'
    go_enter Try.func7, Try.ntmps7
    go_wp2_with (first | (go_at_call 15; first | ((with_reducible refine (H1.out.at _).mono ?_); rintro e w1 ⟨rfl, hb⟩; obtain ⟨hc, hf⟩ := bcell hb) | ((with_reducible refine (H5.out.at _).mono ?_); rintro e w4 ⟨rfl, hb4⟩; obtain ⟨hc4, hf4⟩ := bcell hb4)) | (go_at_call 17; first | ((with_reducible refine (H2.out.at _).mono ?_); rintro e w2 ⟨rfl, hb2⟩; obtain ⟨hc2, hf2⟩ := bcell hb2; have hz : w.heap.size < w1.heap.size := (by have := hb.size; simp at this; omega); have hz2 : w1.heap.size ≤ w2.heap.size := (by have := hb2.size; simpa using this); have hzz : w.heap.size < w2.heap.size := Nat.lt_of_lt_of_le hz hz2) | ((with_reducible refine (H4.out.at _).mono ?_); rintro e w3 ⟨rfl, hb3⟩; obtain ⟨hc3, hf3⟩ := bcell hb3)) | (go_at_call 14; refine (C3.out.at _).mono ?_; rintro e w5 ⟨rfl, hb5⟩))
    go_ret
    exact ⟨rfl, chain2 (later (later (chain2 (end_alloc hb) hb2) hb3) hb4) hb5⟩
  · have H1 := Lib.hid c1
    have H2 := Lib.hid c2
    have H4 := Lib.hid D'
    have H5 := Lib.hid E'
    have H6 := Lib.hid c3
    clear c1 c2 c3 D' E'
    go_enter Try.func7, Try.ntmps7
    go_wp2_with (first | (go_at_call 15; first | ((with_reducible refine (H1.out.at _).mono ?_); rintro e w1 ⟨rfl, hb⟩; obtain ⟨hc, hf⟩ := bcell hb) | ((with_reducible refine (H5.out.at _).mono ?_); rintro e w4 ⟨rfl, hb4⟩; obtain ⟨hc4, hf4⟩ := bcell hb4)) | (go_at_call 17; first | ((with_reducible refine (H2.out.at _).mono ?_); rintro e w2 ⟨rfl, hb2⟩; obtain ⟨hc2, hf2⟩ := bcell hb2; have hz : w.heap.size < w1.heap.size := (by have := hb.size; simp at this; omega); have hz2 : w1.heap.size ≤ w2.heap.size := (by have := hb2.size; simpa using this); have hzz : w.heap.size < w2.heap.size := Nat.lt_of_lt_of_le hz hz2) | ((with_reducible refine (H4.out.at _).mono ?_); rintro e w3 ⟨rfl, hb3⟩; obtain ⟨hc3, hf3⟩ := bcell hb3)) | (go_at_call 12; refine (H6.out.at _).mono ?_; rintro e w6 ⟨rfl, hb6⟩) | (go_at_call 14; refine (C3.out.at _).mono ?_; rintro e w5 ⟨rfl, hb5⟩))
    go_ret
    exact ⟨rfl, chain2 (later (chain2 (later (chain2 (end_alloc hb) hb2) hb6) hb3) hb4) hb5⟩
  · have H1 := Lib.hid c1
    have H2 := Lib.hid c2
    have H4 := Lib.hid D'
    have H5 := Lib.hid E'
    have H6 := Lib.hid c3
    clear c1 c2 c3 D' E'
    go_enter Try.func7, Try.ntmps7
    go_wp2_with (first | (go_at_call 15; first | ((with_reducible refine (H1.out.at _).mono ?_); rintro e w1 ⟨rfl, hb⟩; obtain ⟨hc, hf⟩ := bcell hb) | ((with_reducible refine (H5.out.at _).mono ?_); rintro e w4 ⟨rfl, hb4⟩; obtain ⟨hc4, hf4⟩ := bcell hb4)) | (go_at_call 17; first | ((with_reducible refine (H2.out.at _).mono ?_); rintro e w2 ⟨rfl, hb2⟩; obtain ⟨hc2, hf2⟩ := bcell hb2; have hz : w.heap.size < w1.heap.size := (by have := hb.size; simp at this; omega); have hz2 : w1.heap.size ≤ w2.heap.size := (by have := hb2.size; simpa using this); have hzz : w.heap.size < w2.heap.size := Nat.lt_of_lt_of_le hz hz2) | ((with_reducible refine (H4.out.at _).mono ?_); rintro e w3 ⟨rfl, hb3⟩; obtain ⟨hc3, hf3⟩ := bcell hb3)) | (go_at_call 12; refine (H6.out.at _).mono ?_; rintro e w6 ⟨rfl, hb6⟩) | (go_at_call 14; refine (C3.out.at _).mono ?_; rintro e w5 ⟨rfl, hb5⟩))
    go_ret
    exact ⟨rfl, chain2 (later (chain2 (later (chain2 (end_alloc hb) hb2) hb6) hb3) hb4) hb5⟩
theorem end_2 {w w1 : World} {o1 o2 : Obj} (h : Below ((w.alloc o1).alloc o2).heap.size ((w.alloc o1).alloc o2) w1) : Below w.heap.size w w1 := later (below_new w o1) h
/-- what Encode and Check tell of an instruction -/
theorem encodes (o d a b m : Int) (h : Fit o d a b m) : ∃ E K : Int, Says Try.prog 15 #[insV o d a b m] (.tuple #[.int .u32 E, .int .i64 K]) ∧ Says Try.prog 12 #[insV o d a b m] (.int .i64 K) ∧
    (K = 0 ∧ InsOk o d a b m ∧ E = enc o d a b m ∨ (K != 0) = true) := by
  by_cases hk : chk o d a b m = 0
  · have hg := (chk_good h.1.1 h.2.1.1 h.2.2.1.1 h.2.2.2.1.1).1 hk
    exact ⟨_, _, encode_yes _ _ _ _ _ hg, by have := check_any o d a b m h; rw [hk] at this; exact this, Or.inl ⟨rfl, hg, rfl⟩⟩
  · exact ⟨_, _, encode_no _ _ _ _ _ _ h rfl hk, check_any o d a b m h, Or.inr (by simpa using hk)⟩
theorem IsaApart_no (o d a b m o' d' a' b' m' E E' K K' : Int) (h1 : Says Try.prog 15 #[insV o d a b m] (.tuple #[.int .u32 E, .int .i64 K])) (h2 : Says Try.prog 15 #[insV o' d' a' b' m'] (.tuple #[.int .u32 E', .int .i64 K']))
    (k1 : Says Try.prog 12 #[insV o d a b m] (.int .i64 K)) (k2 : Says Try.prog 12 #[insV o' d' a' b' m'] (.int .i64 K')) (h : (K != 0) = true ∨ K = 0 ∧ (K' != 0) = true) (w : World) :
    Calls Try.prog 8 #[insV o d a b m, insV o' d' a' b' m'] w fun e w' => e = .returned (.bool true) ∧ Below w.heap.size w w' := by
  have C3 := Lib.hid awakeS
  have tok1 : True := trivial
  have tok2 : True := trivial
  have H2 := Lib.hid h2
  have K2 := Lib.hid k2
  clear h2 k2
  rcases h with h | ⟨rfl, h⟩
  all_goals
    have H1 := Lib.hid h1
    have K1 := Lib.hid k1
    clear h1 k1
    go_enter Try.func8, Try.ntmps8
    go_wp2_with (first | (go_at_call 15; first | ((with_reducible refine (H1.out.at _).mono ?_); have tok := tok1; rintro e w1 ⟨rfl, hb⟩; clear tok tok1; obtain ⟨hc, hf⟩ := bcell hb; have hz : w.heap.size + 1 < w1.heap.size := (by have := hb.size; simp at this; omega); have hzz : w.heap.size < w1.heap.size := Nat.lt_of_succ_lt hz) | ((with_reducible refine (H2.out.at _).mono ?_); rintro e w2 ⟨rfl, hb2⟩; obtain ⟨hc2, hf2⟩ := bcell hb2; have hy : w.heap.size + 1 < w2.heap.size := (by have := hb2.size; omega); have hyy : w.heap.size < w2.heap.size := Nat.lt_of_succ_lt hy)) | (go_at_call 12; first | ((with_reducible refine (K1.out.at _).mono ?_); have tok := tok2; rintro e w3 ⟨rfl, hb3⟩; clear tok tok2; obtain ⟨hc3, hf3⟩ := bcell hb3) | ((with_reducible refine (K2.out.at _).mono ?_); rintro e w4 ⟨rfl, hb4⟩)) | (go_at_call 14; refine (C3.out.at _).mono ?_; rintro e w5 ⟨rfl, hb5⟩))
    go_ret
    exact ⟨rfl, chain2 (chain2 (chain2 (chain2 (end_2 hb) hb2) hb3) hb4) hb5⟩
theorem IsaApart_yes (o d a b m o' d' a' b' m' E E' : Int) (h1 : Says Try.prog 15 #[insV o d a b m] (.tuple #[.int .u32 E, .int .i64 0])) (h2 : Says Try.prog 15 #[insV o' d' a' b' m'] (.tuple #[.int .u32 E', .int .i64 0]))
    (h : (E == E') = false ∧ ¬ (o = o' ∧ d = d' ∧ a = a' ∧ b = b' ∧ m = m')) (w : World) :
    Calls Try.prog 8 #[insV o d a b m, insV o' d' a' b' m'] w fun e w' => e = .returned (.bool true) ∧ Below w.heap.size w w' := by
  have C3 := Lib.hid awakeS
  have tok1 : True := trivial
  have H2 := Lib.hid h2
  have H1 := Lib.hid h1
  clear h1 h2
  obtain ⟨he, hn⟩ := h
  have HN := Lib.hid hn
  clear hn
  go_enter Try.func8, Try.ntmps8
  go_wp2_with (first | (go_at_call 15; first | ((with_reducible refine (H1.out.at _).mono ?_); have tok := tok1; rintro e w1 ⟨rfl, hb⟩; clear tok tok1; obtain ⟨hc, hf⟩ := bcell hb; have hz : w.heap.size + 1 < w1.heap.size := (by have := hb.size; simp at this; omega); have hzz : w.heap.size < w1.heap.size := Nat.lt_of_succ_lt hz) | ((with_reducible refine (H2.out.at _).mono ?_); rintro e w2 ⟨rfl, hb2⟩; obtain ⟨hc2, hf2⟩ := bcell hb2; have hy : w.heap.size + 1 < w2.heap.size := (by have := hb2.size; omega); have hyy : w.heap.size < w2.heap.size := Nat.lt_of_succ_lt hy)) | (go_at_call 14; refine (C3.out.at _).mono ?_; rintro e w5 ⟨rfl, hb5⟩))
  all_goals first
    | (go_ret; exact ⟨rfl, chain2 (chain2 (end_2 hb) hb2) hb5⟩)
    | (exfalso; clear hc hc2 hf hf2; apply HN.out; (try simp only [beq_iff_eq] at *); exact ⟨by assumption, by assumption, by assumption, by assumption, by assumption⟩)
theorem IsaApart_same (o d a b m E : Int) (h1 : Says Try.prog 15 #[insV o d a b m] (.tuple #[.int .u32 E, .int .i64 0])) (w : World) :
    Calls Try.prog 8 #[insV o d a b m, insV o d a b m] w fun e w' => e = .returned (.bool true) ∧ Below w.heap.size w w' := by
  have C3 := Lib.hid awakeS
  have tok1 : True := trivial
  have H2 := Lib.hid h1
  have H1 := Lib.hid h1
  clear h1
  go_enter Try.func8, Try.ntmps8
  go_wp2_with (first | (go_at_call 15; first | ((with_reducible refine (H1.out.at _).mono ?_); have tok := tok1; rintro e w1 ⟨rfl, hb⟩; clear tok tok1; obtain ⟨hc, hf⟩ := bcell hb; have hz : w.heap.size + 1 < w1.heap.size := (by have := hb.size; simp at this; omega); have hzz : w.heap.size < w1.heap.size := Nat.lt_of_succ_lt hz) | ((with_reducible refine (H2.out.at _).mono ?_); rintro e w2 ⟨rfl, hb2⟩; obtain ⟨hc2, hf2⟩ := bcell hb2; have hy : w.heap.size + 1 < w2.heap.size := (by have := hb2.size; omega); have hyy : w.heap.size < w2.heap.size := Nat.lt_of_succ_lt hy)) | (go_at_call 14; refine (C3.out.at _).mono ?_; rintro e w5 ⟨rfl, hb5⟩))
  go_ret
  exact ⟨rfl, chain2 (chain2 (end_2 hb) hb2) hb5⟩
theorem IsaApart_walk (o d a b m o' d' a' b' m' : Int) (h : Fit o d a b m) (h' : Fit o' d' a' b' m') (w : World) :
    Calls Try.prog 8 #[insV o d a b m, insV o' d' a' b' m'] w fun e w' => e = .returned (.bool true) ∧ Below w.heap.size w w' := by
  obtain ⟨E, K, e1, k1, r1⟩ := encodes o d a b m h
  obtain ⟨E', K', e2, k2, r2⟩ := encodes o' d' a' b' m' h'
  rcases r1 with ⟨rfl, g1, rfl⟩ | r1
  · rcases r2 with ⟨rfl, g2, rfl⟩ | r2
    · by_cases he : o = o' ∧ d = d' ∧ a = a' ∧ b = b' ∧ m = m'
      · obtain ⟨rfl, rfl, rfl, rfl, rfl⟩ := he
        exact IsaApart_same _ _ _ _ _ _ e1 w
      · exact IsaApart_yes _ _ _ _ _ _ _ _ _ _ _ _ e1 e2 ⟨by simpa using fun hh => he (enc_inj g1 g2 hh), he⟩ w
    · exact IsaApart_no _ _ _ _ _ _ _ _ _ _ _ _ _ _ e1 e2 k1 k2 (Or.inr ⟨rfl, r2⟩) w
  · exact IsaApart_no _ _ _ _ _ _ _ _ _ _ _ _ _ _ e1 e2 k1 k2 (Or.inl r1) w
end Go.Proofs.Ytjbppnapfdapoaa.WK
