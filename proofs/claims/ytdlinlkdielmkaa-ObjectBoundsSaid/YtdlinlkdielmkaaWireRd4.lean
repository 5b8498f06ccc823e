/-
  A reader's calls that read things: texts, words.
-/
import Derived.Test.YtdlinlkdielmkaaWireRd3
set_option linter.unusedSimpArgs false
set_option linter.unusedVariables false
namespace Go.Proofs.Ytdlinlkdielmkaa.NR
open Go.RowKit WM

/-- so many bytes: whichever -/
theorem take_any (w : World) (p : Nat) (l : List UInt8) (e : Nat) (h : Rd w p l e) (n : Nat) (hl : l.length ≤ 9223372036854775807) :
    Calls Try.prog 84 #[.pointer (some ⟨p, 0, none⟩), .int .u64 (n : Int)] w fun en w' => ∃ v', en = .returned v' ∧
      Reads (· < p) w' v' (u8s (if n ≤ l.length then l.take n else [])) ∧ w.grownBy w' (some p) ∧ Rd w' p (if n ≤ l.length then l.drop n else []) (if n ≤ l.length then e else 3) := by
  by_cases hn : n ≤ l.length
  · rw [if_pos hn, if_pos hn, if_pos hn]; exact take_yes w p l e h n hn
  · rw [if_neg hn, if_neg hn, if_neg hn]
    exact (take_no w p l e h n (by omega) hl).mono fun en w' ⟨he, hg, hr⟩ => ⟨_, he, Reads.nil _ _, hg, hr⟩
def IsTaken (w : World) (p : Nat) (r : Nat × List UInt8 × List UInt8) (en : Ending) (w' : World) : Prop :=
  ∃ v', en = .returned v' ∧ Reads (· < p) w' v' (u8s r.2.1) ∧ w.grownBy w' (some p) ∧ Rd w' p r.2.2 r.1
def capM (M : Int) : Nat := (min (max M 0) 4294967295).toNat
theorem capM_lt (M : Int) : capM M < 4294967296 := by unfold capM; omega
theorem counted_any (w : World) (p size : Nat) (M : Int) (l : List UInt8) (h : Rd w p l 0) (hM : -9223372036854775808 ≤ M ∧ M ≤ 9223372036854775807) (hl : l.length ≤ 9223372036854775807) (hs : size = 1 ∨ size = 4) :
    Calls Try.prog 80 #[.pointer (some ⟨p, 0, none⟩), .int .i64 M, .int .u64 (size : Int)] w (IsTaken w p (rdBytes (capM M) size l)) := by
  have CB := Lib.hid (bound_any M w hM)
  have hcap : min (max M 0) 4294967295 = ((capM M : Nat) : Int) := by unfold capM; omega
  rw [hcap] at CB
  clear hcap hM
  have hml := capM_lt M
  generalize capM M = m at *
  obtain ⟨k, n, l', hv⟩ : ∃ k n l', rdVar m l = (k, n, l') := ⟨_, _, _, rfl⟩
  by_cases hk : k = 0
  · subst hk
    have hgd := vr_good m 5 0 0 l (by have := congrArg (·.1) hv; exact this)
    have e1 : (vr m 5 0 0 l).2.1 = n := by have := congrArg (·.2.1) hv; exact this
    have e2 : (vr m 5 0 0 l).2.2 = l' := by have := congrArg (·.2.2) hv; exact this
    rw [e1, e2] at hgd
    obtain ⟨_, hn, hl'⟩ := hgd
    have CV := Lib.hid (rvar_good w p m n l l' h hml hl hv)
    have e3 : rdBytes m size l = (if n * size ≤ l'.length then 0 else 3, if n * size ≤ l'.length then l'.take (n * size) else [], if n * size ≤ l'.length then l'.drop (n * size) else []) := by
      unfold rdBytes
      rw [hv]
      simp only [if_true]
      split <;> rfl
    have CT0 : ∀ u (hu : Rd u p l' 0) (X : Int) (hX : X = ((n * size : Nat) : Int)), Calls Try.prog 84 #[.pointer (some ⟨p, 0, none⟩), .int .u64 X] u fun en w' => ∃ v', en = .returned v' ∧
      Reads (· < p) w' v' (u8s (if n * size ≤ l'.length then l'.take (n * size) else [])) ∧ u.grownBy w' (some p) ∧ Rd w' p (if n * size ≤ l'.length then l'.drop (n * size) else []) (if n * size ≤ l'.length then 0 else 3) :=
      fun u hu X hX => by subst hX; exact take_any u p l' 0 hu (n * size) (by omega)
    have CT := Lib.hid CT0
    clear CT0
    have E3 := Lib.hid e3
    have hn' : (n : Int) ≤ 4294967295 := by omega
    clear e1 e2 e3 hv hn hl' h hl hml
    have hn0 : (0 : Int) ≤ (n : Int) := by omega
    generalize hnz : (n : Int) = N at *
    generalize (m : Int) = M' at *
    have HN := Lib.hid hnz
    clear hnz
    rcases hs with rfl | rfl
    all_goals
      go_enter Try.func80, Try.ntmps80
      go_wp2_with (go_at_call 86; refine CB.out.mono ?_; rintro e w' ⟨rfl, rfl⟩)
      refine CV.out.mono ?_
      rintro e w2 ⟨rfl, hg, hr⟩
      go_wp2_with fail
      refine (CT.out _ hr _ (by have := HN.out; omega)).mono ?_
      rintro e w3 ⟨v', rfl, hd, hg2, hr2⟩
      have hd' := Lib.hid hd
      obtain ⟨a, nn, c, rfl⟩ := hd.form
      clear hd
      go_wp2_with fail
      go_ret
      exact ⟨_, rfl, by rw [E3.out]; exact hd'.out, grown_trans hg hg2, by rw [E3.out]; exact hr2⟩
  · have hz := vr_none m 5 0 0 l (by have e1 : (vr m 5 0 0 l).1 = k := congrArg (·.1) hv; rw [e1]; exact hk)
    have e2 : (n, l') = (0, []) := by
      have e3 : (vr m 5 0 0 l).2 = (n, l') := congrArg (·.2) hv
      rw [← e3]; exact hz
    obtain ⟨rfl, rfl⟩ := Prod.mk.inj e2
    have CV := Lib.hid (rvar_bad w p m k 0 l [] h hml hl hv hk)
    have e3 : rdBytes m size l = (k, [], []) := by
      unfold rdBytes
      rw [hv]
      simp only [if_neg hk]
    have CT := Lib.hid (fun u (hu : Rd u p [] k) => take_yes u p [] k hu 0 (by simp))
    have E3 := Lib.hid e3
    clear e2 e3 hv hz h hl hml hk
    generalize (m : Int) = M' at *
    rcases hs with rfl | rfl
    all_goals
      go_enter Try.func80, Try.ntmps80
      go_wp2_with (go_at_call 86; refine CB.out.mono ?_; rintro e w' ⟨rfl, rfl⟩)
      refine CV.out.mono ?_
      rintro e w2 ⟨rfl, hg, hr⟩
      go_wp2_with fail
      refine (CT.out _ hr).mono ?_
      rintro e w3 ⟨v', rfl, hd, hg2, hr2⟩
      have hd' := Lib.hid hd
      obtain ⟨a, nn, c, rfl⟩ := hd.form
      clear hd
      go_wp2_with fail
      go_ret
      exact ⟨_, rfl, by rw [E3.out]; exact hd'.out, grown_trans hg hg2, by rw [E3.out]; exact hr2⟩
theorem rdBytes_none (m size : Nat) (l : List UInt8) (h : (rdBytes m size l).1 ≠ 0) : (rdBytes m size l).2 = ([], []) := by
  unfold rdBytes at h ⊢
  split
  · rename_i h1
    rw [if_pos h1] at h
    split
    · rename_i h2; rw [if_pos h2] at h; exact absurd rfl h
    · rfl
  · rfl
set_option maxRecDepth 100000 in
theorem rtext_good (w : World) (p : Nat) (M : Int) (l a b : List UInt8) (k : Nat) (h : Rd w p l 0) (hM : -9223372036854775808 ≤ M ∧ M ≤ 9223372036854775807) (hl : l.length ≤ 9223372036854775807) (hv : rdBytes (capM M) 1 l = (k, a, b)) :
    Calls Try.prog 63 #[.pointer (some ⟨p, 0, none⟩), .int .i64 M] w (Reads1 w p (.string (bs a)) k b) := by
  have hb := below_new2 w (.cells #[.pointer (some ⟨p, 0, none⟩)] 69) (.cells #[.int .i64 M] 3)
  have hr := h.keep hb
  have CN0 : ∀ u (hu : Rd u p l 0), Calls Try.prog 80 #[.pointer (some ⟨p, 0, none⟩), .int .i64 M, .int .u64 1] u (IsTaken u p (k, a, b)) := fun u hu => by
    have := counted_any u p 1 M l hu hM hl (Or.inl rfl)
    rw [hv] at this
    exact this
  have CN := Lib.hid CN0
  have HB := Lib.hid hb
  have hmf := make_func
  by_cases hk : k = 0
  · subst hk
    clear hv hl h hb hM CN0
    go_enter Try.func63, Try.ntmps63
    go_wp2_with (first | (go_at_call 42; refine (err_any _ p _ _ (by assumption)).mono ?_; rintro e w' ⟨rfl, rfl⟩) | (go_at_call 80; refine (CN.out _ (by assumption)).mono ?_; rintro e w3 ⟨v', rfl, hd, hg3, hr3⟩; have kc := hd.text (P := Try.prog) (dst := 9) Try.underlying30 Try.underlying5 Try.underlying9; obtain ⟨a1, n1, c1, rfl⟩ := hd.form; clear hd hr) | go_in)
    go_ret
    exact ⟨rfl, grown_from HB.out hg3, hr3⟩
  · have hk' : ((k : Int) != 0) = true := by simp; omega
    have ha : a = [] := by
      have := rdBytes_none (capM M) 1 l (by rw [hv]; exact hk)
      rw [hv] at this
      exact (Prod.mk.inj this).1
    subst ha
    clear hv hl h hb hM CN0 hk
    go_enter Try.func63, Try.ntmps63
    go_wp2_with (first | (go_at_call 42; refine (err_any _ p _ _ (by assumption)).mono ?_; rintro e w' ⟨rfl, rfl⟩) | (go_at_call 80; refine (CN.out _ (by assumption)).mono ?_; rintro e w3 ⟨v', rfl, hd, hg3, hr3⟩; have kc := hd.text (P := Try.prog) (dst := 9) Try.underlying30 Try.underlying5 Try.underlying9; obtain ⟨a1, n1, c1, rfl⟩ := hd.form; clear hd hr) | go_in)
    go_ret
    exact ⟨rfl, grown_from HB.out hg3, hr3⟩
set_option maxRecDepth 100000 in
theorem rword_good (w : World) (p : Nat) (l b : List UInt8) (k n : Nat) (h : Rd w p l 0) (hl : l.length ≤ 9223372036854775807) (hv : rdWord l = (k, n, b)) :
    Calls Try.prog 65 #[.pointer (some ⟨p, 0, none⟩)] w (Reads1 w p (.int .u32 (n : Int)) k b) := by
  have hb := below_new w (.cells #[.pointer (some ⟨p, 0, none⟩)] 69)
  have hr := h.keep hb
  have CN0 : ∀ u (hu : Rd u p l 0), Calls Try.prog 84 #[.pointer (some ⟨p, 0, none⟩), .int .u64 4] u fun en w' => ∃ v', en = .returned v' ∧ Reads (· < p) w' v' (u8s (if 4 ≤ l.length then l.take 4 else [])) ∧ u.grownBy w' (some p) ∧ Rd w' p (if 4 ≤ l.length then l.drop 4 else []) (if 4 ≤ l.length then 0 else 3) :=
    fun u hu => take_any u p l 0 hu 4 hl
  have HB := Lib.hid hb
  have hmf := make_func
  unfold rdWord at hv
  by_cases h4 : 4 ≤ l.length
  · rw [if_pos h4] at hv
    obtain ⟨rfl, hv2⟩ := Prod.mk.inj hv
    obtain ⟨rfl, rfl⟩ := Prod.mk.inj hv2
    simp only [if_pos h4] at CN0
    have CN := Lib.hid CN0
    have CW := Lib.hid (fun u v (hu : Reads (· < p) u v (u8s (l.take 4))) => toWord_four (· < p) (l.take 4) v u hu (by simp; omega))
    generalize word4 (l.take 4) = x at *
    clear hv hv2 hl h hb CN0 h4
    go_enter Try.func65, Try.ntmps65
    go_wp2_with (first | (go_at_call 42; refine (err_any _ p _ _ (by assumption)).mono ?_; rintro e w' ⟨rfl, rfl⟩) | (go_at_call 84; refine (CN.out _ (by assumption)).mono ?_; rintro e w3 ⟨v', rfl, hd, hg3, hr3⟩; have CW2 := Lib.hid (CW.out _ _ hd); obtain ⟨a1, n1, c1, rfl⟩ := hd.form; clear hd hr) | (go_at_call 83; refine CW2.out.mono ?_; rintro e w' ⟨rfl, rfl⟩) | go_in)
    go_ret
    exact ⟨rfl, grown_from HB.out hg3, hr3⟩
  · rw [if_neg h4] at hv
    obtain ⟨rfl, hv2⟩ := Prod.mk.inj hv
    obtain ⟨rfl, rfl⟩ := Prod.mk.inj hv2
    simp only [if_neg h4] at CN0
    have CN := Lib.hid CN0
    have CW := Lib.hid (fun u v (hu : Reads (· < p) u v (u8s [])) => toWord_none (· < p) v u hu)
    clear hv hv2 hl h hb CN0 h4
    go_enter Try.func65, Try.ntmps65
    go_wp2_with (first | (go_at_call 42; refine (err_any _ p _ _ (by assumption)).mono ?_; rintro e w' ⟨rfl, rfl⟩) | (go_at_call 84; refine (CN.out _ (by assumption)).mono ?_; rintro e w3 ⟨v', rfl, hd, hg3, hr3⟩; have CW2 := Lib.hid (CW.out _ _ hd); obtain ⟨a1, n1, c1, rfl⟩ := hd.form; clear hd hr) | (go_at_call 83; refine CW2.out.mono ?_; rintro e w' ⟨rfl, rfl⟩) | go_in)
    go_ret
    exact ⟨rfl, grown_from HB.out hg3, hr3⟩
end Go.Proofs.Ytdlinlkdielmkaa.NR
