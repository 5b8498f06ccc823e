/-
  A reader's call Words.
-/
import Derived.Test.YtjmmkebnebhfoaaWireRd4
set_option linter.unusedSimpArgs false
set_option linter.unusedVariables false
namespace Go.Proofs.Ytjmmkebnebhfoaa.NR
open Go.RowKit WM

theorem takeW_take : ∀ (n : Nat) (t : List UInt8), takeW n (t.take (4 * n)) = takeW n t
  | 0, t => rfl
  | n + 1, t => by
    rw [takeW, takeW, List.take_take, show min 4 (4 * (n + 1)) = 4 by omega, List.drop_take, show 4 * (n + 1) - 4 = 4 * n by omega, takeW_take n (t.drop 4)]
theorem rdWords_bytes (m : Nat) (l a b : List UInt8) (k : Nat) (h : rdBytes m 4 l = (k, a, b)) : ∃ n, a.length = 4 * n ∧ rdWords m l = (k, takeW n a, b) := by
  unfold rdBytes at h
  unfold rdWords
  split at h
  · rename_i h1
    rw [if_pos h1]
    split at h
    · rename_i h2
      rw [if_pos (by omega)]
      obtain ⟨rfl, h3⟩ := Prod.mk.inj h
      obtain ⟨rfl, rfl⟩ := Prod.mk.inj h3
      refine ⟨(rdVar m l).2.1, by rw [List.length_take]; omega, ?_⟩
      rw [Nat.mul_comm _ 4, takeW_take]
    · rename_i h2
      rw [if_neg (by omega)]
      obtain ⟨rfl, h3⟩ := Prod.mk.inj h
      obtain ⟨rfl, rfl⟩ := Prod.mk.inj h3
      exact ⟨0, rfl, rfl⟩
  · rename_i h1
    rw [if_neg h1]
    obtain ⟨rfl, h3⟩ := Prod.mk.inj h
    obtain ⟨rfl, rfl⟩ := Prod.mk.inj h3
    exact ⟨0, rfl, rfl⟩
theorem rdBytes_short (m size : Nat) (l : List UInt8) : (rdBytes m size l).2.1.length ≤ l.length := by
  unfold rdBytes
  split
  · rename_i h1
    split
    · have := (vr_good m 5 0 0 l h1).2.2
      have e : (rdVar m l).2.2.length < l.length := this
      simp only [List.length_take]
      omega
    · simp
  · simp
def IsWords (w : World) (p : Nat) (r : Nat × List Nat × List UInt8) (en : Ending) (w' : World) : Prop :=
  ∃ v', en = .returned v' ∧ w'.ownsRow w.heap.size 22 1 v' r.2.1.length (u32s r.2.1) ∧ w.grownBy w' (some p) ∧ Rd w' p r.2.2 r.1
set_option maxRecDepth 100000 in
theorem rwords_good (w : World) (p : Nat) (M : Int) (l b : List UInt8) (ws : List Nat) (k : Nat) (h : Rd w p l 0) (hM : -9223372036854775808 ≤ M ∧ M ≤ 9223372036854775807) (hl : l.length ≤ 140737488351232) (hv : rdWords (capM M) l = (k, ws, b)) :
    Calls Try.prog 25 #[.pointer (some ⟨p, 0, none⟩), .int .i64 M] w (IsWords w p (k, ws, b)) := by
  have hb := below_new2 w (.cells #[.pointer (some ⟨p, 0, none⟩)] 31) (.cells #[.int .i64 M] 3)
  have hr := h.keep hb
  obtain ⟨k2, a, b2, hby⟩ : ∃ k a b, rdBytes (capM M) 4 l = (k, a, b) := ⟨_, _, _, rfl⟩
  obtain ⟨n, han, hwo⟩ := rdWords_bytes _ _ _ _ _ hby
  rw [hv] at hwo
  obtain ⟨rfl, h3⟩ := Prod.mk.inj hwo
  obtain ⟨rfl, rfl⟩ := Prod.mk.inj h3
  have hal : a.length ≤ l.length := by have := rdBytes_short (capM M) 4 l; rw [hby] at this; exact this
  have CN0 : ∀ u (hu : Rd u p l 0), Calls Try.prog 38 #[.pointer (some ⟨p, 0, none⟩), .int .i64 M, .int .u64 4] u (IsTaken u p (k, a, b)) := fun u hu => by
    have := counted_any u p 4 M l hu hM (by omega) (Or.inr rfl)
    rw [hby] at this
    exact this
  have CN := Lib.hid CN0
  have CW := Lib.hid (fun u v (hu : Reads (· < p) u v (u8s a)) => toWords_any _ a n v u hu.there han (by omega) (fun g hg => hg.2))
  have HB := Lib.hid hb
  have hmf := make_func
  by_cases hk : k = 0
  · subst hk
    have HA := Lib.hid (takeW_length n a)
    clear hv hl h hb hM CN0 hby hwo h3 hal han
    go_enter Try.func25, Try.ntmps25
    go_wp2_with (first | (go_at_call 20; refine (err_any _ p _ _ (by assumption)).mono ?_; rintro e w' ⟨rfl, rfl⟩) | (go_at_call 38; refine (CN.out _ (by assumption)).mono ?_; rintro e w3 ⟨v', rfl, hd, hg3, hr3⟩; have CW2 := Lib.hid (CW.out _ _ hd); obtain ⟨a1, n1, c1, rfl⟩ := hd.form; clear hd hr) | (go_at_call 44; refine CW2.out.mono ?_; rintro e w4 ⟨v4, rfl, hown, hb4⟩; have hr4 := hr3.keep hb4; clear hr3) | go_in)
    go_ret
    have hg5 := grown_from HB.out hg3
    exact ⟨_, rfl, by show w4.ownsRow _ _ 1 _ (takeW n a).length _; rw [HA.out]; exact owns_base hown hg5.size, grown_trans hg5 (grown_below _ hb4), hr4⟩
  · have hk' : ((k : Int) != 0) = true := by simp; omega
    have ha : a = [] := by
      have := rdBytes_none (capM M) 4 l (by rw [hby]; exact hk)
      rw [hby] at this
      exact (Prod.mk.inj this).1
    subst ha
    have hn0 : n = 0 := by simp at han; omega
    subst hn0
    clear hv hl h hb hM CN0 hby hwo h3 hal han hk
    go_enter Try.func25, Try.ntmps25
    go_wp2_with (first | (go_at_call 20; refine (err_any _ p _ _ (by assumption)).mono ?_; rintro e w' ⟨rfl, rfl⟩) | (go_at_call 38; refine (CN.out _ (by assumption)).mono ?_; rintro e w3 ⟨v', rfl, hd, hg3, hr3⟩; have CW2 := Lib.hid (CW.out _ _ hd); obtain ⟨a1, n1, c1, rfl⟩ := hd.form; clear hd hr) | (go_at_call 44; refine CW2.out.mono ?_; rintro e w4 ⟨v4, rfl, hown, hb4⟩; have hr4 := hr3.keep hb4; clear hr3) | go_in)
    go_ret
    have hg5 := grown_from HB.out hg3
    exact ⟨_, rfl, World.ownsRow_nil _ _ _ _, grown_trans hg5 (grown_below _ hb4), hr4⟩
end Go.Proofs.Ytjmmkebnebhfoaa.NR
