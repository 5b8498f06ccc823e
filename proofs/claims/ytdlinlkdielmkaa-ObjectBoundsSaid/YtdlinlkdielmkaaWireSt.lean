/-
  Both readers' calls in whatever state: what each tells, and the state behind it.
-/
import Derived.Test.YtdlinlkdielmkaaWireRef5
import Derived.Test.YtdlinlkdielmkaaWireRd5
set_option linter.unusedSimpArgs false
set_option linter.unusedVariables false
namespace Go.Proofs.Ytdlinlkdielmkaa.NR
open Go.RowKit WM

theorem refWords_good (G : Nat → Prop) (w : World) (v : Value) (l b : List UInt8) (ws : List Nat) (k : Nat) (M : Int) (hG : ∀ g, G g → g < w.heap.size) (hr : Reads G w v (u8s l)) (hM : -9223372036854775808 ≤ M ∧ M ≤ 9223372036854775807) (hl : l.length ≤ 140737488351232) (hv : rdWords (capM M) l = (k, ws, b)) :
    Calls Try.prog 46 #[.agg #[v, .int .i64 0], .int .i64 M] w (IsRefW G w k b ws) := by
  obtain ⟨k0, n, l', hvr⟩ : ∃ k n l', rdVar (capM M) l = (k, n, l') := ⟨_, _, _, rfl⟩
  unfold rdWords at hv
  rw [hvr] at hv
  by_cases hk : k0 = 0
  · subst hk
    simp only [if_true] at hv
    have hll : l'.length < l.length := by
      have e1 : (vr (capM M) 5 0 0 l).1 = 0 := congrArg (·.1) hvr
      have := (vr_good (capM M) 5 0 0 l e1).2.2
      have e2 : (vr (capM M) 5 0 0 l).2.2 = l' := congrArg (·.2.2) hvr
      rwa [e2] at this
    by_cases hn : 4 * n ≤ l'.length
    · rw [if_pos hn] at hv
      obtain ⟨rfl, h2⟩ := Prod.mk.inj hv
      obtain ⟨rfl, rfl⟩ := Prod.mk.inj h2
      exact refWords_loop G w v l l' n M hG hr hM hvr hn (by omega)
    · rw [if_neg hn] at hv
      obtain ⟨rfl, h2⟩ := Prod.mk.inj hv
      obtain ⟨rfl, rfl⟩ := Prod.mk.inj h2
      exact refWords_cut G w v l l' n M hG hr hM hvr (by omega)
  · simp only [if_neg hk] at hv
    obtain ⟨rfl, h2⟩ := Prod.mk.inj hv
    obtain ⟨rfl, rfl⟩ := Prod.mk.inj h2
    have hz := vr_none (capM M) 5 0 0 l (by have e1 : (vr (capM M) 5 0 0 l).1 = k0 := congrArg (·.1) hvr; rw [e1]; exact hk)
    have e2 : (n, l') = (0, []) := by
      have e3 : (vr (capM M) 5 0 0 l).2 = (n, l') := congrArg (·.2) hvr
      rw [← e3]; exact hz
    obtain ⟨rfl, rfl⟩ := Prod.mk.inj e2
    exact refWords_zero G w v [] 0 k0 M hG ⟨_, hr⟩ hk (fun u hu => rrVar_any G u v l (capM M) (fun g hg => Nat.lt_of_lt_of_le (hG g hg) hu.size) (reads_on hr hG hu) (capM_lt M) k0 0 [] hvr) hM
theorem refWords_dead (G : Nat → Prop) (w : World) (v : Value) (l : List UInt8) (e : Nat) (M : Int) (hG : ∀ g, G g → g < w.heap.size) (hr : Reads G w v (u8s l)) (hM : -9223372036854775808 ≤ M ∧ M ≤ 9223372036854775807) (he : e ≠ 0) :
    Calls Try.prog 46 #[.agg #[v, .int .i64 (e : Int)], .int .i64 M] w (IsRefW G w e l []) :=
  refWords_zero G w v l e e M hG ⟨_, hr⟩ he (fun u hu => rrVar_dead G u v l e _ (fun g hg => Nat.lt_of_lt_of_le (hG g hg) hu.size) (reads_on hr hG hu) he) hM

/-- a state: the error, what is left -/
def stVar (M : Nat) (e : Nat) (l : List UInt8) : Nat × Nat × List UInt8 := if e = 0 then rdVar M l else (e, 0, l)
def stText (M : Nat) (e : Nat) (l : List UInt8) : Nat × List UInt8 × List UInt8 := if e = 0 then rdBytes M 1 l else (e, [], l)
def stWord (e : Nat) (l : List UInt8) : Nat × Nat × List UInt8 := if e = 0 then rdWord l else (e, 0, l)
def stWords (M : Nat) (e : Nat) (l : List UInt8) : Nat × List Nat × List UInt8 := if e = 0 then rdWords M l else (e, [], l)
theorem dead_of {w : World} {p : Nat} {l : List UInt8} {e : Nat} (h : Rd w p l e) (he : e ≠ 0) : Dead w (some ⟨p, 0, none⟩) e := Or.inr ⟨p, l, rfl, h, he⟩
theorem rVar_st (w : World) (p : Nat) (l l' : List UInt8) (e e' n : Nat) (M : Int) (h : Rd w p l e) (hM : 0 ≤ M ∧ M < 4294967296) (hl : l.length ≤ 140737488355328) (hv : stVar M.toNat e l = (e', n, l')) :
    Calls Try.prog 85 #[.pointer (some ⟨p, 0, none⟩), .int .u32 M] w (Reads1 w p (.int .u32 (n : Int)) e' l') := by
  obtain ⟨m, rfl⟩ := Int.eq_ofNat_of_zero_le hM.1
  have hm : m < 4294967296 := by omega
  simp only [Int.toNat_natCast] at hv
  unfold stVar at hv
  by_cases he : e = 0
  · subst he
    rw [if_pos rfl] at hv
    by_cases hk : e' = 0
    · subst hk
      exact rvar_good w p m n l l' h hm (by omega) hv
    · have hz := vr_none m 5 0 0 l (by have e1 : (vr m 5 0 0 l).1 = e' := congrArg (·.1) hv; rw [e1]; exact hk)
      have e2 : (n, l') = (0, []) := by
        have e3 : (vr m 5 0 0 l).2 = (n, l') := congrArg (·.2) hv
        rw [← e3]; exact hz
      obtain ⟨rfl, rfl⟩ := Prod.mk.inj e2
      exact rvar_bad w p m e' 0 l [] h hm (by omega) hv hk
  · rw [if_neg he] at hv
    obtain ⟨rfl, h2⟩ := Prod.mk.inj hv
    obtain ⟨rfl, rfl⟩ := Prod.mk.inj h2
    exact (rvar_dead w _ e (dead_of h he) _).mono fun en w' ⟨h1, h2⟩ => ⟨h1, grown_below _ h2, h.keep h2⟩
theorem rText_st (w : World) (p : Nat) (l l' a : List UInt8) (e e' : Nat) (M : Int) (h : Rd w p l e) (hM : -9223372036854775808 ≤ M ∧ M ≤ 9223372036854775807) (hl : l.length ≤ 140737488355328) (hv : stText (capM M) e l = (e', a, l')) :
    Calls Try.prog 63 #[.pointer (some ⟨p, 0, none⟩), .int .i64 M] w (Reads1 w p (.string (bs a)) e' l') := by
  unfold stText at hv
  by_cases he : e = 0
  · subst he
    rw [if_pos rfl] at hv
    exact rtext_good w p M l a l' e' h hM (by omega) hv
  · rw [if_neg he] at hv
    obtain ⟨rfl, h2⟩ := Prod.mk.inj hv
    obtain ⟨rfl, rfl⟩ := Prod.mk.inj h2
    exact (rtext_dead w _ e (dead_of h he) _).mono fun en w' ⟨h1, h2⟩ => ⟨h1, grown_below _ h2, h.keep h2⟩
theorem rWord_st (w : World) (p : Nat) (l l' : List UInt8) (e e' n : Nat) (h : Rd w p l e) (hl : l.length ≤ 140737488355328) (hv : stWord e l = (e', n, l')) :
    Calls Try.prog 65 #[.pointer (some ⟨p, 0, none⟩)] w (Reads1 w p (.int .u32 (n : Int)) e' l') := by
  unfold stWord at hv
  by_cases he : e = 0
  · subst he
    rw [if_pos rfl] at hv
    exact rword_good w p l l' e' n h (by omega) hv
  · rw [if_neg he] at hv
    obtain ⟨rfl, h2⟩ := Prod.mk.inj hv
    obtain ⟨rfl, rfl⟩ := Prod.mk.inj h2
    exact (rword_dead w _ e (dead_of h he)).mono fun en w' ⟨h1, h2⟩ => ⟨h1, grown_below _ h2, h.keep h2⟩
theorem xVar_st (G : Nat → Prop) (w : World) (v : Value) (l l' : List UInt8) (e e' n : Nat) (M : Int) (hG : ∀ g, G g → g < w.heap.size) (hr : Reads G w v (u8s l)) (hM : 0 ≤ M ∧ M < 4294967296) (hv : stVar M.toNat e l = (e', n, l')) :
    Calls Try.prog 73 #[.agg #[v, .int .i64 (e : Int)], .int .u32 M] w (IsRef G w e' l' (.int .u32 (n : Int))) := by
  obtain ⟨m, rfl⟩ := Int.eq_ofNat_of_zero_le hM.1
  simp only [Int.toNat_natCast] at hv
  unfold stVar at hv
  by_cases he : e = 0
  · subst he
    rw [if_pos rfl] at hv
    exact rrVar_any G w v l m hG hr (by omega) e' n l' hv
  · rw [if_neg he] at hv
    obtain ⟨rfl, h2⟩ := Prod.mk.inj hv
    obtain ⟨rfl, rfl⟩ := Prod.mk.inj h2
    exact rrVar_dead G w v l e _ hG hr he
theorem xText_st (G : Nat → Prop) (w : World) (v : Value) (l l' a : List UInt8) (e e' : Nat) (M : Int) (hG : ∀ g, G g → g < w.heap.size) (hr : Reads G w v (u8s l)) (hM : -9223372036854775808 ≤ M ∧ M ≤ 9223372036854775807) (hv : stText (capM M) e l = (e', a, l')) :
    Calls Try.prog 44 #[.agg #[v, .int .i64 (e : Int)], .int .i64 M] w (IsRef G w e' l' (.string (bs a))) := by
  unfold stText at hv
  by_cases he : e = 0
  · subst he
    rw [if_pos rfl] at hv
    exact refText_good G w v l a l' e' M hG hr hM hv
  · rw [if_neg he] at hv
    obtain ⟨rfl, h2⟩ := Prod.mk.inj hv
    obtain ⟨rfl, rfl⟩ := Prod.mk.inj h2
    exact refText_dead G w v l e M hG hr he hM
theorem xWord_st (G : Nat → Prop) (w : World) (v : Value) (l l' : List UInt8) (e e' n : Nat) (hG : ∀ g, G g → g < w.heap.size) (hr : Reads G w v (u8s l)) (hv : stWord e l = (e', n, l')) :
    Calls Try.prog 76 #[.agg #[v, .int .i64 (e : Int)]] w (IsRef G w e' l' (.int .u32 (n : Int))) := by
  unfold stWord at hv
  by_cases he : e = 0
  · subst he
    rw [if_pos rfl] at hv
    exact refWord_good G w v l l' e' n hG hr hv
  · rw [if_neg he] at hv
    obtain ⟨rfl, h2⟩ := Prod.mk.inj hv
    obtain ⟨rfl, rfl⟩ := Prod.mk.inj h2
    exact refWord_dead G w v l e hG hr he
theorem xWords_st (G : Nat → Prop) (w : World) (v : Value) (l l' : List UInt8) (ws : List Nat) (e e' : Nat) (M : Int) (hG : ∀ g, G g → g < w.heap.size) (hr : Reads G w v (u8s l)) (hM : -9223372036854775808 ≤ M ∧ M ≤ 9223372036854775807) (hl : l.length ≤ 140737488351232) (hv : stWords (capM M) e l = (e', ws, l')) :
    Calls Try.prog 46 #[.agg #[v, .int .i64 (e : Int)], .int .i64 M] w (IsRefW G w e' l' ws) := by
  unfold stWords at hv
  by_cases he : e = 0
  · subst he
    rw [if_pos rfl] at hv
    exact refWords_good G w v l l' ws e' M hG hr hM hl hv
  · rw [if_neg he] at hv
    obtain ⟨rfl, h2⟩ := Prod.mk.inj hv
    obtain ⟨rfl, rfl⟩ := Prod.mk.inj h2
    exact refWords_dead G w v l e M hG hr hM he
end Go.Proofs.Ytdlinlkdielmkaa.NR
