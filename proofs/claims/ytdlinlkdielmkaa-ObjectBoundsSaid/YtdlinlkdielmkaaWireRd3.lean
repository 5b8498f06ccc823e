/-
  A reader's calls: Var, Text, Word, Words, Left, in each state.
-/
import Derived.Test.YtdlinlkdielmkaaWireRd2
set_option linter.unusedSimpArgs false
set_option linter.unusedVariables false
namespace Go.Proofs.Ytdlinlkdielmkaa.NR
open Go.RowKit WM

theorem number_any (w : World) (p most : Nat) (l : List UInt8) (h : Rd w p l 0) (hm : most < 4294967296) (hl : l.length ≤ 9223372036854775807) :
    Calls Try.prog 89 #[.pointer (some ⟨p, 0, none⟩), .int .u32 (most : Int)] w (IsNumber w p most l) := by
  rcases find_last 5 l with h1 | ⟨ys, c, t, rfl, h1, h2, h3⟩
  · exact number_none w p most l h hl h1
  · exact number_some w p most ys t c h hm hl h1 h2 h3
theorem number_good (w : World) (p most n : Nat) (l l' : List UInt8) (h : Rd w p l 0) (hm : most < 4294967296) (hl : l.length ≤ 9223372036854775807) (hv : rdVar most l = (0, n, l')) :
    Calls Try.prog 89 #[.pointer (some ⟨p, 0, none⟩), .int .u32 (most : Int)] w fun en w' => en = .returned (.int .u32 (n : Int)) ∧ w.grownBy w' (some p) ∧ Rd w' p l' 0 :=
  (number_any w p most l h hm hl).mono fun en w' ⟨x, he, hg, hr, hx⟩ => by
    rw [hv] at hr hx
    rw [he, hx rfl]
    exact ⟨rfl, hg, hr⟩
theorem number_bad (w : World) (p most k n : Nat) (l l' : List UInt8) (h : Rd w p l 0) (hm : most < 4294967296) (hl : l.length ≤ 9223372036854775807) (hv : rdVar most l = (k, n, l')) :
    Calls Try.prog 89 #[.pointer (some ⟨p, 0, none⟩), .int .u32 (most : Int)] w fun en w' => ∃ x : Int, en = .returned (.int .u32 x) ∧ w.grownBy w' (some p) ∧ Rd w' p l' k :=
  (number_any w p most l h hm hl).mono fun en w' ⟨x, he, hg, hr, hx⟩ => by
    rw [hv] at hr
    exact ⟨x, he, hg, hr⟩
theorem below_new2 (w : World) (a b : Obj) : Below w.heap.size w ((w.alloc a).alloc b) := (below_new w a).alloc (by simp) b
theorem make_func : ∀ (fn : Fn) (first cap : Array Value) (w : World), (Instr.makeFunc fn first cap).run Try.prog w = .ok (.func fn first cap) w := fun _ _ _ _ => rfl
/-- what a call of a reader tells, and leaves -/
def Reads1 (w : World) (p : Nat) (v : Value) (e : Nat) (l : List UInt8) (en : Ending) (w' : World) : Prop := en = .returned v ∧ w.grownBy w' (some p) ∧ Rd w' p l e
theorem grown_from {w u w' : World} {row : Option Nat} (h : Below w.heap.size w u) (k : u.grownBy w' row) : w.grownBy w' row := grown_trans (grown_below row h) k
set_option maxRecDepth 100000 in
theorem rvar_good (w : World) (p most n : Nat) (l l' : List UInt8) (h : Rd w p l 0) (hm : most < 4294967296) (hl : l.length ≤ 9223372036854775807) (hv : rdVar most l = (0, n, l')) :
    Calls Try.prog 85 #[.pointer (some ⟨p, 0, none⟩), .int .u32 (most : Int)] w (Reads1 w p (.int .u32 (n : Int)) 0 l') := by
  have hb := below_new2 w (.cells #[.pointer (some ⟨p, 0, none⟩)] 69) (.cells #[.int .u32 (most : Int)] 43)
  have hr := h.keep hb
  have CN := Lib.hid (fun u (hu : Rd u p l 0) => number_good u p most n l l' hu hm hl hv)
  have HB := Lib.hid hb
  clear hv hl h hb
  have hmf := make_func
  generalize hMz : (most : Int) = M at *
  clear hMz hm
  go_enter Try.func85, Try.ntmps85
  go_wp2_with (first | (go_at_call 42; refine (err_any _ p _ _ (by assumption)).mono ?_; rintro e w' ⟨rfl, rfl⟩) | (go_at_call 89; refine (CN.out _ (by assumption)).mono ?_; rintro e w3 ⟨rfl, hg3, hr3⟩) | go_in)
  go_ret
  exact ⟨rfl, grown_from HB.out hg3, hr3⟩
set_option maxRecDepth 100000 in
theorem rvar_bad (w : World) (p most k n : Nat) (l l' : List UInt8) (h : Rd w p l 0) (hm : most < 4294967296) (hl : l.length ≤ 9223372036854775807) (hv : rdVar most l = (k, n, l')) (hk : k ≠ 0) :
    Calls Try.prog 85 #[.pointer (some ⟨p, 0, none⟩), .int .u32 (most : Int)] w (Reads1 w p (.int .u32 0) k l') := by
  have hb := below_new2 w (.cells #[.pointer (some ⟨p, 0, none⟩)] 69) (.cells #[.int .u32 (most : Int)] 43)
  have hr := h.keep hb
  have CN := Lib.hid (fun u (hu : Rd u p l 0) => number_bad u p most k n l l' hu hm hl hv)
  have HB := Lib.hid hb
  have hk' : ((k : Int) != 0) = true := by simp; omega
  clear hv hl h hb hk
  have hmf := make_func
  generalize hMz : (most : Int) = M at *
  clear hMz hm
  go_enter Try.func85, Try.ntmps85
  go_wp2_with (first | (go_at_call 42; refine (err_any _ p _ _ (by assumption)).mono ?_; rintro e w' ⟨rfl, rfl⟩) | (go_at_call 89; refine (CN.out _ (by assumption)).mono ?_; rintro e w3 ⟨x, rfl, hg3, hr3⟩; clear hr) | go_in)
  go_ret
  exact ⟨rfl, grown_from HB.out hg3, hr3⟩
/-- a reader that has given up, or is not there -/
def Dead (w : World) (q : Option Addr) (e : Nat) : Prop := (q = none ∧ e = 1) ∨ ∃ p l, q = some ⟨p, 0, none⟩ ∧ Rd w p l e ∧ e ≠ 0
theorem Dead.keep {w w' : World} {q : Option Addr} {e : Nat} (h : Dead w q e) (hk : Below w.heap.size w w') : Dead w' q e := by
  rcases h with h | ⟨p, l, h1, h2, h3⟩
  · exact Or.inl h
  · exact Or.inr ⟨p, l, h1, h2.keep hk, h3⟩
theorem err_dead (w : World) (q : Option Addr) (e : Nat) (h : Dead w q e) :
    Calls Try.prog 42 #[.pointer q] w fun en w' => en = .returned (.int .i64 (e : Int)) ∧ w = w' := by
  rcases h with ⟨rfl, rfl⟩ | ⟨p, l, rfl, h2, h3⟩
  · exact err_nil w
  · exact err_any w p l e h2
theorem Dead.ne {w : World} {q : Option Addr} {e : Nat} (h : Dead w q e) : ((e : Int) != 0) = true := by
  rcases h with ⟨_, rfl⟩ | ⟨p, l, rfl, h2, h3⟩
  · rfl
  · simp; omega
set_option maxRecDepth 100000 in
theorem rvar_dead (w : World) (q : Option Addr) (e : Nat) (h : Dead w q e) (M : Int) :
    Calls Try.prog 85 #[.pointer q, .int .u32 M] w fun en w' => en = .returned (.int .u32 0) ∧ Below w.heap.size w w' := by
  have hb := below_new2 w (.cells #[.pointer q] 69) (.cells #[.int .u32 M] 43)
  have hr := h.keep hb
  have HB := Lib.hid hb
  have hk' := h.ne
  clear h hb
  have hmf := make_func
  go_enter Try.func85, Try.ntmps85
  go_wp2_with (first | (go_at_call 42; refine (err_dead _ q e (by assumption)).mono ?_; rintro e w' ⟨rfl, rfl⟩) | go_in)
  go_ret
  exact ⟨rfl, HB.out⟩
set_option maxRecDepth 100000 in
theorem rtext_dead (w : World) (q : Option Addr) (e : Nat) (h : Dead w q e) (M : Int) :
    Calls Try.prog 63 #[.pointer q, .int .i64 M] w fun en w' => en = .returned (.string ⟨#[]⟩) ∧ Below w.heap.size w w' := by
  have hb := below_new2 w (.cells #[.pointer q] 69) (.cells #[.int .i64 M] 3)
  have hr := h.keep hb
  have HB := Lib.hid hb
  have hk' := h.ne
  clear h hb
  have hmf := make_func
  go_enter Try.func63, Try.ntmps63
  go_wp2_with (first | (go_at_call 42; refine (err_dead _ q e (by assumption)).mono ?_; rintro e w' ⟨rfl, rfl⟩) | go_in)
  go_ret
  exact ⟨rfl, HB.out⟩
set_option maxRecDepth 100000 in
theorem rword_dead (w : World) (q : Option Addr) (e : Nat) (h : Dead w q e) :
    Calls Try.prog 65 #[.pointer q] w fun en w' => en = .returned (.int .u32 0) ∧ Below w.heap.size w w' := by
  have hb := below_new w (.cells #[.pointer q] 69)
  have hr := h.keep hb
  have HB := Lib.hid hb
  have hk' := h.ne
  clear h hb
  have hmf := make_func
  go_enter Try.func65, Try.ntmps65
  go_wp2_with (first | (go_at_call 42; refine (err_dead _ q e (by assumption)).mono ?_; rintro e w' ⟨rfl, rfl⟩) | go_in)
  go_ret
  exact ⟨rfl, HB.out⟩
set_option maxRecDepth 100000 in
theorem rleft_dead (w : World) (q : Option Addr) (e : Nat) (h : Dead w q e) :
    Calls Try.prog 43 #[.pointer q] w fun en w' => en = .returned (.int .i64 0) ∧ Below w.heap.size w w' := by
  have hb := below_new w (.cells #[.pointer q] 69)
  have hr := h.keep hb
  have HB := Lib.hid hb
  have hk' := h.ne
  clear h hb
  have hmf := make_func
  go_enter Try.func43, Try.ntmps43
  go_wp2_with (first | (go_at_call 42; refine (err_dead _ q e (by assumption)).mono ?_; rintro e w' ⟨rfl, rfl⟩) | go_in)
  go_ret
  exact ⟨rfl, HB.out⟩
set_option maxRecDepth 100000 in
theorem rleft_good (w : World) (p : Nat) (l : List UInt8) (h : Rd w p l 0) :
    Calls Try.prog 43 #[.pointer (some ⟨p, 0, none⟩)] w fun en w' => en = .returned (.int .i64 (l.length : Nat)) ∧ Below w.heap.size w w' := by
  have hb := below_new w (.cells #[.pointer (some ⟨p, 0, none⟩)] 69)
  have hr := h.keep hb
  have HB := Lib.hid hb
  have hr2 := hr
  obtain ⟨v, h1, h2⟩ := hr2
  have hc0 := block_cell h1 0
  obtain ⟨a, c, rfl, _, _⟩ := h2.shape
  rw [u8s_len] at *
  simp only [List.getElem?_toArray, List.getElem?_cons_zero] at hc0
  clear h hb h1 h2
  have hmf := make_func
  generalize hm : l.length = m at *
  clear hm
  go_enter Try.func43, Try.ntmps43
  go_wp2_with (first | (go_at_call 42; refine (err_any _ p _ _ (by assumption)).mono ?_; rintro e w' ⟨rfl, rfl⟩) | go_in)
  go_ret
  exact ⟨rfl, HB.out⟩
end Go.Proofs.Ytdlinlkdielmkaa.NR
