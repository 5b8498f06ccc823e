/-
  The program's split: what is due, and the rest, by a search over a closure. Nothing here is a statement of the seed.
-/
import Derived.Test.YtcpkiepdpmaeoaaEpPC
import Derived.Deep.QuietTactic
set_option linter.unusedSimpArgs false
set_option linter.unusedVariables false
namespace Go.Proofs.Ytcpkiepdpmaeoaa.EP
open Go.RowKit WM NR OM OR EM ER EF
set_option maxHeartbeats 4000000
set_option maxRecDepth 10000
/-- is the one that waits behind? -/
def latB (q : Int × Bool) (x : Wt) : Bool := q.2 && decide (q.1 < x.ep)
theorem lat_pas (hs : List Hr) (hh : ∀ h ∈ hs, 0 ≤ h.ep) (x : Wt) (hx : 0 ≤ x.ep) : pasB hs x.ep = !latB (lstM hs) x := pas_lst0 hs hh x.ep hx
theorem filter_up {p : Wt → Bool} : ∀ (l : List Wt), l.Pairwise (fun x y => p y = true → p x = true) → l.filter p = l.take (l.countP p) ∧ l.filter (fun x => !p x) = l.drop (l.countP p)
  | [], _ => ⟨rfl, rfl⟩
  | x :: l, h => by
    rw [List.pairwise_cons] at h
    obtain ⟨i1, i2⟩ := filter_up l h.2
    by_cases hx : p x = true
    · rw [List.countP_cons_of_pos hx, List.filter_cons_of_pos hx, List.filter_cons_of_neg (by simp [hx]), List.take_succ_cons, List.drop_succ_cons, i1, i2]
      exact ⟨rfl, rfl⟩
    · have h0 : ∀ y ∈ l, ¬ p y = true := fun y hy hp => hx (h.1 y hy hp)
      have hz : (x :: l).countP p = 0 := by
        rw [List.countP_eq_zero]
        intro y hy
        rcases List.mem_cons.1 hy with rfl | hy
        · exact hx
        · exact h0 y hy
      rw [hz, List.take_zero, List.drop_zero]
      refine ⟨List.filter_eq_nil_iff.2 fun y hy => ?_, List.filter_eq_self.2 fun y hy => ?_⟩
      · rcases List.mem_cons.1 hy with rfl | hy
        · exact hx
        · exact h0 y hy
      · rcases List.mem_cons.1 hy with rfl | hy
        · simpa using hx
        · simpa using h0 y hy
theorem count_at (l : List Wt) (p : Wt → Bool) : (List.range l.length).countP (fun i => p (l.getD i EM.w0)) = l.countP p := by
  have h : l = (List.range l.length).map (fun i => l.getD i EM.w0) := by
    apply List.ext_getElem
    · simp
    · intro i h1 h2
      simp [List.getD_eq_getElem?_getD, List.getElem?_eq_getElem h1]
  conv => rhs; rw [h]
  rw [List.countP_map]
  rfl
/-- how many are due, and which -/
theorem due_take {c : Ck} {n : Nat} (hg : Gd c n) (hs : List Hr) (hh : ∀ h ∈ hs, 0 ≤ h.ep) : dueM hs c.l = (c.l.take (c.l.countP fun x => !latB (lstM hs) x)).map Wt.ow ∧ lefM hs c.l = c.l.drop (c.l.countP fun x => !latB (lstM hs) x) := by
  have hf : ∀ x ∈ c.l, pasB hs x.ep = !latB (lstM hs) x := fun x hx => lat_pas hs hh x (by have := (hg.bd x hx).1; omega)
  have hpw : c.l.Pairwise (fun x y => (!latB (lstM hs) y) = true → (!latB (lstM hs) x) = true) := hg.up.imp fun {x y} hxy hy => by
    unfold latB at *
    cases h2 : (lstM hs).2 with
    | false => rfl
    | true =>
      rw [h2] at hy
      simp at hy ⊢
      omega
  obtain ⟨i1, i2⟩ := filter_up c.l hpw
  unfold dueM lefM
  refine ⟨?_, ?_⟩
  · rw [← i1]
    congr 1
    exact List.filter_congr fun x hx => hf x hx
  · rw [← i2]
    exact List.filter_congr fun x hx => by rw [hf x hx]
/-- the closure -/
theorem behind_any {W : World} {b0 b1 b2 : Nat} {a : Option Addr} {n k : Nat} {l : List Wt} {G : Nat → Prop} {L : Int} {C : Bool} {i : Nat} (hi : i < n) (h : ReadsW G W (.slice a n k) l) (h0 : W.cell? ⟨b0, 0, none⟩ = some (.bool C)) (h1 : W.cell? ⟨b1, 0, none⟩ = some (.slice a n k)) (h2 : W.cell? ⟨b2, 0, none⟩ = some (.int .u64 L)) :
    Calls Try.prog 30 (#[.int .i64 i] ++ #[.pointer (some ⟨b0, 0, none⟩), .pointer (some ⟨b1, 0, none⟩), .pointer (some ⟨b2, 0, none⟩)]) W fun e u => e = .returned (.bool (latB (L, C) (l.getD i EM.w0))) ∧ ∃ q, u = W.drewN q := by
  obtain ⟨g, off, rfl, _, hnk, e1, e2⟩ := h.atG (u := W) (fun _ _ _ => rfl) hi
  have hiz : (i : Int) < (n : Int) := by omega
  generalize l.getD i EM.w0 = y at *
  clear h
  have hC : ∀ L C, latB (L, C) y = (C && decide (L < y.ep)) := fun _ _ => rfl
  rw [hC]
  generalize y.ep = ep at *
  cases C with
  | false =>
    go_enter Try.func30, Try.ntmps30
    go_upto_region 1 with fail
    go_quiet (fail)
    go_wp2_with fail
    go_ret
    exact ⟨by simp, _, rfl⟩
  | true =>
    go_enter Try.func30, Try.ntmps30
    go_upto_region 1 with fail
    go_quiet (fail)
    go_wp2_with fail
    go_ret
    exact ⟨by simp, _, rfl⟩
end Go.Proofs.Ytcpkiepdpmaeoaa.EP
