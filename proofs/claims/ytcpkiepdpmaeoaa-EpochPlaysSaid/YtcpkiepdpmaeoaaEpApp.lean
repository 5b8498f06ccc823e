/-
  Rows that grow: owners and those that wait, appended to a row of a call's own. Nothing here is a statement of the seed.
-/
import Derived.Test.YtcpkiepdpmaeoaaEpRef
import Derived.Deep.Upon
import Derived.Lib.AppendZerosOnto
set_option linter.unusedSimpArgs false
set_option linter.unusedVariables false
namespace Go.Proofs.Ytcpkiepdpmaeoaa.EF
open Go.RowKit WM NR OM OR EM ER
set_option maxHeartbeats 4000000
set_option maxRecDepth 10000
theorem info_split {o : Option TypeInfo} {a : Option Value} {b c : Nat} (h : o.map (fun i => (i.zero, i.size, i.bytes)) = some (a, b, c)) : ∃ i, o = some i ∧ i.zero = a ∧ i.size = b ∧ i.bytes = c := by
  cases o with
  | none => simp at h
  | some i =>
    simp at h
    exact ⟨i, rfl, h.1, h.2.1, h.2.2⟩
theorem infoWt : (Try.prog.info? 67).map (fun i => (i.zero, i.size, i.bytes)) = some (some (.agg #[.int .u16 0, .int .u64 0]), 2, 16) := by kernel_rfl
theorem infoU16 : (Try.prog.info? 32).map (fun i => (i.zero, i.size, i.bytes)) = some (some (.int .u16 0), 1, 2) := by kernel_rfl
theorem owns_le {u : World} {B : Nat} {e : TypeId} {size n : Nat} {v : Value} {xs : List Value} (h : u.ownsRow B e size v n xs) : ∃ a c, v = .slice a n c ∧ n ≤ c := by
  rcases h.2 with ⟨rfl, h0⟩ | ⟨g, cap, cur, rfl, hb, hh, h3, _⟩
  · exact ⟨none, 0, by rw [h0], by omega⟩
  · exact ⟨_, cap, rfl, h3⟩
/-- an append of whatever slice onto a row of the call's own -/
theorem app_row {e t ty : TypeId} {size bytes : Nat} {z : Value} (hi5 : (Try.prog.info? e).map (fun i => (i.zero, i.size, i.bytes)) = some (some z, size, bytes)) (ht : Try.prog.underlying t = some (.slice e)) (hzs : z.cells.size = size) (hsz : 0 < size)
    {u : World} {B n m c : Nat} {v : Value} {xs ys : List Value} {a : Option Addr} (hB : B ≤ u.heap.size) (ho : u.ownsRow B e size v n xs) (hl : ys.length = m * size) (hc : ∀ p, a = some p → ∀ j x, ys[j]? = some x → u.cell? (p.add j) = some x) (ha : a = none → m = 0 ∧ c = 0) (h1 : ∀ x ∈ ys, x.oneCell' = true) (hm : n + m ≤ maxLen) (hb : (n + m) * bytes ≤ 140737488355328) :
    ∃ v' u', (Builtin.append_ #[t, t] ty #[v, .slice a m c]).run Try.prog u = .ok v' u' ∧ u'.ownsRow B e size v' (n + m) (xs ++ ys) ∧ u.grownBy u' v.ownBlock := by
  obtain ⟨i0, hi, hz0, hz1, hz2⟩ := info_split hi5
  cases a with
  | none =>
    obtain ⟨rfl, rfl⟩ := ha rfl
    obtain rfl : ys = [] := List.length_eq_zero_iff.1 (by omega)
    obtain ⟨b, c', rfl, hle⟩ := owns_le ho
    exact ⟨_, u, run_append_nothing u t t ty e i0 ht hi b n c' hle (.slice none 0 0) (Src.ofNil u ht 0), by rw [List.append_nil]; exact ho, World.grownBy.refl _ _⟩
  | some p =>
    obtain ⟨v', u', hr, h2, h3, _⟩ := run_append_own (P := Try.prog) u B t ty e i0 z size bytes ht hi hz0 hz1 hz2 hzs hsz v n xs ho p m c ys hl (hc p rfl) h1 hm hb hB
    exact ⟨v', u', hr, h2, h3⟩
theorem app_wt {ty : TypeId} {u : World} {B n m c : Nat} {v : Value} {l ys : List Wt} {a : Option Addr} {G : Nat → Prop} (hB : B ≤ u.heap.size) (ho : u.ownsRow B 67 2 v n (wC l)) (hr : ReadsW G u (.slice a m c) ys) (hm : n + m ≤ 1000000) :
    ∃ v' u', (Builtin.append_ #[27, 27] ty #[v, .slice a m c]).run Try.prog u = .ok v' u' ∧ u'.ownsRow B 67 2 v' (n + m) (wC (l ++ ys)) ∧ u.grownBy u' v.ownBlock := by
  obtain ⟨n1, m1, m2⟩ := hr.len
  rw [wC_append]
  refine app_row (e := 67) infoWt Try.underlying27 rfl (by decide) hB ho (by rw [wC_len, n1]) (fun p e => by subst e; exact hr.cells) (fun e => ?_) (wC_one _) (by unfold maxLen; omega) (by omega)
  subst e
  obtain ⟨a', cap, e, _, _, h3, _⟩ := hr
  simp only [Value.slice.injEq] at e
  obtain ⟨rfl, _, rfl⟩ := e
  have := h3 rfl
  omega
theorem owns_nil (u : World) (B : Nat) (e : TypeId) (size : Nat) : u.ownsRow B e size (.slice none 0 0) 0 [] := ⟨by simp, Or.inl ⟨rfl, rfl⟩⟩
theorem owns_lt {u : World} {B : Nat} {e : TypeId} {size n : Nat} {v : Value} {xs : List Value} (h : u.ownsRow B e size v n xs) {g : Nat} (hg : v.ownBlock = some g) : B ≤ g ∧ g < u.heap.size := by
  rcases h.2 with ⟨rfl, _⟩ | ⟨g', cap, cur, rfl, hb, hh, _⟩
  · simp [Value.ownBlock] at hg
  · simp [Value.ownBlock] at hg
    subst hg
    exact ⟨hb, (Array.getElem?_eq_some_iff.1 hh).1⟩
theorem whole_kept {u u' : World} {b : Nat} {t : TypeId} {cs : Array Value} {r : Option Nat} (h : Whole u b t cs) (hg : u.grownBy u' r) (hr : ∀ g, r = some g → g ≠ b) : Whole u' b t cs := h.as (hg.block b h.lt (fun e => hr b e.symm rfl))
theorem below_grown {B B' : Nat} {a u u' : World} {e : TypeId} {size n : Nat} {v : Value} {xs : List Value} (h : Below B a u) (hB : B ≤ u.heap.size) (ho : u.ownsRow B' e size v n xs) (hBB : B ≤ B') (hg : u.grownBy u' v.ownBlock) : Below B a u' := h.grown hg hB fun k hk => Nat.le_trans hBB (owns_lt ho hk).1
theorem below_none {u u' : World} (hg : u.grownBy u' none) : Below u.heap.size u u' := (Below.refl _ _).grown hg (Nat.le_refl _) (fun k hk => by cases hk)
theorem one_wt (u : World) (x : Wt) (t : TypeId) : ReadsW (fun g => g = u.heap.size) (u.alloc (.cells #[.int .u16 x.ow, .int .u64 x.ep] t)) (.slice (some ⟨u.heap.size, 0, none⟩) 1 1) [x] := by
  refine ⟨_, 1, rfl, Nat.le_refl _, by simp [maxLen], (fun h => by cases h), Or.inr ⟨u.heap.size, 0, rfl, rfl, fun j hj => ?_⟩⟩
  rw [Nat.zero_add, (Whole.new u t _).cell j]
  rcases (show j = 0 ∨ j = 1 by simp at hj; omega) with rfl | rfl <;> rfl
theorem own_form {w : World} {B : Nat} {e : TypeId} {size n : Nat} {v : Value} {xs : List Value} (h : w.ownsRow B e size v n xs) : ∃ a c, v = .slice a n c := by
  obtain ⟨a, c, h, _⟩ := owns_le h
  exact ⟨a, c, h⟩
theorem grown_set (w : World) (p : Nat) (i : Nat) (u : Value) : w.grownBy (w.setCell ⟨p, i, none⟩ u) (some p) :=
  ⟨rfl, rfl, rfl, by simp, fun g hg hr => Below.heap_setCell _ _ _ _ (fun e => hr (by rw [e]))⟩
theorem own_set {w : World} {B : Nat} {e : TypeId} {size n : Nat} {v : Value} {xs : List Value} (h : w.ownsRow B e size v n xs) {p i : Nat} (hp : p < B) (u : Value) : (w.setCell ⟨p, i, none⟩ u).ownsRow B e size v n xs :=
  h.kept (grown_set w p i u) (by
    cases hv : v.ownBlock with
    | none => exact Or.inl rfl
    | some g =>
      refine Or.inr fun hh => ?_
      have h1 := (h.lt g hv).1
      have h2 := Option.some.inj hh
      omega)
theorem owns_whole {u : World} {B : Nat} {e : TypeId} {size n : Nat} {v : Value} {xs : List Value} (h : u.ownsRow B e size v n xs) {g : Nat} (hg : v.ownBlock = some g) : ∃ cur, Whole u g e cur := by
  rcases h.2 with ⟨rfl, _⟩ | ⟨g', cap, cur, rfl, hb, hh, _⟩
  · simp [Value.ownBlock] at hg
  · simp [Value.ownBlock] at hg
    subst hg
    exact ⟨cur, hh⟩
theorem owns_ne {u : World} {B B' : Nat} {e e' : TypeId} {size size' n n' : Nat} {v v' : Value} {xs xs' : List Value} (h : u.ownsRow B e size v n xs) (h' : u.ownsRow B' e' size' v' n' xs') (hne : e ≠ e') : ∀ g, v.ownBlock = some g → v'.ownBlock ≠ some g := fun g hg hg' => by
  obtain ⟨c, hc⟩ := owns_whole h hg
  obtain ⟨c', hc'⟩ := owns_whole h' hg'
  exact Whole.ne_ hc hc' hne rfl
theorem owns_off {u u' : World} {B : Nat} {e : TypeId} {size n : Nat} {v : Value} {xs : List Value} {r : Option Nat} (h : u.ownsRow B e size v n xs) (hg : u.grownBy u' r) (hne : ∀ g, v.ownBlock = some g → r ≠ some g) : u'.ownsRow B e size v n xs := by
  refine ⟨h.1, ?_⟩
  rcases h.2 with h0 | ⟨g, cap, cur, rfl, hb, hh, h3, h4, h5, h6⟩
  · exact Or.inl h0
  · exact Or.inr ⟨g, cap, cur, rfl, hb, by rw [hg.block g (Array.getElem?_eq_some_iff.1 hh).1 (fun e => hne g rfl e.symm)]; exact hh, h3, h4, h5, h6⟩
theorem oneC (w : World) (u : Value) (t : TypeId) : ∀ j x, [u][j]? = some x → (w.alloc (.cells #[u] t)).cell? ((⟨w.heap.size, 0, none⟩ : Addr).add j) = some x := by
  intro j x hj
  cases j with
  | zero =>
    simp at hj
    subst hj
    exact (Whole.new w t #[u]).cell 0
  | succ j => simp at hj
/-- owners, told by a row of a call's own -/
theorem IsOw.of_owns {B n : Nat} {u : World} {v : Value} {l : List Int} (h : u.ownsRow B 32 1 v n (oC l)) : IsOw B u v l :=
  (Reads.of_owns h).there.mono fun g hg => ⟨hg.1.1, hg.2⟩
end Go.Proofs.Ytcpkiepdpmaeoaa.EF
