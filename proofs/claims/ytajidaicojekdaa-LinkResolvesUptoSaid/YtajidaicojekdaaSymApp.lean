/-
  Rows that grow: entries and texts appended to a row of a call's own; pieces of a slice of entries. Nothing here is a statement of the seed.
-/
import Derived.Test.YtajidaicojekdaaSymA
import Derived.Deep.Upon
import Derived.Lib.AppendZerosOnto
set_option linter.unusedSimpArgs false
set_option linter.unusedVariables false
namespace Go.Proofs.Ytajidaicojekdaa.SR
open Go.RowKit WM NR OM OR SM
set_option maxHeartbeats 4000000
set_option maxRecDepth 10000
theorem ReadsE.sub {G : Nat → Prop} {w : World} {v : Value} {l : List En} (h : ReadsE G w v l) (lo hi : Nat) (h1 : lo ≤ hi) (h2 : hi ≤ l.length) (cap : Nat) (a : Option Addr) (hv : v = .slice a l.length cap) :
    ReadsE G w (sliced a lo hi cap 5) ((l.take hi).drop lo) := by
  obtain ⟨a', cap', e, h3, h4, h5, h6⟩ := h
  rw [hv] at e
  simp only [Value.slice.injEq, true_and] at e
  obtain ⟨rfl, rfl⟩ := e
  have hl : ((l.take hi).drop lo).length = hi - lo := by rw [List.length_drop, List.length_take, Nat.min_eq_left h2]
  refine ⟨_, cap - lo, by rw [hl]; rfl, by rw [hl]; omega, by omega, ?_, ?_⟩
  · intro hn
    split at hn
    · omega
    · cases a with
      | none => have := h5 rfl; omega
      | some p => cases hn
  · by_cases h0 : lo = hi
    · exact Or.inl (List.length_eq_zero_iff.1 (by omega))
    · refine Or.inr ?_
      rcases h6 with h6 | ⟨g, off, ea, hg, hc⟩
      · subst h6; simp at h2; omega
      · subst ea
        refine ⟨g, off + lo * 5, ?_, hg, fun j hj => ?_⟩
        · rw [if_neg (by omega)]
          simp only [Option.map_some, Option.some.injEq]
          unfold Addr.add
          split
          · next hz => rw [hz]; rfl
          · rfl
        · rw [hl] at hj
          rw [Nat.add_assoc, hc (lo * 5 + j) (by omega), eC_drop, eC_take, List.getElem?_drop, List.getElem?_take_of_lt (by omega)]
theorem ReadsE.take {P : Program} {t : TypeId} {G : Nat → Prop} {w : World} {v : Value} {l : List En} (h : ReadsE G w v l) (ht : P.underlying t = some (.slice (P.elem t))) (hz : ∀ u, (sizeOf (P.elem t)).run P u = .ok 5 u) (k : Nat) (hk : k ≤ l.length) :
    ∃ a c, (∀ (K : IntKind) (u : World), (Instr.slice t v none (some (.int K (k : Int))) none).run P u = .ok (.slice a k c) u) ∧ ReadsE G w (.slice a k c) (l.take k) := by
  have h' := h
  obtain ⟨a, cap, rfl, h1, _⟩ := h
  have := ReadsE.sub h' 0 k (by omega) hk cap a rfl
  rw [List.drop_zero] at this
  refine ⟨_, _, fun K u => ?_, this⟩
  rw [run_slice_h (P := P) u t a l.length cap ht K (k : Int) (by omega) (by omega), hz]
  rfl
theorem ReadsE.drop {P : Program} {t : TypeId} {G : Nat → Prop} {w : World} {v : Value} {l : List En} (h : ReadsE G w v l) (ht : P.underlying t = some (.slice (P.elem t))) (hz : ∀ u, (sizeOf (P.elem t)).run P u = .ok 5 u) (k : Nat) (hk : k ≤ l.length) :
    ∃ a c, (∀ (K : IntKind) (u : World), (Instr.slice t v (some (.int K (k : Int))) none none).run P u = .ok (.slice a (l.length - k) c) u) ∧ ReadsE G w (.slice a (l.length - k) c) (l.drop k) := by
  have h' := h
  obtain ⟨a, cap, rfl, h1, _⟩ := h
  have := ReadsE.sub h' k l.length hk (Nat.le_refl _) cap a rfl
  rw [List.take_length] at this
  refine ⟨_, _, fun K u => ?_, this⟩
  rw [run_slice_l (P := P) u t a l.length cap ht K (k : Int) (by omega) (by omega), hz]
  rfl
theorem sizeEn : ∀ u, (sizeOf (Try.prog.elem 27)).run Try.prog u = .ok 5 u := fun _ => by kernel_rfl
theorem elemEn : Try.prog.underlying 27 = some (.slice (Try.prog.elem 27)) := by kernel_rfl
theorem infoEn : (Try.prog.info? 92).map (fun i => (i.zero, i.size, i.bytes)) = some (some (.agg #[.string ⟨#[]⟩, .string ⟨#[]⟩, .int .i64 0, .int .i64 0, .int .i64 0]), 5, 56) := by kernel_rfl
theorem infoStr : (Try.prog.info? 9).map (fun i => (i.zero, i.size, i.bytes)) = some (some (.string ⟨#[]⟩), 1, 16) := by kernel_rfl
theorem info_split {o : Option TypeInfo} {a : Option Value} {b c : Nat} (h : o.map (fun i => (i.zero, i.size, i.bytes)) = some (a, b, c)) : ∃ i, o = some i ∧ i.zero = a ∧ i.size = b ∧ i.bytes = c := by
  cases o with
  | none => simp at h
  | some i =>
    simp at h
    exact ⟨i, rfl, h.1, h.2.1, h.2.2⟩
/-- a slice of entries behind an address, as cells -/
theorem ReadsE.cells {G : Nat → Prop} {w : World} {p : Addr} {n c : Nat} {l : List En} (h : ReadsE G w (.slice (some p) n c) l) : ∀ j u, (eC l)[j]? = some u → w.cell? (p.add j) = some u := by
  obtain ⟨a, cap, e, h1, h2, h3, h4⟩ := h
  simp only [Value.slice.injEq] at e
  obtain ⟨rfl, rfl, rfl⟩ := e
  intro i u hi
  have hlt := (List.getElem?_eq_some_iff.1 hi).1
  rw [eC_len] at hlt
  rcases h4 with h4 | ⟨g, off, ea, hg, hc⟩
  · subst h4; simp at hlt
  · obtain rfl := Option.some.inj ea
    rw [Addr.add_lit, hc i hlt, hi]
theorem readsC {G : Nat → Prop} {w : World} {p : Addr} {n c : Nat} {xs : List Value} (h : Reads G w (.slice (some p) n c) xs) : ∀ j u, xs[j]? = some u → w.cell? (p.add j) = some u := by
  obtain ⟨a', cap, e, h1, h2, h3, h4⟩ := h
  simp only [Value.slice.injEq] at e
  obtain ⟨rfl, rfl, rfl⟩ := e
  intro j u hj
  have hlt := (List.getElem?_eq_some_iff.1 hj).1
  rcases h4 with h4 | ⟨g, off, ea, hg, hc⟩
  · rw [h4] at hj; simp at hj
  · obtain rfl := Option.some.inj ea
    rw [Addr.add_lit, hc j hlt, hj]
/-- the own row's slice: its length is within its room -/
theorem owns_le {u : World} {B : Nat} {e : TypeId} {size n : Nat} {v : Value} {xs : List Value} (h : u.ownsRow B e size v n xs) : ∃ a c, v = .slice a n c ∧ n ≤ c := by
  rcases h.2 with ⟨rfl, h0⟩ | ⟨g, cap, cur, rfl, hb, hh, h3, _⟩
  · exact ⟨none, 0, by rw [h0], by omega⟩
  · exact ⟨_, cap, rfl, h3⟩
/-- an append of whatever slice onto a row of the call's own -/
theorem app_row {e t ty : TypeId} {size bytes : Nat} {z : Value} (hi5 : (Try.prog.info? e).map (fun i => (i.zero, i.size, i.bytes)) = some (some z, size, bytes)) (ht : Try.prog.underlying t = some (.slice e)) (hzs : z.cells.size = size) (hsz : 0 < size)
    {u : World} {B n m c : Nat} {v : Value} {xs ys : List Value} {a : Option Addr} (hB : B ≤ u.heap.size) (ho : u.ownsRow B e size v n xs) (hl : ys.length = m * size) (hc : ∀ p, a = some p → ∀ j x, ys[j]? = some x → u.cell? (p.add j) = some x) (ha : a = none → m = 0 ∧ c = 0) (h1 : ∀ x ∈ ys, x.oneCell' = true) (hm : n + m ≤ maxLen) (hb : (n + m) * bytes ≤ 140737488355328) :
    ∃ v' u', (Builtin.append_ #[t, t] ty #[v, .slice a m c]).run Try.prog u = .ok v' u' ∧ u'.ownsRow B e size v' (n + m) (xs ++ ys) ∧ u.grownBy u' v.ownBlock := by
  obtain ⟨i0, hi, hz0, hz1, hz2⟩ := info_split hi5
  cases a with
  | none =>
    obtain ⟨rfl, rfl⟩ := ha rfl
    obtain rfl : ys = [] := List.length_eq_zero_iff.1 (by omega)
    obtain ⟨b, c', rfl, hle⟩ := owns_le ho
    exact ⟨_, u, run_append_nothing u t t ty e i0 ht hi b n c' hle (.slice none 0 0) (Src.ofNil u ht 0), by rw [List.append_nil]; exact ho, World.grownBy.refl _ _⟩
  | some p =>
    obtain ⟨v', u', hr, h2, h3, _⟩ := run_append_own (P := Try.prog) u B t ty e i0 z size bytes ht hi hz0 hz1 hz2 hzs hsz v n xs ho p m c ys hl (hc p rfl) h1 hm hb hB
    exact ⟨v', u', hr, h2, h3⟩
/-- entries -/
theorem app_ent {ty : TypeId} {u : World} {B n m c : Nat} {v : Value} {l ys : List En} {a : Option Addr} {G : Nat → Prop} (hB : B ≤ u.heap.size) (ho : u.ownsRow B 92 5 v n (eC l)) (hr : ReadsE G u (.slice a m c) ys) (hm : n + m ≤ 1000000) :
    ∃ v' u', (Builtin.append_ #[27, 27] ty #[v, .slice a m c]).run Try.prog u = .ok v' u' ∧ u'.ownsRow B 92 5 v' (n + m) (eC (l ++ ys)) ∧ u.grownBy u' v.ownBlock := by
  obtain ⟨n1, m1, m2⟩ := hr.len
  rw [eC_append]
  refine app_row (e := 92) infoEn Try.underlying27 rfl (by decide) hB ho (by rw [eC_len, n1]) (fun p e => by subst e; exact hr.cells) (fun e => ?_) (eC_one _) (by unfold maxLen; omega) (by omega)
  subst e
  obtain ⟨a', cap, e, _, _, h3, _⟩ := hr
  simp only [Value.slice.injEq] at e
  obtain ⟨rfl, _, rfl⟩ := e
  have := h3 rfl
  omega
/-- texts -/
theorem app_str {ty : TypeId} {u : World} {B n m c : Nat} {v : Value} {l ys : List (List UInt8)} {a : Option Addr} {G : Nat → Prop} (hB : B ≤ u.heap.size) (ho : u.ownsRow B 9 1 v n (strs l)) (hr : Reads G u (.slice a m c) (strs ys)) (hm : n + m ≤ 1000000) :
    ∃ v' u', (Builtin.append_ #[23, 23] ty #[v, .slice a m c]).run Try.prog u = .ok v' u' ∧ u'.ownsRow B 9 1 v' (n + m) (strs (l ++ ys)) ∧ u.grownBy u' v.ownBlock := by
  obtain ⟨n1, m1, m2⟩ := reads_len hr
  rw [strs_append]
  refine app_row (e := 9) infoStr Try.underlying23 rfl (by decide) hB ho (by omega) (fun p e => by subst e; exact readsC hr) (fun e => ?_) (strs_one _) (by unfold maxLen; omega) (by omega)
  subst e
  obtain ⟨a', cap, e, _, _, h3, _⟩ := hr
  simp only [Value.slice.injEq] at e
  obtain ⟨rfl, _, rfl⟩ := e
  have := h3 rfl
  omega
theorem owns_nil (u : World) (B : Nat) (e : TypeId) (size : Nat) : u.ownsRow B e size (.slice none 0 0) 0 [] := ⟨by simp, Or.inl ⟨rfl, rfl⟩⟩
/-- one entry that has just been laid -/
theorem one_ent (u : World) (e : En) (t : TypeId) : ReadsE (fun g => g = u.heap.size) (u.alloc (.cells #[.string (bs e.nm), .string (bs e.md), .int .i64 e.gate, .int .i64 e.idx, .int .i64 e.refs] t)) (.slice (some ⟨u.heap.size, 0, none⟩) 1 1) [e] := by
  refine ⟨_, 1, rfl, Nat.le_refl _, by simp [maxLen], (fun h => by cases h), Or.inr ⟨u.heap.size, 0, rfl, rfl, fun j hj => ?_⟩⟩
  rw [Nat.zero_add, (Whole.new u t _).cell j]
  rcases (show j = 0 ∨ j = 1 ∨ j = 2 ∨ j = 3 ∨ j = 4 by simp at hj; omega) with rfl | rfl | rfl | rfl | rfl <;> rfl
theorem one_str (u : World) (s : List UInt8) (t : TypeId) : Reads (fun g => g = u.heap.size) (u.alloc (.cells #[.string (bs s)] t)) (.slice (some ⟨u.heap.size, 0, none⟩) 1 1) (strs [s]) := by
  refine ⟨_, 1, rfl, Nat.le_refl _, by simp [maxLen], (fun h => by cases h), Or.inr ⟨u.heap.size, 0, rfl, rfl, fun j hj => ?_⟩⟩
  rw [Nat.zero_add, (Whole.new u t _).cell j]
  obtain rfl : j = 0 := by simp [strs] at hj; omega
  rfl
theorem owns_lt {u : World} {B : Nat} {e : TypeId} {size n : Nat} {v : Value} {xs : List Value} (h : u.ownsRow B e size v n xs) {g : Nat} (hg : v.ownBlock = some g) : B ≤ g ∧ g < u.heap.size := by
  rcases h.2 with ⟨rfl, _⟩ | ⟨g', cap, cur, rfl, hb, hh, _⟩
  · simp [Value.ownBlock] at hg
  · simp [Value.ownBlock] at hg
    subst hg
    exact ⟨hb, (Array.getElem?_eq_some_iff.1 hh).1⟩
theorem whole_kept {u u' : World} {b : Nat} {t : TypeId} {cs : Array Value} {r : Option Nat} (h : Whole u b t cs) (hg : u.grownBy u' r) (hr : ∀ g, r = some g → g ≠ b) : Whole u' b t cs := h.as (hg.block b h.lt (fun e => hr b e.symm rfl))
theorem below_grown {B B' : Nat} {a u u' : World} {e : TypeId} {size n : Nat} {v : Value} {xs : List Value} (h : Below B a u) (hB : B ≤ u.heap.size) (ho : u.ownsRow B' e size v n xs) (hBB : B ≤ B') (hg : u.grownBy u' v.ownBlock) : Below B a u' := h.grown hg hB fun k hk => Nat.le_trans hBB (owns_lt ho hk).1
theorem below_none {u u' : World} (hg : u.grownBy u' none) : Below u.heap.size u u' := (Below.refl _ _).grown hg (Nat.le_refl _) (fun k hk => by cases hk)
end Go.Proofs.Ytajidaicojekdaa.SR
