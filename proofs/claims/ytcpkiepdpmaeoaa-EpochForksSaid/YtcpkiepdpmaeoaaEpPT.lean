/-
  The program's clock of layer 17 in memory: an epoch and a row behind a pointer. Nothing here is a statement of the seed.
-/
import Derived.Test.YtcpkiepdpmaeoaaEpRet
set_option linter.unusedSimpArgs false
set_option linter.unusedVariables false
namespace Go.Proofs.Ytcpkiepdpmaeoaa.EP
open Go.RowKit WM NR OM OR EM ER EF
set_option maxHeartbeats 4000000
set_option maxRecDepth 10000
/-- the row of those that wait as a clock holds it: some cells of a block, behind an offset -/
def RowC (S : Nat → Prop) (u : World) (wa : Option Addr) (wn wc : Nat) (l : List Wt) : Prop :=
  l.length = wn ∧ wn ≤ wc ∧ wc ≤ maxLen ∧ (wa = none → wc = 0) ∧
    (wc = 0 ∨ ∃ g off cur, wa = some ⟨g, off, none⟩ ∧ S g ∧ Whole u g 52 cur ∧ off + wc * 2 ≤ cur.size ∧ ∀ j, j < wn * 2 → cur[off + j]? = (wC l)[j]?)
theorem RowC.nil (S : Nat → Prop) (u : World) : RowC S u none 0 0 [] := ⟨rfl, Nat.le_refl _, by simp [maxLen], fun _ => rfl, Or.inl rfl⟩
theorem RowC.as {S S' : Nat → Prop} {u u' : World} {wa : Option Addr} {wn wc : Nat} {l : List Wt} (h : RowC S u wa wn wc l) (hS : ∀ g, S g → g < u.heap.size → S' g) (hk : ∀ g, S g → (∃ cur, Whole u g 52 cur) → u'.heap[g]? = u.heap[g]?) : RowC S' u' wa wn wc l := by
  obtain ⟨h1, h2, h3, h4, h5⟩ := h
  refine ⟨h1, h2, h3, h4, ?_⟩
  rcases h5 with h5 | ⟨g, off, cur, e, hg, hw, hs, hc⟩
  · exact Or.inl h5
  · exact Or.inr ⟨g, off, cur, e, hS g hg hw.lt, hw.as (hk g hg ⟨cur, hw⟩), hs, hc⟩
theorem RowC.box {S : Nat → Prop} {u : World} {wa : Option Addr} {wn wc : Nat} {l : List Wt} (h : RowC S u wa wn wc l) {b i : Nat} {t : TypeId} {cs : Array Value} (hX : Whole u b t cs) (hne : 52 ≠ t) (y : Value) : RowC S (u.setCell ⟨b, i, none⟩ y) wa wn wc l :=
  h.as (fun _ hg _ => hg) fun g _ ⟨_, hw⟩ => Below.heap_setCell _ _ _ _ (show g ≠ b from Whole.ne_ hw hX hne)
theorem RowC.belowS {S : Nat → Prop} {u u' : World} {wa : Option Addr} {wn wc : Nat} {l : List Wt} (h : RowC S u wa wn wc l) (hb : Below u.heap.size u u') : RowC S u' wa wn wc l :=
  h.as (fun _ hg _ => hg) fun g _ ⟨_, hw⟩ => hb.block g hw.lt
theorem RowC.reads {S : Nat → Prop} {u : World} {wa : Option Addr} {wn wc : Nat} {l : List Wt} (h : RowC S u wa wn wc l) : ReadsW (fun g => S g ∧ g < u.heap.size) u (.slice wa wn wc) l := by
  obtain ⟨rfl, h2, h3, h4, h5⟩ := h
  refine ⟨wa, wc, rfl, h2, h3, h4, ?_⟩
  rcases h5 with h5 | ⟨g, off, cur, e, hg, hw, hs, hc⟩
  · exact Or.inl (List.length_eq_zero_iff.1 (by omega))
  · exact Or.inr ⟨g, off, e, ⟨hg, hw.lt⟩, fun i hi => (hw.cell _).trans (hc i hi)⟩
theorem RowC.of_owns {B : Nat} {u : World} {a : Option Addr} {n c : Nat} {l : List Wt} (h : u.ownsRow B 52 2 (.slice a n c) n (wC l)) : RowC (fun g => B ≤ g ∧ g < u.heap.size) u a n c l := by
  have hn : l.length = n := by have := h.1; rw [wC_len] at this; omega
  subst hn
  rcases h.2 with ⟨e, h0⟩ | ⟨g, cap, cur, e, hg, hcell, hcap, hcm, hsz, hcur⟩
  · simp only [Value.slice.injEq] at e
    obtain ⟨rfl, _, rfl⟩ := e
    exact ⟨rfl, by omega, by simp [maxLen], fun _ => rfl, Or.inl rfl⟩
  · simp only [Value.slice.injEq, true_and] at e
    obtain ⟨rfl, rfl⟩ := e
    refine ⟨rfl, hcap, hcm, (fun h => by cases h), Or.inr ⟨g, 0, cur, rfl, ⟨hg, Whole.lt hcell⟩, hcell, by omega, fun j hj => ?_⟩⟩
    rw [Nat.zero_add, ← hcur, List.getElem?_take_of_lt hj, Array.getElem?_toList]
theorem wC_drop : ∀ (l : List Wt) (k : Nat), wC (l.drop k) = (wC l).drop (k * 2)
  | l, 0 => by simp
  | [], k + 1 => by simp [wC]
  | x :: l, k + 1 => by
    have := wC_drop l k
    rw [List.drop_succ_cons, this, show (k + 1) * 2 = k * 2 + 2 by omega]
    simp [wC]
theorem wC_take : ∀ (l : List Wt) (k : Nat), wC (l.take k) = (wC l).take (k * 2)
  | l, 0 => by simp [wC]
  | [], k + 1 => by simp [wC]
  | x :: l, k + 1 => by
    have := wC_take l k
    rw [List.take_succ_cons, show (k + 1) * 2 = k * 2 + 2 by omega]
    simp [wC, this]
/-- what is left of the row when the first k are taken -/
theorem RowC.drop {S : Nat → Prop} {u : World} {wa : Option Addr} {wn wc : Nat} {l : List Wt} (h : RowC S u wa wn wc l) {k : Nat} (hk : k ≤ wn) : RowC S u (if wc = k then wa else wa.map (·.add (k * 2))) (wn - k) (wc - k) (l.drop k) := by
  obtain ⟨h1, h2, h3, h4, h5⟩ := h
  refine ⟨by rw [List.length_drop, h1], by omega, by omega, ?_, ?_⟩
  · intro e
    by_cases hc : wc = k
    · omega
    · rw [if_neg hc] at e
      cases wa with
      | none => have := h4 rfl; omega
      | some p => simp at e
  · by_cases hc : wc = k
    · left; omega
    · rcases h5 with h5 | ⟨g, off, cur, rfl, hg, hw, hs, hcu⟩
      · left; omega
      · right
        refine ⟨g, off + k * 2, cur, ?_, hg, hw, by omega, fun j hj => ?_⟩
        · rw [if_neg hc, Option.map_some, Addr.add_lit]
        · rw [wC_drop, List.getElem?_drop, Nat.add_assoc]
          exact hcu _ (by omega)
/-- the first k of them -/
theorem take_reads {G : Nat → Prop} {u : World} {wa : Option Addr} {wn wc : Nat} {l : List Wt} (h : ReadsW G u (.slice wa wn wc) l) {k : Nat} (hk : k ≤ wn) : ReadsW G u (.slice wa k wc) (l.take k) := by
  obtain ⟨a, cap, e, h1, h2, h3, h4⟩ := h
  simp only [Value.slice.injEq] at e
  obtain ⟨rfl, rfl, rfl⟩ := e
  have hl : (l.take k).length = k := by rw [List.length_take]; omega
  refine ⟨wa, wc, by rw [hl], by omega, h2, h3, ?_⟩
  rcases h4 with h4 | ⟨g, off, e, hg, hc⟩
  · left; subst h4; simp
  · right
    refine ⟨g, off, e, hg, fun i hi => ?_⟩
    rw [hl] at hi
    rw [wC_take, List.getElem?_take_of_lt hi]
    exact hc i (by omega)
/-- the parts of a clock -/
structure Pt (S : Nat → Prop) (u : World) (a : Nat) (wa : Option Addr) (wn wc : Nat) (c : Ck) : Prop where
  hd : Whole u a 62 #[.int .u64 c.now, .slice wa wn wc]
  row : RowC S u wa wn wc c.l
  sa : S a
  lt : ∀ g, S g → g < u.heap.size
/-- v is a clock of the program: its blocks are S's, it has c -/
def PT (S : Nat → Prop) (u : World) (v : Value) (c : Ck) : Prop := ∃ a wa wn wc, v = .pointer (some ⟨a, 0, none⟩) ∧ Pt S u a wa wn wc c
theorem PT.lt {S : Nat → Prop} {u : World} {v : Value} {c : Ck} (h : PT S u v c) : ∀ b, S b → b < u.heap.size := by
  obtain ⟨a, wa, wn, wc, _, h⟩ := h
  exact h.lt
theorem PT.form {S : Nat → Prop} {u : World} {v : Value} {c : Ck} (h : PT S u v c) : ∃ a, v = .pointer (some a) := by
  obtain ⟨a, wa, wn, wc, e, h⟩ := h
  exact ⟨_, e⟩
theorem Pt.keep {S : Nat → Prop} {u u' : World} {a : Nat} {wa : Option Addr} {wn wc : Nat} {c : Ck} (h : Pt S u a wa wn wc c) (hs : u.heap.size ≤ u'.heap.size) (hk : ∀ g, S g → u'.heap[g]? = u.heap[g]?) : Pt S u' a wa wn wc c :=
  ⟨h.hd.as (hk _ h.sa), h.row.as (fun _ hg _ => hg) (fun g hg _ => hk g hg), h.sa, fun g hg => Nat.lt_of_lt_of_le (h.lt g hg) hs⟩
theorem PT.keep {S : Nat → Prop} {u u' : World} {v : Value} {c : Ck} (h : PT S u v c) (hs : u.heap.size ≤ u'.heap.size) (hk : ∀ b, S b → u'.heap[b]? = u.heap[b]?) : PT S u' v c := by
  obtain ⟨a, wa, wn, wc, e, h⟩ := h
  exact ⟨a, wa, wn, wc, e, h.keep hs hk⟩
/-- what a call that changes the clock leaves -/
def Chg (S : Nat → Prop) (w : World) (v : Value) (c : Ck) (u : World) : Prop := ∃ S', PT S' u v c ∧ (∀ b, S' b → S b ∨ w.heap.size ≤ b) ∧ Fr S w u
/-- a list of those that wait, told: a row made since B, or nothing -/
def IsWt (B : Nat) (u : World) (q : Value) (l : List Wt) : Prop := ∃ a c, q = .slice a l.length c ∧ l.length ≤ c ∧ c ≤ maxLen ∧ (l = [] ∨ u.ownsRow B 52 2 q l.length (wC l))
/-- harts that a clock does not turn -/
abbrev RdH (S : Nat → Prop) (w : World) (a : Option Addr) (n c : Nat) (hs : List Hr) : Prop := ReadsH (fun g => ¬ S g ∧ g < w.heap.size) w (.slice a n c) hs
end Go.Proofs.Ytcpkiepdpmaeoaa.EP
