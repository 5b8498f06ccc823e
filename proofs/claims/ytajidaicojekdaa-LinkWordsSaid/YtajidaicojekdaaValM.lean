/-
  Joined texts: ValMath, ValMath2. Nothing here is a statement of the seed.
-/
import Derived.Test.YtajidaicojekdaaObjA
import Derived.Test.YtajidaicojekdaaIsaA
import Derived.Test.YtajidaicojekdaaNameM
set_option linter.unusedSimpArgs false
set_option linter.unusedVariables false
/-
  Modules that may be loaded, as lists: what is wrong with one, and where. Nothing here is a statement of the seed.
-/
namespace Go.Proofs.Ytajidaicojekdaa.VM
open OM
/-- the first place below n where p holds; -1: there is none -/
def ff (p : Nat → Bool) (n : Nat) : Int := match (List.range n).find? p with
  | some i => (i : Int)
  | none => -1
theorem ff_yes {p : Nat → Bool} {n i : Nat} (hi : i < n) (h : p i = true) (hb : ∀ j, j < i → p j = false) : ff p n = i := by
  unfold ff
  have e : (List.range n).find? p = some i := by
    rw [List.find?_range_eq_some]
    exact ⟨h, by simpa using hi, fun j hj => by rw [hb j hj]; rfl⟩
  rw [e]
theorem ff_no {p : Nat → Bool} {n : Nat} (h : ∀ j, j < n → p j = false) : ff p n = -1 := by
  unfold ff
  have e : (List.range n).find? p = none := by
    rw [List.find?_range_eq_none]
    exact fun j hj => by rw [h j hj]; rfl
  rw [e]
theorem ff_neg {p : Nat → Bool} {n : Nat} : ¬ 0 ≤ ff p n ↔ ∀ j, j < n → p j = false := by
  constructor
  · intro h j hj
    by_cases hp : ∃ i, i < n ∧ p i = true
    · exfalso
      apply h
      unfold ff
      cases e : (List.range n).find? p with
      | some i => simp
      | none =>
        obtain ⟨i, hi, hp⟩ := hp
        rw [List.find?_range_eq_none] at e
        have := e i hi
        rw [hp] at this
        simp at this
    · cases hh : p j
      · rfl
      · exact (hp ⟨j, hj, hh⟩).elim
  · intro h
    rw [ff_no h]
    omega
/-! the nine faults -/
def inC (k : Nat) : Bool := decide (k = 0 ∨ k = 1 ∨ k = 2 ∨ k = 3 ∨ k = 7)
def badN (l : List (List UInt8)) (i : Nat) : Bool := decide (NM.chk (l.getD i []) ≠ 0)
def dupB (l : List (List UInt8)) (i : Nat) : Bool := (List.range i).any fun k => decide (l.getD i [] = l.getD k [])
def nameF (m : Md) : Int := if NM.chk m.name ≠ 0 then 0 else if 0 ≤ ff (badN m.exps) m.exps.length then 1 + ff (badN m.exps) m.exps.length else if 0 ≤ ff (badN m.imps) m.imps.length then 9 + ff (badN m.imps) m.imps.length else -1
def twiceF (m : Md) : Int := if 0 ≤ ff (dupB m.exps) m.exps.length then ff (dupB m.exps) m.exps.length else if 0 ≤ ff (dupB m.imps) m.imps.length then 8 + ff (dupB m.imps) m.imps.length else -1
/-- a word's operation and number, as Decode tells them -/
def opW (x : Int) : Int := if IM.hasB x then IM.pO x else 0
def immW (x : Int) : Int := if IM.hasB x then IM.pM x else 0
def wordB (m : Md) (i : Nat) : Bool := !IM.hasB (m.code.getD i 0) || decide (opW (m.code.getD i 0) = 21)
def rl (m : Md) (i : Nat) : Rl := m.rels.getD i ⟨0, 0, 0⟩
def placeB (m : Md) (i : Nat) : Bool := decide ((if inC (rl m i).kind then m.code.length else m.data.length) ≤ (rl m i).at_) || (List.range i).any fun k => decide ((rl m k).at_ = (rl m i).at_) && (inC (rl m k).kind == inC (rl m i).kind)
def wantK (k : Nat) : Int := if k = 0 ∨ k = 7 then 17 else 2
def kindB (m : Md) (i : Nat) : Bool := if inC (rl m i).kind then decide (opW (m.code.getD (rl m i).at_ 0) ≠ wantK (rl m i).kind ∨ immW (m.code.getD (rl m i).at_ 0) ≠ 0) else decide (m.data.getD (rl m i).at_ 0 ≠ 0)
def most (m : Md) (k : Nat) : Nat := if k = 0 ∨ k = 1 ∨ k = 4 then m.imps.length else if k = 2 ∨ k = 5 then m.data.length else m.code.length
def whichB (m : Md) (i : Nat) : Bool := decide (most m (rl m i).kind ≤ (rl m i).wh)
def namedB (m : Md) (i : Nat) (n : Nat) : Bool := (List.range n).any fun k => decide ((rl m k).at_ = i) && inC (rl m k).kind
def looseB (m : Md) (i : Nat) : Bool := decide (opW (m.code.getD i 0) = 17) && !namedB m i m.rels.length
/-- the fault, and where -/
def vld (m : Md) : Int × Int :=
  if chkM m ≠ 0 then (1, 0)
  else if 0 ≤ nameF m then (2, nameF m)
  else if 0 ≤ twiceF m then (3, twiceF m)
  else if m.code.length = 0 ∨ m.code.length < m.exps.length then (4, 0)
  else if 0 ≤ ff (wordB m) m.code.length then (5, ff (wordB m) m.code.length)
  else if 0 ≤ ff (placeB m) m.rels.length then (6, ff (placeB m) m.rels.length)
  else if 0 ≤ ff (kindB m) m.rels.length then (7, ff (kindB m) m.rels.length)
  else if 0 ≤ ff (whichB m) m.rels.length then (8, ff (whichB m) m.rels.length)
  else if 0 ≤ ff (looseB m) m.code.length then (9, ff (looseB m) m.code.length)
  else (0, 0)
/-- a module that may be loaded -/
structure Good (m : Md) : Prop where
  ck : chkM m = 0
  nm : NM.chk m.name = 0
  ex : ∀ i, i < m.exps.length → badN m.exps i = false
  im : ∀ i, i < m.imps.length → badN m.imps i = false
  dx : ∀ i, i < m.exps.length → dupB m.exps i = false
  di : ∀ i, i < m.imps.length → dupB m.imps i = false
  c0 : 0 < m.code.length
  cx : m.exps.length ≤ m.code.length
  wd : ∀ i, i < m.code.length → wordB m i = false
  pl : ∀ i, i < m.rels.length → placeB m i = false
  kd : ∀ i, i < m.rels.length → kindB m i = false
  wh : ∀ i, i < m.rels.length → whichB m i = false
  lo : ∀ i, i < m.code.length → looseB m i = false
theorem nameF_neg {m : Md} : ¬ 0 ≤ nameF m ↔ NM.chk m.name = 0 ∧ (∀ i, i < m.exps.length → badN m.exps i = false) ∧ ∀ i, i < m.imps.length → badN m.imps i = false := by
  rw [← ff_neg, ← ff_neg]
  unfold nameF
  by_cases h1 : NM.chk m.name ≠ 0
  · rw [if_pos h1]
    constructor
    · intro h
      omega
    · intro h
      exact (h1 h.1).elim
  · rw [if_neg h1]
    by_cases h2 : 0 ≤ ff (badN m.exps) m.exps.length
    · rw [if_pos h2]
      constructor
      · intro h
        omega
      · intro h
        exact (h.2.1 h2).elim
    · rw [if_neg h2]
      by_cases h3 : 0 ≤ ff (badN m.imps) m.imps.length
      · rw [if_pos h3]
        constructor
        · intro h
          omega
        · intro h
          exact (h.2.2 h3).elim
      · rw [if_neg h3]
        exact ⟨fun _ => ⟨by omega, h2, h3⟩, fun _ => by omega⟩
theorem twiceF_neg {m : Md} : ¬ 0 ≤ twiceF m ↔ (∀ i, i < m.exps.length → dupB m.exps i = false) ∧ ∀ i, i < m.imps.length → dupB m.imps i = false := by
  rw [← ff_neg, ← ff_neg]
  unfold twiceF
  by_cases h2 : 0 ≤ ff (dupB m.exps) m.exps.length
  · rw [if_pos h2]
    constructor
    · intro h
      omega
    · intro h
      exact (h.1 h2).elim
  · rw [if_neg h2]
    by_cases h3 : 0 ≤ ff (dupB m.imps) m.imps.length
    · rw [if_pos h3]
      constructor
      · intro h
        omega
      · intro h
        exact (h.2 h3).elim
    · rw [if_neg h3]
      exact ⟨fun _ => ⟨h2, h3⟩, fun _ => by omega⟩
theorem Good.vld {m : Md} (h : Good m) : vld m = (0, 0) := by
  unfold VM.vld
  rw [if_neg (by rw [h.ck]; omega), if_neg (nameF_neg.2 ⟨h.nm, h.ex, h.im⟩), if_neg (twiceF_neg.2 ⟨h.dx, h.di⟩), if_neg (by have := h.c0; have := h.cx; omega), if_neg (ff_neg.2 h.wd), if_neg (ff_neg.2 h.pl), if_neg (ff_neg.2 h.kd), if_neg (ff_neg.2 h.wh), if_neg (ff_neg.2 h.lo)]
theorem good_of {m : Md} (h : (vld m).1 = 0) : Good m := by
  unfold VM.vld at h
  by_cases h1 : chkM m ≠ 0
  · rw [if_pos h1] at h; simp at h
  rw [if_neg h1] at h
  by_cases h2 : 0 ≤ nameF m
  · rw [if_pos h2] at h; simp at h
  rw [if_neg h2] at h
  by_cases h3 : 0 ≤ twiceF m
  · rw [if_pos h3] at h; simp at h
  rw [if_neg h3] at h
  by_cases h4 : m.code.length = 0 ∨ m.code.length < m.exps.length
  · rw [if_pos h4] at h; simp at h
  rw [if_neg h4] at h
  by_cases h5 : 0 ≤ ff (wordB m) m.code.length
  · rw [if_pos h5] at h; simp at h
  rw [if_neg h5] at h
  by_cases h6 : 0 ≤ ff (placeB m) m.rels.length
  · rw [if_pos h6] at h; simp at h
  rw [if_neg h6] at h
  by_cases h7 : 0 ≤ ff (kindB m) m.rels.length
  · rw [if_pos h7] at h; simp at h
  rw [if_neg h7] at h
  by_cases h8 : 0 ≤ ff (whichB m) m.rels.length
  · rw [if_pos h8] at h; simp at h
  rw [if_neg h8] at h
  by_cases h9 : 0 ≤ ff (looseB m) m.code.length
  · rw [if_pos h9] at h; simp at h
  obtain ⟨n1, n2, n3⟩ := nameF_neg.1 h2
  obtain ⟨t1, t2⟩ := twiceF_neg.1 h3
  exact ⟨by omega, n1, n2, n3, t1, t2, by omega, by omega, ff_neg.1 h5, ff_neg.1 h6, ff_neg.1 h7, ff_neg.1 h8, ff_neg.1 h9⟩
theorem good_iff {m : Md} : Good m ↔ (vld m).1 = 0 := ⟨fun h => by rw [h.vld], good_of⟩
/-! the bounds -/
theorem chk_mk {m : Md} (h1 : m.exps.length ≤ 8) (h2 : m.imps.length ≤ 16) (h3 : m.code.length ≤ 512) (h4 : m.data.length ≤ 128) (h5 : m.rels.length ≤ 256) (h6 : m.name.length ≤ 96) (h7 : ∀ s ∈ m.exps, s.length ≤ 96) (h8 : ∀ s ∈ m.imps, s.length ≤ 96) (h9 : ∀ r ∈ m.rels, r.kind ≤ 7) : chkM m = 0 := by
  have f1 : longB m.exps = false := by
    unfold longB
    rw [List.any_eq_false]
    intro s hs
    have := h7 s hs
    simp; omega
  have f2 : longB m.imps = false := by
    unfold longB
    rw [List.any_eq_false]
    intro s hs
    have := h8 s hs
    simp; omega
  have f3 : argB m = false := by
    unfold argB
    rw [List.any_eq_false]
    intro s hs
    have := h9 s hs
    simp; omega
  unfold chkM
  rw [f3]
  unfold farB manyB
  rw [f1, f2, decide_eq_false (by omega), decide_eq_false (by omega)]
  rfl
theorem chk_far {m : Md} (h : 8 < m.exps.length ∨ 16 < m.imps.length ∨ 512 < m.code.length ∨ 128 < m.data.length ∨ 256 < m.rels.length) : chkM m = 5 := by
  unfold chkM farB manyB
  rw [decide_eq_true h]
  rfl
theorem getD_app {α : Type} (l : List α) (a d : α) (i : Nat) : (l ++ [a]).getD i d = if i < l.length then l.getD i d else if i = l.length then a else d := by
  rw [List.getD_eq_getElem?_getD, List.getElem?_append]
  by_cases h : i < l.length
  · rw [if_pos h, if_pos h, List.getD_eq_getElem?_getD]
  · rw [if_neg h, if_neg h]
    by_cases e : i = l.length
    · rw [if_pos e, e, Nat.sub_self]; rfl
    · rw [if_neg e, List.getElem?_eq_none (by simp; omega)]; rfl
theorem getD_drop {α : Type} (l : List α) (d : α) (i : Nat) (h : i < l.length - 1) : l.dropLast.getD i d = l.getD i d := by
  rw [List.getD_eq_getElem?_getD, List.getD_eq_getElem?_getD, List.getElem?_dropLast, if_pos h]
end Go.Proofs.Ytajidaicojekdaa.VM

/-
  Modules that may be loaded, and what they become when something is put to them. Nothing here is a statement of the seed.
-/
namespace Go.Proofs.Ytajidaicojekdaa.VM
open OM
theorem wordB_no {m : Md} {i : Nat} : wordB m i = false ↔ IM.hasB (m.code.getD i 0) = true ∧ opW (m.code.getD i 0) ≠ 21 := by
  unfold wordB
  rw [Bool.or_eq_false_iff, decide_eq_false_iff_not]
  simp
theorem placeB_no {m : Md} {i : Nat} : placeB m i = false ↔ (rl m i).at_ < (if inC (rl m i).kind then m.code.length else m.data.length) ∧ ∀ k, k < i → ¬ ((rl m k).at_ = (rl m i).at_ ∧ inC (rl m k).kind = inC (rl m i).kind) := by
  unfold placeB
  rw [Bool.or_eq_false_iff, decide_eq_false_iff_not, List.any_eq_false]
  constructor
  · intro ⟨h1, h2⟩
    refine ⟨by omega, fun k hk hh => ?_⟩
    apply h2 k (by simpa using hk)
    rw [decide_eq_true hh.1, hh.2]
    simp
  · intro ⟨h1, h2⟩
    refine ⟨by omega, fun k hk hh => ?_⟩
    rw [Bool.and_eq_true, decide_eq_true_eq, beq_iff_eq] at hh
    exact h2 k (by simpa using hk) hh
theorem kindB_no {m : Md} {i : Nat} : kindB m i = false ↔ if inC (rl m i).kind then opW (m.code.getD (rl m i).at_ 0) = wantK (rl m i).kind ∧ immW (m.code.getD (rl m i).at_ 0) = 0 else m.data.getD (rl m i).at_ 0 = 0 := by
  unfold kindB
  by_cases h : inC (rl m i).kind = true
  · rw [if_pos h, if_pos h, decide_eq_false_iff_not]
    omega
  · rw [if_neg h, if_neg h, decide_eq_false_iff_not]
    omega
theorem whichB_no {m : Md} {i : Nat} : whichB m i = false ↔ (rl m i).wh < most m (rl m i).kind := by
  unfold whichB
  rw [decide_eq_false_iff_not]
  omega
theorem looseB_no {m : Md} {i : Nat} : looseB m i = false ↔ (opW (m.code.getD i 0) = 17 → ∃ k, k < m.rels.length ∧ (rl m k).at_ = i ∧ inC (rl m k).kind = true) := by
  unfold looseB namedB
  rw [Bool.and_eq_false_iff, decide_eq_false_iff_not, Bool.not_eq_false', List.any_eq_true]
  constructor
  · intro h ho
    rcases h with h | ⟨k, hk, hh⟩
    · exact (h ho).elim
    · rw [Bool.and_eq_true, decide_eq_true_eq] at hh
      exact ⟨k, by simpa using hk, hh⟩
  · intro h
    by_cases ho : opW (m.code.getD i 0) = 17
    · obtain ⟨k, hk, h1, h2⟩ := h ho
      exact Or.inr ⟨k, by simpa using hk, by rw [decide_eq_true h1, h2]; rfl⟩
    · exact Or.inl ho
theorem dupB_no {l : List (List UInt8)} {i : Nat} : dupB l i = false ↔ ∀ k, k < i → l.getD i [] ≠ l.getD k [] := by
  unfold dupB
  rw [List.any_eq_false]
  constructor
  · intro h k hk e
    exact h k (by simpa using hk) (decide_eq_true e)
  · intro h k hk e
    exact h k (by simpa using hk) (of_decide_eq_true e)
theorem badN_no {l : List (List UInt8)} {i : Nat} : badN l i = false ↔ NM.chk (l.getD i []) = 0 := by
  unfold badN
  rw [decide_eq_false_iff_not]
  omega
theorem hasB_zero : IM.hasB 0 = true := by decide +kernel
theorem opW_zero : opW 0 = 0 := by decide +kernel
theorem mem_getD {α : Type} {l : List α} {i : Nat} {d : α} (h : i < l.length) : l.getD i d ∈ l := by
  rw [List.getD_eq_getElem?_getD, List.getElem?_eq_getElem h]
  exact List.getElem_mem h
/-- a halt more -/
theorem good_halt {m : Md} (h : Good m) (hl : m.code.length < 512) : Good { m with code := m.code ++ [0] } := by
  obtain ⟨⟨k1, k2, k3, k4, k5⟩, k6, k7, k8, k9⟩ := chk_ok h.ck
  have hlen : (m.code ++ [0]).length = m.code.length + 1 := by simp
  refine ⟨chk_mk k1 k2 (by rw [hlen]; omega) k4 k5 k6 k7 k8 k9, h.nm, h.ex, h.im, h.dx, h.di, by rw [hlen]; omega, by rw [hlen]; have := h.cx; show m.exps.length ≤ _; omega, ?_, ?_, ?_, ?_, ?_⟩
  · intro i hi
    rw [hlen] at hi
    rw [wordB_no]
    show IM.hasB ((m.code ++ [0]).getD i 0 : Nat) = true ∧ opW ((m.code ++ [0]).getD i 0 : Nat) ≠ 21
    rw [getD_app]
    by_cases hh : i < m.code.length
    · rw [if_pos hh]
      exact wordB_no.1 (h.wd i hh)
    · rw [if_neg hh, if_pos (by omega)]
      refine ⟨hasB_zero, ?_⟩
      rw [show ((0 : Nat) : Int) = 0 from rfl, opW_zero]
      omega
  · intro i hi
    obtain ⟨h1, h2⟩ := placeB_no.1 (h.pl i hi)
    rw [placeB_no]
    refine ⟨?_, h2⟩
    show (rl m i).at_ < (if inC (rl m i).kind then (m.code ++ [0]).length else m.data.length)
    rw [hlen]
    by_cases hc : inC (rl m i).kind = true
    · rw [if_pos hc] at h1 ⊢
      omega
    · rw [if_neg hc] at h1 ⊢
      exact h1
  · intro i hi
    have h1 := (placeB_no.1 (h.pl i hi)).1
    have h2 := kindB_no.1 (h.kd i hi)
    rw [kindB_no]
    show if inC (rl m i).kind then opW ((m.code ++ [0]).getD (rl m i).at_ 0 : Nat) = wantK (rl m i).kind ∧ immW ((m.code ++ [0]).getD (rl m i).at_ 0 : Nat) = 0 else m.data.getD (rl m i).at_ 0 = 0
    by_cases hc : inC (rl m i).kind = true
    · rw [if_pos hc] at h1 h2 ⊢
      rw [getD_app, if_pos h1]
      exact h2
    · rw [if_neg hc] at h2 ⊢
      exact h2
  · intro i hi
    have h1 := whichB_no.1 (h.wh i hi)
    rw [whichB_no]
    show (rl m i).wh < most { m with code := m.code ++ [0] } (rl m i).kind
    refine Nat.lt_of_lt_of_le h1 ?_
    unfold most
    split
    · exact Nat.le_refl _
    · split
      · exact Nat.le_refl _
      · show m.code.length ≤ (m.code ++ [0]).length
        omega
  · intro i hi
    rw [hlen] at hi
    rw [looseB_no]
    show opW ((m.code ++ [0]).getD i 0 : Nat) = 17 → ∃ k, k < m.rels.length ∧ (rl m k).at_ = i ∧ inC (rl m k).kind = true
    rw [getD_app]
    by_cases hh : i < m.code.length
    · rw [if_pos hh]
      exact looseB_no.1 (h.lo i hh)
    · rw [if_neg hh, if_pos (by omega), show ((0 : Nat) : Int) = 0 from rfl, opW_zero]
      intro h0
      omega
/-- the last import less, if no relocation names it -/
theorem good_less {m : Md} (h : Good m) (hu : ∀ i, i < m.rels.length → (rl m i).kind = 0 ∨ (rl m i).kind = 1 ∨ (rl m i).kind = 4 → (rl m i).wh ≠ m.imps.length - 1) : Good { m with imps := m.imps.dropLast } := by
  obtain ⟨⟨k1, k2, k3, k4, k5⟩, k6, k7, k8, k9⟩ := chk_ok h.ck
  have hlen : m.imps.dropLast.length = m.imps.length - 1 := by simp
  refine ⟨chk_mk k1 (by show m.imps.dropLast.length ≤ 16; omega) k3 k4 k5 k6 k7 (fun s hs => k8 s (List.dropLast_subset _ hs)) k9, h.nm, h.ex, ?_, h.dx, ?_, h.c0, h.cx, h.wd, h.pl, h.kd, ?_, h.lo⟩
  · intro i hi
    have hi : i < m.imps.dropLast.length := hi
    rw [badN_no]
    show NM.chk (m.imps.dropLast.getD i []) = 0
    rw [getD_drop _ _ _ (by omega)]
    exact badN_no.1 (h.im i (by omega))
  · intro i hi
    have hi : i < m.imps.dropLast.length := hi
    rw [dupB_no]
    intro k hk
    show m.imps.dropLast.getD i [] ≠ m.imps.dropLast.getD k []
    rw [getD_drop _ _ _ (by omega), getD_drop _ _ _ (by omega)]
    exact dupB_no.1 (h.di i (by omega)) k hk
  · intro i hi
    have h1 := whichB_no.1 (h.wh i hi)
    have h2 := hu i hi
    rw [whichB_no]
    show (rl m i).wh < most { m with imps := m.imps.dropLast } (rl m i).kind
    unfold most at h1 ⊢
    by_cases hc : (rl m i).kind = 0 ∨ (rl m i).kind = 1 ∨ (rl m i).kind = 4
    · rw [if_pos hc] at h1 ⊢
      have := h2 hc
      show (rl m i).wh < m.imps.dropLast.length
      omega
    · rw [if_neg hc] at h1 ⊢
      exact h1
/-- a word of data more -/
theorem good_data {m : Md} (h : Good m) (x : Nat) : (vld { m with data := m.data ++ [x] }).1 = 0 ↔ m.data.length < 128 := by
  obtain ⟨⟨k1, k2, k3, k4, k5⟩, k6, k7, k8, k9⟩ := chk_ok h.ck
  have hlen : (m.data ++ [x]).length = m.data.length + 1 := by simp
  constructor
  · intro hv
    have hc := (good_of hv).ck
    have := (chk_ok hc).1.2.2.2.1
    have this : (m.data ++ [x]).length ≤ 128 := this
    omega
  · intro hl
    rw [← good_iff]
    refine ⟨chk_mk k1 k2 k3 (by show (m.data ++ [x]).length ≤ 128; omega) k5 k6 k7 k8 k9, h.nm, h.ex, h.im, h.dx, h.di, h.c0, h.cx, h.wd, ?_, ?_, ?_, h.lo⟩
    · intro i hi
      obtain ⟨h1, h2⟩ := placeB_no.1 (h.pl i hi)
      rw [placeB_no]
      refine ⟨?_, h2⟩
      show (rl m i).at_ < (if inC (rl m i).kind then m.code.length else (m.data ++ [x]).length)
      rw [hlen]
      by_cases hc : inC (rl m i).kind = true
      · rw [if_pos hc] at h1 ⊢
        exact h1
      · rw [if_neg hc] at h1 ⊢
        omega
    · intro i hi
      have h1 := (placeB_no.1 (h.pl i hi)).1
      have h2 := kindB_no.1 (h.kd i hi)
      rw [kindB_no]
      show if inC (rl m i).kind then opW (m.code.getD (rl m i).at_ 0 : Nat) = wantK (rl m i).kind ∧ immW (m.code.getD (rl m i).at_ 0 : Nat) = 0 else (m.data ++ [x]).getD (rl m i).at_ 0 = 0
      by_cases hc : inC (rl m i).kind = true
      · rw [if_pos hc] at h2 ⊢
        exact h2
      · rw [if_neg hc] at h1 h2 ⊢
        rw [getD_app, if_pos h1]
        exact h2
    · intro i hi
      have h1 := whichB_no.1 (h.wh i hi)
      rw [whichB_no]
      show (rl m i).wh < most { m with data := m.data ++ [x] } (rl m i).kind
      refine Nat.lt_of_lt_of_le h1 ?_
      unfold most
      split
      · exact Nat.le_refl _
      · split
        · show m.data.length ≤ (m.data ++ [x]).length
          omega
        · exact Nat.le_refl _
theorem vld_bounds {m : Md} (h : chkM m ≠ 0) : vld m = (1, 0) := by unfold vld; rw [if_pos h]
theorem vld_names {m : Md} (h : chkM m = 0) (h2 : 0 ≤ nameF m) : vld m = (2, nameF m) := by unfold vld; rw [if_neg (by omega), if_pos h2]
theorem vld_twice {m : Md} (h : chkM m = 0) (h2 : ¬ 0 ≤ nameF m) (h3 : 0 ≤ twiceF m) : vld m = (3, twiceF m) := by unfold vld; rw [if_neg (by omega), if_neg h2, if_pos h3]
theorem vld_places {m : Md} (h : chkM m = 0) (h2 : ¬ 0 ≤ nameF m) (h3 : ¬ 0 ≤ twiceF m) (h4 : ¬ (m.code.length = 0 ∨ m.code.length < m.exps.length)) (h5 : ¬ 0 ≤ ff (wordB m) m.code.length) (h6 : 0 ≤ ff (placeB m) m.rels.length) : (vld m).1 = 6 := by
  unfold vld
  rw [if_neg (by omega), if_neg h2, if_neg h3, if_neg h4, if_neg h5, if_pos h6]
/-- an import more -/
theorem vld_more {m : Md} (h : Good m) (s : List UInt8) : vld { m with imps := m.imps ++ [s] } = if m.imps.length = 16 ∨ 96 < s.length then (1, 0) else if NM.chk s ≠ 0 then (2, 9 + (m.imps.length : Int)) else if s ∈ m.imps then (3, 8 + (m.imps.length : Int)) else (0, 0) := by
  obtain ⟨⟨k1, k2, k3, k4, k5⟩, k6, k7, k8, k9⟩ := chk_ok h.ck
  have hlen : (m.imps ++ [s]).length = m.imps.length + 1 := by simp
  by_cases h1 : m.imps.length = 16 ∨ 96 < s.length
  · rw [if_pos h1]
    refine vld_bounds fun hc => ?_
    obtain ⟨⟨_, c2, _, _, _⟩, _, _, c8, _⟩ := chk_ok hc
    have c2 : (m.imps ++ [s]).length ≤ 16 := c2
    have c8 : s.length ≤ 96 := c8 s (by show s ∈ m.imps ++ [s]; simp)
    omega
  rw [if_neg h1]
  have hc : chkM { m with imps := m.imps ++ [s] } = 0 := chk_mk k1 (by show (m.imps ++ [s]).length ≤ 16; omega) k3 k4 k5 k6 k7 (fun z hz => by
    have hz : z ∈ m.imps ++ [s] := hz
    rw [List.mem_append, List.mem_singleton] at hz
    rcases hz with hz | rfl
    · exact k8 z hz
    · omega) k9
  have old : ∀ i, i < m.imps.length → badN (m.imps ++ [s]) i = false := fun i hi => by
    rw [badN_no, getD_app, if_pos hi]
    exact badN_no.1 (h.im i hi)
  have last : (m.imps ++ [s]).getD m.imps.length [] = s := by rw [getD_app, if_neg (by omega), if_pos rfl]
  have hex : ¬ 0 ≤ ff (badN m.exps) m.exps.length := ff_neg.2 h.ex
  by_cases h2 : NM.chk s ≠ 0
  · rw [if_pos h2]
    have hf : ff (badN (m.imps ++ [s])) (m.imps ++ [s]).length = (m.imps.length : Int) := ff_yes (by omega) (by unfold badN; rw [last]; exact decide_eq_true h2) old
    have hn : nameF { m with imps := m.imps ++ [s] } = 9 + (m.imps.length : Int) := by
      unfold nameF
      rw [if_neg (by rw [h.nm]; omega), if_neg hex, if_pos (by show 0 ≤ ff (badN (m.imps ++ [s])) (m.imps ++ [s]).length; omega)]
      show 9 + ff (badN (m.imps ++ [s])) (m.imps ++ [s]).length = _
      rw [hf]
    rw [vld_names hc (by rw [hn]; omega), hn]
  rw [if_neg h2]
  have hnm : ¬ 0 ≤ nameF { m with imps := m.imps ++ [s] } := nameF_neg.2 ⟨h.nm, h.ex, fun i hi => by
    have hi : i < (m.imps ++ [s]).length := hi
    show badN (m.imps ++ [s]) i = false
    by_cases hh : i < m.imps.length
    · exact old i hh
    · rw [badN_no, show i = m.imps.length by omega, last]
      omega⟩
  have oldd : ∀ i, i < m.imps.length → dupB (m.imps ++ [s]) i = false := fun i hi => by
    rw [dupB_no]
    intro k hk
    rw [getD_app, getD_app, if_pos hi, if_pos (by omega)]
    exact dupB_no.1 (h.di i hi) k hk
  have hdx : ¬ 0 ≤ ff (dupB m.exps) m.exps.length := ff_neg.2 h.dx
  by_cases h3 : s ∈ m.imps
  · rw [if_pos h3]
    have hf : ff (dupB (m.imps ++ [s])) (m.imps ++ [s]).length = (m.imps.length : Int) := by
      refine ff_yes (by omega) ?_ oldd
      unfold dupB
      rw [List.any_eq_true]
      obtain ⟨k, hk, hs⟩ := List.getElem_of_mem h3
      refine ⟨k, by simpa using hk, decide_eq_true ?_⟩
      rw [last, getD_app, if_pos hk, List.getD_eq_getElem?_getD, List.getElem?_eq_getElem hk, hs]
      rfl
    have hn : twiceF { m with imps := m.imps ++ [s] } = 8 + (m.imps.length : Int) := by
      unfold twiceF
      rw [if_neg hdx, if_pos (by show 0 ≤ ff (dupB (m.imps ++ [s])) (m.imps ++ [s]).length; omega)]
      show 8 + ff (dupB (m.imps ++ [s])) (m.imps ++ [s]).length = _
      rw [hf]
    rw [vld_twice hc hnm (by rw [hn]; omega), hn]
  rw [if_neg h3]
  refine Good.vld ⟨hc, h.nm, h.ex, (nameF_neg.1 hnm).2.2, h.dx, ?_, h.c0, h.cx, h.wd, h.pl, h.kd, ?_, h.lo⟩
  · intro i hi
    have hi : i < (m.imps ++ [s]).length := hi
    show dupB (m.imps ++ [s]) i = false
    by_cases hh : i < m.imps.length
    · exact oldd i hh
    · rw [dupB_no, show i = m.imps.length by omega, last]
      intro k hk e
      apply h3
      rw [e, getD_app, if_pos hk]
      exact mem_getD hk
  · intro i hi
    have h1 := whichB_no.1 (h.wh i hi)
    rw [whichB_no]
    show (rl m i).wh < most { m with imps := m.imps ++ [s] } (rl m i).kind
    refine Nat.lt_of_lt_of_le h1 ?_
    unfold most
    split
    · show m.imps.length ≤ (m.imps ++ [s]).length
      omega
    · split
      · exact Nat.le_refl _
      · exact Nat.le_refl _
/-- an export twice -/
theorem vld_exps {m : Md} (h : Good m) (h0 : 0 < m.exps.length) : (vld { m with exps := m.exps ++ [m.exps.getD 0 []] }).1 = 1 ∨ (vld { m with exps := m.exps ++ [m.exps.getD 0 []] }).1 = 3 := by
  by_cases hc : chkM { m with exps := m.exps ++ [m.exps.getD 0 []] } = 0
  · right
    have hlen : (m.exps ++ [m.exps.getD 0 []]).length = m.exps.length + 1 := by simp
    have last : (m.exps ++ [m.exps.getD 0 []]).getD m.exps.length [] = m.exps.getD 0 [] := by rw [getD_app, if_neg (by omega), if_pos rfl]
    have hnm : ¬ 0 ≤ nameF { m with exps := m.exps ++ [m.exps.getD 0 []] } := nameF_neg.2 ⟨h.nm, fun i hi => by
      have hi : i < (m.exps ++ [m.exps.getD 0 []]).length := hi
      show badN (m.exps ++ [m.exps.getD 0 []]) i = false
      rw [badN_no]
      by_cases hh : i < m.exps.length
      · rw [getD_app, if_pos hh]
        exact badN_no.1 (h.ex i hh)
      · rw [show i = m.exps.length by omega, last]
        exact badN_no.1 (h.ex 0 h0), h.im⟩
    have htw : 0 ≤ twiceF { m with exps := m.exps ++ [m.exps.getD 0 []] } := by
      by_cases ht : 0 ≤ twiceF { m with exps := m.exps ++ [m.exps.getD 0 []] }
      · exact ht
      · exfalso
        have := (twiceF_neg.1 ht).1 m.exps.length (by show _ < (m.exps ++ [m.exps.getD 0 []]).length; omega)
        have := dupB_no.1 this 0 h0
        apply this
        show (m.exps ++ [m.exps.getD 0 []]).getD m.exps.length [] = (m.exps ++ [m.exps.getD 0 []]).getD 0 []
        rw [last, getD_app, if_pos h0]
    rw [vld_twice hc hnm htw]
  · left
    rw [vld_bounds hc]
/-- an import twice -/
theorem vld_imps {m : Md} (h : Good m) (h0 : 0 < m.imps.length) : (vld { m with imps := m.imps ++ [m.imps.getD 0 []] }).1 = 1 ∨ (vld { m with imps := m.imps ++ [m.imps.getD 0 []] }).1 = 3 := by
  rw [vld_more h]
  split
  · exact Or.inl rfl
  · rw [if_neg (by rw [badN_no.1 (h.im 0 h0)]; omega), if_pos (mem_getD h0)]
    exact Or.inr rfl
/-- a relocation twice -/
theorem vld_rels {m : Md} (h : Good m) (h0 : 0 < m.rels.length) : (vld { m with rels := m.rels ++ [m.rels.getD 0 ⟨0, 0, 0⟩] }).1 = 1 ∨ (vld { m with rels := m.rels ++ [m.rels.getD 0 ⟨0, 0, 0⟩] }).1 = 6 := by
  by_cases hc : chkM { m with rels := m.rels ++ [m.rels.getD 0 ⟨0, 0, 0⟩] } = 0
  · right
    have hlen : (m.rels ++ [m.rels.getD 0 ⟨0, 0, 0⟩]).length = m.rels.length + 1 := by simp
    have hpl : 0 ≤ ff (placeB { m with rels := m.rels ++ [m.rels.getD 0 ⟨0, 0, 0⟩] }) (m.rels ++ [m.rels.getD 0 ⟨0, 0, 0⟩]).length := by
      by_cases ht : 0 ≤ ff (placeB { m with rels := m.rels ++ [m.rels.getD 0 ⟨0, 0, 0⟩] }) (m.rels ++ [m.rels.getD 0 ⟨0, 0, 0⟩]).length
      · exact ht
      · exfalso
        have := (placeB_no.1 (ff_neg.1 ht m.rels.length (by omega))).2 0 h0
        apply this
        unfold rl
        show ((m.rels ++ [m.rels.getD 0 ⟨0, 0, 0⟩]).getD 0 ⟨0, 0, 0⟩).at_ = ((m.rels ++ [m.rels.getD 0 ⟨0, 0, 0⟩]).getD m.rels.length ⟨0, 0, 0⟩).at_ ∧ inC ((m.rels ++ [m.rels.getD 0 ⟨0, 0, 0⟩]).getD 0 ⟨0, 0, 0⟩).kind = inC ((m.rels ++ [m.rels.getD 0 ⟨0, 0, 0⟩]).getD m.rels.length ⟨0, 0, 0⟩).kind
        rw [getD_app, getD_app, if_pos h0, if_neg (by omega), if_pos rfl]
        exact ⟨rfl, rfl⟩
    exact vld_places hc (nameF_neg.2 ⟨h.nm, h.ex, h.im⟩) (twiceF_neg.2 ⟨h.dx, h.di⟩) (by have := h.c0; have := h.cx; show ¬ (m.code.length = 0 ∨ m.code.length < m.exps.length); omega) (ff_neg.2 h.wd) hpl
  · left
    rw [vld_bounds hc]
end Go.Proofs.Ytajidaicojekdaa.VM
