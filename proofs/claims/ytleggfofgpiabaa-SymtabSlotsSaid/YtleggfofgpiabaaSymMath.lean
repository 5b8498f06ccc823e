/-
  Layer 13 as lists alone: entries, modules, what each call leaves. Nothing here is a statement of the seed, no function of the program is named.
-/
import Derived.Test.YtleggfofgpiabaaNameM
import Derived.Lib.Hide
set_option linter.unusedVariables false
set_option linter.unusedSimpArgs false
namespace Go.Proofs.Ytleggfofgpiabaa.SM
open NM
/-- a name that a module exports -/
structure En where
  nm : List UInt8
  md : List UInt8
  gate : Int
  idx : Int
  refs : Int
deriving DecidableEq
abbrev e0 : En := ⟨[], [], 0, 0, 0⟩
/-- modules, and entries in order -/
structure Tb where
  mods : List (List UInt8)
  L : List En
/-- the place of a name's entry; -1: there is none -/
def plc : List En → List UInt8 → Int
  | [], _ => -1
  | e :: l, s => if e.nm = s then 0 else if plc l s < 0 then -1 else plc l s + 1
theorem plc_ge : ∀ (l : List En) (s : List UInt8), -1 ≤ plc l s
  | [], s => by simp [plc]
  | e :: l, s => by
    have := plc_ge l s
    unfold plc
    split
    · omega
    · split <;> omega
theorem plc_lt : ∀ (l : List En) (s : List UInt8), plc l s < l.length
  | [], s => by simp [plc]
  | e :: l, s => by
    have := plc_lt l s
    unfold plc
    simp only [List.length_cons]
    split
    · omega
    · split <;> omega
theorem plc_yes : ∀ (l : List En) (s : List UInt8) (k : Nat), k < l.length → (l.getD k e0).nm = s → (∀ j, j < k → (l.getD j e0).nm ≠ s) → plc l s = (k : Int)
  | [], s, k, h, _, _ => by simp at h
  | e :: l, s, 0, h, h1, h2 => by
    simp at h1
    simp [plc, h1]
  | e :: l, s, k + 1, h, h1, h2 => by
    have ih := plc_yes l s k (by simpa using h) (by simpa using h1) (fun j hj => by simpa using h2 (j + 1) (by omega))
    have h3 := h2 0 (by omega)
    simp at h3
    unfold plc
    rw [if_neg h3, ih, if_neg (by omega)]
    simp
theorem plc_no : ∀ (l : List En) (s : List UInt8), (∀ j, j < l.length → (l.getD j e0).nm ≠ s) → plc l s = -1
  | [], s, _ => rfl
  | e :: l, s, h => by
    have ih := plc_no l s fun j hj => by simpa using h (j + 1) (by simpa using hj)
    have h3 := h 0 (by simp)
    simp at h3
    unfold plc
    rw [if_neg h3, ih, if_pos (by omega)]
theorem plc_at : ∀ (l : List En) (s : List UInt8), 0 ≤ plc l s → (l.getD (plc l s).toNat e0).nm = s
  | [], s, h => by simp [plc] at h
  | e :: l, s, h => by
    unfold plc at h ⊢
    by_cases h1 : e.nm = s
    · rw [if_pos h1]; simpa using h1
    · rw [if_neg h1] at h ⊢
      by_cases h2 : plc l s < 0
      · rw [if_pos h2] at h; omega
      · rw [if_neg h2] at h ⊢
        have ih := plc_at l s (by omega)
        have e : (plc l s + 1).toNat = (plc l s).toNat + 1 := by omega
        rw [e]
        simpa using ih
theorem plc_mem {l : List En} {s : List UInt8} : 0 ≤ plc l s ↔ ∃ e ∈ l, e.nm = s := by
  constructor
  · intro h
    have h1 := plc_lt l s
    refine ⟨l.getD (plc l s).toNat e0, ?_, plc_at l s h⟩
    have h2 : (plc l s).toNat < l.length := by omega
    rw [List.getD_eq_getElem?_getD, List.getElem?_eq_getElem h2]
    exact List.getElem_mem h2
  · rintro ⟨e, he, rfl⟩
    by_cases h : 0 ≤ plc l e.nm
    · exact h
    · exfalso
      induction l with
      | nil => cases he
      | cons x l ih =>
        unfold plc at h
        by_cases hx : x.nm = e.nm
        · rw [if_pos hx] at h; omega
        · rw [if_neg hx] at h
          rcases List.mem_cons.1 he with rfl | he
          · exact hx rfl
          · by_cases h2 : plc l e.nm < 0
            · exact ih he (by omega)
            · rw [if_neg h2] at h; omega
/-- names alone make the place -/
theorem plc_names : ∀ {l l' : List En} (s : List UInt8), l.map (·.nm) = l'.map (·.nm) → plc l s = plc l' s
  | [], [], s, _ => rfl
  | [], _ :: _, s, h => by simp at h
  | _ :: _, [], s, h => by simp at h
  | a :: l, b :: l', s, h => by
    simp only [List.map_cons, List.cons.injEq] at h
    unfold plc
    rw [h.1, plc_names s h.2]
/-- all that a module is held -/
def refsM : List En → List UInt8 → Int
  | [], _ => 0
  | e :: l, m => (if e.md = m then e.refs else 0) + refsM l m
theorem refsM_append : ∀ (a b : List En) (m : List UInt8), refsM (a ++ b) m = refsM a m + refsM b m
  | [], b, m => by simp [refsM]
  | e :: a, b, m => by simp only [List.cons_append, refsM, refsM_append a b m]; omega
theorem take_succ_getD {α : Type} (l : List α) (d : α) (k : Nat) (h : k < l.length) : l.take (k + 1) = l.take k ++ [l.getD k d] := by
  rw [List.take_add_one, List.getElem?_eq_getElem h, List.getD_eq_getElem?_getD, List.getElem?_eq_getElem h]
  rfl
theorem refsM_take (l : List En) (m : List UInt8) (k : Nat) (h : k < l.length) : refsM (l.take (k + 1)) m = refsM (l.take k) m + (if (l.getD k e0).md = m then (l.getD k e0).refs else 0) := by
  rw [take_succ_getD l e0 k h, refsM_append]
  simp [refsM]
theorem refsM_bd : ∀ (l : List En) (m : List UInt8), (∀ e ∈ l, 0 ≤ e.refs ∧ e.refs ≤ 8) → 0 ≤ refsM l m ∧ refsM l m ≤ 8 * (l.length : Int)
  | [], m, _ => by simp [refsM]
  | e :: l, m, h => by
    have ih := refsM_bd l m fun x hx => h x (List.mem_cons_of_mem _ hx)
    have h1 := h e (List.mem_cons_self ..)
    simp only [refsM, List.length_cons]
    split <;> omega
/-- one entry more, in order -/
def putL (l : List En) (e : En) : List En := l.takeWhile (fun x => lessB x.nm e.nm) ++ e :: l.dropWhile (fun x => lessB x.nm e.nm)
theorem putL_at : ∀ (l : List En) (e : En) (k : Nat), k ≤ l.length → (∀ j, j < k → lessB (l.getD j e0).nm e.nm = true) → (k = l.length ∨ lessB (l.getD k e0).nm e.nm = false) → putL l e = l.take k ++ e :: l.drop k
  | [], e, k, h, _, _ => by
    obtain rfl : k = 0 := by simpa using h
    rfl
  | x :: l, e, 0, h, _, h2 => by
    have h3 : lessB x.nm e.nm = false := by
      rcases h2 with h2 | h2
      · simp at h2
      · simpa using h2
    simp [putL, h3]
  | x :: l, e, k + 1, h, h1, h2 => by
    have ih := putL_at l e k (by simpa using h) (fun j hj => by simpa using h1 (j + 1) (by omega)) (by
      rcases h2 with h2 | h2
      · left; simpa using h2
      · right; simpa using h2)
    have h3 : lessB x.nm e.nm = true := by simpa using h1 0 (by omega)
    unfold putL at ih ⊢
    simp only [List.takeWhile_cons, h3, if_true, List.dropWhile_cons, List.take_succ_cons, List.drop_succ_cons, List.cons_append]
    rw [ih]
theorem putL_len (l : List En) (e : En) : (putL l e).length = l.length + 1 := by
  have := congrArg List.length (List.takeWhile_append_dropWhile (p := fun x : En => lessB x.nm e.nm) (l := l))
  simp only [List.length_append] at this
  unfold putL
  simp only [List.length_append, List.length_cons]
  omega
theorem putL_mem {l : List En} {e x : En} : x ∈ putL l e ↔ x = e ∨ x ∈ l := by
  have h : x ∈ l ↔ x ∈ l.takeWhile (fun x => lessB x.nm e.nm) ∨ x ∈ l.dropWhile (fun x => lessB x.nm e.nm) := by
    rw [← List.mem_append, List.takeWhile_append_dropWhile]
  unfold putL
  rw [h]
  simp only [List.mem_append, List.mem_cons]
  constructor
  · rintro (h | h | h)
    · exact Or.inr (Or.inl h)
    · exact Or.inl h
    · exact Or.inr (Or.inr h)
  · rintro (h | h | h)
    · exact Or.inr (Or.inl h)
    · exact Or.inl h
    · exact Or.inr (Or.inr h)
theorem putL_filter (l : List En) (e : En) (p : En → Bool) (h : p e = false) : (putL l e).filter p = l.filter p := by
  have := congrArg (List.filter p) (List.takeWhile_append_dropWhile (p := fun x : En => lessB x.nm e.nm) (l := l))
  unfold putL
  rw [List.filter_append, List.filter_cons, h]
  rw [List.filter_append] at this
  simpa using this
/-- all exports of a module, one behind the other -/
def putAll (m : List UInt8) (g : Int) : List En → Int → List (List UInt8) → List En
  | l, _, [] => l
  | l, i, x :: xs => putAll m g (putL l ⟨x, m, g, i, 0⟩) (i + 1) xs
theorem putAll_append (m : List UInt8) (g : Int) : ∀ (xs ys : List (List UInt8)) (l : List En) (i : Int), putAll m g l i (xs ++ ys) = putAll m g (putAll m g l i xs) (i + xs.length) ys
  | [], ys, l, i => by simp [putAll]
  | x :: xs, ys, l, i => by
    simp only [List.cons_append, putAll, putAll_append m g xs ys, List.length_cons]
    congr 1
    omega
theorem putAll_take (m : List UInt8) (g : Int) (l : List En) (xs : List (List UInt8)) (k : Nat) (h : k < xs.length) : putAll m g l 0 (xs.take (k + 1)) = putL (putAll m g l 0 (xs.take k)) ⟨xs.getD k [], m, g, (k : Int), 0⟩ := by
  rw [take_succ_getD xs [] k h, putAll_append, List.length_take, Nat.min_eq_left (by omega), Int.zero_add]
  rfl
theorem putAll_len (m : List UInt8) (g : Int) : ∀ (xs : List (List UInt8)) (l : List En) (i : Int), (putAll m g l i xs).length = l.length + xs.length
  | [], l, i => rfl
  | x :: xs, l, i => by rw [putAll, putAll_len m g xs, putL_len, List.length_cons]; omega
/-- is a name the same as one ahead of it -/
def dupB (l : List (List UInt8)) : Bool := !decide l.Nodup
theorem dupB_nil : dupB [] = false := rfl
theorem nodup_snoc {α : Type} (l : List α) (x : α) : (l ++ [x]).Nodup ↔ l.Nodup ∧ x ∉ l := by
  rw [List.nodup_append]
  constructor
  · rintro ⟨h1, _, h3⟩
    exact ⟨h1, fun hx => h3 x hx x (by simp) rfl⟩
  · rintro ⟨h1, h2⟩
    refine ⟨h1, by simp, fun a ha b hb => ?_⟩
    simp at hb
    subst hb
    rintro rfl
    exact h2 ha
theorem dupB_take (l : List (List UInt8)) (k : Nat) (h : k < l.length) : dupB (l.take (k + 1)) = (dupB (l.take k) || decide (l.getD k [] ∈ l.take k)) := by
  unfold dupB
  rw [take_succ_getD l [] k h]
  by_cases h1 : (l.take k).Nodup <;> by_cases h2 : l.getD k [] ∈ l.take k <;> simp [nodup_snoc, h1, h2]
theorem mem_take_succ {α : Type} (l : List α) (d : α) (k : Nat) (h : k < l.length) (x : α) : x ∈ l.take (k + 1) ↔ x ∈ l.take k ∨ x = l.getD k d := by
  rw [take_succ_getD l d k h]
  simp
/-- one more, or one fewer, for each name that stands there -/
def cntF (by_ : Int) : List En → List (List UInt8) → List En × Int
  | l, [] => (l, 0)
  | l, n :: ns =>
    let k := (plc l n).toNat
    let e := l.getD k e0
    if 8 < e.refs + by_ then (l, 25) else if e.refs + by_ < 0 then (l, 2) else cntF by_ (l.set k { e with refs := e.refs + by_ }) ns
theorem cntF_cons (by_ : Int) (l : List En) (n : List UInt8) (ns : List (List UInt8)) : cntF by_ l (n :: ns) = (if 8 < (l.getD (plc l n).toNat e0).refs + by_ then (l, 25) else if (l.getD (plc l n).toNat e0).refs + by_ < 0 then (l, 2) else cntF by_ (l.set (plc l n).toNat { l.getD (plc l n).toNat e0 with refs := (l.getD (plc l n).toNat e0).refs + by_ }) ns) := rfl
theorem names_set (l : List En) (k : Nat) (r : Int) : (l.set k { l.getD k e0 with refs := r }).map (·.nm) = l.map (·.nm) := by
  apply List.ext_getElem
  · simp
  · intro i h1 h2
    simp only [List.length_map, List.length_set] at h1
    simp only [List.getElem_map, List.getElem_set]
    split
    · next h => subst h; rw [List.getD_eq_getElem?_getD, List.getElem?_eq_getElem h1]; rfl
    · rfl
theorem cntF_names (by_ : Int) : ∀ (ns : List (List UInt8)) (l : List En), (cntF by_ l ns).1.map (·.nm) = l.map (·.nm)
  | [], l => rfl
  | n :: ns, l => by
    rw [cntF_cons]
    split
    · rfl
    · split
      · rfl
      · rw [cntF_names by_ ns, names_set]
theorem cntF_append (by_ : Int) : ∀ (a b : List (List UInt8)) (l : List En), cntF by_ l (a ++ b) = if (cntF by_ l a).2 = 0 then cntF by_ (cntF by_ l a).1 b else cntF by_ l a
  | [], b, l => by simp [cntF]
  | n :: a, b, l => by
    rw [List.cons_append, cntF_cons, cntF_cons]
    split
    · simp
    · split
      · simp
      · exact cntF_append by_ a b _
/-! the calls -/
def hasM (t : Tb) (m : List UInt8) : Bool := decide (m ∈ t.mods)
def addM (t : Tb) (m : List UInt8) (g : Int) (xs : List (List UInt8)) : Tb × Int :=
  if chk m ≠ 0 ∨ ∃ x ∈ xs, chk x ≠ 0 then (t, 6)
  else if g < 0 ∨ 7 < g ∨ 8 < xs.length ∨ dupB xs = true then (t, 2)
  else if hasM t m = true ∨ ∃ x ∈ xs, 0 ≤ plc t.L x then (t, 9)
  else (⟨t.mods ++ [m], putAll m g t.L 0 xs⟩, 0)
def removeM (t : Tb) (m : List UInt8) : Tb × Int :=
  if hasM t m = false then (t, 8) else if 0 < refsM t.L m then (t, 26)
  else (⟨t.mods.filter (fun x => decide (x ≠ m)), t.L.filter (fun e => decide (e.md ≠ m))⟩, 0)
def countM (t : Tb) (ns : List (List UInt8)) (by_ : Int) : Tb × Int :=
  if ∃ n ∈ ns, plc t.L n < 0 then (t, 8)
  else if (cntF by_ t.L ns).2 = 0 then (⟨t.mods, (cntF by_ t.L ns).1⟩, 0) else (t, (cntF by_ t.L ns).2)
def findM (l : List En) (n : List UInt8) : En × Int := if plc l n < 0 then (e0, 8) else (l.getD (plc l n).toNat e0, 0)
def slotM (e : En) : Int := 8 * e.gate + e.idx
end Go.Proofs.Ytleggfofgpiabaa.SM
