/-
  Joined texts: SymMath, SymMath2, SymMath3, SymRow. Nothing here is a statement of the seed.
-/
import Derived.Test.YtajidaicojekdaaNameM
import Derived.Lib.Hide
import Derived.Test.YtajidaicojekdaaObjA
set_option linter.unusedVariables false
set_option linter.unusedSimpArgs false
/-
  Layer 13 as lists alone: entries, modules, what each call leaves. Nothing here is a statement of the seed, no function of the program is named.
-/
namespace Go.Proofs.Ytajidaicojekdaa.SM
open NM
/-- a name that a module exports -/
structure En where
  nm : List UInt8
  md : List UInt8
  gate : Int
  idx : Int
  refs : Int
deriving DecidableEq
abbrev e0 : En := ⟨[], [], 0, 0, 0⟩
/-- modules, and entries in order -/
structure Tb where
  mods : List (List UInt8)
  L : List En
/-- the place of a name's entry; -1: there is none -/
def plc : List En → List UInt8 → Int
  | [], _ => -1
  | e :: l, s => if e.nm = s then 0 else if plc l s < 0 then -1 else plc l s + 1
theorem plc_ge : ∀ (l : List En) (s : List UInt8), -1 ≤ plc l s
  | [], s => by simp [plc]
  | e :: l, s => by
    have := plc_ge l s
    unfold plc
    split
    · omega
    · split <;> omega
theorem plc_lt : ∀ (l : List En) (s : List UInt8), plc l s < l.length
  | [], s => by simp [plc]
  | e :: l, s => by
    have := plc_lt l s
    unfold plc
    simp only [List.length_cons]
    split
    · omega
    · split <;> omega
theorem plc_yes : ∀ (l : List En) (s : List UInt8) (k : Nat), k < l.length → (l.getD k e0).nm = s → (∀ j, j < k → (l.getD j e0).nm ≠ s) → plc l s = (k : Int)
  | [], s, k, h, _, _ => by simp at h
  | e :: l, s, 0, h, h1, h2 => by
    simp at h1
    simp [plc, h1]
  | e :: l, s, k + 1, h, h1, h2 => by
    have ih := plc_yes l s k (by simpa using h) (by simpa using h1) (fun j hj => by simpa using h2 (j + 1) (by omega))
    have h3 := h2 0 (by omega)
    simp at h3
    unfold plc
    rw [if_neg h3, ih, if_neg (by omega)]
    simp
theorem plc_no : ∀ (l : List En) (s : List UInt8), (∀ j, j < l.length → (l.getD j e0).nm ≠ s) → plc l s = -1
  | [], s, _ => rfl
  | e :: l, s, h => by
    have ih := plc_no l s fun j hj => by simpa using h (j + 1) (by simpa using hj)
    have h3 := h 0 (by simp)
    simp at h3
    unfold plc
    rw [if_neg h3, ih, if_pos (by omega)]
theorem plc_at : ∀ (l : List En) (s : List UInt8), 0 ≤ plc l s → (l.getD (plc l s).toNat e0).nm = s
  | [], s, h => by simp [plc] at h
  | e :: l, s, h => by
    unfold plc at h ⊢
    by_cases h1 : e.nm = s
    · rw [if_pos h1]; simpa using h1
    · rw [if_neg h1] at h ⊢
      by_cases h2 : plc l s < 0
      · rw [if_pos h2] at h; omega
      · rw [if_neg h2] at h ⊢
        have ih := plc_at l s (by omega)
        have e : (plc l s + 1).toNat = (plc l s).toNat + 1 := by omega
        rw [e]
        simpa using ih
theorem plc_mem {l : List En} {s : List UInt8} : 0 ≤ plc l s ↔ ∃ e ∈ l, e.nm = s := by
  constructor
  · intro h
    have h1 := plc_lt l s
    refine ⟨l.getD (plc l s).toNat e0, ?_, plc_at l s h⟩
    have h2 : (plc l s).toNat < l.length := by omega
    rw [List.getD_eq_getElem?_getD, List.getElem?_eq_getElem h2]
    exact List.getElem_mem h2
  · rintro ⟨e, he, rfl⟩
    by_cases h : 0 ≤ plc l e.nm
    · exact h
    · exfalso
      induction l with
      | nil => cases he
      | cons x l ih =>
        unfold plc at h
        by_cases hx : x.nm = e.nm
        · rw [if_pos hx] at h; omega
        · rw [if_neg hx] at h
          rcases List.mem_cons.1 he with rfl | he
          · exact hx rfl
          · by_cases h2 : plc l e.nm < 0
            · exact ih he (by omega)
            · rw [if_neg h2] at h; omega
/-- names alone make the place -/
theorem plc_names : ∀ {l l' : List En} (s : List UInt8), l.map (·.nm) = l'.map (·.nm) → plc l s = plc l' s
  | [], [], s, _ => rfl
  | [], _ :: _, s, h => by simp at h
  | _ :: _, [], s, h => by simp at h
  | a :: l, b :: l', s, h => by
    simp only [List.map_cons, List.cons.injEq] at h
    unfold plc
    rw [h.1, plc_names s h.2]
/-- all that a module is held -/
def refsM : List En → List UInt8 → Int
  | [], _ => 0
  | e :: l, m => (if e.md = m then e.refs else 0) + refsM l m
theorem refsM_append : ∀ (a b : List En) (m : List UInt8), refsM (a ++ b) m = refsM a m + refsM b m
  | [], b, m => by simp [refsM]
  | e :: a, b, m => by simp only [List.cons_append, refsM, refsM_append a b m]; omega
theorem take_succ_getD {α : Type} (l : List α) (d : α) (k : Nat) (h : k < l.length) : l.take (k + 1) = l.take k ++ [l.getD k d] := by
  rw [List.take_add_one, List.getElem?_eq_getElem h, List.getD_eq_getElem?_getD, List.getElem?_eq_getElem h]
  rfl
theorem refsM_take (l : List En) (m : List UInt8) (k : Nat) (h : k < l.length) : refsM (l.take (k + 1)) m = refsM (l.take k) m + (if (l.getD k e0).md = m then (l.getD k e0).refs else 0) := by
  rw [take_succ_getD l e0 k h, refsM_append]
  simp [refsM]
theorem refsM_bd : ∀ (l : List En) (m : List UInt8), (∀ e ∈ l, 0 ≤ e.refs ∧ e.refs ≤ 8) → 0 ≤ refsM l m ∧ refsM l m ≤ 8 * (l.length : Int)
  | [], m, _ => by simp [refsM]
  | e :: l, m, h => by
    have ih := refsM_bd l m fun x hx => h x (List.mem_cons_of_mem _ hx)
    have h1 := h e (List.mem_cons_self ..)
    simp only [refsM, List.length_cons]
    split <;> omega
/-- one entry more, in order -/
def putL (l : List En) (e : En) : List En := l.takeWhile (fun x => lessB x.nm e.nm) ++ e :: l.dropWhile (fun x => lessB x.nm e.nm)
theorem putL_at : ∀ (l : List En) (e : En) (k : Nat), k ≤ l.length → (∀ j, j < k → lessB (l.getD j e0).nm e.nm = true) → (k = l.length ∨ lessB (l.getD k e0).nm e.nm = false) → putL l e = l.take k ++ e :: l.drop k
  | [], e, k, h, _, _ => by
    obtain rfl : k = 0 := by simpa using h
    rfl
  | x :: l, e, 0, h, _, h2 => by
    have h3 : lessB x.nm e.nm = false := by
      rcases h2 with h2 | h2
      · simp at h2
      · simpa using h2
    simp [putL, h3]
  | x :: l, e, k + 1, h, h1, h2 => by
    have ih := putL_at l e k (by simpa using h) (fun j hj => by simpa using h1 (j + 1) (by omega)) (by
      rcases h2 with h2 | h2
      · left; simpa using h2
      · right; simpa using h2)
    have h3 : lessB x.nm e.nm = true := by simpa using h1 0 (by omega)
    unfold putL at ih ⊢
    simp only [List.takeWhile_cons, h3, if_true, List.dropWhile_cons, List.take_succ_cons, List.drop_succ_cons, List.cons_append]
    rw [ih]
theorem putL_len (l : List En) (e : En) : (putL l e).length = l.length + 1 := by
  have := congrArg List.length (List.takeWhile_append_dropWhile (p := fun x : En => lessB x.nm e.nm) (l := l))
  simp only [List.length_append] at this
  unfold putL
  simp only [List.length_append, List.length_cons]
  omega
theorem putL_mem {l : List En} {e x : En} : x ∈ putL l e ↔ x = e ∨ x ∈ l := by
  have h : x ∈ l ↔ x ∈ l.takeWhile (fun x => lessB x.nm e.nm) ∨ x ∈ l.dropWhile (fun x => lessB x.nm e.nm) := by
    rw [← List.mem_append, List.takeWhile_append_dropWhile]
  unfold putL
  rw [h]
  simp only [List.mem_append, List.mem_cons]
  constructor
  · rintro (h | h | h)
    · exact Or.inr (Or.inl h)
    · exact Or.inl h
    · exact Or.inr (Or.inr h)
  · rintro (h | h | h)
    · exact Or.inr (Or.inl h)
    · exact Or.inl h
    · exact Or.inr (Or.inr h)
theorem putL_filter (l : List En) (e : En) (p : En → Bool) (h : p e = false) : (putL l e).filter p = l.filter p := by
  have := congrArg (List.filter p) (List.takeWhile_append_dropWhile (p := fun x : En => lessB x.nm e.nm) (l := l))
  unfold putL
  rw [List.filter_append, List.filter_cons, h]
  rw [List.filter_append] at this
  simpa using this
/-- all exports of a module, one behind the other -/
def putAll (m : List UInt8) (g : Int) : List En → Int → List (List UInt8) → List En
  | l, _, [] => l
  | l, i, x :: xs => putAll m g (putL l ⟨x, m, g, i, 0⟩) (i + 1) xs
theorem putAll_append (m : List UInt8) (g : Int) : ∀ (xs ys : List (List UInt8)) (l : List En) (i : Int), putAll m g l i (xs ++ ys) = putAll m g (putAll m g l i xs) (i + xs.length) ys
  | [], ys, l, i => by simp [putAll]
  | x :: xs, ys, l, i => by
    simp only [List.cons_append, putAll, putAll_append m g xs ys, List.length_cons]
    congr 1
    omega
theorem putAll_take (m : List UInt8) (g : Int) (l : List En) (xs : List (List UInt8)) (k : Nat) (h : k < xs.length) : putAll m g l 0 (xs.take (k + 1)) = putL (putAll m g l 0 (xs.take k)) ⟨xs.getD k [], m, g, (k : Int), 0⟩ := by
  rw [take_succ_getD xs [] k h, putAll_append, List.length_take, Nat.min_eq_left (by omega), Int.zero_add]
  rfl
theorem putAll_len (m : List UInt8) (g : Int) : ∀ (xs : List (List UInt8)) (l : List En) (i : Int), (putAll m g l i xs).length = l.length + xs.length
  | [], l, i => rfl
  | x :: xs, l, i => by rw [putAll, putAll_len m g xs, putL_len, List.length_cons]; omega
/-- is a name the same as one ahead of it -/
def dupB (l : List (List UInt8)) : Bool := !decide l.Nodup
theorem dupB_nil : dupB [] = false := rfl
theorem nodup_snoc {α : Type} (l : List α) (x : α) : (l ++ [x]).Nodup ↔ l.Nodup ∧ x ∉ l := by
  rw [List.nodup_append]
  constructor
  · rintro ⟨h1, _, h3⟩
    exact ⟨h1, fun hx => h3 x hx x (by simp) rfl⟩
  · rintro ⟨h1, h2⟩
    refine ⟨h1, by simp, fun a ha b hb => ?_⟩
    simp at hb
    subst hb
    rintro rfl
    exact h2 ha
theorem dupB_take (l : List (List UInt8)) (k : Nat) (h : k < l.length) : dupB (l.take (k + 1)) = (dupB (l.take k) || decide (l.getD k [] ∈ l.take k)) := by
  unfold dupB
  rw [take_succ_getD l [] k h]
  by_cases h1 : (l.take k).Nodup <;> by_cases h2 : l.getD k [] ∈ l.take k <;> simp [nodup_snoc, h1, h2]
theorem mem_take_succ {α : Type} (l : List α) (d : α) (k : Nat) (h : k < l.length) (x : α) : x ∈ l.take (k + 1) ↔ x ∈ l.take k ∨ x = l.getD k d := by
  rw [take_succ_getD l d k h]
  simp
/-- one more, or one fewer, for each name that stands there -/
def cntF (by_ : Int) : List En → List (List UInt8) → List En × Int
  | l, [] => (l, 0)
  | l, n :: ns =>
    let k := (plc l n).toNat
    let e := l.getD k e0
    if 8 < e.refs + by_ then (l, 25) else if e.refs + by_ < 0 then (l, 2) else cntF by_ (l.set k { e with refs := e.refs + by_ }) ns
theorem cntF_cons (by_ : Int) (l : List En) (n : List UInt8) (ns : List (List UInt8)) : cntF by_ l (n :: ns) = (if 8 < (l.getD (plc l n).toNat e0).refs + by_ then (l, 25) else if (l.getD (plc l n).toNat e0).refs + by_ < 0 then (l, 2) else cntF by_ (l.set (plc l n).toNat { l.getD (plc l n).toNat e0 with refs := (l.getD (plc l n).toNat e0).refs + by_ }) ns) := rfl
theorem names_set (l : List En) (k : Nat) (r : Int) : (l.set k { l.getD k e0 with refs := r }).map (·.nm) = l.map (·.nm) := by
  apply List.ext_getElem
  · simp
  · intro i h1 h2
    simp only [List.length_map, List.length_set] at h1
    simp only [List.getElem_map, List.getElem_set]
    split
    · next h => subst h; rw [List.getD_eq_getElem?_getD, List.getElem?_eq_getElem h1]; rfl
    · rfl
theorem cntF_names (by_ : Int) : ∀ (ns : List (List UInt8)) (l : List En), (cntF by_ l ns).1.map (·.nm) = l.map (·.nm)
  | [], l => rfl
  | n :: ns, l => by
    rw [cntF_cons]
    split
    · rfl
    · split
      · rfl
      · rw [cntF_names by_ ns, names_set]
theorem cntF_append (by_ : Int) : ∀ (a b : List (List UInt8)) (l : List En), cntF by_ l (a ++ b) = if (cntF by_ l a).2 = 0 then cntF by_ (cntF by_ l a).1 b else cntF by_ l a
  | [], b, l => by simp [cntF]
  | n :: a, b, l => by
    rw [List.cons_append, cntF_cons, cntF_cons]
    split
    · simp
    · split
      · simp
      · exact cntF_append by_ a b _
/-! the calls -/
def hasM (t : Tb) (m : List UInt8) : Bool := decide (m ∈ t.mods)
def addM (t : Tb) (m : List UInt8) (g : Int) (xs : List (List UInt8)) : Tb × Int :=
  if chk m ≠ 0 ∨ ∃ x ∈ xs, chk x ≠ 0 then (t, 6)
  else if g < 0 ∨ 7 < g ∨ 8 < xs.length ∨ dupB xs = true then (t, 2)
  else if hasM t m = true ∨ ∃ x ∈ xs, 0 ≤ plc t.L x then (t, 9)
  else (⟨t.mods ++ [m], putAll m g t.L 0 xs⟩, 0)
def removeM (t : Tb) (m : List UInt8) : Tb × Int :=
  if hasM t m = false then (t, 8) else if 0 < refsM t.L m then (t, 26)
  else (⟨t.mods.filter (fun x => decide (x ≠ m)), t.L.filter (fun e => decide (e.md ≠ m))⟩, 0)
def countM (t : Tb) (ns : List (List UInt8)) (by_ : Int) : Tb × Int :=
  if ∃ n ∈ ns, plc t.L n < 0 then (t, 8)
  else if (cntF by_ t.L ns).2 = 0 then (⟨t.mods, (cntF by_ t.L ns).1⟩, 0) else (t, (cntF by_ t.L ns).2)
def findM (l : List En) (n : List UInt8) : En × Int := if plc l n < 0 then (e0, 8) else (l.getD (plc l n).toNat e0, 0)
def slotM (e : En) : Int := 8 * e.gate + e.idx
end Go.Proofs.Ytajidaicojekdaa.SM

/-
  Layer 13 as lists alone: what holds of a table whatever is called, and what follows of it. Nothing here is a statement of the seed.
-/
namespace Go.Proofs.Ytajidaicojekdaa.SM
open NM
theorem putL_perm (l : List En) (e : En) : (putL l e).Perm (e :: l) := by
  have h := List.takeWhile_append_dropWhile (p := fun x : En => lessB x.nm e.nm) (l := l)
  unfold putL
  refine List.perm_middle.trans ?_
  rw [h]
/-- the entries of a module's exports -/
def news (m : List UInt8) (g : Int) : Int → List (List UInt8) → List En
  | _, [] => []
  | i, x :: xs => ⟨x, m, g, i, 0⟩ :: news m g (i + 1) xs
theorem news_mem (m : List UInt8) (g : Int) : ∀ (xs : List (List UInt8)) (i : Int) (e : En), e ∈ news m g i xs → e.nm ∈ xs ∧ e.md = m ∧ e.gate = g ∧ i ≤ e.idx ∧ e.idx < i + xs.length ∧ e.refs = 0
  | [], i, e, h => by cases h
  | x :: xs, i, e, h => by
    rcases List.mem_cons.1 h with rfl | h
    · simp; omega
    · obtain ⟨h1, h2, h3, h4, h5, h6⟩ := news_mem m g xs (i + 1) e h
      refine ⟨List.mem_cons_of_mem _ h1, h2, h3, by omega, ?_, h6⟩
      simp only [List.length_cons]; omega
theorem news_len (m : List UInt8) (g : Int) : ∀ (xs : List (List UInt8)) (i : Int), (news m g i xs).length = xs.length
  | [], i => rfl
  | x :: xs, i => by simp [news, news_len m g xs]
theorem news_names (m : List UInt8) (g : Int) : ∀ (xs : List (List UInt8)) (i : Int), (news m g i xs).map (·.nm) = xs
  | [], i => rfl
  | x :: xs, i => by simp [news, news_names m g xs]
theorem news_slots (m : List UInt8) (g : Int) : ∀ (xs : List (List UInt8)) (i : Int), ((news m g i xs).map slotM).Nodup
  | [], i => by simp [news]
  | x :: xs, i => by
    simp only [news, List.map_cons, List.nodup_cons, news_slots m g xs (i + 1), and_true]
    intro h
    obtain ⟨e, he, hs⟩ := List.mem_map.1 h
    obtain ⟨_, _, h3, h4, _, _⟩ := news_mem m g xs (i + 1) e he
    unfold slotM at hs
    simp only at hs
    omega
theorem putAll_perm (m : List UInt8) (g : Int) : ∀ (xs : List (List UInt8)) (l : List En) (i : Int), (putAll m g l i xs).Perm (news m g i xs ++ l)
  | [], l, i => List.Perm.refl _
  | x :: xs, l, i => by
    rw [putAll, news]
    refine (putAll_perm m g xs _ (i + 1)).trans ?_
    refine (List.Perm.append_left _ (putL_perm l _)).trans ?_
    exact List.perm_middle
theorem putAll_filter (m : List UInt8) (g : Int) (p : En → Bool) (hp : ∀ x i, p ⟨x, m, g, i, 0⟩ = false) : ∀ (xs : List (List UInt8)) (l : List En) (i : Int), (putAll m g l i xs).filter p = l.filter p
  | [], l, i => rfl
  | x :: xs, l, i => by rw [putAll, putAll_filter m g p hp xs, putL_filter l _ p (hp x i)]
/-- order -/
def Srt (l : List En) : Prop := l.Pairwise (fun a b => lessB a.nm b.nm = true)
theorem srt_put {l : List En} {e : En} (h : Srt l) (hc : ∀ x ∈ l, chk x.nm = 0) (he : chk e.nm = 0) (hn : ∀ x ∈ l, x.nm ≠ e.nm) : Srt (putL l e) := by
  induction l with
  | nil => simp [Srt, putL]
  | cons a l ih =>
    have h2 := List.pairwise_cons.1 h
    have ih := ih h2.2 (fun x hx => hc x (List.mem_cons_of_mem _ hx)) (fun x hx => hn x (List.mem_cons_of_mem _ hx))
    have ca := hc a (List.mem_cons_self ..)
    have na := hn a (List.mem_cons_self ..)
    by_cases ha : lessB a.nm e.nm = true
    · have e1 : putL (a :: l) e = a :: putL l e := by simp [putL, ha]
      rw [e1]
      refine List.pairwise_cons.2 ⟨fun x hx => ?_, ih⟩
      rcases putL_mem.1 hx with rfl | hx
      · exact ha
      · exact h2.1 x hx
    · have e1 : putL (a :: l) e = e :: a :: l := by simp [putL, ha]
      rw [e1]
      have he2 : lessB e.nm a.nm = true := by
        rcases lessB_tri e.nm a.nm he ca (fun h => na h.symm) with h | h
        · exact h
        · exact absurd h ha
      refine List.pairwise_cons.2 ⟨fun x hx => ?_, h⟩
      rcases List.mem_cons.1 hx with rfl | hx
      · exact he2
      · exact lessB_trans _ _ _ he ca (hc x (List.mem_cons_of_mem _ hx)) he2 (h2.1 x hx)
theorem srt_uniq {l : List En} (h : Srt l) : (l.map (·.nm)).Nodup := by
  unfold List.Nodup
  rw [List.pairwise_map]
  refine List.Pairwise.imp (fun {a b} hab => ?_) h
  intro e
  rw [e, lessB_irr] at hab
  cases hab
theorem srt_all (m : List UInt8) (g : Int) : ∀ (xs : List (List UInt8)) (l : List En) (i : Int), Srt l → (∀ x ∈ l, chk x.nm = 0) → (∀ x ∈ xs, chk x = 0) → xs.Nodup → (∀ x ∈ xs, ∀ e ∈ l, e.nm ≠ x) → Srt (putAll m g l i xs)
  | [], l, i, h, _, _, _, _ => h
  | x :: xs, l, i, h, hc, hx, hd, hn => by
    have hd2 := List.nodup_cons.1 hd
    refine srt_all m g xs _ _ (srt_put h hc (hx x (List.mem_cons_self ..)) (fun e he => hn x (List.mem_cons_self ..) e he)) (fun e he => ?_) (fun y hy => hx y (List.mem_cons_of_mem _ hy)) hd2.2 (fun y hy e he => ?_)
    · rcases putL_mem.1 he with rfl | he
      · exact hx x (List.mem_cons_self ..)
      · exact hc e he
    · rcases putL_mem.1 he with rfl | he
      · rintro rfl
        exact hd2.1 hy
      · exact hn y (List.mem_cons_of_mem _ hy) e he
/-- what holds of a table whatever is called -/
structure Good (t : Tb) : Prop where
  nms : ∀ e ∈ t.L, chk e.nm = 0
  mds : ∀ m ∈ t.mods, chk m = 0
  bd : ∀ e ∈ t.L, 0 ≤ e.gate ∧ e.gate ≤ 7 ∧ 0 ≤ e.idx ∧ e.idx ≤ 7 ∧ 0 ≤ e.refs ∧ e.refs ≤ 8
  home : ∀ e ∈ t.L, e.md ∈ t.mods
  srt : Srt t.L
  ix : ∀ e ∈ t.L, e.idx < ((t.L.filter (fun x => decide (x.md = e.md))).length : Int)
theorem good_nil : Good ⟨[], []⟩ := ⟨fun _ h => (by cases h), fun _ h => (by cases h), fun _ h => (by cases h), fun _ h => (by cases h), List.Pairwise.nil, fun _ h => (by cases h)⟩
theorem add_cases (t : Tb) (m : List UInt8) (g : Int) (xs : List (List UInt8)) :
    (addM t m g xs).1 = t ∧ ((addM t m g xs).2 = 6 ∨ (addM t m g xs).2 = 2 ∨ (addM t m g xs).2 = 9) ∨
    (chk m = 0 ∧ (∀ x ∈ xs, chk x = 0) ∧ 0 ≤ g ∧ g ≤ 7 ∧ xs.length ≤ 8 ∧ xs.Nodup ∧ m ∉ t.mods ∧ (∀ x ∈ xs, ∀ e ∈ t.L, e.nm ≠ x) ∧ addM t m g xs = (⟨t.mods ++ [m], putAll m g t.L 0 xs⟩, 0)) := by
  unfold addM
  by_cases h1 : chk m ≠ 0 ∨ ∃ x ∈ xs, chk x ≠ 0
  · left; rw [if_pos h1]; simp
  rw [if_neg h1]
  by_cases h2 : g < 0 ∨ 7 < g ∨ 8 < xs.length ∨ dupB xs = true
  · left; rw [if_pos h2]; simp
  rw [if_neg h2]
  by_cases h3 : hasM t m = true ∨ ∃ x ∈ xs, 0 ≤ plc t.L x
  · left; rw [if_pos h3]; simp
  rw [if_neg h3]
  right
  refine ⟨?_, ?_, by omega, by omega, by omega, ?_, ?_, ?_, rfl⟩
  · exact Classical.byContradiction fun h => h1 (Or.inl h)
  · intro x hx
    exact Classical.byContradiction fun h => h1 (Or.inr ⟨x, hx, h⟩)
  · have : ¬ dupB xs = true := fun h => h2 (Or.inr (Or.inr (Or.inr h)))
    unfold dupB at this
    simpa using this
  · intro h
    exact h3 (Or.inl (by unfold hasM; simpa using h))
  · intro x hx e he h
    exact h3 (Or.inr ⟨x, hx, plc_mem.2 ⟨e, he, h⟩⟩)
theorem good_add {t : Tb} (h : Good t) (m : List UInt8) (g : Int) (xs : List (List UInt8)) : Good (addM t m g xs).1 := by
  rcases add_cases t m g xs with ⟨e, _⟩ | ⟨h1, h2, h3, h4, h5, h6, h7, h8, e⟩
  · rw [e]; exact h
  · rw [e]
    have hp := putAll_perm m g xs t.L 0
    have hm : ∀ e, e ∈ putAll m g t.L 0 xs ↔ e ∈ news m g 0 xs ∨ e ∈ t.L := fun e => by rw [hp.mem_iff, List.mem_append]
    have hne : ∀ e ∈ t.L, e.md ≠ m := fun e he h' => h7 (h' ▸ h.home e he)
    refine ⟨fun e he => ?_, fun x hx => ?_, fun e he => ?_, fun e he => ?_, srt_all m g xs t.L 0 h.srt h.nms h2 h6 h8, fun e he => ?_⟩
    · rcases (hm e).1 he with he | he
      · exact h2 _ (news_mem m g xs 0 e he).1
      · exact h.nms e he
    · rcases List.mem_append.1 hx with hx | hx
      · exact h.mds x hx
      · simp at hx; subst hx; exact h1
    · rcases (hm e).1 he with he | he
      · obtain ⟨_, _, h3', h4', h5', h6'⟩ := news_mem m g xs 0 e he
        omega
      · exact h.bd e he
    · rcases (hm e).1 he with he | he
      · rw [(news_mem m g xs 0 e he).2.1]; simp
      · exact List.mem_append_left _ (h.home e he)
    · show e.idx < (((putAll m g t.L 0 xs).filter (fun x => decide (x.md = e.md))).length : Int)
      rw [(hp.filter _).length_eq, List.filter_append, List.length_append]
      rcases (hm e).1 he with he | he
      · obtain ⟨_, h2', _, _, h5', _⟩ := news_mem m g xs 0 e he
        have : (news m g 0 xs).filter (fun x => decide (x.md = e.md)) = news m g 0 xs := List.filter_eq_self.2 fun x hx => by simp [h2', (news_mem m g xs 0 x hx).2.1]
        rw [this, news_len]
        omega
      · have := h.ix e he
        omega
theorem remove_cases (t : Tb) (m : List UInt8) :
    (removeM t m).1 = t ∧ (removeM t m).2 = 8 ∧ m ∉ t.mods ∨ (removeM t m).1 = t ∧ (removeM t m).2 = 26 ∧ m ∈ t.mods ∧ 0 < refsM t.L m ∨
    (m ∈ t.mods ∧ ¬ 0 < refsM t.L m ∧ removeM t m = (⟨t.mods.filter (fun x => decide (x ≠ m)), t.L.filter (fun e => decide (e.md ≠ m))⟩, 0)) := by
  unfold removeM hasM
  by_cases h1 : m ∈ t.mods
  · rw [if_neg (by simpa using h1)]
    by_cases h2 : 0 < refsM t.L m
    · rw [if_pos h2]; right; left; exact ⟨rfl, rfl, h1, h2⟩
    · rw [if_neg h2]; right; right; exact ⟨h1, h2, rfl⟩
  · rw [if_pos (by simpa using h1)]; left; exact ⟨rfl, rfl, h1⟩
theorem good_remove {t : Tb} (h : Good t) (m : List UInt8) : Good (removeM t m).1 := by
  rcases remove_cases t m with ⟨e, _⟩ | ⟨e, _⟩ | ⟨h1, h2, e⟩
  · rw [e]; exact h
  · rw [e]; exact h
  · rw [e]
    have hm : ∀ e, e ∈ t.L.filter (fun e => decide (e.md ≠ m)) ↔ e ∈ t.L ∧ e.md ≠ m := fun e => by simp [List.mem_filter]
    refine ⟨fun e he => h.nms e ((hm e).1 he).1, fun x hx => h.mds x (List.mem_filter.1 hx).1, fun e he => h.bd e ((hm e).1 he).1, fun e he => ?_, List.Pairwise.sublist List.filter_sublist h.srt, fun e he => ?_⟩
    · refine List.mem_filter.2 ⟨h.home e ((hm e).1 he).1, by simpa using ((hm e).1 he).2⟩
    · show e.idx < (((t.L.filter (fun e => decide (e.md ≠ m))).filter (fun x => decide (x.md = e.md))).length : Int)
      have h3 := h.ix e ((hm e).1 he).1
      have e2 : (t.L.filter (fun e => decide (e.md ≠ m))).filter (fun x => decide (x.md = e.md)) = t.L.filter (fun x => decide (x.md = e.md)) := by
        rw [List.filter_filter]
        apply List.filter_congr
        intro x _
        by_cases hx : x.md = e.md
        · simp [hx, ((hm e).1 he).2]
        · simp [hx]
      rw [e2]
      exact h3
end Go.Proofs.Ytajidaicojekdaa.SM

/-
  Layer 13 as lists alone: names counted up and down; a module added and removed; slots. Nothing here is a statement of the seed.
-/
namespace Go.Proofs.Ytajidaicojekdaa.SM
open NM
/-- each entry counted by how often its name stands there -/
def bump (by_ : Int) (ns : List (List UInt8)) (l : List En) : List En := l.map fun e => { e with refs := e.refs + by_ * ((ns.count e.nm : Nat) : Int) }
theorem bump_nil (by_ : Int) (l : List En) : bump by_ [] l = l := by
  unfold bump
  conv => rhs; rw [← List.map_id l]
  apply List.map_congr_left
  intro e _
  simp
theorem bump_names (by_ : Int) (ns : List (List UInt8)) (l : List En) : (bump by_ ns l).map (·.nm) = l.map (·.nm) := by simp [bump]
theorem bump_cons (by_ : Int) (n : List UInt8) (ns : List (List UInt8)) (l : List En) : bump by_ ns (bump by_ [n] l) = bump by_ (n :: ns) l := by
  unfold bump
  rw [List.map_map]
  apply List.map_congr_left
  intro e _
  simp only [Function.comp, En.mk.injEq, true_and, List.count_cons, List.count_nil]
  rw [Int.add_assoc, ← Int.mul_add]
  congr 2
  omega
/-- names stand once: the entry at a name's place is counted, no other -/
theorem bump_one (by_ : Int) : ∀ (l : List En) (n : List UInt8), (l.map (·.nm)).Nodup → 0 ≤ plc l n → l.set (plc l n).toNat { l.getD (plc l n).toNat e0 with refs := (l.getD (plc l n).toNat e0).refs + by_ } = bump by_ [n] l
  | [], n, _, h => by simp [plc] at h
  | e :: l, n, hd, h => by
    have hd2 := List.nodup_cons.1 (by simpa using hd : (e.nm :: l.map (·.nm)).Nodup)
    unfold plc at h ⊢
    by_cases h1 : e.nm = n
    · rw [if_pos h1]
      have hr : bump by_ [n] l = l := by
        unfold bump
        conv => rhs; rw [← List.map_id l]
        apply List.map_congr_left
        intro x hx
        have hne : x.nm ≠ n := fun h => hd2.1 (by rw [h1, ← h]; exact List.mem_map.2 ⟨x, hx, rfl⟩)
        have : List.count x.nm [n] = 0 := by rw [List.count_singleton]; simp [Ne.symm hne]
        simp [this]
      show _ = { e with refs := e.refs + by_ * ((List.count e.nm [n] : Nat) : Int) } :: bump by_ [n] l
      rw [hr]
      have : List.count e.nm [n] = 1 := by rw [List.count_singleton]; simp [h1]
      rw [this]
      simp
    · rw [if_neg h1] at h ⊢
      by_cases h2 : plc l n < 0
      · rw [if_pos h2] at h; omega
      · rw [if_neg h2] at h ⊢
        have ih := bump_one by_ l n hd2.2 (by omega)
        have e1 : (plc l n + 1).toNat = (plc l n).toNat + 1 := by omega
        rw [e1]
        simp only [List.set_cons_succ, List.getD_cons_succ]
        rw [ih]
        show _ = { e with refs := e.refs + by_ * ((List.count e.nm [n] : Nat) : Int) } :: bump by_ [n] l
        have : List.count e.nm [n] = 0 := by rw [List.count_singleton]; simp [Ne.symm h1]
        rw [this]
        simp
theorem cnt_bump (by_ : Int) : ∀ (ns : List (List UInt8)) (l : List En), (l.map (·.nm)).Nodup → (∀ n ∈ ns, 0 ≤ plc l n) → (cntF by_ l ns).2 = 0 → (cntF by_ l ns).1 = bump by_ ns l
  | [], l, _, _, _ => (bump_nil by_ l).symm
  | n :: ns, l, hd, hx, h => by
    rw [cntF_cons] at h ⊢
    split at h
    · simp at h
    · rename_i h1
      rw [if_neg h1]
      split at h
      · simp at h
      · rename_i h2
        rw [if_neg h2]
        have hb := bump_one by_ l n hd (hx n (List.mem_cons_self ..))
        rw [hb] at h ⊢
        rw [cnt_bump by_ ns _ (by rw [bump_names]; exact hd) (fun m hm => by rw [plc_names m (bump_names by_ [n] l)]; exact hx m (List.mem_cons_of_mem _ hm)) h, bump_cons]
theorem getD_mem {l : List En} {k : Nat} (h : k < l.length) : l.getD k e0 ∈ l := by rw [List.getD_eq_getElem?_getD, List.getElem?_eq_getElem h]; exact List.getElem_mem _
theorem bump_mem {by_ : Int} {ns : List (List UInt8)} {l : List En} {e : En} : e ∈ bump by_ ns l ↔ ∃ x ∈ l, e = { x with refs := x.refs + by_ * ((ns.count x.nm : Nat) : Int) } := by
  unfold bump
  rw [List.mem_map]
  constructor
  · rintro ⟨x, h, rfl⟩; exact ⟨x, h, rfl⟩
  · rintro ⟨x, h, rfl⟩; exact ⟨x, h, rfl⟩
/-- up: all goes well just where no entry would have more than eight -/
theorem cnt_up : ∀ (ns : List (List UInt8)) (l : List En), (l.map (·.nm)).Nodup → (∀ n ∈ ns, 0 ≤ plc l n) → (∀ e ∈ l, 0 ≤ e.refs ∧ e.refs ≤ 8) →
    ((cntF 1 l ns).2 = 0 ∧ (∀ e ∈ l, e.refs + ((ns.count e.nm : Nat) : Int) ≤ 8)) ∨ ((cntF 1 l ns).2 = 25 ∧ ∃ e ∈ l, 8 < e.refs + ((ns.count e.nm : Nat) : Int))
  | [], l, _, _, hr => Or.inl ⟨rfl, fun e he => by have := hr e he; simp; omega⟩
  | n :: ns, l, hd, hx, hr => by
    have hp := hx n (List.mem_cons_self ..)
    have hlt := plc_lt l n
    have hm := getD_mem (l := l) (k := (plc l n).toNat) (by omega)
    have hat := plc_at l n hp
    have h8 := hr _ hm
    have hb := bump_one 1 l n hd hp
    rw [cntF_cons]
    by_cases h1 : 8 < (l.getD (plc l n).toNat e0).refs + 1
    · rw [if_pos h1]
      refine Or.inr ⟨rfl, _, hm, ?_⟩
      rw [hat, List.count_cons_self]
      omega
    · rw [if_neg h1, if_neg (by omega), hb]
      have hr2 : ∀ e ∈ bump 1 [n] l, 0 ≤ e.refs ∧ e.refs ≤ 8 := fun e he => by
        rw [← hb] at he
        rcases List.mem_or_eq_of_mem_set he with he | rfl
        · exact hr e he
        · show 0 ≤ _ + 1 ∧ _ + 1 ≤ (8 : Int)
          omega
      have key : ∀ x : En, x.refs + 1 * ((List.count x.nm [n] : Nat) : Int) + ((ns.count x.nm : Nat) : Int) = x.refs + (((n :: ns).count x.nm : Nat) : Int) := fun x => by
        simp only [List.count_cons, List.count_nil]
        omega
      rcases cnt_up ns (bump 1 [n] l) (by rw [bump_names]; exact hd) (fun m hm => by rw [plc_names m (bump_names 1 [n] l)]; exact hx m (List.mem_cons_of_mem _ hm)) hr2 with ⟨h2, h3⟩ | ⟨h2, e, he, h3⟩
      · refine Or.inl ⟨h2, fun x hx' => ?_⟩
        have := h3 _ (bump_mem.2 ⟨x, hx', rfl⟩)
        simp only at this
        rw [key] at this
        exact this
      · obtain ⟨x, hx', rfl⟩ := bump_mem.1 he
        simp only at h3
        rw [key] at h3
        exact Or.inr ⟨h2, x, hx', h3⟩
/-- down: all goes well just where no entry would have fewer than none -/
theorem cnt_down : ∀ (ns : List (List UInt8)) (l : List En), (l.map (·.nm)).Nodup → (∀ n ∈ ns, 0 ≤ plc l n) → (∀ e ∈ l, 0 ≤ e.refs ∧ e.refs ≤ 8) →
    ((cntF (-1) l ns).2 = 0 ∧ (∀ e ∈ l, 0 ≤ e.refs - ((ns.count e.nm : Nat) : Int))) ∨ ((cntF (-1) l ns).2 = 2 ∧ ∃ e ∈ l, e.refs - ((ns.count e.nm : Nat) : Int) < 0)
  | [], l, _, _, hr => Or.inl ⟨rfl, fun e he => by have := hr e he; simp; omega⟩
  | n :: ns, l, hd, hx, hr => by
    have hp := hx n (List.mem_cons_self ..)
    have hlt := plc_lt l n
    have hm := getD_mem (l := l) (k := (plc l n).toNat) (by omega)
    have hat := plc_at l n hp
    have h8 := hr _ hm
    have hb := bump_one (-1) l n hd hp
    rw [cntF_cons, if_neg (by omega)]
    by_cases h1 : (l.getD (plc l n).toNat e0).refs + -1 < 0
    · rw [if_pos h1]
      refine Or.inr ⟨rfl, _, hm, ?_⟩
      rw [hat, List.count_cons_self]
      omega
    · rw [if_neg h1, hb]
      have hr2 : ∀ e ∈ bump (-1) [n] l, 0 ≤ e.refs ∧ e.refs ≤ 8 := fun e he => by
        rw [← hb] at he
        rcases List.mem_or_eq_of_mem_set he with he | rfl
        · exact hr e he
        · show 0 ≤ _ + -1 ∧ _ + -1 ≤ (8 : Int)
          omega
      have key : ∀ x : En, x.refs + (-1) * ((List.count x.nm [n] : Nat) : Int) - ((ns.count x.nm : Nat) : Int) = x.refs - (((n :: ns).count x.nm : Nat) : Int) := fun x => by
        simp only [List.count_cons, List.count_nil]
        omega
      rcases cnt_down ns (bump (-1) [n] l) (by rw [bump_names]; exact hd) (fun m hm => by rw [plc_names m (bump_names (-1) [n] l)]; exact hx m (List.mem_cons_of_mem _ hm)) hr2 with ⟨h2, h3⟩ | ⟨h2, e, he, h3⟩
      · refine Or.inl ⟨h2, fun x hx' => ?_⟩
        have := h3 _ (bump_mem.2 ⟨x, hx', rfl⟩)
        simp only at this
        rw [key] at this
        exact this
      · obtain ⟨x, hx', rfl⟩ := bump_mem.1 he
        simp only at h3
        rw [key] at h3
        exact Or.inr ⟨h2, x, hx', h3⟩
/-- all but how often it is held -/
def keyE (e : En) : List UInt8 × List UInt8 × Int × Int := (e.nm, e.md, e.gate, e.idx)
theorem key_set (l : List En) (k : Nat) (r : Int) : (l.set k { l.getD k e0 with refs := r }).map keyE = l.map keyE := by
  apply List.ext_getElem
  · simp
  · intro i h1 h2
    simp only [List.length_map, List.length_set] at h1
    simp only [List.getElem_map, List.getElem_set]
    split
    · next h => subst h; rw [List.getD_eq_getElem?_getD, List.getElem?_eq_getElem h1]; rfl
    · rfl
theorem cnt_key (by_ : Int) : ∀ (ns : List (List UInt8)) (l : List En), (cntF by_ l ns).1.map keyE = l.map keyE
  | [], l => rfl
  | n :: ns, l => by
    rw [cntF_cons]
    split
    · rfl
    · split
      · rfl
      · rw [cnt_key by_ ns, key_set]
theorem cnt_refs (by_ : Int) (hby : by_ = 1 ∨ by_ = -1) : ∀ (ns : List (List UInt8)) (l : List En), (∀ e ∈ l, 0 ≤ e.refs ∧ e.refs ≤ 8) → ∀ e ∈ (cntF by_ l ns).1, 0 ≤ e.refs ∧ e.refs ≤ 8
  | [], l, h => h
  | n :: ns, l, h => by
    rw [cntF_cons]
    split
    · exact h
    · split
      · exact h
      · refine cnt_refs by_ hby ns _ fun e he => ?_
        rcases List.mem_or_eq_of_mem_set he with he | rfl
        · exact h e he
        · show 0 ≤ _ + by_ ∧ _ + by_ ≤ (8 : Int)
          omega
theorem key_mem {l l' : List En} (h : l.map keyE = l'.map keyE) {e : En} (he : e ∈ l) : ∃ x ∈ l', keyE x = keyE e := by
  have : keyE e ∈ l'.map keyE := by rw [← h]; exact List.mem_map.2 ⟨e, he, rfl⟩
  obtain ⟨x, h1, h2⟩ := List.mem_map.1 this
  exact ⟨x, h1, h2⟩
theorem key_filter {l l' : List En} (h : l.map keyE = l'.map keyE) (m : List UInt8) : (l.filter (fun x => decide (x.md = m))).length = (l'.filter (fun x => decide (x.md = m))).length := by
  have e : ∀ l : List En, (l.filter (fun x => decide (x.md = m))).length = ((l.map keyE).filter (fun k => decide (k.2.1 = m))).length := fun l => by
    rw [List.filter_map, List.length_map]
    rfl
  rw [e, e, h]
theorem key_srt {l l' : List En} (h : l.map keyE = l'.map keyE) (hs : Srt l') : Srt l := by
  have e : ∀ l : List En, Srt l ↔ (l.map keyE).Pairwise (fun a b => lessB a.1 b.1 = true) := fun l => by
    unfold Srt
    rw [List.pairwise_map]
    rfl
  rw [e, h, ← e]
  exact hs
theorem good_key {t : Tb} (h : Good t) {l : List En} (hk : l.map keyE = t.L.map keyE) (hr : ∀ e ∈ l, 0 ≤ e.refs ∧ e.refs ≤ 8) : Good ⟨t.mods, l⟩ := by
  have hm : ∀ e ∈ l, ∃ x ∈ t.L, x.nm = e.nm ∧ x.md = e.md ∧ x.gate = e.gate ∧ x.idx = e.idx := fun e he => by
    obtain ⟨x, h1, h2⟩ := key_mem hk he
    unfold keyE at h2
    simp only [Prod.mk.injEq] at h2
    exact ⟨x, h1, h2.1, h2.2.1, h2.2.2.1, h2.2.2.2⟩
  refine ⟨fun e he => ?_, h.mds, fun e he => ?_, fun e he => ?_, key_srt hk h.srt, fun e he => ?_⟩
  · obtain ⟨x, h1, h2, _⟩ := hm e he
    rw [← h2]; exact h.nms x h1
  · obtain ⟨x, h1, _, _, h4, h5⟩ := hm e he
    have := h.bd x h1
    have := hr e he
    omega
  · obtain ⟨x, h1, _, h3, _⟩ := hm e he
    rw [← h3]; exact h.home x h1
  · obtain ⟨x, h1, _, h3, _, h5⟩ := hm e he
    have := h.ix x h1
    show e.idx < ((l.filter (fun y => decide (y.md = e.md))).length : Int)
    rw [key_filter hk, ← h3, ← h5]
    exact this
theorem good_count {t : Tb} (h : Good t) (ns : List (List UInt8)) (by_ : Int) (hby : by_ = 1 ∨ by_ = -1) : Good (countM t ns by_).1 := by
  unfold countM
  split
  · exact h
  · split
    · exact good_key h (cnt_key by_ ns t.L) (cnt_refs by_ hby ns t.L fun e he => ⟨(h.bd e he).2.2.2.2.1, (h.bd e he).2.2.2.2.2⟩)
    · exact h
/-- names held and let go as often leave all as it was -/
theorem hold_drop {t t' : Tb} (h : Good t) (ns : List (List UInt8)) (hc : countM t ns 1 = (t', 0)) : countM t' ns (-1) = (t, 0) ∧ (∀ n ∈ ns, 0 ≤ plc t'.L n ∧ 1 ≤ (t'.L.getD (plc t'.L n).toNat e0).refs ∧ (t'.L.getD (plc t'.L n).toNat e0).refs ≤ 8) ∧ t'.mods = t.mods := by
  have hr : ∀ e ∈ t.L, 0 ≤ e.refs ∧ e.refs ≤ 8 := fun e he => ⟨(h.bd e he).2.2.2.2.1, (h.bd e he).2.2.2.2.2⟩
  have hd := srt_uniq h.srt
  unfold countM at hc
  by_cases h1 : ∃ n ∈ ns, plc t.L n < 0
  · rw [if_pos h1] at hc; simp at hc
  rw [if_neg h1] at hc
  have hx : ∀ n ∈ ns, 0 ≤ plc t.L n := fun n hn => Classical.byContradiction fun hh => h1 ⟨n, hn, by omega⟩
  by_cases h2 : (cntF 1 t.L ns).2 = 0
  · rw [if_pos h2] at hc
    have e1 := cnt_bump 1 ns t.L hd hx h2
    simp only [Prod.mk.injEq, and_true] at hc
    subst hc
    rw [e1]
    have hb : ∀ e ∈ t.L, e.refs + ((ns.count e.nm : Nat) : Int) ≤ 8 := by
      rcases cnt_up ns t.L hd hx hr with ⟨_, h3⟩ | ⟨h3, _⟩
      · exact h3
      · rw [h3] at h2; simp at h2
    have hx2 : ∀ n ∈ ns, 0 ≤ plc (bump 1 ns t.L) n := fun n hn => by rw [plc_names n (bump_names 1 ns t.L)]; exact hx n hn
    have hr2 : ∀ e ∈ bump 1 ns t.L, 0 ≤ e.refs ∧ e.refs ≤ 8 := fun e he => by
      obtain ⟨x, h3, rfl⟩ := bump_mem.1 he
      have := hr x h3
      have := hb x h3
      simp only
      omega
    have hd2 : ((bump 1 ns t.L).map (·.nm)).Nodup := by rw [bump_names]; exact hd
    refine ⟨?_, fun n hn => ?_, rfl⟩
    · unfold countM
      rw [if_neg (by rintro ⟨n, hn, h3⟩; have := hx2 n hn; simp only at h3; omega)]
      have h0 : (cntF (-1) (bump 1 ns t.L) ns).2 = 0 := by
        rcases cnt_down ns _ hd2 hx2 hr2 with ⟨h3, _⟩ | ⟨_, e, he, h3⟩
        · exact h3
        · exfalso
          obtain ⟨x, h4, rfl⟩ := bump_mem.1 he
          have := hr x h4
          simp only at h3
          omega
      have e2 := cnt_bump (-1) ns _ hd2 hx2 h0
      simp only
      rw [if_pos h0, e2]
      have : bump (-1) ns (bump 1 ns t.L) = t.L := by
        unfold bump
        rw [List.map_map]
        conv => rhs; rw [← List.map_id t.L]
        apply List.map_congr_left
        intro e _
        simp only [Function.comp, id]
        cases e
        simp only [En.mk.injEq, true_and]
        omega
      rw [this]
    · have hp := hx2 n hn
      have hlt := plc_lt (bump 1 ns t.L) n
      have hm := getD_mem (l := bump 1 ns t.L) (k := (plc (bump 1 ns t.L) n).toNat) (by omega)
      have hat := plc_at _ n hp
      refine ⟨hp, ?_, (hr2 _ hm).2⟩
      obtain ⟨x, h4, h5⟩ := bump_mem.1 hm
      have hnm : x.nm = n := by rw [← hat, h5]
      have hpos : 0 < ns.count x.nm := by rw [hnm]; exact List.count_pos_iff.2 hn
      have := hr x h4
      show 1 ≤ ((bump 1 ns t.L).getD (plc (bump 1 ns t.L) n).toNat e0).refs
      rw [h5]
      simp only
      omega
  · rw [if_neg h2] at hc
    simp only [Prod.mk.injEq] at hc
    exact absurd hc.2 h2
/-- a module of a held entry is in use -/
theorem refs_pos {t : Tb} (h : Good t) {e : En} (he : e ∈ t.L) (hr : 1 ≤ e.refs) : 0 < refsM t.L e.md := by
  have hr2 : ∀ x ∈ t.L, 0 ≤ x.refs := fun x hx => (h.bd x hx).2.2.2.2.1
  obtain ⟨a, b, e1⟩ := List.append_of_mem he
  have nn : ∀ l : List En, (∀ x ∈ l, 0 ≤ x.refs) → 0 ≤ refsM l e.md := by
    intro l
    induction l with
    | nil => intro _; simp [refsM]
    | cons x l ih =>
      intro hl
      have h1 := hl x (List.mem_cons_self ..)
      have h2 := ih fun y hy => hl y (List.mem_cons_of_mem _ hy)
      simp only [refsM]
      split <;> omega
  have h1 := nn a fun x hx => hr2 x (by rw [e1]; exact List.mem_append_left _ hx)
  have h2 := nn b fun x hx => hr2 x (by rw [e1]; exact List.mem_append_right _ (List.mem_cons_of_mem _ hx))
  rw [e1, refsM_append]
  simp only [refsM, if_true]
  omega
theorem remove_held {t : Tb} (h : Good t) {e : En} (he : e ∈ t.L) (hr : 1 ≤ e.refs) : removeM t e.md = (t, 26) := by
  unfold removeM hasM
  rw [if_neg (by simpa using h.home e he), if_pos (refs_pos h he hr)]
/-- a module added and removed leaves all as it was -/
theorem add_remove {t t' : Tb} (h : Good t) (m : List UInt8) (g : Int) (xs : List (List UInt8)) (ha : addM t m g xs = (t', 0)) : hasM t' m = true ∧ refsM t'.L m = 0 ∧ removeM t' m = (t, 0) := by
  rcases add_cases t m g xs with ⟨_, h1⟩ | ⟨h1, h2, h3, h4, h5, h6, h7, h8, e⟩
  · rw [ha] at h1; simp at h1
  · rw [e] at ha
    simp only [Prod.mk.injEq, and_true] at ha
    subst ha
    have hne : ∀ e ∈ t.L, e.md ≠ m := fun e he h' => h7 (h' ▸ h.home e he)
    have h0 : refsM (putAll m g t.L 0 xs) m = 0 := by
      have hz : ∀ l : List En, (∀ e ∈ l, e.md = m → e.refs = 0) → refsM l m = 0 := by
        intro l
        induction l with
        | nil => intro _; rfl
        | cons x l ih =>
          intro hl
          simp only [refsM, ih fun y hy => hl y (List.mem_cons_of_mem _ hy)]
          split
          · next hx => rw [hl x (List.mem_cons_self ..) hx]; rfl
          · rfl
      refine hz _ fun e he hm => ?_
      rcases List.mem_append.1 ((putAll_perm m g xs t.L 0).mem_iff.1 he) with he | he
      · exact (news_mem m g xs 0 e he).2.2.2.2.2
      · exact absurd hm (hne e he)
    refine ⟨by unfold hasM; simp, h0, ?_⟩
    unfold removeM
    rw [if_neg (by unfold hasM; simp), if_neg (by simp only; rw [h0]; omega)]
    have e1 : (t.mods ++ [m]).filter (fun x => decide (x ≠ m)) = t.mods := by
      rw [List.filter_append, List.filter_eq_self.2 (fun x hx => by simpa using (fun e : x = m => h7 (e ▸ hx)))]
      simp
    have e2 : (putAll m g t.L 0 xs).filter (fun e => decide (e.md ≠ m)) = t.L := by
      rw [putAll_filter m g _ (fun x i => by simp)]
      exact List.filter_eq_self.2 fun e he => by simpa using hne e he
    simp only
    rw [e1, e2]
/-- slots of modules with gates of their own -/
structure SlotI (t : Tb) (i : Int) : Prop where
  good : Good t
  low : ∀ e ∈ t.L, e.refs = 0 ∧ e.gate < i
  uniq : (t.L.map slotM).Nodup
theorem slot_nil : SlotI ⟨[], []⟩ 0 := ⟨good_nil, fun _ h => (by cases h), by simp⟩
theorem slot_up {t : Tb} {i : Int} (h : SlotI t i) : SlotI t (i + 1) := ⟨h.good, fun e he => by have := h.low e he; omega, h.uniq⟩
theorem slot_add {t : Tb} {i : Int} (h : SlotI t i) (m : List UInt8) (xs : List (List UInt8)) : SlotI (addM t m i xs).1 (i + 1) := by
  rcases add_cases t m i xs with ⟨e, _⟩ | ⟨h1, h2, h3, h4, h5, h6, h7, h8, e⟩
  · rw [e]; exact slot_up h
  · have hg := good_add h.good m i xs
    rw [e] at hg ⊢
    have hp := putAll_perm m i xs t.L 0
    refine ⟨hg, fun e he => ?_, ?_⟩
    · rcases List.mem_append.1 (hp.mem_iff.1 he) with he | he
      · obtain ⟨_, _, h9, _, _, h10⟩ := news_mem m i xs 0 e he
        omega
      · have := h.low e he; omega
    · refine ((hp.map slotM).nodup_iff).2 ?_
      rw [List.map_append, List.nodup_append]
      refine ⟨news_slots m i xs 0, h.uniq, fun a ha b hb => ?_⟩
      obtain ⟨x, hx, rfl⟩ := List.mem_map.1 ha
      obtain ⟨y, hy, rfl⟩ := List.mem_map.1 hb
      obtain ⟨_, _, h9, h10, _, _⟩ := news_mem m i xs 0 x hx
      have := h.low y hy
      have := h.good.bd y hy
      unfold slotM
      omega
theorem slot_ne {t : Tb} {i : Int} (h : SlotI t i) {a b : Nat} (hab : b < a) (ha : a < t.L.length) : slotM (t.L.getD a e0) ≠ slotM (t.L.getD b e0) ∧ (t.L.getD a e0).nm ≠ (t.L.getD b e0).nm := by
  have g : ∀ k (hk : k < t.L.length), t.L.getD k e0 = t.L[k] := fun k hk => by rw [List.getD_eq_getElem?_getD, List.getElem?_eq_getElem hk]; rfl
  rw [g a ha, g b (by omega)]
  have u1 := List.pairwise_iff_getElem.1 h.uniq b a (by simp; omega) (by simpa using ha) hab
  have u2 := List.pairwise_iff_getElem.1 (srt_uniq h.good.srt) b a (by simp; omega) (by simpa using ha) hab
  simp only [List.getElem_map] at u1 u2
  exact ⟨fun e => u1 e.symm, fun e => u2 e.symm⟩
theorem slot_bd {t : Tb} (h : Good t) {a : Nat} (ha : a < t.L.length) : 0 ≤ slotM (t.L.getD a e0) ∧ slotM (t.L.getD a e0) ≤ 63 := by
  have := h.bd _ (getD_mem ha)
  unfold slotM
  omega
/-! how much a table can have after so many calls -/
theorem add_size (t : Tb) (m : List UInt8) (g : Int) (xs : List (List UInt8)) : (addM t m g xs).1.mods.length ≤ t.mods.length + 1 ∧ (addM t m g xs).1.L.length ≤ t.L.length + 8 := by
  rcases add_cases t m g xs with ⟨e, _⟩ | ⟨_, _, _, _, h5, _, _, _, e⟩
  · rw [e]; omega
  · rw [e]
    simp only [List.length_append, List.length_cons, List.length_nil, putAll_len]
    omega
theorem remove_size (t : Tb) (m : List UInt8) : (removeM t m).1.mods.length ≤ t.mods.length ∧ (removeM t m).1.L.length ≤ t.L.length := by
  rcases remove_cases t m with ⟨e, _⟩ | ⟨e, _⟩ | ⟨_, _, e⟩
  · rw [e]; omega
  · rw [e]; omega
  · rw [e]
    exact ⟨List.length_filter_le _ _, List.length_filter_le _ _⟩
theorem count_size (t : Tb) (ns : List (List UInt8)) (by_ : Int) : (countM t ns by_).1.mods.length = t.mods.length ∧ (countM t ns by_).1.L.length = t.L.length := by
  unfold countM
  split
  · exact ⟨rfl, rfl⟩
  · split
    · have := congrArg List.length (cntF_names by_ ns t.L)
      simp only [List.length_map] at this
      exact ⟨rfl, this⟩
    · exact ⟨rfl, rfl⟩
end Go.Proofs.Ytajidaicojekdaa.SM

/-
  A table of layer 13 in memory: texts, entries of five cells. Nothing here is a statement of the seed.
-/
namespace Go.Proofs.Ytajidaicojekdaa.SR
open Go.RowKit WM NR OM OR SM
set_option maxRecDepth 10000
/-- an entry's cells -/
abbrev enC (e : En) : List Value := [.string (bs e.nm), .string (bs e.md), .int .i64 e.gate, .int .i64 e.idx, .int .i64 e.refs]
abbrev enV (e : En) : Value := .agg #[.string (bs e.nm), .string (bs e.md), .int .i64 e.gate, .int .i64 e.idx, .int .i64 e.refs]
def eC : List En → List Value
  | [] => []
  | e :: l => .string (bs e.nm) :: .string (bs e.md) :: .int .i64 e.gate :: .int .i64 e.idx :: .int .i64 e.refs :: eC l
theorem eC_len : ∀ l : List En, (eC l).length = l.length * 5
  | [] => rfl
  | e :: l => by simp only [eC, List.length_cons, eC_len l]; omega
theorem eC_append : ∀ a b : List En, eC (a ++ b) = eC a ++ eC b
  | [], b => rfl
  | e :: a, b => by simp only [List.cons_append, eC, eC_append a b]
theorem eC_one (l : List En) : ∀ u ∈ eC l, u.oneCell' = true := by
  induction l with
  | nil => intro u hu; cases hu
  | cons e l ih =>
    intro u hu
    simp only [eC, List.mem_cons] at hu
    rcases hu with rfl | rfl | rfl | rfl | rfl | hu
    · rfl
    · rfl
    · rfl
    · rfl
    · rfl
    · exact ih u hu
theorem eC_at : ∀ (l : List En) (j : Nat), j < l.length → (eC l)[j * 5]? = some (.string (bs (l.getD j e0).nm)) ∧ (eC l)[j * 5 + 1]? = some (.string (bs (l.getD j e0).md)) ∧ (eC l)[j * 5 + 2]? = some (.int .i64 (l.getD j e0).gate) ∧ (eC l)[j * 5 + 3]? = some (.int .i64 (l.getD j e0).idx) ∧ (eC l)[j * 5 + 4]? = some (.int .i64 (l.getD j e0).refs)
  | [], j, h => by simp at h
  | e :: l, 0, h => ⟨rfl, rfl, rfl, rfl, rfl⟩
  | e :: l, j + 1, h => by
    have ih := eC_at l j (by simpa using h)
    have e : (j + 1) * 5 = j * 5 + 5 := by omega
    rw [e]
    simp only [eC, List.getD_cons_succ]
    exact ih
theorem eC_drop : ∀ (l : List En) (k : Nat), eC (l.drop k) = (eC l).drop (k * 5)
  | l, 0 => by simp
  | [], k + 1 => by simp [eC]
  | e :: l, k + 1 => by
    have h : (k + 1) * 5 = k * 5 + 1 + 1 + 1 + 1 + 1 := by omega
    rw [h]
    simp only [List.drop_succ_cons, eC]
    exact eC_drop l k
theorem eC_take : ∀ (l : List En) (k : Nat), eC (l.take k) = (eC l).take (k * 5)
  | l, 0 => by simp [eC]
  | [], k + 1 => by simp [eC]
  | e :: l, k + 1 => by
    have h : (k + 1) * 5 = k * 5 + 1 + 1 + 1 + 1 + 1 := by omega
    rw [h]
    simp only [List.take_succ_cons, eC]
    rw [eC_take l k]
/-- a slice of entries, five cells each -/
def ReadsE (G : Nat → Prop) (w : World) (v : Value) (l : List En) : Prop :=
  ∃ a cap, v = .slice a l.length cap ∧ l.length ≤ cap ∧ cap ≤ maxLen ∧ (a = none → cap = 0) ∧
    (l = [] ∨ ∃ g off, a = some ⟨g, off, none⟩ ∧ G g ∧ ∀ i, i < l.length * 5 → w.cell? ⟨g, off + i, none⟩ = (eC l)[i]?)
theorem ReadsE.nil (G : Nat → Prop) (w : World) : ReadsE G w (.slice none 0 0) [] := ⟨none, 0, rfl, Nat.le_refl _, by simp [maxLen], fun _ => rfl, Or.inl rfl⟩
theorem ReadsE.len {G : Nat → Prop} {w : World} {a : Option Addr} {n c : Nat} {l : List En} (h : ReadsE G w (.slice a n c) l) : l.length = n ∧ n ≤ c ∧ c ≤ maxLen := by
  obtain ⟨a', cap, e, h1, h2, _⟩ := h
  simp only [Value.slice.injEq] at e
  obtain ⟨_, rfl, rfl⟩ := e
  exact ⟨rfl, h1, h2⟩
theorem ReadsE.form {G : Nat → Prop} {w : World} {v : Value} {l : List En} (h : ReadsE G w v l) : ∃ a n c, v = .slice a n c := by
  obtain ⟨a, cap, e, _⟩ := h
  exact ⟨a, _, cap, e⟩
/-- an entry's cells at a place -/
abbrev EnAt (u : World) (g o : Nat) (e : En) : Prop := u.cell? ⟨g, o, none⟩ = some (.string (bs e.nm)) ∧ u.cell? ⟨g, o + 1, none⟩ = some (.string (bs e.md)) ∧ u.cell? ⟨g, o + 2, none⟩ = some (.int .i64 e.gate) ∧ u.cell? ⟨g, o + 3, none⟩ = some (.int .i64 e.idx) ∧ u.cell? ⟨g, o + 4, none⟩ = some (.int .i64 e.refs)
theorem ReadsE.atG {G : Nat → Prop} {w u : World} {a : Option Addr} {n c : Nat} {l : List En} (h : ReadsE G w (.slice a n c) l) (hu : ∀ g, G g → g < w.heap.size → u.heap[g]? = w.heap[g]?) {k : Nat} (hk : k < n) : ∃ g off, a = some ⟨g, off, none⟩ ∧ G g ∧ n ≤ c ∧ EnAt u g (off + k * 5) (l.getD k e0) := by
  obtain ⟨a', cap, e, h1, h2, h3, h4⟩ := h
  simp only [Value.slice.injEq] at e
  obtain ⟨rfl, rfl, rfl⟩ := e
  rcases h4 with h4 | ⟨g, off, rfl, hg, hc⟩
  · rw [h4] at hk; simp at hk
  · obtain ⟨x0, x1, x2, x3, x4⟩ := eC_at l k hk
    have c0 := hc (k * 5) (by omega)
    have hlt : g < w.heap.size := World.block_lt_of_cell? w _ (c0.trans x0)
    have e := fun o => World.cell?_of_block (w := w) (w' := u) (a := ⟨g, o, none⟩) (hu g hg hlt)
    refine ⟨g, off, rfl, hg, h1, ?_, ?_, ?_, ?_, ?_⟩
    · rw [e]; exact c0.trans x0
    · rw [e, Nat.add_assoc]; exact (hc (k * 5 + 1) (by omega)).trans x1
    · rw [e, Nat.add_assoc]; exact (hc (k * 5 + 2) (by omega)).trans x2
    · rw [e, Nat.add_assoc]; exact (hc (k * 5 + 3) (by omega)).trans x3
    · rw [e, Nat.add_assoc]; exact (hc (k * 5 + 4) (by omega)).trans x4
theorem ReadsE.at {B : Nat} {w u : World} {a : Option Addr} {n c : Nat} {l : List En} (h : ReadsE (· < B) w (.slice a n c) l) (hb : Below B w u) {k : Nat} (hk : k < n) : ∃ g off, a = some ⟨g, off, none⟩ ∧ n ≤ c ∧ EnAt u g (off + k * 5) (l.getD k e0) := by
  obtain ⟨g, off, h1, _, h2, h3⟩ := h.atG (fun g hg _ => hb.block g hg) hk
  exact ⟨g, off, h1, h2, h3⟩
theorem ReadsE.keep {G : Nat → Prop} {w w' : World} {v : Value} {l : List En} (h : ReadsE G w v l) (hk : ∀ g, G g → g < w.heap.size → w'.heap[g]? = w.heap[g]?) : ReadsE G w' v l := by
  obtain ⟨a, cap, e, h1, h2, h3, h4⟩ := h
  refine ⟨a, cap, e, h1, h2, h3, ?_⟩
  rcases h4 with h4 | ⟨g, off, ea, hg, hc⟩
  · exact Or.inl h4
  · by_cases h0 : l = []
    · exact Or.inl h0
    · refine Or.inr ⟨g, off, ea, hg, fun i hi => ?_⟩
      have hl := eC_len l
      have x : (eC l)[i]? = some ((eC l)[i]'(by omega)) := List.getElem?_eq_getElem (by omega)
      have hlt := World.block_lt_of_cell? w _ ((hc i hi).trans x)
      rw [World.cell?_of_block (w := w) (w' := w') (a := ⟨g, off + i, none⟩) (hk g hg hlt)]
      exact hc i hi
theorem ReadsE.below {B : Nat} {w w' : World} {v : Value} {l : List En} (h : ReadsE (· < B) w v l) (hb : Below B w w') : ReadsE (· < B) w' v l := h.keep fun g hg _ => hb.block g hg
theorem ReadsE.mono {G G' : Nat → Prop} {w : World} {v : Value} {l : List En} (h : ReadsE G w v l) (hG : ∀ g, G g → G' g) : ReadsE G' w v l := by
  obtain ⟨a, cap, e, h1, h2, h3, h4⟩ := h
  refine ⟨a, cap, e, h1, h2, h3, ?_⟩
  rcases h4 with h4 | ⟨g, off, ea, hg, hc⟩
  · exact Or.inl h4
  · exact Or.inr ⟨g, off, ea, hG g hg, hc⟩
/-- a row of a call's own, told -/
theorem ReadsE.of_owns {B : Nat} {w : World} {v : Value} {l : List En} {t : TypeId} (h : w.ownsRow B t 5 v l.length (eC l)) : ReadsE (fun g => B ≤ g ∧ v.ownBlock = some g) w v l := by
  rcases h.2 with ⟨rfl, h0⟩ | ⟨g, cap, cur, rfl, hg, hcell, hcap, hcm, hsz, hcur⟩
  · have hx : l = [] := List.length_eq_zero_iff.1 h0
    subst hx
    exact ReadsE.nil _ _
  · refine ⟨_, cap, rfl, hcap, hcm, (fun h => by cases h), Or.inr ⟨g, 0, rfl, ⟨hg, rfl⟩, fun i hi => ?_⟩⟩
    rw [Nat.zero_add]
    exact h.cellAt i (by omega)
/-- a table's value, and what it reads as -/
abbrev tbV (ma : Option Addr) (mn mc : Nat) (la : Option Addr) (ln lc : Nat) : Value := .agg #[.slice ma mn mc, .slice la ln lc]
abbrev tbC (ma : Option Addr) (mn mc : Nat) (la : Option Addr) (ln lc : Nat) : Array Value := #[.slice ma mn mc, .slice la ln lc]
structure RdT (G : Nat → Prop) (w : World) (ma : Option Addr) (mn mc : Nat) (la : Option Addr) (ln lc : Nat) (t : Tb) : Prop where
  md : Reads G w (.slice ma mn mc) (strs t.mods)
  en : ReadsE G w (.slice la ln lc) t.L
section
variable {B : Nat} {w w' : World} {ma : Option Addr} {mn mc : Nat} {la : Option Addr} {ln lc : Nat} {t : Tb}
theorem RdT.below (h : RdT (· < B) w ma mn mc la ln lc t) (hb : Below B w w') : RdT (· < B) w' ma mn mc la ln lc t := ⟨h.md.below hb, h.en.below hb⟩
theorem RdT.go (h : RdT (· < B) w ma mn mc la ln lc t) (hb : Below B w w') (hB : B ≤ w'.heap.size) : RdT (· < w'.heap.size) w' ma mn mc la ln lc t :=
  have k : ∀ g, g < B → g < w'.heap.size := fun g hg => Nat.lt_of_lt_of_le hg hB
  ⟨(h.md.below hb).mono k, (h.en.below hb).mono k⟩
theorem RdT.keep {G : Nat → Prop} (h : RdT G w ma mn mc la ln lc t) (hk : ∀ g, G g → g < w.heap.size → w'.heap[g]? = w.heap[g]?) : RdT G w' ma mn mc la ln lc t := ⟨h.md.keep hk, h.en.keep hk⟩
theorem RdT.mono {G G' : Nat → Prop} (h : RdT G w ma mn mc la ln lc t) (hG : ∀ g, G g → G' g) : RdT G' w ma mn mc la ln lc t := ⟨h.md.mono hG, h.en.mono hG⟩
theorem RdT.lens {G : Nat → Prop} (h : RdT G w ma mn mc la ln lc t) : t.mods.length = mn ∧ t.L.length = ln ∧ mn ≤ maxLen ∧ ln ≤ maxLen := by
  have a := reads_len h.md
  rw [strs_len] at a
  have b := h.en.len
  exact ⟨a.1, b.1, by omega, by omega⟩
theorem RdT.zero (G : Nat → Prop) (w : World) : RdT G w none 0 0 none 0 0 ⟨[], []⟩ := ⟨Reads.nil _ _, ReadsE.nil _ _⟩
end
end Go.Proofs.Ytajidaicojekdaa.SR
