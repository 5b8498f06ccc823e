/-
  Layer 13 as lists alone: what holds of a table whatever is called, and what follows of it. Nothing here is a statement of the seed.
-/
import Derived.Test.YtleggfofgpiabaaSymMath
set_option linter.unusedVariables false
set_option linter.unusedSimpArgs false
namespace Go.Proofs.Ytleggfofgpiabaa.SM
open NM
theorem putL_perm (l : List En) (e : En) : (putL l e).Perm (e :: l) := by
  have h := List.takeWhile_append_dropWhile (p := fun x : En => lessB x.nm e.nm) (l := l)
  unfold putL
  refine List.perm_middle.trans ?_
  rw [h]
/-- the entries of a module's exports -/
def news (m : List UInt8) (g : Int) : Int → List (List UInt8) → List En
  | _, [] => []
  | i, x :: xs => ⟨x, m, g, i, 0⟩ :: news m g (i + 1) xs
theorem news_mem (m : List UInt8) (g : Int) : ∀ (xs : List (List UInt8)) (i : Int) (e : En), e ∈ news m g i xs → e.nm ∈ xs ∧ e.md = m ∧ e.gate = g ∧ i ≤ e.idx ∧ e.idx < i + xs.length ∧ e.refs = 0
  | [], i, e, h => by cases h
  | x :: xs, i, e, h => by
    rcases List.mem_cons.1 h with rfl | h
    · simp; omega
    · obtain ⟨h1, h2, h3, h4, h5, h6⟩ := news_mem m g xs (i + 1) e h
      refine ⟨List.mem_cons_of_mem _ h1, h2, h3, by omega, ?_, h6⟩
      simp only [List.length_cons]; omega
theorem news_len (m : List UInt8) (g : Int) : ∀ (xs : List (List UInt8)) (i : Int), (news m g i xs).length = xs.length
  | [], i => rfl
  | x :: xs, i => by simp [news, news_len m g xs]
theorem news_names (m : List UInt8) (g : Int) : ∀ (xs : List (List UInt8)) (i : Int), (news m g i xs).map (·.nm) = xs
  | [], i => rfl
  | x :: xs, i => by simp [news, news_names m g xs]
theorem news_slots (m : List UInt8) (g : Int) : ∀ (xs : List (List UInt8)) (i : Int), ((news m g i xs).map slotM).Nodup
  | [], i => by simp [news]
  | x :: xs, i => by
    simp only [news, List.map_cons, List.nodup_cons, news_slots m g xs (i + 1), and_true]
    intro h
    obtain ⟨e, he, hs⟩ := List.mem_map.1 h
    obtain ⟨_, _, h3, h4, _, _⟩ := news_mem m g xs (i + 1) e he
    unfold slotM at hs
    simp only at hs
    omega
theorem putAll_perm (m : List UInt8) (g : Int) : ∀ (xs : List (List UInt8)) (l : List En) (i : Int), (putAll m g l i xs).Perm (news m g i xs ++ l)
  | [], l, i => List.Perm.refl _
  | x :: xs, l, i => by
    rw [putAll, news]
    refine (putAll_perm m g xs _ (i + 1)).trans ?_
    refine (List.Perm.append_left _ (putL_perm l _)).trans ?_
    exact List.perm_middle
theorem putAll_filter (m : List UInt8) (g : Int) (p : En → Bool) (hp : ∀ x i, p ⟨x, m, g, i, 0⟩ = false) : ∀ (xs : List (List UInt8)) (l : List En) (i : Int), (putAll m g l i xs).filter p = l.filter p
  | [], l, i => rfl
  | x :: xs, l, i => by rw [putAll, putAll_filter m g p hp xs, putL_filter l _ p (hp x i)]
/-- order -/
def Srt (l : List En) : Prop := l.Pairwise (fun a b => lessB a.nm b.nm = true)
theorem srt_put {l : List En} {e : En} (h : Srt l) (hc : ∀ x ∈ l, chk x.nm = 0) (he : chk e.nm = 0) (hn : ∀ x ∈ l, x.nm ≠ e.nm) : Srt (putL l e) := by
  induction l with
  | nil => simp [Srt, putL]
  | cons a l ih =>
    have h2 := List.pairwise_cons.1 h
    have ih := ih h2.2 (fun x hx => hc x (List.mem_cons_of_mem _ hx)) (fun x hx => hn x (List.mem_cons_of_mem _ hx))
    have ca := hc a (List.mem_cons_self ..)
    have na := hn a (List.mem_cons_self ..)
    by_cases ha : lessB a.nm e.nm = true
    · have e1 : putL (a :: l) e = a :: putL l e := by simp [putL, ha]
      rw [e1]
      refine List.pairwise_cons.2 ⟨fun x hx => ?_, ih⟩
      rcases putL_mem.1 hx with rfl | hx
      · exact ha
      · exact h2.1 x hx
    · have e1 : putL (a :: l) e = e :: a :: l := by simp [putL, ha]
      rw [e1]
      have he2 : lessB e.nm a.nm = true := by
        rcases lessB_tri e.nm a.nm he ca (fun h => na h.symm) with h | h
        · exact h
        · exact absurd h ha
      refine List.pairwise_cons.2 ⟨fun x hx => ?_, h⟩
      rcases List.mem_cons.1 hx with rfl | hx
      · exact he2
      · exact lessB_trans _ _ _ he ca (hc x (List.mem_cons_of_mem _ hx)) he2 (h2.1 x hx)
theorem srt_uniq {l : List En} (h : Srt l) : (l.map (·.nm)).Nodup := by
  unfold List.Nodup
  rw [List.pairwise_map]
  refine List.Pairwise.imp (fun {a b} hab => ?_) h
  intro e
  rw [e, lessB_irr] at hab
  cases hab
theorem srt_all (m : List UInt8) (g : Int) : ∀ (xs : List (List UInt8)) (l : List En) (i : Int), Srt l → (∀ x ∈ l, chk x.nm = 0) → (∀ x ∈ xs, chk x = 0) → xs.Nodup → (∀ x ∈ xs, ∀ e ∈ l, e.nm ≠ x) → Srt (putAll m g l i xs)
  | [], l, i, h, _, _, _, _ => h
  | x :: xs, l, i, h, hc, hx, hd, hn => by
    have hd2 := List.nodup_cons.1 hd
    refine srt_all m g xs _ _ (srt_put h hc (hx x (List.mem_cons_self ..)) (fun e he => hn x (List.mem_cons_self ..) e he)) (fun e he => ?_) (fun y hy => hx y (List.mem_cons_of_mem _ hy)) hd2.2 (fun y hy e he => ?_)
    · rcases putL_mem.1 he with rfl | he
      · exact hx x (List.mem_cons_self ..)
      · exact hc e he
    · rcases putL_mem.1 he with rfl | he
      · rintro rfl
        exact hd2.1 hy
      · exact hn y (List.mem_cons_of_mem _ hy) e he
/-- what holds of a table whatever is called -/
structure Good (t : Tb) : Prop where
  nms : ∀ e ∈ t.L, chk e.nm = 0
  mds : ∀ m ∈ t.mods, chk m = 0
  bd : ∀ e ∈ t.L, 0 ≤ e.gate ∧ e.gate ≤ 7 ∧ 0 ≤ e.idx ∧ e.idx ≤ 7 ∧ 0 ≤ e.refs ∧ e.refs ≤ 8
  home : ∀ e ∈ t.L, e.md ∈ t.mods
  srt : Srt t.L
  ix : ∀ e ∈ t.L, e.idx < ((t.L.filter (fun x => decide (x.md = e.md))).length : Int)
theorem good_nil : Good ⟨[], []⟩ := ⟨fun _ h => (by cases h), fun _ h => (by cases h), fun _ h => (by cases h), fun _ h => (by cases h), List.Pairwise.nil, fun _ h => (by cases h)⟩
theorem add_cases (t : Tb) (m : List UInt8) (g : Int) (xs : List (List UInt8)) :
    (addM t m g xs).1 = t ∧ ((addM t m g xs).2 = 6 ∨ (addM t m g xs).2 = 2 ∨ (addM t m g xs).2 = 9) ∨
    (chk m = 0 ∧ (∀ x ∈ xs, chk x = 0) ∧ 0 ≤ g ∧ g ≤ 7 ∧ xs.length ≤ 8 ∧ xs.Nodup ∧ m ∉ t.mods ∧ (∀ x ∈ xs, ∀ e ∈ t.L, e.nm ≠ x) ∧ addM t m g xs = (⟨t.mods ++ [m], putAll m g t.L 0 xs⟩, 0)) := by
  unfold addM
  by_cases h1 : chk m ≠ 0 ∨ ∃ x ∈ xs, chk x ≠ 0
  · left; rw [if_pos h1]; simp
  rw [if_neg h1]
  by_cases h2 : g < 0 ∨ 7 < g ∨ 8 < xs.length ∨ dupB xs = true
  · left; rw [if_pos h2]; simp
  rw [if_neg h2]
  by_cases h3 : hasM t m = true ∨ ∃ x ∈ xs, 0 ≤ plc t.L x
  · left; rw [if_pos h3]; simp
  rw [if_neg h3]
  right
  refine ⟨?_, ?_, by omega, by omega, by omega, ?_, ?_, ?_, rfl⟩
  · exact Classical.byContradiction fun h => h1 (Or.inl h)
  · intro x hx
    exact Classical.byContradiction fun h => h1 (Or.inr ⟨x, hx, h⟩)
  · have : ¬ dupB xs = true := fun h => h2 (Or.inr (Or.inr (Or.inr h)))
    unfold dupB at this
    simpa using this
  · intro h
    exact h3 (Or.inl (by unfold hasM; simpa using h))
  · intro x hx e he h
    exact h3 (Or.inr ⟨x, hx, plc_mem.2 ⟨e, he, h⟩⟩)
theorem good_add {t : Tb} (h : Good t) (m : List UInt8) (g : Int) (xs : List (List UInt8)) : Good (addM t m g xs).1 := by
  rcases add_cases t m g xs with ⟨e, _⟩ | ⟨h1, h2, h3, h4, h5, h6, h7, h8, e⟩
  · rw [e]; exact h
  · rw [e]
    have hp := putAll_perm m g xs t.L 0
    have hm : ∀ e, e ∈ putAll m g t.L 0 xs ↔ e ∈ news m g 0 xs ∨ e ∈ t.L := fun e => by rw [hp.mem_iff, List.mem_append]
    have hne : ∀ e ∈ t.L, e.md ≠ m := fun e he h' => h7 (h' ▸ h.home e he)
    refine ⟨fun e he => ?_, fun x hx => ?_, fun e he => ?_, fun e he => ?_, srt_all m g xs t.L 0 h.srt h.nms h2 h6 h8, fun e he => ?_⟩
    · rcases (hm e).1 he with he | he
      · exact h2 _ (news_mem m g xs 0 e he).1
      · exact h.nms e he
    · rcases List.mem_append.1 hx with hx | hx
      · exact h.mds x hx
      · simp at hx; subst hx; exact h1
    · rcases (hm e).1 he with he | he
      · obtain ⟨_, _, h3', h4', h5', h6'⟩ := news_mem m g xs 0 e he
        omega
      · exact h.bd e he
    · rcases (hm e).1 he with he | he
      · rw [(news_mem m g xs 0 e he).2.1]; simp
      · exact List.mem_append_left _ (h.home e he)
    · show e.idx < (((putAll m g t.L 0 xs).filter (fun x => decide (x.md = e.md))).length : Int)
      rw [(hp.filter _).length_eq, List.filter_append, List.length_append]
      rcases (hm e).1 he with he | he
      · obtain ⟨_, h2', _, _, h5', _⟩ := news_mem m g xs 0 e he
        have : (news m g 0 xs).filter (fun x => decide (x.md = e.md)) = news m g 0 xs := List.filter_eq_self.2 fun x hx => by simp [h2', (news_mem m g xs 0 x hx).2.1]
        rw [this, news_len]
        omega
      · have := h.ix e he
        omega
theorem remove_cases (t : Tb) (m : List UInt8) :
    (removeM t m).1 = t ∧ (removeM t m).2 = 8 ∧ m ∉ t.mods ∨ (removeM t m).1 = t ∧ (removeM t m).2 = 26 ∧ m ∈ t.mods ∧ 0 < refsM t.L m ∨
    (m ∈ t.mods ∧ ¬ 0 < refsM t.L m ∧ removeM t m = (⟨t.mods.filter (fun x => decide (x ≠ m)), t.L.filter (fun e => decide (e.md ≠ m))⟩, 0)) := by
  unfold removeM hasM
  by_cases h1 : m ∈ t.mods
  · rw [if_neg (by simpa using h1)]
    by_cases h2 : 0 < refsM t.L m
    · rw [if_pos h2]; right; left; exact ⟨rfl, rfl, h1, h2⟩
    · rw [if_neg h2]; right; right; exact ⟨h1, h2, rfl⟩
  · rw [if_pos (by simpa using h1)]; left; exact ⟨rfl, rfl, h1⟩
theorem good_remove {t : Tb} (h : Good t) (m : List UInt8) : Good (removeM t m).1 := by
  rcases remove_cases t m with ⟨e, _⟩ | ⟨e, _⟩ | ⟨h1, h2, e⟩
  · rw [e]; exact h
  · rw [e]; exact h
  · rw [e]
    have hm : ∀ e, e ∈ t.L.filter (fun e => decide (e.md ≠ m)) ↔ e ∈ t.L ∧ e.md ≠ m := fun e => by simp [List.mem_filter]
    refine ⟨fun e he => h.nms e ((hm e).1 he).1, fun x hx => h.mds x (List.mem_filter.1 hx).1, fun e he => h.bd e ((hm e).1 he).1, fun e he => ?_, List.Pairwise.sublist List.filter_sublist h.srt, fun e he => ?_⟩
    · refine List.mem_filter.2 ⟨h.home e ((hm e).1 he).1, by simpa using ((hm e).1 he).2⟩
    · show e.idx < (((t.L.filter (fun e => decide (e.md ≠ m))).filter (fun x => decide (x.md = e.md))).length : Int)
      have h3 := h.ix e ((hm e).1 he).1
      have e2 : (t.L.filter (fun e => decide (e.md ≠ m))).filter (fun x => decide (x.md = e.md)) = t.L.filter (fun x => decide (x.md = e.md)) := by
        rw [List.filter_filter]
        apply List.filter_congr
        intro x _
        by_cases hx : x.md = e.md
        · simp [hx, ((hm e).1 he).2]
        · simp [hx]
      rw [e2]
      exact h3
end Go.Proofs.Ytleggfofgpiabaa.SM
