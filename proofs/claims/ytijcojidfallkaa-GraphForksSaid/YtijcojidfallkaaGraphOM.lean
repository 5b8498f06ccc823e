/-
  The order by counts of what is missing, as lists alone: it is the document's. Nothing here is a statement of the seed, no function of the program is named.
-/
import Derived.Test.YtijcojidfallkaaGraphVM
set_option linter.unusedSimpArgs false
set_option linter.unusedVariables false
namespace Go.Proofs.Ytijcojidfallkaa.GM
/-- how many of a node's deps have not come -/
def cnt (g : List Nd) (C : List Tx) (s : Tx) : Nat := ((depsM g s).filter (fun d => decide (d ∉ C))).length
theorem cnt_zero {g : List Nd} {C : List Tx} {s : Tx} : cnt g C s = 0 ↔ ∀ d ∈ depsM g s, d ∈ C := by
  unfold cnt
  rw [List.length_eq_zero_iff, List.filter_eq_nil_iff]
  exact ⟨fun h d hd => by simpa using h d hd, fun h d hd => by simpa using h d hd⟩
theorem cnt_nil (g : List Nd) (s : Tx) : cnt g [] s = (depsM g s).length := by simp [cnt]
theorem cnt_snoc {g : List Nd} {C : List Tx} {n s : Tx} (hd : (depsM g s).Nodup) (hn : n ∉ C) : cnt g (C ++ [n]) s + (if n ∈ depsM g s then 1 else 0) = cnt g C s := by
  unfold cnt
  generalize depsM g s = l at *
  induction l with
  | nil => simp
  | cons a l ih =>
    obtain ⟨h1, h2⟩ := List.nodup_cons.1 hd
    have ih := ih h2
    by_cases ha : a = n
    · subst ha
      rw [if_neg h1] at ih
      rw [if_pos (List.mem_cons_self ..), List.filter_cons_of_neg (by simp), List.filter_cons_of_pos (by simpa using hn), List.length_cons]
      omega
    · have e : (if n ∈ a :: l then (1 : Nat) else 0) = if n ∈ l then 1 else 0 := by
        have : n ∈ a :: l ↔ n ∈ l := by rw [List.mem_cons]; exact ⟨fun h => h.elim (fun e => absurd e.symm ha) id, Or.inr⟩
        by_cases h3 : n ∈ l
        · rw [if_pos h3, if_pos (this.2 h3)]
        · rw [if_neg h3, if_neg (fun h => h3 (this.1 h))]
      rw [e]
      by_cases hc : a ∈ C
      · rw [List.filter_cons_of_neg (by simp [hc]), List.filter_cons_of_neg (by simp [hc])]
        exact ih
      · rw [List.filter_cons_of_pos (by simp [hc, ha]), List.filter_cons_of_pos (by simp [hc]), List.length_cons, List.length_cons]
        omega
/-- what may come next -/
structure Rdy (g : List Nd) (C : List Tx) (s : Tx) : Prop where
  nod : hasM g s = true
  dp : ∀ d ∈ depsM g s, d ∈ C
  no : s ∉ C
theorem rdy_iff {g : List Nd} (hg : Good g) {C : List Tx} {x : Nd} (hx : x ∈ g) : readyM C x = true ↔ Rdy g C x.nm := by
  rw [ready_iff]
  constructor
  · rintro ⟨h1, h2⟩
    exact ⟨has_iff.2 ⟨x, hx, rfl⟩, fun d hd => h1 d (by rw [deps_of hg.uq hx] at hd; exact hd), h2⟩
  · rintro ⟨_, h1, h2⟩
    exact ⟨fun d hd => h1 d (by rw [deps_of hg.uq hx]; exact hd), h2⟩
theorem find_first {p : Nd → Bool} : ∀ {g : List Nd}, Rise (g.map (·.nm)) → ∀ {n x : Nd}, g.find? p = some n → x ∈ g → p x = true → x.nm = n.nm ∨ Op.bytesLess n.nm x.nm = true
  | [], _, _, _, h, _, _ => by simp at h
  | a :: g, hr, n, x, h, hx, hp => by
    obtain ⟨h1, h2⟩ := List.pairwise_cons.1 hr
    by_cases ha : p a = true
    · rw [List.find?_cons_of_pos ha] at h
      obtain rfl := Option.some.inj h
      rcases List.mem_cons.1 hx with rfl | hx
      · exact Or.inl rfl
      · exact Or.inr (h1 x.nm (List.mem_map.2 ⟨x, hx, rfl⟩))
    · rw [List.find?_cons_of_neg ha] at h
      rcases List.mem_cons.1 hx with rfl | hx
      · exact absurd hp ha
      · exact find_first h2 h hx hp
/-- between two nodes of the order -/
structure KI (g : List Nd) (C ss : List Tx) : Prop where
  nd : ss.Nodup
  mem : ∀ s, s ∈ ss ↔ Rdy g C s
  ord : OrdI g C
  it : C = itO g C.length []
  le : C.length ≤ g.length
theorem KI.done {g : List Nd} (hg : Good g) {C : List Tx} (h : KI g C []) : C = orderM g := by
  by_cases hl : C.length < g.length
  · obtain ⟨n, hn, hf, _, _⟩ := h.ord.step hg hl
    have h1 : readyM C n = true := List.find?_some hf
    have := (h.mem n.nm).2 ((rdy_iff hg hn).1 h1)
    cases this
  · have e : C.length = g.length := by have := h.le; omega
    rw [h.it, e]
    rfl
theorem KI.pick {g : List Nd} (hg : Good g) {C ss : List Tx} (h : KI g C ss) {n : Tx} (hn : n ∈ ss) (hl : ∀ s ∈ ss, Op.bytesLess s n = false) : C.length + 1 ≤ g.length ∧ OrdI g (C ++ [n]) ∧ C ++ [n] = itO g (C.length + 1) [] := by
  have hr := (h.mem n).1 hn
  obtain ⟨x, hx, hxn⟩ := has_iff.1 hr.nod
  have hlt : C.length < g.length := by
    have h1 : (n :: C).Nodup := List.nodup_cons.2 ⟨hr.no, h.ord.nd⟩
    have := nodup_len (g := g) h1 (fun y hy => by
      rcases List.mem_cons.1 hy with rfl | hy
      · exact hr.nod
      · exact h.ord.sub y hy)
    simp only [List.length_cons] at this
    omega
  obtain ⟨m, hm, hf, hs, ho⟩ := h.ord.step hg hlt
  have hmr : readyM C m = true := List.find?_some hf
  have hms := (h.mem m.nm).2 ((rdy_iff hg hm).1 hmr)
  have hxr : readyM C x = true := (rdy_iff hg hx).2 (hxn ▸ hr)
  have e : m.nm = n := by
    rcases find_first hg.srt hf hx hxr with h1 | h1
    · rw [← h1, hxn]
    · rw [hxn] at h1
      have := hl _ hms
      rw [h1] at this
      cases this
  refine ⟨hlt, e ▸ ho, ?_⟩
  rw [itO_succ, ← h.it, hs, e]
/-- in the midst of a node's dependents -/
structure KJ (g : List Nd) (C : List Tx) (n : Tx) (D : List Tx) (i : Nat) (ss : List Tx) : Prop where
  nd : ss.Nodup
  mem : ∀ s, s ∈ ss ↔ (Rdy g C s ∧ s ≠ n) ∨ (s ∈ D.take i ∧ cnt g C s = 1)
theorem KJ.start {g : List Nd} {C ss s' : List Tx} (h : KI g C ss) {n : Tx} (hp : (s' ++ [n]).Perm ss) (D : List Tx) : KJ g C n D 0 s' := by
  have h1 : (s' ++ [n]).Nodup := hp.nodup_iff.2 h.nd
  obtain ⟨h2, _, h3⟩ := List.nodup_append.1 h1
  refine ⟨h2, fun s => ?_⟩
  have h4 : s ∈ s' ++ [n] ↔ Rdy g C s := hp.mem_iff.trans (h.mem s)
  rw [List.mem_append, List.mem_singleton] at h4
  constructor
  · intro hs
    exact Or.inl ⟨h4.1 (Or.inl hs), h3 s hs n (by simp)⟩
  · rintro (⟨h5, h6⟩ | ⟨h5, _⟩)
    · exact (h4.2 h5).elim id (fun e => absurd e h6)
    · simp at h5
/-- the dependents of a node -/
structure DpL (g : List Nd) (n : Tx) (D : List Tx) : Prop where
  nd : D.Nodup
  mem : ∀ s, s ∈ D ↔ n ∈ depsM g s
theorem take_one {D : List Tx} {i : Nat} (hi : i < D.length) (s : Tx) : s ∈ D.take (i + 1) ↔ s ∈ D.take i ∨ s = D.getD i [] := by
  have e : D.take (i + 1) = D.take i ++ [D.getD i []] := by
    rw [List.take_add_one, List.getElem?_eq_getElem hi, List.getD_eq_getElem?_getD, List.getElem?_eq_getElem hi]
    rfl
  rw [e, List.mem_append, List.mem_singleton]
theorem not_take {D : List Tx} (hd : D.Nodup) {i : Nat} (hi : i < D.length) : D.getD i [] ∉ D.take i := by
  have e : D.take (i + 1) = D.take i ++ [D.getD i []] := by
    rw [List.take_add_one, List.getElem?_eq_getElem hi, List.getD_eq_getElem?_getD, List.getElem?_eq_getElem hi]
    rfl
  have h := hd.sublist (List.take_sublist (i + 1) D)
  rw [e] at h
  exact fun hm => (List.nodup_append.1 h).2.2 _ hm _ (by simp) rfl
theorem KJ.no {g : List Nd} {C ss D : List Tx} {n : Tx} {i : Nat} (h : KJ g C n D i ss) (hi : i < D.length) (hc : cnt g C (D.getD i []) ≠ 1) : KJ g C n D (i + 1) ss := by
  refine ⟨h.nd, fun s => ?_⟩
  rw [h.mem, take_one hi]
  constructor
  · rintro (h1 | ⟨h1, h2⟩)
    · exact Or.inl h1
    · exact Or.inr ⟨Or.inl h1, h2⟩
  · rintro (h1 | ⟨h1 | rfl, h2⟩)
    · exact Or.inl h1
    · exact Or.inr ⟨h1, h2⟩
    · exact absurd h2 hc
theorem KJ.yes {g : List Nd} {C ss s' D : List Tx} {n : Tx} {i : Nat} (h : KJ g C n D i ss) (hD : DpL g n D) (hn : n ∉ C) (hi : i < D.length) (hc : cnt g C (D.getD i []) = 1) (hp : s'.Perm (ss ++ [D.getD i []])) : KJ g C n D (i + 1) s' := by
  have hy : D.getD i [] ∈ D := by rw [List.getD_eq_getElem?_getD, List.getElem?_eq_getElem hi]; exact List.getElem_mem hi
  have hno : D.getD i [] ∉ ss := fun hm => by
    rcases (h.mem _).1 hm with ⟨h1, _⟩ | ⟨h1, _⟩
    · exact hn (h1.dp n ((hD.mem _).1 hy))
    · exact not_take hD.nd hi h1
  refine ⟨hp.nodup_iff.2 (List.nodup_append.2 ⟨h.nd, by simp, fun a ha b hb => by rw [List.mem_singleton] at hb; subst hb; exact fun e => hno (e ▸ ha)⟩), fun s => ?_⟩
  rw [hp.mem_iff, List.mem_append, List.mem_singleton, h.mem, take_one hi]
  constructor
  · rintro ((h1 | ⟨h1, h2⟩) | rfl)
    · exact Or.inl h1
    · exact Or.inr ⟨Or.inl h1, h2⟩
    · exact Or.inr ⟨Or.inr rfl, hc⟩
  · rintro (h1 | ⟨h1 | rfl, h2⟩)
    · exact Or.inl (Or.inl h1)
    · exact Or.inl (Or.inr ⟨h1, h2⟩)
    · exact Or.inr rfl
theorem KJ.done {g : List Nd} (hg : Good g) {C ss0 ss D : List Tx} {n : Tx} (k : KI g C ss0) (hn : n ∈ ss0) (hl : ∀ s ∈ ss0, Op.bytesLess s n = false) (hD : DpL g n D) (h : KJ g C n D D.length ss) : KI g (C ++ [n]) ss := by
  obtain ⟨p1, p2, p3⟩ := k.pick hg hn hl
  have hr := (k.mem n).1 hn
  refine ⟨h.nd, fun s => ?_, p2, by rw [List.length_append, List.length_singleton]; exact p3, by rw [List.length_append, List.length_singleton]; exact p1⟩
  rw [h.mem, List.take_length]
  have hc := cnt_snoc (g := g) (C := C) (n := n) (s := s) (hg.deps_rise s).nodup hr.no
  constructor
  · rintro (⟨h1, h2⟩ | ⟨h1, h2⟩)
    · exact ⟨h1.nod, fun d hd => List.mem_append_left _ (h1.dp d hd), fun hm => by
        rcases List.mem_append.1 hm with h3 | h3
        · exact h1.no h3
        · simp at h3; exact h2 h3⟩
    · have hd := (hD.mem s).1 h1
      rw [if_pos hd, h2] at hc
      have hz : cnt g (C ++ [n]) s = 0 := by omega
      obtain ⟨x, hx, hxn, _⟩ := deps_has hd
      refine ⟨has_iff.2 ⟨x, hx, hxn⟩, cnt_zero.1 hz, fun hm => ?_⟩
      rcases List.mem_append.1 hm with h3 | h3
      · obtain ⟨i, hi, e⟩ := List.mem_iff_getElem.1 h3
        have := k.ord.ahead i hi n (by rw [List.getD_eq_getElem?_getD, List.getElem?_eq_getElem hi, Option.getD_some, e]; exact hd)
        exact hr.no (List.mem_of_mem_take this)
      · simp at h3
        subst h3
        exact hg.acy s (.one hd)
  · rintro ⟨h1, h2, h3⟩
    have h4 : s ∉ C ∧ s ≠ n := ⟨fun h => h3 (List.mem_append_left _ h), fun e => h3 (by rw [e]; simp)⟩
    by_cases hd : n ∈ depsM g s
    · rw [if_pos hd, cnt_zero.2 h2] at hc
      exact Or.inr ⟨(hD.mem s).2 hd, hc.symm⟩
    · refine Or.inl ⟨⟨h1, fun d hd2 => ?_, h4.1⟩, h4.2⟩
      rcases List.mem_append.1 (h2 d hd2) with h5 | h5
      · exact h5
      · simp at h5; subst h5; exact absurd hd2 hd
end Go.Proofs.Ytijcojidfallkaa.GM
