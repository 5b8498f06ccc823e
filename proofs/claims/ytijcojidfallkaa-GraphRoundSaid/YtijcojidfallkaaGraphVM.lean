/-
  What a visit of a node and of all that it reaches leaves, as lists alone. Nothing here is a statement of the seed.
-/
import Derived.Test.YtijcojidfallkaaGraphMathA
set_option linter.unusedSimpArgs false
set_option linter.unusedVariables false
namespace Go.Proofs.Ytijcojidfallkaa.GM
theorem nodup_len {g : List Nd} {L : List Tx} (hd : L.Nodup) (hn : ∀ x ∈ L, hasM g x = true) : L.length ≤ g.length := by
  have h : ∀ (L ns : List Tx), L.Nodup → (∀ x ∈ L, x ∈ ns) → L.length ≤ ns.length := by
    intro L
    induction L with
    | nil => intro ns _ _; simp
    | cons x L ih =>
      intro ns h1 h2
      obtain ⟨h3, h4⟩ := List.nodup_cons.1 h1
      have h5 := ih (ns.erase x) h4 fun y hy => (List.mem_erase_of_ne (fun e => h3 (by rw [← e]; exact hy))).2 (h2 y (List.mem_cons_of_mem _ hy))
      have hx := h2 x (List.mem_cons_self ..)
      rw [List.length_erase_of_mem hx] at h5
      have := List.length_pos_of_mem hx
      simp only [List.length_cons]
      omega
  have := h L (g.map (·.nm)) hd fun x hx => by
    obtain ⟨y, hy, e⟩ := has_iff.1 (hn x hx)
    exact List.mem_map.2 ⟨y, hy, e⟩
  simpa using this
/-- what has been seen -/
structure Seen (g : List Nd) (L : List Tx) : Prop where
  nd : L.Nodup
  nod : ∀ x ∈ L, hasM g x = true
theorem Seen.len {g : List Nd} {L : List Tx} (h : Seen g L) : L.length ≤ g.length := nodup_len h.nd h.nod
theorem Seen.cons {g : List Nd} {L : List Tx} (h : Seen g L) {n : Tx} (hn : hasM g n = true) (h2 : n ∉ L) : Seen g (n :: L) :=
  ⟨List.nodup_cons.2 ⟨h2, h.nd⟩, fun x hx => by
    rcases List.mem_cons.1 hx with rfl | hx
    · exact hn
    · exact h.nod x hx⟩
theorem sub_len {L L' : List Tx} (hd : L.Nodup) (hs : ∀ x ∈ L, x ∈ L') : L.length ≤ L'.length := by
  induction L generalizing L' with
  | nil => simp
  | cons x L ih =>
    obtain ⟨h3, h4⟩ := List.nodup_cons.1 hd
    have h5 := ih (L' := L'.erase x) h4 fun y hy => (List.mem_erase_of_ne (fun e => h3 (by rw [← e]; exact hy))).2 (hs y (List.mem_cons_of_mem _ hy))
    have hx := hs x (List.mem_cons_self ..)
    rw [List.length_erase_of_mem hx] at h5
    have := List.length_pos_of_mem hx
    simp only [List.length_cons]
    omega
/-- what a visit of n leaves -/
structure Vis (g : List Nd) (L : List Tx) (n : Tx) (L' : List Tx) : Prop where
  seen : Seen g L'
  sub : ∀ x ∈ L, x ∈ L'
  has : n ∈ L'
  only : ∀ x ∈ L', x ∈ L ∨ x = n ∨ Reach g n x
  shut : ∀ x ∈ L', x ∉ L → ∀ d ∈ depsM g x, d ∈ L'
theorem Vis.same {g : List Nd} {L : List Tx} (h : Seen g L) {n : Tx} (hn : n ∈ L) : Vis g L n L := ⟨h, fun _ h => h, hn, fun x hx => Or.inl hx, fun x h1 h2 => absurd h1 h2⟩
/-- in the midst of n's deps -/
structure Mid (g : List Nd) (L : List Tx) (n : Tx) (left : List UInt8 → Bool) (L' : List Tx) : Prop where
  seen : Seen g L'
  sub : ∀ x ∈ L, x ∈ L'
  has : n ∈ L'
  only : ∀ x ∈ L', x ∈ L ∨ x = n ∨ Reach g n x
  shut : ∀ x ∈ L', x ∉ L → x ≠ n → ∀ d ∈ depsM g x, d ∈ L'
  got : ∀ d ∈ depsM g n, left d = false → d ∈ L'
theorem Mid.start {g : List Nd} {L : List Tx} (h : Seen g L) {n : Tx} (hn : hasM g n = true) (h2 : n ∉ L) {left : List UInt8 → Bool} (hl : ∀ d ∈ depsM g n, left d = true) : Mid g L n left (n :: L) :=
  ⟨h.cons hn h2, fun x hx => List.mem_cons_of_mem _ hx, List.mem_cons_self .., fun x hx => by
    rcases List.mem_cons.1 hx with rfl | hx
    · exact Or.inr (Or.inl rfl)
    · exact Or.inl hx, fun x hx h3 h4 => by
    rcases List.mem_cons.1 hx with rfl | hx
    · exact absurd rfl h4
    · exact absurd hx h3, fun d hd hf => by rw [hl d hd] at hf; cases hf⟩
theorem Mid.next {g : List Nd} {L L1 L2 : List Tx} {n d : Tx} {left : List UInt8 → Bool} (h : Mid g L n left L1) (hd : d ∈ depsM g n) (v : Vis g L1 d L2) : Mid g L n (fun x => left x && !decide (x = d)) L2 :=
  ⟨v.seen, fun x hx => v.sub x (h.sub x hx), v.sub _ h.has, fun x hx => by
    rcases v.only x hx with h1 | rfl | h1
    · exact h.only x h1
    · exact Or.inr (Or.inr (.one hd))
    · exact Or.inr (Or.inr (.more hd h1)), fun x hx h1 h2 y hy => by
    by_cases h3 : x ∈ L1
    · exact v.sub y (h.shut x h3 h1 h2 y hy)
    · exact v.shut x hx h3 y hy, fun x hx hf => by
    by_cases e : x = d
    · rw [e]; exact v.has
    · simp [e] at hf
      exact v.sub x (h.got x hx hf)⟩
theorem Mid.done {g : List Nd} {L L1 : List Tx} {n : Tx} {left : List UInt8 → Bool} (h : Mid g L n left L1) (hl : ∀ d ∈ depsM g n, left d = false) : Vis g L n L1 :=
  ⟨h.seen, h.sub, h.has, h.only, fun x hx h1 y hy => by
    by_cases e : x = n
    · subst e; exact h.got y hy (hl y hy)
    · exact h.shut x hx h1 e y hy⟩
/-- texts that wait, and what has been seen of all that they reach -/
structure Wt (g : List Nd) (xs : List Tx) (j : Nat) (L : List Tx) : Prop where
  seen : Seen g L
  only : ∀ x ∈ L, ∃ d ∈ xs, x = d ∨ Reach g d x
  shut : ∀ x ∈ L, ∀ d ∈ depsM g x, d ∈ L
  got : ∀ i, j ≤ i → i < xs.length → xs.getD i [] ∈ L
theorem Wt.start (g : List Nd) (xs : List Tx) : Wt g xs xs.length [] := ⟨⟨List.nodup_nil, fun x hx => (by cases hx)⟩, fun x hx => (by cases hx), fun x hx => (by cases hx), fun i h1 h2 => by omega⟩
theorem Wt.next {g : List Nd} {xs L L2 : List Tx} {j : Nat} (h : Wt g xs (j + 1) L) (hj : j < xs.length) (v : Vis g L (xs.getD j []) L2) : Wt g xs j L2 := by
  have hm : xs.getD j [] ∈ xs := by rw [List.getD_eq_getElem?_getD, List.getElem?_eq_getElem hj]; exact List.getElem_mem hj
  refine ⟨v.seen, fun x hx => ?_, fun x hx d hd => ?_, fun i h1 h2 => ?_⟩
  · rcases v.only x hx with h1 | h1 | h1
    · exact h.only x h1
    · exact ⟨_, hm, Or.inl h1⟩
    · exact ⟨_, hm, Or.inr h1⟩
  · by_cases h1 : x ∈ L
    · exact v.sub d (h.shut x h1 d hd)
    · exact v.shut x hx h1 d hd
  · by_cases e : i = j
    · rw [e]; exact v.has
    · exact v.sub _ (h.got i (by omega) h2)
theorem Wt.done {g : List Nd} {xs L : List Tx} (h : Wt g xs 0 L) (x : Tx) : x ∈ L ↔ ∃ d ∈ xs, x = d ∨ Reach g d x := by
  constructor
  · exact h.only x
  · have hx : ∀ d ∈ xs, d ∈ L := fun d hd => by
      obtain ⟨i, hi, e⟩ := List.mem_iff_getElem.1 hd
      have := h.got i (Nat.zero_le _) hi
      rw [List.getD_eq_getElem?_getD, List.getElem?_eq_getElem hi, Option.getD_some, e] at this
      exact this
    rintro ⟨d, hd, rfl | hr⟩
    · exact hx x hd
    · exact shut_reach h.shut hr fun y hy => h.shut d (hx d hd) y hy
end Go.Proofs.Ytijcojidfallkaa.GM
