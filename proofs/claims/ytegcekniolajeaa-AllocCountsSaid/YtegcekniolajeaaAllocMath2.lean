/-
  Room for many sizes: in a row, in its runs, and in a tree over the runs. Plain facts on lists; nothing here is a statement of the seed.
-/
import Derived.Test.YtegcekniolajeaaAllocMath
set_option linter.unusedSimpArgs false
set_option linter.unusedVariables false
namespace Go.Proofs.Ytegcekniolajeaa.AL

/-- n places of the first that has so many -/
def tk : List Nat → Nat → Option (List Nat)
  | [], _ => none
  | r :: rs, n => if n ≤ r then some ((r - n) :: rs) else (tk rs n).map (r :: ·)
/-- room for all sizes, in runs -/
def fitR : List Nat → List Int → Bool
  | _, [] => true
  | rs, n :: ns => if n < 1 then false else match tk rs n.toNat with
    | none => false
    | some rs' => fitR rs' ns
/-- n used ones from k on -/
def mk (k n : Nat) (l : List Bool) : List Bool := l.take k ++ (List.replicate n true ++ l.drop (k + n))
/-- room for all sizes, in a row -/
def fitL : List Bool → List Int → Bool
  | _, [] => true
  | l, n :: ns => if n < 1 then false else match F l n.toNat with
    | none => false
    | some k => fitL (mk k n.toNat l) ns
def lens (l : List Bool) : List Nat := (R l).map (·.2)
def nz (l : List Nat) : List Nat := l.filter (fun x => x != 0)

theorem tk_nz (n : Nat) (hn : 1 ≤ n) : ∀ rs : List Nat, (tk rs n).map nz = (tk (nz rs) n).map nz
  | [] => rfl
  | r :: rs => by
    have ih := tk_nz n hn rs
    by_cases h0 : r = 0
    · subst h0
      have e : nz (0 :: rs) = nz rs := by simp [nz]
      rw [e, ← ih, tk, if_neg (by omega)]
      cases tk rs n <;> simp [nz]
    · have e : nz (r :: rs) = r :: nz rs := by simp [nz, h0]
      have idem : nz (nz rs) = nz rs := by simp [nz]
      rw [e, tk, tk]
      split
      · simp only [Option.map_some, nz, List.filter_cons, List.filter_filter, Bool.and_self]
      · have h1 : ∀ a b : Option (List Nat), a.map nz = b.map nz → (a.map (r :: ·)).map nz = (b.map (r :: ·)).map nz := by
          intro a b hab
          cases a <;> cases b <;> simp_all [nz]
        exact h1 _ _ ih
theorem fit_nz : ∀ (ns : List Int) (rs : List Nat), fitR (nz rs) ns = fitR rs ns
  | [], _ => rfl
  | n :: ns, rs => by
    simp only [fitR]
    split
    · rfl
    · have h := tk_nz n.toNat (by omega) rs
      cases h1 : tk rs n.toNat with
      | none => cases h2 : tk (nz rs) n.toNat with
        | none => rfl
        | some b => rw [h1, h2] at h; cases h
      | some a => cases h2 : tk (nz rs) n.toNat with
        | none => rw [h1, h2] at h; cases h
        | some b =>
          rw [h1, h2] at h
          simp only [Option.map_some, Option.some.injEq] at h
          show fitR b ns = fitR a ns
          rw [← fit_nz ns a, ← fit_nz ns b, h]
theorem rg_shift : ∀ (l : List Bool) (f g c : Nat), (rg f c l).map (·.2) = (rg g c l).map (·.2)
  | [], f, g, c => by simp only [rg, emit]; split <;> rfl
  | true :: r, f, g, c => by
    simp only [rg, List.map_append, rg_shift r (f + c + 1) (g + c + 1) 0]
    congr 1
    unfold emit; split <;> rfl
  | false :: r, f, g, c => by simp only [rg]; exact rg_shift r f g (c + 1)
theorem rg_rep : ∀ (c f d : Nat) (l : List Bool), rg f d (List.replicate c false ++ l) = rg f (d + c) l
  | 0, f, d, l => by simp
  | c + 1, f, d, l => by
    rw [List.replicate_succ, List.cons_append, rg, rg_rep c]
    congr 1; omega
theorem rg_used : ∀ (n f : Nat) (l : List Bool), rg f 0 (List.replicate n true ++ l) = rg (f + n) 0 l
  | 0, f, l => by simp
  | n + 1, f, l => by
    rw [List.replicate_succ, List.cons_append, rg, rg_used n]
    simp only [emit, if_true, List.nil_append]
    congr 1; omega
theorem lens_emit (f c : Nat) : (emit f c).map (·.2) = nz [c] := by
  unfold emit
  by_cases h : c = 0
  · subst h; rfl
  · rw [if_neg h]; simp [nz, h]
theorem nz_append (a b : List Nat) : nz (a ++ b) = nz a ++ nz b := by simp [nz]
theorem nz_lens : ∀ (l : List Bool) (f c : Nat), nz ((rg f c l).map (·.2)) = (rg f c l).map (·.2)
  | [], f, c => by simp only [rg, lens_emit]; simp [nz]
  | true :: r, f, c => by
    simp only [rg, List.map_append, lens_emit, nz_append, nz_lens r]
    congr 1; simp [nz]
  | false :: r, f, c => by simp only [rg]; exact nz_lens r f (c + 1)
/-- a run taken from the row is a run taken from the runs -/
theorem fnd_tk (n : Nat) (hn : 1 ≤ n) : ∀ (l : List Bool) (f c : Nat), match fnd n f c l with
    | none => tk ((rg f c l).map (·.2)) n = none
    | some k => f ≤ k ∧ ∃ t, tk ((rg f c l).map (·.2)) n = some t ∧ (rg 0 0 (mk (k - f) n (List.replicate c false ++ l))).map (·.2) = nz t
  | [], f, c => by
    simp only [fnd, rg, lens_emit]
    by_cases h : n ≤ c
    · rw [if_pos h]
      refine ⟨Nat.le_refl _, [c - n], ?_, ?_⟩
      · have : nz [c] = [c] := by simp [nz]; omega
        rw [this]; simp only [tk]; rw [if_pos h]
      · rw [List.append_nil, Nat.sub_self]
        simp only [mk, List.take_zero, List.nil_append, Nat.zero_add, List.drop_replicate]
        rw [rg_used]
        have := rg_rep (c - n) (0 + n) 0 []
        rw [List.append_nil] at this
        rw [this]
        simp only [rg, lens_emit, Nat.zero_add]
    · rw [if_neg h]
      show tk (nz [c]) n = none
      by_cases h0 : c = 0
      · subst h0; rfl
      · have : nz [c] = [c] := by simp [nz, h0]
        rw [this]; simp only [tk]; rw [if_neg h]; rfl
  | true :: r, f, c => by
    simp only [fnd, rg, List.map_append, lens_emit]
    by_cases h : n ≤ c
    · rw [if_pos h]
      have hc : nz [c] = [c] := by simp [nz]; omega
      refine ⟨Nat.le_refl _, (c - n) :: (rg (f + c + 1) 0 r).map (·.2), ?_, ?_⟩
      · rw [hc]; simp only [List.cons_append, List.nil_append, tk]; rw [if_pos h]
      · rw [Nat.sub_self]
        have e : mk 0 n (List.replicate c false ++ true :: r) = List.replicate n true ++ (List.replicate (c - n) false ++ true :: r) := by
          simp only [mk, List.take_zero, List.nil_append, Nat.zero_add]
          rw [List.drop_append_of_le_length (by simpa using h), List.drop_replicate]
        rw [e, rg_used, rg_rep]
        simp only [rg, List.map_append, lens_emit, Nat.zero_add]
        rw [show (c - n) :: (rg (f + c + 1) 0 r).map (·.2) = [c - n] ++ (rg (f + c + 1) 0 r).map (·.2) from rfl, nz_append, nz_lens, rg_shift r _ (f + c + 1) 0]
    · rw [if_neg h]
      have ih := fnd_tk n hn r (f + c + 1) 0
      have e0 : ∀ x : List Nat, tk (nz [c] ++ x) n = (tk x n).map (nz [c] ++ ·) := by
        intro x
        by_cases h0 : c = 0
        · subst h0; simp [nz]
        · have : nz [c] = [c] := by simp [nz, h0]
          rw [this]; simp only [List.cons_append, List.nil_append, tk]; rw [if_neg h]
      rw [e0]
      cases hf : fnd n (f + c + 1) 0 r with
      | none => rw [hf] at ih; rw [ih]; rfl
      | some k =>
        rw [hf] at ih
        obtain ⟨h1, t, h2, h3⟩ := ih
        refine ⟨by omega, nz [c] ++ t, by rw [h2]; rfl, ?_⟩
        have e : mk (k - f) n (List.replicate c false ++ true :: r) = List.replicate c false ++ true :: mk (k - (f + c + 1)) n r := by
          have ek : k - f = c + ((k - (f + c + 1)) + 1) := by omega
          simp only [mk]
          rw [ek]
          have e1 : (List.replicate c false ++ true :: r).take (c + ((k - (f + c + 1)) + 1)) = List.replicate c false ++ true :: r.take (k - (f + c + 1)) := by
            rw [List.take_append]; simp [List.take_replicate]
          have e2 : (List.replicate c false ++ true :: r).drop (c + ((k - (f + c + 1)) + 1) + n) = r.drop (k - (f + c + 1) + n) := by
            rw [List.drop_append]
            simp only [List.length_replicate]
            have : (List.replicate c false).drop (c + ((k - (f + c + 1)) + 1) + n) = [] := List.drop_eq_nil_of_le (by simp; omega)
            rw [this, List.nil_append]
            have : c + ((k - (f + c + 1)) + 1) + n - c = (k - (f + c + 1) + n) + 1 := by omega
            rw [this]; rfl
          rw [e1, e2]; simp
        rw [e, rg_rep]
        simp only [rg, List.map_append, lens_emit, Nat.zero_add]
        rw [nz_append, ← h3]
        have e4 : nz (nz [c]) = nz [c] := by simp [nz]
        simp only [List.replicate_zero, List.nil_append]
        rw [rg_shift _ (c + 1) 0 0, e4]
  | false :: r, f, c => by
    have ih := fnd_tk n hn r f (c + 1)
    simp only [fnd, rg]
    have e : List.replicate (c + 1) false ++ r = List.replicate c false ++ false :: r := by
      rw [List.replicate_succ', List.append_assoc]; rfl
    rw [e] at ih
    exact ih
theorem fitL_R : ∀ (ns : List Int) (l : List Bool), fitL l ns = fitR (lens l) ns
  | [], _ => rfl
  | n :: ns, l => by
    simp only [fitL, fitR]
    split
    · rfl
    · have h := fnd_tk n.toNat (by omega) l 0 0
      unfold F lens R
      cases hf : fnd n.toNat 0 0 l with
      | none => rw [hf] at h; rw [h]
      | some k =>
        rw [hf] at h
        obtain ⟨_, t, h1, h2⟩ := h
        rw [h1]
        simp only [List.replicate_zero, List.nil_append, Nat.sub_zero] at h2
        show fitL (mk k n.toNat l) ns = fitR t ns
        rw [fitL_R ns, ← fit_nz ns t, ← h2]
        rfl
theorem mk_len (k n : Nat) (l : List Bool) (h : k + n ≤ l.length) : (mk k n l).length = l.length := by
  simp only [mk, List.length_append, List.length_take, List.length_replicate, List.length_drop]; omega
theorem mk_zero (k : Nat) (l : List Bool) : mk k 0 l = l := by simp [mk]
theorem mk_step (k n : Nat) (l : List Bool) (h : k + n < l.length) : (mk k n l).set (k + n) true = mk k (n + 1) l := by
  apply List.ext_getElem?
  intro i
  have hl := mk_len k n l (by omega)
  simp only [List.getElem?_set, hl]
  simp only [mk]
  simp only [List.getElem?_append, List.length_take, List.length_replicate, List.getElem?_replicate, List.getElem?_take, List.getElem?_drop, Nat.min_eq_left (show k ≤ l.length by omega)]
  by_cases h1 : k + n = i
  · subst h1
    rw [if_pos rfl, if_pos h, if_neg (by omega), if_pos (by omega), if_pos (by omega)]
  · rw [if_neg h1]
    by_cases h2 : i < k
    · simp only [if_pos h2]
    · simp only [if_neg h2]
      by_cases h3 : i - k < n
      · rw [if_pos h3, if_pos h3, if_pos (by omega), if_pos (by omega)]
      · rw [if_neg h3, if_neg (by omega)]
        congr 1; omega
end Go.Proofs.Ytegcekniolajeaa.AL
