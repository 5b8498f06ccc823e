/-
  A module read by calls in whatever state, as the program and as the reference read it: lists alone. Nothing here is a statement of the seed.
-/
import Derived.Test.YtdlinlkdielmkaaObjRow
set_option linter.unusedSimpArgs false
set_option linter.unusedVariables false
namespace Go.Proofs.Ytdlinlkdielmkaa.OR
open WM NR OM
/-! a step in whatever state, so often -/
def itr {α : Type} (f : Nat → List UInt8 → Nat × α × List UInt8) : Nat → Nat → List UInt8 → Nat × List α × List UInt8
  | 0, e, l => (e, [], l)
  | k + 1, e, l => ((itr f k (f e l).1 (f e l).2.2).1, (f e l).2.1 :: (itr f k (f e l).1 (f e l).2.2).2.1, (itr f k (f e l).1 (f e l).2.2).2.2)
def getL {α : Type} (f : Nat → List UInt8 → Nat × α × List UInt8) (most e : Nat) (l : List UInt8) : Nat × List α × List UInt8 :=
  itr f (stVar most e l).2.1 (stVar most e l).1 (stVar most e l).2.2
def stRel (e : Nat) (l : List UInt8) : Nat × Rl × List UInt8 :=
  ((stVar 65535 (stVar 65535 (stVar 7 e l).1 (stVar 7 e l).2.2).1 (stVar 65535 (stVar 7 e l).1 (stVar 7 e l).2.2).2.2).1,
    ⟨(stVar 7 e l).2.1, (stVar 65535 (stVar 7 e l).1 (stVar 7 e l).2.2).2.1, (stVar 65535 (stVar 65535 (stVar 7 e l).1 (stVar 7 e l).2.2).1 (stVar 65535 (stVar 7 e l).1 (stVar 7 e l).2.2).2.2).2.1⟩,
    (stVar 65535 (stVar 65535 (stVar 7 e l).1 (stVar 7 e l).2.2).1 (stVar 65535 (stVar 7 e l).1 (stVar 7 e l).2.2).2.2).2.2)
theorem stVar_bd {M e : Nat} {l : List UInt8} : (stVar M e l).2.1 ≤ M := by
  unfold stVar
  split
  · by_cases h : (rdVar M l).1 = 0
    · exact (vr_good M 5 0 0 l h).1
    · have := vr_none M 5 0 0 l h
      have e2 : (rdVar M l).2 = (0, []) := this
      rw [e2]; exact Nat.zero_le _
  · exact Nat.zero_le _
theorem stVar_yes {M e : Nat} {l : List UInt8} {n : Nat} {t : List UInt8} (h : stVar M e l = (0, n, t)) : e = 0 ∧ l = varL n ++ t ∧ n ≤ M := by
  unfold stVar at h
  split at h
  · rename_i h0
    exact ⟨h0, rdVar_only M l n t h⟩
  · simp only [Prod.mk.injEq] at h
    omega
theorem stVar_put {M n : Nat} {t : List UInt8} (h : n ≤ M) (h4 : n < 4294967296) : stVar M 0 (varL n ++ t) = (0, n, t) := by
  unfold stVar
  rw [if_pos rfl]
  exact rdVar_varL n M t h4 h
theorem rdBytes_text (M : Nat) (l : List UInt8) : rdBytes M 1 l = rdText M l := by
  unfold rdBytes rdText
  simp only [Nat.mul_one]
theorem rdText_only {M : Nat} {l s t : List UInt8} (h : rdText M l = (0, s, t)) (hM : M < 4294967296) : l = textL s ++ t ∧ s.length ≤ M := by
  unfold rdText at h
  split at h
  · rename_i h0
    split at h
    · rename_i h1
      simp only [Prod.mk.injEq, true_and] at h
      obtain ⟨h2, h3⟩ := h
      obtain ⟨e1, e2⟩ := rdVar_only M l (rdVar M l).2.1 (rdVar M l).2.2 (by rw [← h0])
      have hl : s.length = (rdVar M l).2.1 := by rw [← h2, List.length_take]; omega
      refine ⟨?_, by omega⟩
      unfold textL
      rw [hl, Nat.mod_eq_of_lt (by omega), List.append_assoc, ← h2, ← h3, List.take_append_drop]
      exact e1
    · simp at h
  · simp only [Prod.mk.injEq] at h
    omega
theorem stText_yes {M e : Nat} {l s t : List UInt8} (h : stText M e l = (0, s, t)) (hM : M < 4294967296) : e = 0 ∧ l = textL s ++ t ∧ s.length ≤ M := by
  unfold stText at h
  split at h
  · rename_i h0
    rw [rdBytes_text] at h
    exact ⟨h0, rdText_only h hM⟩
  · simp only [Prod.mk.injEq] at h
    omega
theorem stText_put {M : Nat} {s t : List UInt8} (h : s.length ≤ M) (hM : M < 4294967296) : stText M 0 (textL s ++ t) = (0, s, t) := by
  unfold stText
  rw [if_pos rfl, rdBytes_text]
  exact rdText_textL s t (by omega) M h
theorem wordL_word4 {xs : List UInt8} (h : xs.length = 4) : wordL (word4 xs) = xs := by
  match xs, h with
  | [a, b, c, d], _ =>
    have := lt256 a; have := lt256 b; have := lt256 c; have := lt256 d
    simp only [wordL, word4, List.cons.injEq, and_true]
    refine ⟨?_, ?_, ?_, ?_⟩ <;> rw [← UInt8.toNat_inj, toNat_ofNat] <;> omega
theorem stWord_yes {e : Nat} {l : List UInt8} {n : Nat} {t : List UInt8} (h : stWord e l = (0, n, t)) : e = 0 ∧ l = wordL n ++ t ∧ n < 4294967296 := by
  unfold stWord at h
  split at h
  · rename_i h0
    unfold rdWord at h
    split at h
    · rename_i h4
      simp only [Prod.mk.injEq, true_and] at h
      obtain ⟨rfl, rfl⟩ := h
      refine ⟨h0, ?_, word4_lt _⟩
      rw [wordL_word4 (by rw [List.length_take]; omega), List.take_append_drop]
    · simp at h
  · simp only [Prod.mk.injEq] at h
    omega
theorem stWord_put {n : Nat} {t : List UInt8} (h : n < 4294967296) : stWord 0 (wordL n ++ t) = (0, n, t) := by
  unfold stWord
  rw [if_pos rfl]
  exact rdWord_wordL n t h
theorem stWord_bd {e : Nat} {l : List UInt8} : (stWord e l).2.1 < 4294967296 := by
  unfold stWord
  split
  · unfold rdWord
    split
    · exact word4_lt _
    · show (0 : Nat) < 4294967296; decide
  · show (0 : Nat) < 4294967296; decide
theorem low_byte {k : Nat} (h : k ≤ 7) : varL k = [UInt8.ofNat k] := varL_low k (by omega)
theorem stRel_yes {e : Nat} {l : List UInt8} {r : Rl} {t : List UInt8} (h : stRel e l = (0, r, t)) : e = 0 ∧ l = relL r ++ t ∧ (r.kind ≤ 7 ∧ r.at_ < 65536 ∧ r.wh < 65536) := by
  obtain ⟨e1, k, l1, h1⟩ : ∃ e1 k l1, stVar 7 e l = (e1, k, l1) := ⟨_, _, _, rfl⟩
  obtain ⟨e2, a, l2, h2⟩ : ∃ e2 a l2, stVar 65535 e1 l1 = (e2, a, l2) := ⟨_, _, _, rfl⟩
  obtain ⟨e3, b, l3, h3⟩ : ∃ e3 b l3, stVar 65535 e2 l2 = (e3, b, l3) := ⟨_, _, _, rfl⟩
  unfold stRel at h
  simp only [h1, h2, h3, Prod.mk.injEq] at h
  obtain ⟨rfl, rfl, rfl⟩ := h
  obtain ⟨rfl, rfl, b3⟩ := stVar_yes h3
  obtain ⟨rfl, rfl, b2⟩ := stVar_yes h2
  obtain ⟨rfl, rfl, b1⟩ := stVar_yes h1
  refine ⟨rfl, ?_, b1, by show a < 65536; omega, by show b < 65536; omega⟩
  rw [low_byte b1]
  simp [relL]
theorem stRel_put {r : Rl} {t : List UInt8} (h : r.kind ≤ 7 ∧ r.at_ < 65536 ∧ r.wh < 65536) : stRel 0 (relL r ++ t) = (0, r, t) := by
  obtain ⟨b1, b2, b3⟩ := h
  have e0 : relL r ++ t = varL r.kind ++ (varL r.at_ ++ (varL r.wh ++ t)) := by rw [low_byte b1]; simp [relL]
  unfold stRel
  rw [e0]
  simp only [stVar_put (M := 7) (t := varL r.at_ ++ (varL r.wh ++ t)) b1 (by omega), stVar_put (M := 65535) (t := varL r.wh ++ t) (show r.at_ ≤ 65535 by omega) (by omega), stVar_put (M := 65535) (t := t) (show r.wh ≤ 65535 by omega) (by omega)]
theorem stRel_bd {e : Nat} {l : List UInt8} : (stRel e l).2.1.kind ≤ 7 ∧ (stRel e l).2.1.at_ ≤ 65535 ∧ (stRel e l).2.1.wh ≤ 65535 := ⟨stVar_bd, stVar_bd, stVar_bd⟩
/-- all that a list's bytes are -/
def catL {α : Type} (g : α → List UInt8) : List α → List UInt8
  | [] => []
  | x :: l => g x ++ catL g l
theorem itr_yes {α : Type} {f : Nat → List UInt8 → Nat × α × List UInt8} {g : α → List UInt8} {R : α → Prop} (hf : ∀ e l x t, f e l = (0, x, t) → e = 0 ∧ l = g x ++ t ∧ R x) :
    ∀ (k e : Nat) (l : List UInt8) (xs : List α) (t : List UInt8), itr f k e l = (0, xs, t) → e = 0 ∧ l = catL g xs ++ t ∧ xs.length = k ∧ ∀ x ∈ xs, R x
  | 0, e, l, xs, t, h => by
    simp only [itr, Prod.mk.injEq] at h
    obtain ⟨rfl, rfl, rfl⟩ := h
    exact ⟨rfl, rfl, rfl, fun x hx => by cases hx⟩
  | k + 1, e, l, xs, t, h => by
    obtain ⟨e1, x, l1, h1⟩ : ∃ e1 x l1, f e l = (e1, x, l1) := ⟨_, _, _, rfl⟩
    obtain ⟨e2, ys, l2, h2⟩ : ∃ e2 ys l2, itr f k e1 l1 = (e2, ys, l2) := ⟨_, _, _, rfl⟩
    simp only [itr, h1, h2, Prod.mk.injEq] at h
    obtain ⟨rfl, rfl, rfl⟩ := h
    obtain ⟨rfl, rfl, b2, b3⟩ := itr_yes hf k _ _ _ _ h2
    obtain ⟨rfl, rfl, b1⟩ := hf _ _ _ _ h1
    refine ⟨rfl, by simp [catL], by simp [b2], fun y hy => ?_⟩
    rcases List.mem_cons.1 hy with rfl | hy
    · exact b1
    · exact b3 y hy
theorem itr_put {α : Type} {f : Nat → List UInt8 → Nat × α × List UInt8} {g : α → List UInt8} {R : α → Prop} (hf : ∀ x t, R x → f 0 (g x ++ t) = (0, x, t)) :
    ∀ (xs : List α) (t : List UInt8), (∀ x ∈ xs, R x) → itr f xs.length 0 (catL g xs ++ t) = (0, xs, t)
  | [], t, _ => rfl
  | x :: xs, t, h => by
    have h1 : f 0 (catL g (x :: xs) ++ t) = (0, x, catL g xs ++ t) := by
      rw [catL, List.append_assoc]
      exact hf x _ (h x (by simp))
    have h2 := itr_put hf xs t (fun y hy => h y (List.mem_cons.2 (Or.inr hy)))
    rw [List.length_cons, itr]
    simp only [h1, h2]
theorem getL_yes {α : Type} {f : Nat → List UInt8 → Nat × α × List UInt8} {g : α → List UInt8} {R : α → Prop} (hf : ∀ e l x t, f e l = (0, x, t) → e = 0 ∧ l = g x ++ t ∧ R x)
    {most e : Nat} {l : List UInt8} {xs : List α} {t : List UInt8} (h : getL f most e l = (0, xs, t)) : e = 0 ∧ l = varL xs.length ++ catL g xs ++ t ∧ xs.length ≤ most ∧ ∀ x ∈ xs, R x := by
  obtain ⟨e1, n, l1, h1⟩ : ∃ e1 n l1, stVar most e l = (e1, n, l1) := ⟨_, _, _, rfl⟩
  unfold getL at h
  simp only [h1] at h
  obtain ⟨rfl, rfl, rfl, b3⟩ := itr_yes hf _ _ _ _ _ h
  obtain ⟨rfl, rfl, b1⟩ := stVar_yes h1
  exact ⟨rfl, by rw [List.append_assoc], b1, b3⟩
theorem getL_put {α : Type} {f : Nat → List UInt8 → Nat × α × List UInt8} {g : α → List UInt8} {R : α → Prop} (hf : ∀ x t, R x → f 0 (g x ++ t) = (0, x, t))
    {most : Nat} {xs : List α} {t : List UInt8} (hm : xs.length ≤ most) (h4 : xs.length < 4294967296) (h : ∀ x ∈ xs, R x) : getL f most 0 (varL xs.length ++ catL g xs ++ t) = (0, xs, t) := by
  unfold getL
  rw [List.append_assoc, stVar_put hm h4]
  exact itr_put hf xs t h
theorem catL_texts : ∀ l : List (List UInt8), catL textL l = textsB l
  | [] => rfl
  | s :: l => by rw [catL, textsB, catL_texts l]
theorem catL_words : ∀ l : List Nat, catL wordL l = manyL l
  | [] => rfl
  | s :: l => by rw [catL, manyL, catL_words l]
theorem catL_rels : ∀ l : List Rl, catL relL l = relsB l
  | [] => rfl
  | s :: l => by rw [catL, relsB, catL_rels l]
abbrev sT := stText 96
/-- what stands behind the mark, as the program reads it -/
def pgBody (l : List UInt8) : Nat × Md × List UInt8 :=
  let a := sT 0 l
  let b := getL sT 8 a.1 a.2.2
  let c := getL sT 16 b.1 b.2.2
  let d := getL stWord 512 c.1 c.2.2
  let e := getL stWord 128 d.1 d.2.2
  let f := getL stRel 256 e.1 e.2.2
  (f.1, ⟨a.2.1, b.2.1, c.2.1, d.2.1, e.2.1, f.2.1⟩, f.2.2)
theorem sT_yes : ∀ e l x t, sT e l = (0, x, t) → e = 0 ∧ l = textL x ++ t ∧ x.length ≤ 96 := fun e l x t h => stText_yes h (by decide)
theorem sT_put : ∀ (x t : List UInt8), x.length ≤ 96 → sT 0 (textL x ++ t) = (0, x, t) := fun x t h => stText_put h (by decide)
theorem stWord_yes' : ∀ e l x t, stWord e l = (0, x, t) → e = 0 ∧ l = wordL x ++ t ∧ x < 4294967296 := fun e l x t h => stWord_yes h
theorem stWord_put' : ∀ (x : Nat) (t : List UInt8), x < 4294967296 → stWord 0 (wordL x ++ t) = (0, x, t) := fun x t h => stWord_put h
theorem stRel_yes' : ∀ e l x t, stRel e l = (0, x, t) → e = 0 ∧ l = relL x ++ t ∧ (x.kind ≤ 7 ∧ x.at_ < 65536 ∧ x.wh < 65536) := fun e l x t h => stRel_yes h
theorem stRel_put' : ∀ (x : Rl) (t : List UInt8), (x.kind ≤ 7 ∧ x.at_ < 65536 ∧ x.wh < 65536) → stRel 0 (relL x ++ t) = (0, x, t) := fun x t h => stRel_put h
theorem chk_fine {m : Md} (h1 : m.exps.length ≤ 8) (h2 : m.imps.length ≤ 16) (h3 : m.code.length ≤ 512) (h4 : m.data.length ≤ 128) (h5 : m.rels.length ≤ 256) (h6 : m.name.length ≤ 96) (h7 : ∀ s ∈ m.exps, s.length ≤ 96) (h8 : ∀ s ∈ m.imps, s.length ≤ 96) (h9 : ∀ r ∈ m.rels, r.kind ≤ 7) : chkM m = 0 := by
  have f1 : farB m = false := by
    unfold farB manyB longB
    simp only [Bool.or_eq_false_iff, decide_eq_false_iff_not, List.any_eq_false, decide_eq_true_eq]
    exact ⟨⟨⟨by omega, by omega⟩, fun s hs => by have := h7 s hs; omega⟩, fun s hs => by have := h8 s hs; omega⟩
  have f2 : argB m = false := by
    unfold argB
    simp only [List.any_eq_false, decide_eq_true_eq]
    exact fun r hr => by have := h9 r hr; omega
  unfold chkM
  rw [f1, f2]
  rfl
theorem pgBody_yes {l : List UInt8} {m : Md} (h : pgBody l = (0, m, [])) : Is (bud1 ++ l) m := by
  obtain ⟨e1, nm, l1, h1⟩ : ∃ e1 x l1, sT 0 l = (e1, x, l1) := ⟨_, _, _, rfl⟩
  obtain ⟨e2, ex, l2, h2⟩ : ∃ e2 x l2, getL sT 8 e1 l1 = (e2, x, l2) := ⟨_, _, _, rfl⟩
  obtain ⟨e3, im, l3, h3⟩ : ∃ e3 x l3, getL sT 16 e2 l2 = (e3, x, l3) := ⟨_, _, _, rfl⟩
  obtain ⟨e4, cd, l4, h4⟩ : ∃ e4 x l4, getL stWord 512 e3 l3 = (e4, x, l4) := ⟨_, _, _, rfl⟩
  obtain ⟨e5, dt, l5, h5⟩ : ∃ e5 x l5, getL stWord 128 e4 l4 = (e5, x, l5) := ⟨_, _, _, rfl⟩
  obtain ⟨e6, rl, l6, h6⟩ : ∃ e6 x l6, getL stRel 256 e5 l5 = (e6, x, l6) := ⟨_, _, _, rfl⟩
  unfold pgBody at h
  simp only [h1, h2, h3, h4, h5, h6, Prod.mk.injEq] at h
  obtain ⟨rfl, rfl, rfl⟩ := h
  obtain ⟨rfl, rfl, b6, c6⟩ := getL_yes stRel_yes' h6
  obtain ⟨rfl, rfl, b5, c5⟩ := getL_yes stWord_yes' h5
  obtain ⟨rfl, rfl, b4, c4⟩ := getL_yes stWord_yes' h4
  obtain ⟨rfl, rfl, b3, c3⟩ := getL_yes sT_yes h3
  obtain ⟨rfl, rfl, b2, c2⟩ := getL_yes sT_yes h2
  obtain ⟨_, rfl, b1⟩ := sT_yes _ _ _ _ h1
  refine ⟨chk_fine b2 b3 b4 b5 b6 b1 c2 c3 (fun r hr => (c6 r hr).1), ⟨c4, c5, fun r hr => ?_⟩, ?_⟩
  · obtain ⟨x1, x2, x3⟩ := c6 r hr
    exact ⟨by omega, x2, x3⟩
  · unfold putL bodyL textsL wordsL relsL
    simp only [catL_texts, catL_words, catL_rels, List.append_assoc, List.append_nil]
    rw [Nat.mod_eq_of_lt (show ex.length < 4294967296 by omega), Nat.mod_eq_of_lt (show im.length < 4294967296 by omega), Nat.mod_eq_of_lt (show cd.length < 4294967296 by omega), Nat.mod_eq_of_lt (show dt.length < 4294967296 by omega), Nat.mod_eq_of_lt (show rl.length < 4294967296 by omega)]
theorem pgBody_put {m : Md} (hc : chkM m = 0) (hf : FineM m) : pgBody (bodyL m) = (0, m, []) := by
  obtain ⟨⟨b2, b3, b4, b5, b6⟩, b1, c2, c3, c6⟩ := chk_ok hc
  have e : bodyL m = textL m.name ++ (varL m.exps.length ++ catL textL m.exps ++ (varL m.imps.length ++ catL textL m.imps ++ (varL m.code.length ++ catL wordL m.code ++ (varL m.data.length ++ catL wordL m.data ++ (varL m.rels.length ++ catL relL m.rels ++ []))))) := by
    unfold bodyL textsL wordsL relsL
    simp only [catL_texts, catL_words, catL_rels, List.append_assoc, List.append_nil]
    rw [Nat.mod_eq_of_lt (show m.exps.length < 4294967296 by omega), Nat.mod_eq_of_lt (show m.imps.length < 4294967296 by omega), Nat.mod_eq_of_lt (show m.code.length < 4294967296 by omega), Nat.mod_eq_of_lt (show m.data.length < 4294967296 by omega), Nat.mod_eq_of_lt (show m.rels.length < 4294967296 by omega)]
  rw [e]
  unfold pgBody
  simp only [sT_put _ _ b1]
  simp only [getL_put sT_put b2 (by omega) c2]
  simp only [getL_put sT_put b3 (by omega) c3]
  simp only [getL_put stWord_put' b4 (by omega) hf.code]
  simp only [getL_put stWord_put' b5 (by omega) hf.data]
  simp only [getL_put stRel_put' b6 (by omega) (fun r hr => ⟨c6 r hr, (hf.rels r hr).2⟩)]
/-- what Get tells, by the program's reading -/
theorem getF_pg {l : List UInt8} (hl : (bud1 ++ l).length ≤ 16384) : getF (bud1 ++ l) = if (pgBody l).1 = 0 ∧ (pgBody l).2.2 = [] then (0, (pgBody l).2.1) else (4, zeroM) := by
  split
  · rename_i h
    refine getF_yes hl (pgBody_yes ?_)
    rw [← h.1, ← h.2]
  · rename_i h
    refine getF_no hl fun m hm => h ?_
    obtain ⟨hc, hf, hp⟩ := hm
    have e : bodyL m = l := List.append_cancel_left hp
    rw [← e, pgBody_put hc hf]
    exact ⟨rfl, rfl⟩
theorem getF_mark {b : List UInt8} (hl : b.length ≤ 16384) (h : b.take 4 ≠ bud1) : getF b = (4, zeroM) :=
  getF_no hl fun m hm => h (by rw [← hm.2.2]; rfl)
/-! as the reference reads it -/
def xTs : Nat → Nat → List UInt8 → Nat × List (List UInt8) × List UInt8
  | 0, e, l => (e, [], l)
  | k + 1, e, l => if e = 0 then ((xTs k (sT e l).1 (sT e l).2.2).1, (sT e l).2.1 :: (xTs k (sT e l).1 (sT e l).2.2).2.1, (xTs k (sT e l).1 (sT e l).2.2).2.2) else (e, [], l)
def xTexts (most e : Nat) (l : List UInt8) : Nat × List (List UInt8) × List UInt8 := xTs (stVar most e l).2.1 (stVar most e l).1 (stVar most e l).2.2
/-- a relocation: nothing where its first byte lacks -/
def xRel (c : UInt8) (t : List UInt8) : Nat × Rl × List UInt8 :=
  ((stVar 65535 (stVar 65535 0 t).1 (stVar 65535 0 t).2.2).1, ⟨c.toNat, (stVar 65535 0 t).2.1, (stVar 65535 (stVar 65535 0 t).1 (stVar 65535 0 t).2.2).2.1⟩, (stVar 65535 (stVar 65535 0 t).1 (stVar 65535 0 t).2.2).2.2)
/-- what is gathered; none, if a first byte lacks -/
def xRs : Nat → List Rl → Nat → List UInt8 → Nat × List Rl × List UInt8
  | 0, acc, e, l => (e, acc, l)
  | k + 1, acc, e, l => if e = 0 then (if l = [] then (3, [], []) else xRs k (acc ++ [(xRel (l.headD 0) l.tail).2.1]) (xRel (l.headD 0) l.tail).1 (xRel (l.headD 0) l.tail).2.2) else (e, acc, l)
def xRels (e : Nat) (l : List UInt8) : Nat × List Rl × List UInt8 := xRs (stVar 256 e l).2.1 [] (stVar 256 e l).1 (stVar 256 e l).2.2
theorem rdText_none {M : Nat} {l : List UInt8} (h : (rdText M l).1 ≠ 0) : (rdText M l).2 = ([], []) := by
  unfold rdText at h ⊢
  split
  · split
    · rename_i h1 h2
      rw [if_pos h1, if_pos h2] at h
      simp at h
    · rfl
  · rfl
theorem sT_live (l : List UInt8) : sT 0 l = rdText 96 l := by
  unfold sT stText
  rw [if_pos rfl, rdBytes_text]
theorem xTs_dead {k e : Nat} {l : List UInt8} (h : e ≠ 0) : xTs k e l = (e, [], l) := by
  cases k with
  | zero => rfl
  | succ k => rw [xTs, if_neg h]
theorem xTs_live : ∀ (k : Nat) (l : List UInt8), (xTs k 0 l).1 = (rdTs k l).1 ∧ ((xTs k 0 l).1 = 0 → xTs k 0 l = rdTs k l)
  | 0, l => ⟨rfl, fun _ => rfl⟩
  | k + 1, l => by
    obtain ⟨e1, s, l1, h1⟩ : ∃ e1 s l1, rdText 96 l = (e1, s, l1) := ⟨_, _, _, rfl⟩
    rw [xTs, if_pos rfl, sT_live, rdTs]
    simp only [h1]
    by_cases h0 : e1 = 0
    · subst h0
      obtain ⟨i1, i2⟩ := xTs_live k l1
      obtain ⟨e2, u, l2, h2⟩ : ∃ e2 u l2, rdTs k l1 = (e2, u, l2) := ⟨_, _, _, rfl⟩
      rw [h2] at i1 i2
      by_cases h3 : e2 = 0
      · subst h3
        simp only [h2]
        rw [i2 i1]
        exact ⟨rfl, fun _ => rfl⟩
      · simp only [h2]
        exact ⟨i1, fun h => absurd (i1.symm.trans h) h3⟩
    · rw [xTs_dead h0]
      split
      · rename_i x; simp only [Prod.mk.injEq] at x; exact absurd x.1 h0
      · rename_i x; simp only [Prod.mk.injEq] at x
        obtain ⟨rfl, _⟩ := x
        exact ⟨rfl, fun h => absurd h h0⟩
theorem xTexts_live (most : Nat) (l : List UInt8) : (xTexts most 0 l).1 = (rdTexts most l).1 ∧ ((xTexts most 0 l).1 = 0 → xTexts most 0 l = rdTexts most l) := by
  unfold xTexts rdTexts stVar
  rw [if_pos rfl]
  obtain ⟨e1, n, l1, h1⟩ : ∃ e1 n l1, rdVar most l = (e1, n, l1) := ⟨_, _, _, rfl⟩
  simp only [h1]
  by_cases h0 : e1 = 0
  · subst h0
    exact xTs_live n l1
  · rw [xTs_dead h0]
    split
    · rename_i x; simp only [Prod.mk.injEq] at x; exact absurd x.1 h0
    · rename_i x; simp only [Prod.mk.injEq] at x
      obtain ⟨rfl, _⟩ := x
      exact ⟨rfl, fun h => absurd h h0⟩
theorem xTexts_dead {most e : Nat} {l : List UInt8} (h : e ≠ 0) : xTexts most e l = (e, [], l) := by
  unfold xTexts stVar
  rw [if_neg h]
  exact xTs_dead h
theorem xRs_dead {k e : Nat} {acc : List Rl} {l : List UInt8} (h : e ≠ 0) : xRs k acc e l = (e, acc, l) := by
  cases k with
  | zero => rfl
  | succ k => rw [xRs, if_neg h]
theorem xRel_rd (c : UInt8) (t : List UInt8) : (xRel c t).1 = (rdRel (c :: t)).1 ∧ ((xRel c t).1 = 0 → xRel c t = rdRel (c :: t)) := by
  unfold xRel rdRel stVar
  rw [if_pos rfl]
  obtain ⟨e1, a, l1, h1⟩ : ∃ e1 n l1, rdVar 65535 t = (e1, n, l1) := ⟨_, _, _, rfl⟩
  simp only [h1]
  by_cases h0 : e1 = 0
  · subst h0
    simp only [if_true]
    obtain ⟨e2, b, l2, h2⟩ : ∃ y n z, rdVar 65535 l1 = (y, n, z) := ⟨_, _, _, rfl⟩
    simp only [h2]
    by_cases h3 : e2 = 0
    · subst h3
      exact ⟨rfl, fun _ => rfl⟩
    · cases e2 with
      | zero => exact absurd rfl h3
      | succ q => exact ⟨rfl, fun h => absurd h h3⟩
  · simp only [if_neg h0]
    exact ⟨trivial, fun h => absurd h h0⟩
theorem xRs_live : ∀ (k : Nat) (acc : List Rl) (l : List UInt8), (xRs k acc 0 l).1 = (rdRs k l).1 ∧ ((xRs k acc 0 l).1 = 0 → xRs k acc 0 l = (0, acc ++ (rdRs k l).2.1, (rdRs k l).2.2))
  | 0, acc, l => ⟨rfl, fun _ => by simp [xRs, rdRs]⟩
  | k + 1, acc, l => by
    rw [xRs, if_pos rfl, rdRs]
    cases l with
    | nil => exact ⟨rfl, fun h => by simp at h⟩
    | cons c t =>
      rw [if_neg (List.cons_ne_nil c t), show (c :: t).headD 0 = c from rfl, show (c :: t).tail = t from rfl]
      obtain ⟨r1, r2⟩ := xRel_rd c t
      obtain ⟨e1, r, l1, h1⟩ : ∃ e1 s l1, rdRel (c :: t) = (e1, s, l1) := ⟨_, _, _, rfl⟩
      rw [h1] at r1 r2
      simp only [h1]
      by_cases h0 : e1 = 0
      · subst h0
        rw [r2 r1]
        simp only
        obtain ⟨i1, i2⟩ := xRs_live k (acc ++ [r]) l1
        obtain ⟨e2, u, l2, h2⟩ : ∃ e2 u l2, rdRs k l1 = (e2, u, l2) := ⟨_, _, _, rfl⟩
        rw [h2] at i1 i2
        simp only [h2]
        by_cases h3 : e2 = 0
        · subst h3
          refine ⟨i1, fun h => ?_⟩
          rw [i2 h, List.append_assoc]
          rfl
        · cases e2 with
          | zero => exact absurd rfl h3
          | succ q => exact ⟨i1, fun h => absurd (i1.symm.trans h) h3⟩
      · have r1' : (xRel c t).1 = e1 := r1
        rw [xRs_dead (by rw [r1']; exact h0)]
        split
        · rename_i x; simp only [Prod.mk.injEq] at x; exact absurd x.1 h0
        · rename_i x; simp only [Prod.mk.injEq] at x
          obtain ⟨rfl, _⟩ := x
          exact ⟨r1', fun h => absurd (r1'.symm.trans h) h0⟩
theorem xRels_live (l : List UInt8) : (xRels 0 l).1 = (rdRels l).1 ∧ ((xRels 0 l).1 = 0 → xRels 0 l = rdRels l) := by
  unfold xRels rdRels stVar
  rw [if_pos rfl]
  obtain ⟨e1, n, l1, h1⟩ : ∃ e1 n l1, rdVar 256 l = (e1, n, l1) := ⟨_, _, _, rfl⟩
  simp only [h1]
  by_cases h0 : e1 = 0
  · subst h0
    obtain ⟨i1, i2⟩ := xRs_live n [] l1
    refine ⟨i1, fun h => ?_⟩
    simp only
    rw [i2 h]
    have : (rdRs n l1).1 = 0 := i1.symm.trans h
    rw [← this]
    rfl
  · rw [xRs_dead h0]
    split
    · rename_i x; simp only [Prod.mk.injEq] at x; exact absurd x.1 h0
    · rename_i x; simp only [Prod.mk.injEq] at x
      obtain ⟨rfl, _⟩ := x
      exact ⟨rfl, fun h => absurd h h0⟩
theorem xRels_dead {e : Nat} {l : List UInt8} (h : e ≠ 0) : xRels e l = (e, [], l) := by
  unfold xRels stVar
  rw [if_neg h]
  exact xRs_dead h
theorem xRs_bd : ∀ (k : Nat) (acc : List Rl) (e : Nat) (l : List UInt8), (∀ r ∈ acc, r.kind < 256 ∧ r.at_ < 65536 ∧ r.wh < 65536) → ∀ r ∈ (xRs k acc e l).2.1, r.kind < 256 ∧ r.at_ < 65536 ∧ r.wh < 65536
  | 0, acc, e, l, h => h
  | k + 1, acc, e, l, h => by
    rw [xRs]
    split
    · split
      · exact fun r hr => by cases hr
      · generalize l.headD 0 = c
        generalize l.tail = t
        refine xRs_bd k _ _ _ fun r hr => ?_
        rcases List.mem_append.1 hr with hr | hr
        · exact h r hr
        · obtain rfl := List.mem_singleton.1 hr
          have h1 := stVar_bd (M := 65535) (e := 0) (l := t)
          have h2 := stVar_bd (M := 65535) (e := (stVar 65535 0 t).1) (l := (stVar 65535 0 t).2.2)
          exact ⟨lt256 c, Nat.lt_of_le_of_lt h1 (by decide), Nat.lt_of_le_of_lt h2 (by decide)⟩
    · exact h
theorem stWords_bd {M e : Nat} {l : List UInt8} : ∀ w ∈ (stWords M e l).2.1, w < 4294967296 := by
  unfold stWords
  split
  · unfold rdWords
    split
    · split
      · exact takeW_lt _ _
      · exact fun w hw => by cases hw
    · exact fun w hw => by cases hw
  · exact fun w hw => by cases hw
/-- what stands behind the mark, as the reference reads it -/
def xBody (l : List UInt8) : Nat × Md × List UInt8 :=
  let a := sT 0 l
  let b := xTexts 8 a.1 a.2.2
  let c := xTexts 16 b.1 b.2.2
  let d := stWords 512 c.1 c.2.2
  let e := stWords 128 d.1 d.2.2
  let f := xRels e.1 e.2.2
  (f.1, ⟨a.2.1, b.2.1, c.2.1, d.2.1, e.2.1, f.2.1⟩, f.2.2)
theorem xBody_fine (l : List UInt8) : FineM (xBody l).2.1 := by
  unfold xBody
  have a1 := fun (e : Nat) (t : List UInt8) => stWords_bd (M := 512) (e := e) (l := t)
  have a2 := fun (e : Nat) (t : List UInt8) => stWords_bd (M := 128) (e := e) (l := t)
  have a3 := fun (e : Nat) (t : List UInt8) => (show ∀ r ∈ (xRels e t).2.1, r.kind < 256 ∧ r.at_ < 65536 ∧ r.wh < 65536 from xRs_bd _ [] _ _ (fun r hr => by cases hr))
  generalize stWords 512 = f at *
  generalize stWords 128 = g at *
  generalize xRels = h at *
  generalize sT 0 l = a at *
  generalize xTexts 8 a.1 a.2.2 = b at *
  generalize xTexts 16 b.1 b.2.2 = c at *
  exact ⟨a1 _ _, a2 _ _, a3 _ _⟩
theorem stWords_live (M : Nat) (l : List UInt8) : stWords M 0 l = rdWords M l := by
  unfold stWords
  rw [if_pos rfl]
theorem stWords_dead {M e : Nat} {l : List UInt8} (h : e ≠ 0) : stWords M e l = (e, [], l) := by
  unfold stWords
  rw [if_neg h]
theorem xBody_live (l : List UInt8) : (xBody l).1 = (rdBody l).1 ∧ ((xBody l).1 = 0 → xBody l = rdBody l) := by
  unfold xBody rdBody
  rw [sT_live]
  obtain ⟨e1, nm, l1, h1⟩ : ∃ e1 x l1, rdText 96 l = (e1, x, l1) := ⟨_, _, _, rfl⟩
  simp only [h1]
  by_cases h0 : e1 = 0
  case neg =>
    simp only [xTexts_dead h0, stWords_dead h0, xRels_dead h0]
    exact ⟨trivial, fun h => absurd h h0⟩
  subst h0
  obtain ⟨i1, i2⟩ := xTexts_live 8 l1
  obtain ⟨e2, ex, l2, h2⟩ : ∃ y x z, rdTexts 8 l1 = (y, x, z) := ⟨_, _, _, rfl⟩
  rw [h2] at i1 i2
  simp only [h2]
  by_cases h0 : e2 = 0
  case neg =>
    have hx : (xTexts 8 0 l1).1 ≠ 0 := by rw [i1]; exact h0
    simp only [xTexts_dead hx, stWords_dead hx, xRels_dead hx]
    exact ⟨i1, fun h => absurd h hx⟩
  subst h0
  rw [i2 i1]
  simp only
  obtain ⟨i1, i2⟩ := xTexts_live 16 l2
  obtain ⟨e3, im, l3, h3⟩ : ∃ y x z, rdTexts 16 l2 = (y, x, z) := ⟨_, _, _, rfl⟩
  rw [h3] at i1 i2
  simp only [h3]
  by_cases h0 : e3 = 0
  case neg =>
    have hx : (xTexts 16 0 l2).1 ≠ 0 := by rw [i1]; exact h0
    simp only [stWords_dead hx, xRels_dead hx]
    exact ⟨i1, fun h => absurd h hx⟩
  subst h0
  rw [i2 i1]
  simp only [stWords_live]
  obtain ⟨e4, cd, l4, h4⟩ : ∃ y x z, rdWords 512 l3 = (y, x, z) := ⟨_, _, _, rfl⟩
  simp only [h4]
  by_cases h0 : e4 = 0
  case neg =>
    simp only [stWords_dead h0, xRels_dead h0]
    exact ⟨trivial, fun h => absurd h h0⟩
  subst h0
  simp only [stWords_live]
  obtain ⟨e5, dt, l5, h5⟩ : ∃ y x z, rdWords 128 l4 = (y, x, z) := ⟨_, _, _, rfl⟩
  simp only [h5]
  by_cases h0 : e5 = 0
  case neg =>
    simp only [xRels_dead h0]
    exact ⟨trivial, fun h => absurd h h0⟩
  subst h0
  obtain ⟨i1, i2⟩ := xRels_live l5
  obtain ⟨e6, rl, l6, h6⟩ : ∃ y x z, rdRels l5 = (y, x, z) := ⟨_, _, _, rfl⟩
  rw [h6] at i1 i2
  simp only [h6]
  by_cases h0 : e6 = 0
  case neg =>
    have hx : (xRels 0 l5).1 ≠ 0 := by rw [i1]; exact h0
    cases e6 with
    | zero => exact absurd rfl h0
    | succ q => exact ⟨i1, fun h => absurd h hx⟩
  subst h0
  rw [i2 i1]
  exact ⟨rfl, fun _ => rfl⟩
/-- what Get tells, by the reference's reading -/
theorem getF_x {b : List UInt8} (h1 : b.length ≤ 16384) (h2 : 4 ≤ b.length) : getF b = if (xBody (b.drop 4)).1 = 0 ∧ chkM (xBody (b.drop 4)).2.1 = 0 ∧ putL (xBody (b.drop 4)).2.1 = b then (0, (xBody (b.drop 4)).2.1) else (4, zeroM) := by
  obtain ⟨i1, i2⟩ := xBody_live (b.drop 4)
  unfold getF
  rw [if_neg (by omega), if_neg (by omega)]
  generalize xBody (b.drop 4) = X at *
  generalize rdBody (b.drop 4) = Y at *
  by_cases h : X.1 = 0
  · rw [i2 h]
  · have h' : Y.1 ≠ 0 := by rw [← i1]; exact h
    rw [if_neg (show ¬ (Y.1 = 0 ∧ chkM Y.2.1 = 0 ∧ putL Y.2.1 = b) from fun x => h' x.1), if_neg (show ¬ (X.1 = 0 ∧ chkM X.2.1 = 0 ∧ putL X.2.1 = b) from fun x => h x.1)]
end Go.Proofs.Ytdlinlkdielmkaa.OR
