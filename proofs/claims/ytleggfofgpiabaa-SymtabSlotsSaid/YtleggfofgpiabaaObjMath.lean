/-
  Modules as bytes: lists alone. Nothing of the program.
-/
import Derived.Test.YtleggfofgpiabaaWireA
set_option linter.unusedSimpArgs false
set_option linter.unusedVariables false
namespace Go.Proofs.Ytleggfofgpiabaa.OM
open WM

structure Rl where
  kind : Nat
  at_ : Nat
  wh : Nat
deriving DecidableEq
/-- a module -/
structure Md where
  name : List UInt8
  exps : List (List UInt8)
  imps : List (List UInt8)
  code : List Nat
  data : List Nat
  rels : List Rl
deriving DecidableEq
def zeroM : Md := ⟨[], [], [], [], [], []⟩
/-- what a module's numbers are like -/
structure FineM (m : Md) : Prop where
  code : ∀ w ∈ m.code, w < 4294967296
  data : ∀ w ∈ m.data, w < 4294967296
  rels : ∀ r ∈ m.rels, r.kind < 256 ∧ r.at_ < 65536 ∧ r.wh < 65536
/-! laid -/
def textsB : List (List UInt8) → List UInt8
  | [] => []
  | s :: l => textL s ++ textsB l
def textsL (l : List (List UInt8)) : List UInt8 := varL (l.length % 4294967296) ++ textsB l
def relL (r : Rl) : List UInt8 := UInt8.ofNat r.kind :: (varL r.at_ ++ varL r.wh)
def relsB : List Rl → List UInt8
  | [] => []
  | r :: l => relL r ++ relsB l
def relsL (l : List Rl) : List UInt8 := varL (l.length % 4294967296) ++ relsB l
def bud1 : List UInt8 := [66, 85, 68, 49]
def bodyL (m : Md) : List UInt8 := textL m.name ++ (textsL m.exps ++ (textsL m.imps ++ (wordsL m.code ++ (wordsL m.data ++ relsL m.rels))))
def putL (m : Md) : List UInt8 := bud1 ++ bodyL m
theorem textsB_append : ∀ (a b : List (List UInt8)), textsB (a ++ b) = textsB a ++ textsB b
  | [], b => rfl
  | s :: a, b => by simp [textsB, textsB_append a b]
theorem relsB_append : ∀ (a b : List Rl), relsB (a ++ b) = relsB a ++ relsB b
  | [], b => rfl
  | r :: a, b => by simp [relsB, relsB_append a b]
/-! what is wrong with a module -/
def longB (l : List (List UInt8)) : Bool := l.any fun s => decide (96 < s.length)
def manyB (m : Md) : Bool := decide (8 < m.exps.length ∨ 16 < m.imps.length ∨ 512 < m.code.length ∨ 128 < m.data.length ∨ 256 < m.rels.length)
def farB (m : Md) : Bool := manyB m || decide (96 < m.name.length) || longB m.exps || longB m.imps
def argB (m : Md) : Bool := m.rels.any fun r => decide (7 < r.kind)
def chkM (m : Md) : Nat := if farB m then 5 else if argB m then 2 else 0
theorem chk_ok {m : Md} (h : chkM m = 0) : (m.exps.length ≤ 8 ∧ m.imps.length ≤ 16 ∧ m.code.length ≤ 512 ∧ m.data.length ≤ 128 ∧ m.rels.length ≤ 256) ∧ m.name.length ≤ 96 ∧ (∀ s ∈ m.exps, s.length ≤ 96) ∧ (∀ s ∈ m.imps, s.length ≤ 96) ∧ ∀ r ∈ m.rels, r.kind ≤ 7 := by
  unfold chkM at h
  split at h
  · omega
  · split at h
    · omega
    · rename_i h1 h2
      unfold farB at h1
      unfold argB at h2
      simp only [Bool.or_eq_true, not_or, Bool.not_eq_true, decide_eq_false_iff_not] at h1
      obtain ⟨⟨⟨h1, h3⟩, h4⟩, h5⟩ := h1
      unfold manyB at h1
      simp only [decide_eq_false_iff_not, not_or] at h1
      unfold longB at h4 h5
      simp only [List.any_eq_false, decide_eq_true_eq] at h4 h5
      simp only [Bool.not_eq_true, List.any_eq_false, decide_eq_true_eq] at h2
      refine ⟨by omega, by omega, fun s hs => ?_, fun s hs => ?_, fun r hr => ?_⟩
      · have := h4 s hs; omega
      · have := h5 s hs; omega
      · have := h2 r hr; omega
/-! read -/
def rdTs : Nat → List UInt8 → Nat × List (List UInt8) × List UInt8
  | 0, xs => (0, [], xs)
  | k + 1, xs =>
    match rdText 96 xs with
    | (0, s, t) => match rdTs k t with
      | (0, l, u) => (0, s :: l, u)
      | (e, _, _) => (e, [], [])
    | (e, _, _) => (e, [], [])
def rdTexts (most : Nat) (xs : List UInt8) : Nat × List (List UInt8) × List UInt8 :=
  match rdVar most xs with
  | (0, n, t) => rdTs n t
  | (e, _, _) => (e, [], [])
def rdRel (xs : List UInt8) : Nat × Rl × List UInt8 :=
  match xs with
  | [] => (3, ⟨0, 0, 0⟩, [])
  | c :: t => match rdVar 65535 t with
    | (0, a, u) => match rdVar 65535 u with
      | (0, b, v) => (0, ⟨c.toNat, a, b⟩, v)
      | (e, _, _) => (e, ⟨0, 0, 0⟩, [])
    | (e, _, _) => (e, ⟨0, 0, 0⟩, [])
def rdRs : Nat → List UInt8 → Nat × List Rl × List UInt8
  | 0, xs => (0, [], xs)
  | k + 1, xs =>
    match rdRel xs with
    | (0, s, t) => match rdRs k t with
      | (0, l, u) => (0, s :: l, u)
      | (e, _, _) => (e, [], [])
    | (e, _, _) => (e, [], [])
def rdRels (xs : List UInt8) : Nat × List Rl × List UInt8 :=
  match rdVar 256 xs with
  | (0, n, t) => rdRs n t
  | (e, _, _) => (e, [], [])
/-- a module read, and what is left; or the error -/
def rdBody (xs : List UInt8) : Nat × Md × List UInt8 :=
  match rdText 96 xs with
  | (0, nm, t1) => match rdTexts 8 t1 with
    | (0, ex, t2) => match rdTexts 16 t2 with
      | (0, im, t3) => match rdWords 512 t3 with
        | (0, cd, t4) => match rdWords 128 t4 with
          | (0, dt, t5) => match rdRels t5 with
            | (0, rl, t6) => (0, ⟨nm, ex, im, cd, dt, rl⟩, t6)
            | (e, _, _) => (e, zeroM, [])
          | (e, _, _) => (e, zeroM, [])
        | (e, _, _) => (e, zeroM, [])
      | (e, _, _) => (e, zeroM, [])
    | (e, _, _) => (e, zeroM, [])
  | (e, _, _) => (e, zeroM, [])
theorem rdTs_put : ∀ (l : List (List UInt8)) (t : List UInt8), (∀ s ∈ l, s.length ≤ 96) → rdTs l.length (textsB l ++ t) = (0, l, t)
  | [], t, _ => rfl
  | s :: l, t, h => by
    have h1 := h s (by simp)
    simp only [List.length_cons, rdTs, textsB, List.append_assoc]
    rw [rdText_textL s _ (by omega) 96 h1]
    simp only
    rw [rdTs_put l t (fun x hx => h x (by simp [hx]))]
    rfl
theorem rdTexts_put (most : Nat) (l : List (List UInt8)) (t : List UInt8) (hm : l.length ≤ most) (h4 : l.length < 4294967296) (h : ∀ s ∈ l, s.length ≤ 96) : rdTexts most (textsL l ++ t) = (0, l, t) := by
  unfold rdTexts textsL
  rw [List.append_assoc, Nat.mod_eq_of_lt h4, rdVar_varL _ _ _ h4 hm]
  exact rdTs_put l t h
theorem rdRel_put (r : Rl) (t : List UInt8) (h : r.kind < 256 ∧ r.at_ < 65536 ∧ r.wh < 65536) : rdRel (relL r ++ t) = (0, r, t) := by
  obtain ⟨h1, h2, h3⟩ := h
  simp only [relL, List.cons_append, List.append_assoc, rdRel]
  rw [rdVar_varL _ _ _ (by omega) (by omega)]
  simp only
  rw [rdVar_varL _ _ _ (by omega) (by omega)]
  simp only [toNat_ofNat, Nat.mod_eq_of_lt h1]
theorem rdRs_put : ∀ (l : List Rl) (t : List UInt8), (∀ r ∈ l, r.kind < 256 ∧ r.at_ < 65536 ∧ r.wh < 65536) → rdRs l.length (relsB l ++ t) = (0, l, t)
  | [], t, _ => rfl
  | s :: l, t, h => by
    simp only [List.length_cons, rdRs, relsB, List.append_assoc]
    rw [rdRel_put s _ (h s (by simp))]
    simp only
    rw [rdRs_put l t (fun x hx => h x (by simp [hx]))]
    rfl
theorem rdRels_put (l : List Rl) (t : List UInt8) (hm : l.length ≤ 256) (h : ∀ r ∈ l, r.kind < 256 ∧ r.at_ < 65536 ∧ r.wh < 65536) : rdRels (relsL l ++ t) = (0, l, t) := by
  unfold rdRels relsL
  rw [List.append_assoc, Nat.mod_eq_of_lt (by omega), rdVar_varL _ _ _ (by omega) hm]
  exact rdRs_put l t h
/-- what is laid is read, and what stands behind it is left -/
theorem rdBody_put {m : Md} (hc : chkM m = 0) (hf : FineM m) (t : List UInt8) : rdBody (bodyL m ++ t) = (0, m, t) := by
  obtain ⟨⟨h1, h2, h3, h4, h5⟩, h6, h7, h8, h9⟩ := chk_ok hc
  unfold rdBody bodyL
  simp only [List.append_assoc]
  rw [rdText_textL _ _ (by omega) 96 h6]
  simp only
  rw [rdTexts_put 8 _ _ h1 (by omega) h7]
  simp only
  rw [rdTexts_put 16 _ _ h2 (by omega) h8]
  simp only
  rw [rdWords_wordsL _ _ (by omega) hf.code 512 h3]
  simp only
  rw [rdWords_wordsL _ _ (by omega) hf.data 128 h4]
  simp only
  rw [rdRels_put _ _ h5 hf.rels]
  rfl
/-- no two modules that may be laid have bytes of which one's begin the other's -/
theorem put_only {m k : Md} (hm : chkM m = 0) (fm : FineM m) (hk : chkM k = 0) (fk : FineM k) {t u : List UInt8} (h : putL m ++ t = putL k ++ u) : m = k ∧ t = u := by
  unfold putL at h
  rw [List.append_assoc, List.append_assoc] at h
  have h2 := List.append_cancel_left h
  have h3 := rdBody_put hm fm t
  rw [h2, rdBody_put hk fk u] at h3
  simp only [Prod.mk.injEq, true_and] at h3
  exact ⟨h3.1.symm, h3.2.symm⟩
theorem put_inj {m k : Md} (hm : chkM m = 0) (fm : FineM m) (hk : chkM k = 0) (fk : FineM k) (h : putL m = putL k) : m = k := by
  have := put_only hm fm hk fk (t := []) (u := []) (by simpa using h)
  exact this.1
/-- what some bytes are -/
def Is (b : List UInt8) (m : Md) : Prop := chkM m = 0 ∧ FineM m ∧ putL m = b
theorem Is.only {b : List UInt8} {m k : Md} (h : Is b m) (h' : Is b k) : m = k := put_inj h.1 h.2.1 h'.1 h'.2.1 (h.2.2.trans h'.2.2.symm)
/-- one byte more, one byte less -/
theorem Is.more {b : List UInt8} {m : Md} (h : Is b m) (c : UInt8) : ∀ k, ¬ Is (b ++ [c]) k := fun k h' => by
  have := put_only h.1 h.2.1 h'.1 h'.2.1 (t := [c]) (u := []) (by rw [h.2.2, h'.2.2]; simp)
  simp at this
theorem Is.less {b : List UInt8} {m : Md} (h : Is b m) : ∀ k, ¬ Is b.dropLast k := fun k h' => by
  have hne : b ≠ [] := by
    rw [← h.2.2]
    unfold putL bud1
    simp
  have e : b.dropLast ++ [b.getLast hne] = b := List.dropLast_concat_getLast hne
  exact h'.more (b.getLast hne) m (by rw [e]; exact h)
theorem put_len {m : Md} : 10 ≤ (putL m).length := by
  unfold putL bodyL bud1 textL textsL wordsL relsL
  have h1 := varL_pos (m.name.length % 4294967296)
  have h2 := varL_pos (m.exps.length % 4294967296)
  have h3 := varL_pos (m.imps.length % 4294967296)
  have h4 := varL_pos (m.code.length % 4294967296)
  have h5 := varL_pos (m.data.length % 4294967296)
  have h6 := varL_pos (m.rels.length % 4294967296)
  simp only [List.length_append, List.length_cons, List.length_nil]
  omega
/-! what is read is a module's -/
theorem rdVar_bd {most : Nat} {xs : List UInt8} {n : Nat} {t : List UInt8} (h : rdVar most xs = (0, n, t)) : n ≤ most ∧ n ≤ 4294967295 ∧ t.length < xs.length := by
  have := vr_good most 5 0 0 xs (by show (rdVar most xs).1 = 0; rw [h])
  rw [show vr most 5 0 0 xs = (0, n, t) from h] at this
  exact this
theorem takeW_lt : ∀ (k : Nat) (xs : List UInt8), ∀ w ∈ takeW k xs, w < 4294967296
  | 0, xs, w, h => by simp [takeW] at h
  | k + 1, xs, w, h => by
    simp only [takeW, List.mem_cons] at h
    rcases h with rfl | h
    · exact word4_lt _
    · exact takeW_lt k _ w h
theorem rdWords_lt {most : Nat} {xs : List UInt8} {l : List Nat} {t : List UInt8} (h : rdWords most xs = (0, l, t)) : ∀ w ∈ l, w < 4294967296 := by
  unfold rdWords at h
  split at h
  · split at h
    · simp only [Prod.mk.injEq] at h
      obtain ⟨_, rfl, _⟩ := h
      exact takeW_lt _ _
    · simp at h
  · simp only [Prod.mk.injEq] at h
    obtain ⟨_, rfl, _⟩ := h
    intro w hw
    cases hw
theorem rdRel_bd {xs : List UInt8} {r : Rl} {t : List UInt8} (h : rdRel xs = (0, r, t)) : r.kind < 256 ∧ r.at_ < 65536 ∧ r.wh < 65536 := by
  unfold rdRel at h
  split at h
  · simp at h
  · rename_i c t'
    split at h
    · rename_i a u h1
      have b1 := rdVar_bd h1
      split at h
      · rename_i b v h2
        have b2 := rdVar_bd h2
        simp only [Prod.mk.injEq, true_and] at h
        obtain ⟨rfl, _⟩ := h
        exact ⟨lt256 c, by show a < 65536; omega, by show b < 65536; omega⟩
      · simp only [Prod.mk.injEq] at h
        obtain ⟨_, rfl, _⟩ := h
        exact ⟨by decide, by decide, by decide⟩
    · simp only [Prod.mk.injEq] at h
      obtain ⟨_, rfl, _⟩ := h
      exact ⟨by decide, by decide, by decide⟩
theorem rdRs_bd : ∀ (k : Nat) (xs : List UInt8) (l : List Rl) (t : List UInt8), rdRs k xs = (0, l, t) → ∀ r ∈ l, r.kind < 256 ∧ r.at_ < 65536 ∧ r.wh < 65536
  | 0, xs, l, t, h, r, hr => by
    simp only [rdRs, Prod.mk.injEq, true_and] at h
    rw [← h.1] at hr
    cases hr
  | k + 1, xs, l, t, h, r, hr => by
    unfold rdRs at h
    split at h
    · rename_i s u h1
      split at h
      · rename_i l' v h2
        simp only [Prod.mk.injEq, true_and] at h
        obtain ⟨rfl, _⟩ := h
        rcases List.mem_cons.1 hr with rfl | hr
        · exact rdRel_bd h1
        · exact rdRs_bd k _ _ _ h2 r hr
      · simp only [Prod.mk.injEq] at h
        obtain ⟨_, rfl, _⟩ := h
        cases hr
    · simp only [Prod.mk.injEq] at h
      obtain ⟨_, rfl, _⟩ := h
      cases hr
theorem rdBody_fine {xs : List UInt8} {m : Md} {t : List UInt8} (h : rdBody xs = (0, m, t)) : FineM m := by
  unfold rdBody at h
  have bad : ∀ {e : Nat} {k : Md} {u : List UInt8}, ((e, zeroM, []) : Nat × Md × List UInt8) = (0, k, u) → FineM k := fun h => by
    simp only [Prod.mk.injEq] at h
    obtain ⟨_, rfl, _⟩ := h
    exact ⟨fun w hw => absurd hw List.not_mem_nil, fun w hw => absurd hw List.not_mem_nil, fun w hw => absurd hw List.not_mem_nil⟩
  split at h
  · split at h
    · split at h
      · split at h
        · rename_i h4
          split at h
          · rename_i h5
            split at h
            · rename_i h6
              simp only [Prod.mk.injEq, true_and] at h
              obtain ⟨rfl, _⟩ := h
              refine ⟨rdWords_lt h4, rdWords_lt h5, ?_⟩
              unfold rdRels at h6
              split at h6
              · exact rdRs_bd _ _ _ _ h6
              · simp only [Prod.mk.injEq] at h6
                obtain ⟨_, rfl, _⟩ := h6
                intro r hr
                cases hr
            · exact bad h
          · exact bad h
        · exact bad h
      · exact bad h
    · exact bad h
  · exact bad h
/-- what Get tells of some bytes -/
def getF (b : List UInt8) : Nat × Md :=
  if 16384 < b.length then (5, zeroM)
  else if b.length < 4 then (4, zeroM)
  else if (rdBody (b.drop 4)).1 = 0 ∧ chkM (rdBody (b.drop 4)).2.1 = 0 ∧ putL (rdBody (b.drop 4)).2.1 = b then (0, (rdBody (b.drop 4)).2.1)
  else (4, zeroM)
theorem getF_iff (b : List UInt8) (m : Md) : getF b = (0, m) ↔ b.length ≤ 16384 ∧ Is b m := by
  unfold getF
  constructor
  · intro h
    split at h
    · simp at h
    · split at h
      · simp at h
      · split at h
        · rename_i h1 h2 h3
          simp only [Prod.mk.injEq, true_and] at h
          obtain ⟨x1, x2, x3⟩ := h3
          rw [← h]
          refine ⟨by omega, x2, ?_, x3⟩
          exact rdBody_fine (xs := b.drop 4) (t := (rdBody (b.drop 4)).2.2) (by rw [← x1])
        · simp at h
  · rintro ⟨hl, hc, hf, rfl⟩
    have h10 := put_len (m := m)
    have e : (putL m).drop 4 = bodyL m := rfl
    have hr : rdBody ((putL m).drop 4) = (0, m, []) := by
      have := rdBody_put hc hf []
      rwa [List.append_nil, ← e] at this
    rw [if_neg (by omega), if_neg (by omega), hr, if_pos ⟨rfl, hc, rfl⟩]
theorem getF_no {b : List UInt8} (hl : b.length ≤ 16384) (h : ∀ m, ¬ Is b m) : getF b = (4, zeroM) := by
  have hg := getF_iff b
  unfold getF at hg ⊢
  rw [if_neg (by omega)] at hg ⊢
  split
  · rfl
  · rename_i h4
    rw [if_neg h4] at hg
    split
    · rename_i h3
      rw [if_pos h3] at hg
      exact absurd ((hg _).1 rfl).2 (h _)
    · rfl
theorem getF_yes {b : List UInt8} {m : Md} (hl : b.length ≤ 16384) (h : Is b m) : getF b = (0, m) := (getF_iff b m).2 ⟨hl, h⟩
theorem getF_long {b : List UInt8} (hl : 16384 < b.length) : getF b = (5, zeroM) := by unfold getF; rw [if_pos hl]
end Go.Proofs.Ytleggfofgpiabaa.OM
