/-
  Joined texts: ObjMath, ObjRow. Nothing here is a statement of the seed.
-/
import Derived.Test.YtigalcmhongleaaWireA
set_option linter.unusedSimpArgs false
set_option linter.unusedVariables false
/-
  Modules as bytes: lists alone. Nothing of the program.
-/
namespace Go.Proofs.Ytigalcmhongleaa.OM
open WM

structure Rl where
  kind : Nat
  at_ : Nat
  wh : Nat
deriving DecidableEq
/-- a module -/
structure Md where
  name : List UInt8
  exps : List (List UInt8)
  imps : List (List UInt8)
  code : List Nat
  data : List Nat
  rels : List Rl
deriving DecidableEq
def zeroM : Md := ⟨[], [], [], [], [], []⟩
/-- what a module's numbers are like -/
structure FineM (m : Md) : Prop where
  code : ∀ w ∈ m.code, w < 4294967296
  data : ∀ w ∈ m.data, w < 4294967296
  rels : ∀ r ∈ m.rels, r.kind < 256 ∧ r.at_ < 65536 ∧ r.wh < 65536
/-! laid -/
def textsB : List (List UInt8) → List UInt8
  | [] => []
  | s :: l => textL s ++ textsB l
def textsL (l : List (List UInt8)) : List UInt8 := varL (l.length % 4294967296) ++ textsB l
def relL (r : Rl) : List UInt8 := UInt8.ofNat r.kind :: (varL r.at_ ++ varL r.wh)
def relsB : List Rl → List UInt8
  | [] => []
  | r :: l => relL r ++ relsB l
def relsL (l : List Rl) : List UInt8 := varL (l.length % 4294967296) ++ relsB l
def bud1 : List UInt8 := [66, 85, 68, 49]
def bodyL (m : Md) : List UInt8 := textL m.name ++ (textsL m.exps ++ (textsL m.imps ++ (wordsL m.code ++ (wordsL m.data ++ relsL m.rels))))
def putL (m : Md) : List UInt8 := bud1 ++ bodyL m
theorem textsB_append : ∀ (a b : List (List UInt8)), textsB (a ++ b) = textsB a ++ textsB b
  | [], b => rfl
  | s :: a, b => by simp [textsB, textsB_append a b]
theorem relsB_append : ∀ (a b : List Rl), relsB (a ++ b) = relsB a ++ relsB b
  | [], b => rfl
  | r :: a, b => by simp [relsB, relsB_append a b]
/-! what is wrong with a module -/
def longB (l : List (List UInt8)) : Bool := l.any fun s => decide (96 < s.length)
def manyB (m : Md) : Bool := decide (8 < m.exps.length ∨ 16 < m.imps.length ∨ 512 < m.code.length ∨ 128 < m.data.length ∨ 256 < m.rels.length)
def farB (m : Md) : Bool := manyB m || decide (96 < m.name.length) || longB m.exps || longB m.imps
def argB (m : Md) : Bool := m.rels.any fun r => decide (7 < r.kind)
def chkM (m : Md) : Nat := if farB m then 5 else if argB m then 2 else 0
theorem chk_ok {m : Md} (h : chkM m = 0) : (m.exps.length ≤ 8 ∧ m.imps.length ≤ 16 ∧ m.code.length ≤ 512 ∧ m.data.length ≤ 128 ∧ m.rels.length ≤ 256) ∧ m.name.length ≤ 96 ∧ (∀ s ∈ m.exps, s.length ≤ 96) ∧ (∀ s ∈ m.imps, s.length ≤ 96) ∧ ∀ r ∈ m.rels, r.kind ≤ 7 := by
  unfold chkM at h
  split at h
  · omega
  · split at h
    · omega
    · rename_i h1 h2
      unfold farB at h1
      unfold argB at h2
      simp only [Bool.or_eq_true, not_or, Bool.not_eq_true, decide_eq_false_iff_not] at h1
      obtain ⟨⟨⟨h1, h3⟩, h4⟩, h5⟩ := h1
      unfold manyB at h1
      simp only [decide_eq_false_iff_not, not_or] at h1
      unfold longB at h4 h5
      simp only [List.any_eq_false, decide_eq_true_eq] at h4 h5
      simp only [Bool.not_eq_true, List.any_eq_false, decide_eq_true_eq] at h2
      refine ⟨by omega, by omega, fun s hs => ?_, fun s hs => ?_, fun r hr => ?_⟩
      · have := h4 s hs; omega
      · have := h5 s hs; omega
      · have := h2 r hr; omega
/-! read -/
def rdTs : Nat → List UInt8 → Nat × List (List UInt8) × List UInt8
  | 0, xs => (0, [], xs)
  | k + 1, xs =>
    match rdText 96 xs with
    | (0, s, t) => match rdTs k t with
      | (0, l, u) => (0, s :: l, u)
      | (e, _, _) => (e, [], [])
    | (e, _, _) => (e, [], [])
def rdTexts (most : Nat) (xs : List UInt8) : Nat × List (List UInt8) × List UInt8 :=
  match rdVar most xs with
  | (0, n, t) => rdTs n t
  | (e, _, _) => (e, [], [])
def rdRel (xs : List UInt8) : Nat × Rl × List UInt8 :=
  match xs with
  | [] => (3, ⟨0, 0, 0⟩, [])
  | c :: t => match rdVar 65535 t with
    | (0, a, u) => match rdVar 65535 u with
      | (0, b, v) => (0, ⟨c.toNat, a, b⟩, v)
      | (e, _, _) => (e, ⟨0, 0, 0⟩, [])
    | (e, _, _) => (e, ⟨0, 0, 0⟩, [])
def rdRs : Nat → List UInt8 → Nat × List Rl × List UInt8
  | 0, xs => (0, [], xs)
  | k + 1, xs =>
    match rdRel xs with
    | (0, s, t) => match rdRs k t with
      | (0, l, u) => (0, s :: l, u)
      | (e, _, _) => (e, [], [])
    | (e, _, _) => (e, [], [])
def rdRels (xs : List UInt8) : Nat × List Rl × List UInt8 :=
  match rdVar 256 xs with
  | (0, n, t) => rdRs n t
  | (e, _, _) => (e, [], [])
/-- a module read, and what is left; or the error -/
def rdBody (xs : List UInt8) : Nat × Md × List UInt8 :=
  match rdText 96 xs with
  | (0, nm, t1) => match rdTexts 8 t1 with
    | (0, ex, t2) => match rdTexts 16 t2 with
      | (0, im, t3) => match rdWords 512 t3 with
        | (0, cd, t4) => match rdWords 128 t4 with
          | (0, dt, t5) => match rdRels t5 with
            | (0, rl, t6) => (0, ⟨nm, ex, im, cd, dt, rl⟩, t6)
            | (e, _, _) => (e, zeroM, [])
          | (e, _, _) => (e, zeroM, [])
        | (e, _, _) => (e, zeroM, [])
      | (e, _, _) => (e, zeroM, [])
    | (e, _, _) => (e, zeroM, [])
  | (e, _, _) => (e, zeroM, [])
theorem rdTs_put : ∀ (l : List (List UInt8)) (t : List UInt8), (∀ s ∈ l, s.length ≤ 96) → rdTs l.length (textsB l ++ t) = (0, l, t)
  | [], t, _ => rfl
  | s :: l, t, h => by
    have h1 := h s (by simp)
    simp only [List.length_cons, rdTs, textsB, List.append_assoc]
    rw [rdText_textL s _ (by omega) 96 h1]
    simp only
    rw [rdTs_put l t (fun x hx => h x (by simp [hx]))]
    rfl
theorem rdTexts_put (most : Nat) (l : List (List UInt8)) (t : List UInt8) (hm : l.length ≤ most) (h4 : l.length < 4294967296) (h : ∀ s ∈ l, s.length ≤ 96) : rdTexts most (textsL l ++ t) = (0, l, t) := by
  unfold rdTexts textsL
  rw [List.append_assoc, Nat.mod_eq_of_lt h4, rdVar_varL _ _ _ h4 hm]
  exact rdTs_put l t h
theorem rdRel_put (r : Rl) (t : List UInt8) (h : r.kind < 256 ∧ r.at_ < 65536 ∧ r.wh < 65536) : rdRel (relL r ++ t) = (0, r, t) := by
  obtain ⟨h1, h2, h3⟩ := h
  simp only [relL, List.cons_append, List.append_assoc, rdRel]
  rw [rdVar_varL _ _ _ (by omega) (by omega)]
  simp only
  rw [rdVar_varL _ _ _ (by omega) (by omega)]
  simp only [toNat_ofNat, Nat.mod_eq_of_lt h1]
theorem rdRs_put : ∀ (l : List Rl) (t : List UInt8), (∀ r ∈ l, r.kind < 256 ∧ r.at_ < 65536 ∧ r.wh < 65536) → rdRs l.length (relsB l ++ t) = (0, l, t)
  | [], t, _ => rfl
  | s :: l, t, h => by
    simp only [List.length_cons, rdRs, relsB, List.append_assoc]
    rw [rdRel_put s _ (h s (by simp))]
    simp only
    rw [rdRs_put l t (fun x hx => h x (by simp [hx]))]
    rfl
theorem rdRels_put (l : List Rl) (t : List UInt8) (hm : l.length ≤ 256) (h : ∀ r ∈ l, r.kind < 256 ∧ r.at_ < 65536 ∧ r.wh < 65536) : rdRels (relsL l ++ t) = (0, l, t) := by
  unfold rdRels relsL
  rw [List.append_assoc, Nat.mod_eq_of_lt (by omega), rdVar_varL _ _ _ (by omega) hm]
  exact rdRs_put l t h
/-- what is laid is read, and what stands behind it is left -/
theorem rdBody_put {m : Md} (hc : chkM m = 0) (hf : FineM m) (t : List UInt8) : rdBody (bodyL m ++ t) = (0, m, t) := by
  obtain ⟨⟨h1, h2, h3, h4, h5⟩, h6, h7, h8, h9⟩ := chk_ok hc
  unfold rdBody bodyL
  simp only [List.append_assoc]
  rw [rdText_textL _ _ (by omega) 96 h6]
  simp only
  rw [rdTexts_put 8 _ _ h1 (by omega) h7]
  simp only
  rw [rdTexts_put 16 _ _ h2 (by omega) h8]
  simp only
  rw [rdWords_wordsL _ _ (by omega) hf.code 512 h3]
  simp only
  rw [rdWords_wordsL _ _ (by omega) hf.data 128 h4]
  simp only
  rw [rdRels_put _ _ h5 hf.rels]
  rfl
/-- no two modules that may be laid have bytes of which one's begin the other's -/
theorem put_only {m k : Md} (hm : chkM m = 0) (fm : FineM m) (hk : chkM k = 0) (fk : FineM k) {t u : List UInt8} (h : putL m ++ t = putL k ++ u) : m = k ∧ t = u := by
  unfold putL at h
  rw [List.append_assoc, List.append_assoc] at h
  have h2 := List.append_cancel_left h
  have h3 := rdBody_put hm fm t
  rw [h2, rdBody_put hk fk u] at h3
  simp only [Prod.mk.injEq, true_and] at h3
  exact ⟨h3.1.symm, h3.2.symm⟩
theorem put_inj {m k : Md} (hm : chkM m = 0) (fm : FineM m) (hk : chkM k = 0) (fk : FineM k) (h : putL m = putL k) : m = k := by
  have := put_only hm fm hk fk (t := []) (u := []) (by simpa using h)
  exact this.1
/-- what some bytes are -/
def Is (b : List UInt8) (m : Md) : Prop := chkM m = 0 ∧ FineM m ∧ putL m = b
theorem Is.only {b : List UInt8} {m k : Md} (h : Is b m) (h' : Is b k) : m = k := put_inj h.1 h.2.1 h'.1 h'.2.1 (h.2.2.trans h'.2.2.symm)
/-- one byte more, one byte less -/
theorem Is.more {b : List UInt8} {m : Md} (h : Is b m) (c : UInt8) : ∀ k, ¬ Is (b ++ [c]) k := fun k h' => by
  have := put_only h.1 h.2.1 h'.1 h'.2.1 (t := [c]) (u := []) (by rw [h.2.2, h'.2.2]; simp)
  simp at this
theorem Is.less {b : List UInt8} {m : Md} (h : Is b m) : ∀ k, ¬ Is b.dropLast k := fun k h' => by
  have hne : b ≠ [] := by
    rw [← h.2.2]
    unfold putL bud1
    simp
  have e : b.dropLast ++ [b.getLast hne] = b := List.dropLast_concat_getLast hne
  exact h'.more (b.getLast hne) m (by rw [e]; exact h)
theorem put_len {m : Md} : 10 ≤ (putL m).length := by
  unfold putL bodyL bud1 textL textsL wordsL relsL
  have h1 := varL_pos (m.name.length % 4294967296)
  have h2 := varL_pos (m.exps.length % 4294967296)
  have h3 := varL_pos (m.imps.length % 4294967296)
  have h4 := varL_pos (m.code.length % 4294967296)
  have h5 := varL_pos (m.data.length % 4294967296)
  have h6 := varL_pos (m.rels.length % 4294967296)
  simp only [List.length_append, List.length_cons, List.length_nil]
  omega
/-! what is read is a module's -/
theorem rdVar_bd {most : Nat} {xs : List UInt8} {n : Nat} {t : List UInt8} (h : rdVar most xs = (0, n, t)) : n ≤ most ∧ n ≤ 4294967295 ∧ t.length < xs.length := by
  have := vr_good most 5 0 0 xs (by show (rdVar most xs).1 = 0; rw [h])
  rw [show vr most 5 0 0 xs = (0, n, t) from h] at this
  exact this
theorem takeW_lt : ∀ (k : Nat) (xs : List UInt8), ∀ w ∈ takeW k xs, w < 4294967296
  | 0, xs, w, h => by simp [takeW] at h
  | k + 1, xs, w, h => by
    simp only [takeW, List.mem_cons] at h
    rcases h with rfl | h
    · exact word4_lt _
    · exact takeW_lt k _ w h
theorem rdWords_lt {most : Nat} {xs : List UInt8} {l : List Nat} {t : List UInt8} (h : rdWords most xs = (0, l, t)) : ∀ w ∈ l, w < 4294967296 := by
  unfold rdWords at h
  split at h
  · split at h
    · simp only [Prod.mk.injEq] at h
      obtain ⟨_, rfl, _⟩ := h
      exact takeW_lt _ _
    · simp at h
  · simp only [Prod.mk.injEq] at h
    obtain ⟨_, rfl, _⟩ := h
    intro w hw
    cases hw
theorem rdRel_bd {xs : List UInt8} {r : Rl} {t : List UInt8} (h : rdRel xs = (0, r, t)) : r.kind < 256 ∧ r.at_ < 65536 ∧ r.wh < 65536 := by
  unfold rdRel at h
  split at h
  · simp at h
  · rename_i c t'
    split at h
    · rename_i a u h1
      have b1 := rdVar_bd h1
      split at h
      · rename_i b v h2
        have b2 := rdVar_bd h2
        simp only [Prod.mk.injEq, true_and] at h
        obtain ⟨rfl, _⟩ := h
        exact ⟨lt256 c, by show a < 65536; omega, by show b < 65536; omega⟩
      · simp only [Prod.mk.injEq] at h
        obtain ⟨_, rfl, _⟩ := h
        exact ⟨by decide, by decide, by decide⟩
    · simp only [Prod.mk.injEq] at h
      obtain ⟨_, rfl, _⟩ := h
      exact ⟨by decide, by decide, by decide⟩
theorem rdRs_bd : ∀ (k : Nat) (xs : List UInt8) (l : List Rl) (t : List UInt8), rdRs k xs = (0, l, t) → ∀ r ∈ l, r.kind < 256 ∧ r.at_ < 65536 ∧ r.wh < 65536
  | 0, xs, l, t, h, r, hr => by
    simp only [rdRs, Prod.mk.injEq, true_and] at h
    rw [← h.1] at hr
    cases hr
  | k + 1, xs, l, t, h, r, hr => by
    unfold rdRs at h
    split at h
    · rename_i s u h1
      split at h
      · rename_i l' v h2
        simp only [Prod.mk.injEq, true_and] at h
        obtain ⟨rfl, _⟩ := h
        rcases List.mem_cons.1 hr with rfl | hr
        · exact rdRel_bd h1
        · exact rdRs_bd k _ _ _ h2 r hr
      · simp only [Prod.mk.injEq] at h
        obtain ⟨_, rfl, _⟩ := h
        cases hr
    · simp only [Prod.mk.injEq] at h
      obtain ⟨_, rfl, _⟩ := h
      cases hr
theorem rdBody_fine {xs : List UInt8} {m : Md} {t : List UInt8} (h : rdBody xs = (0, m, t)) : FineM m := by
  unfold rdBody at h
  have bad : ∀ {e : Nat} {k : Md} {u : List UInt8}, ((e, zeroM, []) : Nat × Md × List UInt8) = (0, k, u) → FineM k := fun h => by
    simp only [Prod.mk.injEq] at h
    obtain ⟨_, rfl, _⟩ := h
    exact ⟨fun w hw => absurd hw List.not_mem_nil, fun w hw => absurd hw List.not_mem_nil, fun w hw => absurd hw List.not_mem_nil⟩
  split at h
  · split at h
    · split at h
      · split at h
        · rename_i h4
          split at h
          · rename_i h5
            split at h
            · rename_i h6
              simp only [Prod.mk.injEq, true_and] at h
              obtain ⟨rfl, _⟩ := h
              refine ⟨rdWords_lt h4, rdWords_lt h5, ?_⟩
              unfold rdRels at h6
              split at h6
              · exact rdRs_bd _ _ _ _ h6
              · simp only [Prod.mk.injEq] at h6
                obtain ⟨_, rfl, _⟩ := h6
                intro r hr
                cases hr
            · exact bad h
          · exact bad h
        · exact bad h
      · exact bad h
    · exact bad h
  · exact bad h
/-- what Get tells of some bytes -/
def getF (b : List UInt8) : Nat × Md :=
  if 16384 < b.length then (5, zeroM)
  else if b.length < 4 then (4, zeroM)
  else if (rdBody (b.drop 4)).1 = 0 ∧ chkM (rdBody (b.drop 4)).2.1 = 0 ∧ putL (rdBody (b.drop 4)).2.1 = b then (0, (rdBody (b.drop 4)).2.1)
  else (4, zeroM)
theorem getF_iff (b : List UInt8) (m : Md) : getF b = (0, m) ↔ b.length ≤ 16384 ∧ Is b m := by
  unfold getF
  constructor
  · intro h
    split at h
    · simp at h
    · split at h
      · simp at h
      · split at h
        · rename_i h1 h2 h3
          simp only [Prod.mk.injEq, true_and] at h
          obtain ⟨x1, x2, x3⟩ := h3
          rw [← h]
          refine ⟨by omega, x2, ?_, x3⟩
          exact rdBody_fine (xs := b.drop 4) (t := (rdBody (b.drop 4)).2.2) (by rw [← x1])
        · simp at h
  · rintro ⟨hl, hc, hf, rfl⟩
    have h10 := put_len (m := m)
    have e : (putL m).drop 4 = bodyL m := rfl
    have hr : rdBody ((putL m).drop 4) = (0, m, []) := by
      have := rdBody_put hc hf []
      rwa [List.append_nil, ← e] at this
    rw [if_neg (by omega), if_neg (by omega), hr, if_pos ⟨rfl, hc, rfl⟩]
theorem getF_no {b : List UInt8} (hl : b.length ≤ 16384) (h : ∀ m, ¬ Is b m) : getF b = (4, zeroM) := by
  have hg := getF_iff b
  unfold getF at hg ⊢
  rw [if_neg (by omega)] at hg ⊢
  split
  · rfl
  · rename_i h4
    rw [if_neg h4] at hg
    split
    · rename_i h3
      rw [if_pos h3] at hg
      exact absurd ((hg _).1 rfl).2 (h _)
    · rfl
theorem getF_yes {b : List UInt8} {m : Md} (hl : b.length ≤ 16384) (h : Is b m) : getF b = (0, m) := (getF_iff b m).2 ⟨hl, h⟩
theorem getF_long {b : List UInt8} (hl : 16384 < b.length) : getF b = (5, zeroM) := by unfold getF; rw [if_pos hl]
end Go.Proofs.Ytigalcmhongleaa.OM

/-
  Modules in memory: lists of texts, of words, of relocations. Nothing here is a statement of the seed.
-/
namespace Go.Proofs.Ytigalcmhongleaa.OR
open Go.RowKit WM NR OM
set_option maxRecDepth 10000
def strs (l : List (List UInt8)) : List Value := l.map fun s => Value.string (bs s)
theorem strs_len (l : List (List UInt8)) : (strs l).length = l.length := by simp [strs]
theorem strs_at {l : List (List UInt8)} {k : Nat} (h : k < l.length) : (strs l)[k]? = some (.string (bs (l.getD k []))) := by simp [strs, h]
theorem words_at {l : List Nat} {k : Nat} (h : k < l.length) : (u32s l)[k]? = some (.int .u32 ((l.getD k 0 : Nat) : Int)) := by simp [u32s, h]
theorem bs_inj {a b : List UInt8} : bs a = bs b ↔ a = b := by
  constructor
  · intro h
    have := congrArg (fun x : ByteArray => x.data.toList) h
    simpa [bs] using this
  · rintro rfl; rfl
theorem strs_append (a b : List (List UInt8)) : strs (a ++ b) = strs a ++ strs b := by simp [strs]
theorem strs_one (l : List (List UInt8)) : ∀ u ∈ strs l, u.oneCell' = true := by
  intro u hu
  simp only [strs, List.mem_map] at hu
  obtain ⟨s, _, rfl⟩ := hu
  rfl
theorem reads_at {B : Nat} {w u : World} {a : Option Addr} {n c : Nat} {xs : List Value} (h : Reads (· < B) w (.slice a n c) xs) (hb : Below B w u) {k : Nat} (hk : k < n) : ∃ g off, a = some ⟨g, off, none⟩ ∧ n ≤ c ∧ u.cell? ⟨g, off + k, none⟩ = xs[k]? := by
  obtain ⟨a', cap, e, h1, h2, h3, h4⟩ := h
  simp only [Value.slice.injEq] at e
  obtain ⟨rfl, rfl, rfl⟩ := e
  rcases h4 with h4 | ⟨g, off, rfl, hg, hc⟩
  · rw [h4] at hk; simp at hk
  · exact ⟨g, off, rfl, h1, (hb.cell (p := ⟨g, off + k, none⟩) hg).trans (hc k hk)⟩
theorem reads_len {G : Nat → Prop} {w : World} {a : Option Addr} {n c : Nat} {xs : List Value} (h : Reads G w (.slice a n c) xs) : xs.length = n ∧ n ≤ c ∧ c ≤ maxLen := by
  obtain ⟨a', cap, e, h1, h2, _⟩ := h
  simp only [Value.slice.injEq] at e
  obtain ⟨_, rfl, rfl⟩ := e
  exact ⟨rfl, h1, h2⟩
/-- a slice of relocations, three cells each -/
def ReadsR (G : Nat → Prop) (w : World) (v : Value) (l : List Rl) : Prop :=
  ∃ a cap, v = .slice a l.length cap ∧ l.length ≤ cap ∧ cap ≤ maxLen ∧ (a = none → cap = 0) ∧
    (l = [] ∨ ∃ g off, a = some ⟨g, off, none⟩ ∧ G g ∧ ∀ j, j < l.length → w.cell? ⟨g, off + j * 3, none⟩ = some (.int .u8 ((l.getD j ⟨0, 0, 0⟩).kind : Int)) ∧ w.cell? ⟨g, off + j * 3 + 1, none⟩ = some (.int .u16 ((l.getD j ⟨0, 0, 0⟩).at_ : Int)) ∧ w.cell? ⟨g, off + j * 3 + 2, none⟩ = some (.int .u16 ((l.getD j ⟨0, 0, 0⟩).wh : Int)))
theorem ReadsR.nil (G : Nat → Prop) (w : World) : ReadsR G w (.slice none 0 0) [] := ⟨none, 0, rfl, Nat.le_refl _, by simp [maxLen], fun _ => rfl, Or.inl rfl⟩
theorem ReadsR.len {G : Nat → Prop} {w : World} {a : Option Addr} {n c : Nat} {l : List Rl} (h : ReadsR G w (.slice a n c) l) : l.length = n ∧ n ≤ c ∧ c ≤ maxLen := by
  obtain ⟨a', cap, e, h1, h2, _⟩ := h
  simp only [Value.slice.injEq] at e
  obtain ⟨_, rfl, rfl⟩ := e
  exact ⟨rfl, h1, h2⟩
theorem ReadsR.form {G : Nat → Prop} {w : World} {v : Value} {l : List Rl} (h : ReadsR G w v l) : ∃ a n c, v = .slice a n c := by
  obtain ⟨a, cap, e, _⟩ := h
  exact ⟨a, _, cap, e⟩
theorem ReadsR.at {B : Nat} {w u : World} {a : Option Addr} {n c : Nat} {l : List Rl} (h : ReadsR (· < B) w (.slice a n c) l) (hb : Below B w u) {k : Nat} (hk : k < n) : ∃ g off, a = some ⟨g, off, none⟩ ∧ n ≤ c ∧ u.cell? ⟨g, off + k * 3, none⟩ = some (.int .u8 ((l.getD k ⟨0, 0, 0⟩).kind : Int)) ∧ u.cell? ⟨g, off + k * 3 + 1, none⟩ = some (.int .u16 ((l.getD k ⟨0, 0, 0⟩).at_ : Int)) ∧ u.cell? ⟨g, off + k * 3 + 2, none⟩ = some (.int .u16 ((l.getD k ⟨0, 0, 0⟩).wh : Int)) := by
  obtain ⟨a', cap, e, h1, h2, h3, h4⟩ := h
  simp only [Value.slice.injEq] at e
  obtain ⟨rfl, rfl, rfl⟩ := e
  rcases h4 with h4 | ⟨g, off, rfl, hg, hc⟩
  · rw [h4] at hk; simp at hk
  · obtain ⟨c0, c1, c2⟩ := hc k hk
    exact ⟨g, off, rfl, h1, (hb.cell (p := ⟨g, off + k * 3, none⟩) hg).trans c0, (hb.cell (p := ⟨g, off + k * 3 + 1, none⟩) hg).trans c1, (hb.cell (p := ⟨g, off + k * 3 + 2, none⟩) hg).trans c2⟩
theorem ReadsR.keep {G : Nat → Prop} {w w' : World} {v : Value} {l : List Rl} (h : ReadsR G w v l) (hk : ∀ g, G g → g < w.heap.size → w'.heap[g]? = w.heap[g]?) : ReadsR G w' v l := by
  obtain ⟨a, cap, e, h1, h2, h3, h4⟩ := h
  refine ⟨a, cap, e, h1, h2, h3, ?_⟩
  rcases h4 with h4 | ⟨g, off, ea, hg, hc⟩
  · exact Or.inl h4
  · by_cases h0 : l = []
    · exact Or.inl h0
    · refine Or.inr ⟨g, off, ea, hg, fun j hj => ?_⟩
      obtain ⟨c0, c1, c2⟩ := hc j hj
      have hlt := World.block_lt_of_cell? w _ c0
      have e := fun o => World.cell?_of_block (w := w) (w' := w') (a := ⟨g, o, none⟩) (hk g hg hlt)
      exact ⟨(e _).trans c0, (e _).trans c1, (e _).trans c2⟩
theorem ReadsR.below {B : Nat} {w w' : World} {v : Value} {l : List Rl} (h : ReadsR (· < B) w v l) (hb : Below B w w') : ReadsR (· < B) w' v l := h.keep fun g hg _ => hb.block g hg
theorem ReadsR.mono {G G' : Nat → Prop} {w : World} {v : Value} {l : List Rl} (h : ReadsR G w v l) (hG : ∀ g, G g → G' g) : ReadsR G' w v l := by
  obtain ⟨a, cap, e, h1, h2, h3, h4⟩ := h
  refine ⟨a, cap, e, h1, h2, h3, ?_⟩
  rcases h4 with h4 | ⟨g, off, ea, hg, hc⟩
  · exact Or.inl h4
  · exact Or.inr ⟨g, off, ea, hG g hg, hc⟩
/-! a module's value -/
abbrev mCs (x : ByteArray) (ea : Option Addr) (en ec : Nat) (ia : Option Addr) (im ic : Nat) (ca : Option Addr) (cn cc : Nat) (da : Option Addr) (dn dc : Nat) (ra : Option Addr) (rn rc : Nat) : Array Value := #[.string x, .slice ea en ec, .slice ia im ic, .slice ca cn cc, .slice da dn dc, .slice ra rn rc]
/-- the five lists of a module's value read as the module's -/
structure RdM (G : Nat → Prop) (w : World) (ea : Option Addr) (en ec : Nat) (ia : Option Addr) (im ic : Nat) (ca : Option Addr) (cn cc : Nat) (da : Option Addr) (dn dc : Nat) (ra : Option Addr) (rn rc : Nat) (m : Md) : Prop where
  ex : Reads G w (.slice ea en ec) (strs m.exps)
  im : Reads G w (.slice ia im ic) (strs m.imps)
  cd : Reads G w (.slice ca cn cc) (u32s m.code)
  dt : Reads G w (.slice da dn dc) (u32s m.data)
  rl : ReadsR G w (.slice ra rn rc) m.rels
section
variable {B : Nat} {w w' : World} {ea : Option Addr} {en ec : Nat} {ia : Option Addr} {im ic : Nat} {ca : Option Addr} {cn cc : Nat} {da : Option Addr} {dn dc : Nat} {ra : Option Addr} {rn rc : Nat} {m : Md}
theorem RdM.below (h : RdM (· < B) w ea en ec ia im ic ca cn cc da dn dc ra rn rc m) (hb : Below B w w') : RdM (· < B) w' ea en ec ia im ic ca cn cc da dn dc ra rn rc m := ⟨h.ex.below hb, h.im.below hb, h.cd.below hb, h.dt.below hb, h.rl.below hb⟩
theorem RdM.go (h : RdM (· < B) w ea en ec ia im ic ca cn cc da dn dc ra rn rc m) (hb : Below B w w') (hB : B ≤ w'.heap.size) : RdM (· < w'.heap.size) w' ea en ec ia im ic ca cn cc da dn dc ra rn rc m :=
  have k : ∀ g, g < B → g < w'.heap.size := fun g hg => Nat.lt_of_lt_of_le hg hB
  ⟨(h.ex.below hb).mono k, (h.im.below hb).mono k, (h.cd.below hb).mono k, (h.dt.below hb).mono k, (h.rl.below hb).mono k⟩
theorem RdM.lens {G : Nat → Prop} (h : RdM G w ea en ec ia im ic ca cn cc da dn dc ra rn rc m) : m.exps.length = en ∧ m.imps.length = im ∧ m.code.length = cn ∧ m.data.length = dn ∧ m.rels.length = rn :=
  ⟨by have := (reads_len h.ex).1; rwa [strs_len] at this, by have := (reads_len h.im).1; rwa [strs_len] at this, by have := (reads_len h.cd).1; rwa [u32s_len] at this, by have := (reads_len h.dt).1; rwa [u32s_len] at this, h.rl.len.1⟩
end
/-- of the blocks that were there, those of S alone may have turned -/
structure Fr (S : Nat → Prop) (w w' : World) : Prop where
  os : w'.os = w.os
  tape : w'.tape = w.tape
  output : w'.output = w.output
  size : w.heap.size ≤ w'.heap.size
  block : ∀ k, k < w.heap.size → ¬ S k → w'.heap[k]? = w.heap[k]?
section
variable {S S' : Nat → Prop} {a b c w w' : World}
theorem Fr.refl (S : Nat → Prop) (w : World) : Fr S w w := ⟨rfl, rfl, rfl, Nat.le_refl _, fun _ _ _ => rfl⟩
theorem Fr.of_below (h : Below w.heap.size w w') : Fr S w w' := ⟨h.os, h.tape, h.output, h.size, fun k hk _ => h.block k hk⟩
theorem Fr.trans (h : Fr S a b) (k : Fr S' b c) (hS : ∀ i, S' i → S i ∨ a.heap.size ≤ i) : Fr S a c :=
  ⟨k.os.trans h.os, k.tape.trans h.tape, k.output.trans h.output, Nat.le_trans h.size k.size, fun i hi hn => (k.block i (Nat.lt_of_lt_of_le hi h.size) (fun h' => (hS i h').elim hn (by omega))).trans (h.block i hi hn)⟩
theorem Fr.then (h : Fr S a b) (k : Below b.heap.size b c) : Fr S a c := h.trans (S' := fun _ => False) (Fr.of_below k) (fun _ h => h.elim)
theorem Fr.alloc (h : Fr S a b) (o : Obj) : Fr S a (b.alloc o) := h.then ((Below.refl _ _).alloc (Nat.le_refl _) o)
theorem Fr.set (h : Fr S a b) {p : Addr} (hp : S p.block ∨ a.heap.size ≤ p.block) (u : Value) : Fr S a (b.setCell p u) :=
  ⟨h.os, h.tape, h.output, Nat.le_trans h.size (by simp), fun i hi hn => (Below.heap_setCell b p u i (by rintro rfl; exact hp.elim hn (by omega))).trans (h.block i hi hn)⟩
theorem Fr.drewN (h : Fr S a b) (n : Nat) : Fr S a (b.drewN n) := ⟨h.os, h.tape, h.output, h.size, h.block⟩
theorem Fr.drew (h : Fr S a b) : Fr S a b.drew := ⟨h.os, h.tape, h.output, h.size, h.block⟩
theorem Fr.mono (h : Fr S a b) (hS : ∀ i, S i → S' i ∨ a.heap.size ≤ i) : Fr S' a b := ⟨h.os, h.tape, h.output, h.size, fun i hi hn => h.block i hi (fun h' => (hS i h').elim hn (by omega))⟩
theorem Fr.below {B : Nat} (h : Fr S a b) (hB : B ≤ a.heap.size) (hS : ∀ i, S i → B ≤ i) : Below B a b := ⟨h.os, h.tape, h.output, h.size, fun i hi => h.block i (by omega) (fun h' => by have := hS i h'; omega)⟩
theorem Below.fr {B : Nat} (h : Below B a b) (k : Fr S b c) (hB : B ≤ b.heap.size) (hS : ∀ i, S i → B ≤ i) : Below B a c := h.trans (k.below hB hS)
end
/-! a block, all of whose cells are known -/
/-- block g of the heap: the cells cs, of type t, all of them open to stores -/
def Whole (w : World) (g : Nat) (t : TypeId) (cs : Array Value) : Prop := w.heap[g]? = some (.cells cs t (0, 0))
section
variable {w w' : World} {g g' : Nat} {t t' : TypeId} {cs cs' : Array Value}
/-- it is there in a heap that has the same block -/
theorem Whole.as (h : Whole w g t cs) (e : w'.heap[g]? = w.heap[g]?) : Whole w' g t cs := by
  show w'.heap[g]? = _
  rw [e]
  exact h
theorem Whole.lt (h : Whole w g t cs) : g < w.heap.size := (Array.getElem?_eq_some_iff.1 h).1
theorem Whole.cell (h : Whole w g t cs) (i : Nat) : w.cell? ⟨g, i, none⟩ = cs[i]? := cell_of_row w g i cs t (0, 0) h
theorem Whole.frozen (h : Whole w g t cs) (i : Nat) : w.frozen? ⟨g, i, none⟩ = false := by
  have e : w.heap[g]? = some (.cells cs t (0, 0)) := h
  simp [World.frozen?, e]
theorem Whole.new (w : World) (t : TypeId) (cs : Array Value) : Whole (w.alloc (.cells cs t)) w.heap.size t cs := heap_alloc_new w _
theorem Whole.alloc (h : Whole w g t cs) (o : Obj) : Whole (w.alloc o) g t cs := h.as (Below.heap_alloc w o g h.lt)
theorem Whole.far (h : Whole w g t cs) {p : Addr} (hp : g ≠ p.block) (u : Value) : Whole (w.setCell p u) g t cs := h.as (Below.heap_setCell w p u g hp)
theorem Whole.set_ (h : Whole w g t cs) (i : Nat) (u : Value) : Whole (w.setCell ⟨g, i, none⟩ u) g t (cs.setIfInBounds i u) := by
  have e : w.heap[g]? = some (.cells cs t (0, 0)) := h
  show (w.setCell ⟨g, i, none⟩ u).heap[g]? = _
  simp [World.setCell, Array.getElem?_modify, e]
theorem Whole.below {B : Nat} (h : Whole w g t cs) (hb : Below B w w') (hg : g < B) : Whole w' g t cs := h.as (hb.block g hg)
theorem Whole.belowS (h : Whole w g t cs) (hb : Below w.heap.size w w') : Whole w' g t cs := h.as (hb.block g h.lt)
theorem Whole.fr {S : Nat → Prop} (h : Whole w g t cs) (hb : Fr S w w') (hg : ¬ S g) : Whole w' g t cs := h.as (hb.block g h.lt hg)
/-- blocks of unlike types are two -/
theorem Whole.ne_ (h : Whole w g t cs) (h' : Whole w g' t' cs') (hne : t ≠ t') : g ≠ g' := fun e => by
  subst e
  have e1 : w.heap[g]? = some (.cells cs t (0, 0)) := h
  have e2 : w.heap[g]? = some (.cells cs' t' (0, 0)) := h'
  have e3 := Option.some.inj (e1.symm.trans e2)
  simp only [Obj.cells.injEq] at e3
  exact hne e3.2.1
end

end Go.Proofs.Ytigalcmhongleaa.OR
