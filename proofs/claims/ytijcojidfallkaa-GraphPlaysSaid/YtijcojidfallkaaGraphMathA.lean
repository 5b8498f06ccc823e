/-
  Joined texts: GraphMath, GraphMath2, GraphMath3. Nothing here is a statement of the seed.
-/
import Derived.Lib.Hide
import Derived.Laws.Strings
set_option linter.unusedVariables false
set_option linter.unusedSimpArgs false
/-
  Layer 14 as lists alone: nodes, what each stands on, what each call leaves. Nothing here is a statement of the seed, no function of the program is named.
-/
namespace Go.Proofs.Ytijcojidfallkaa.GM
theorem less_irr : ∀ (a : List UInt8), Op.bytesLess a a = false
  | [] => rfl
  | c :: t => by unfold Op.bytesLess; rw [less_irr t]; simp
theorem less_asym : ∀ (a b : List UInt8), Op.bytesLess a b = true → Op.bytesLess b a = false
  | _, [], h => by unfold Op.bytesLess at h; cases h
  | [], _ :: _, _ => rfl
  | a :: x, b :: y, h => by
    unfold Op.bytesLess at h ⊢
    simp only [Bool.or_eq_true, Bool.and_eq_true, decide_eq_true_eq, beq_iff_eq] at h
    simp only [Bool.or_eq_false_iff, Bool.and_eq_false_imp, decide_eq_false_iff_not, beq_iff_eq]
    rcases h with h | ⟨rfl, h⟩
    · exact ⟨by rw [UInt8.not_lt]; exact UInt8.le_of_lt h, fun e => absurd h (by subst e; exact UInt8.lt_irrefl _)⟩
    · exact ⟨UInt8.lt_irrefl _, fun _ => less_asym x y h⟩
theorem less_tri : ∀ (a b : List UInt8), Op.bytesLess a b = false → Op.bytesLess b a = false → a = b
  | [], [], _, _ => rfl
  | [], _ :: _, h, _ => by unfold Op.bytesLess at h; cases h
  | _ :: _, [], _, h => by unfold Op.bytesLess at h; cases h
  | a :: x, b :: y, h1, h2 => by
    unfold Op.bytesLess at h1 h2
    simp only [Bool.or_eq_false_iff, Bool.and_eq_false_imp, decide_eq_false_iff_not, beq_iff_eq] at h1 h2
    have e : a = b := UInt8.le_antisymm (UInt8.not_lt.1 h2.1) (UInt8.not_lt.1 h1.1)
    rw [less_tri x y (h1.2 e) (h2.2 e.symm), e]
theorem less_trans : ∀ (a b c : List UInt8), Op.bytesLess a b = true → Op.bytesLess b c = true → Op.bytesLess a c = true
  | _, [], _, h, _ => by unfold Op.bytesLess at h; cases h
  | _, _ :: _, [], _, h => by unfold Op.bytesLess at h; cases h
  | [], _ :: _, _ :: _, _, _ => rfl
  | a :: x, b :: y, c :: z, h1, h2 => by
    unfold Op.bytesLess at h1 h2 ⊢
    simp only [Bool.or_eq_true, Bool.and_eq_true, decide_eq_true_eq, beq_iff_eq] at h1 h2 ⊢
    rcases h1 with h1 | ⟨rfl, h1⟩
    · rcases h2 with h2 | ⟨rfl, h2⟩
      · exact .inl (UInt8.lt_trans h1 h2)
      · exact .inl h1
    · rcases h2 with h2 | ⟨rfl, h2⟩
      · exact .inl h2
      · exact .inr ⟨rfl, less_trans x y z h1 h2⟩
/-- a node, and what it stands on -/
structure Nd where
  nm : List UInt8
  ds : List (List UInt8)
def n0 : Nd := ⟨[], []⟩
abbrev Tx := List UInt8
def plc : List Nd → List UInt8 → Int
  | [], _ => -1
  | e :: l, s => if e.nm = s then 0 else if plc l s < 0 then -1 else plc l s + 1
theorem plc_ge : ∀ (l : List Nd) (s : List UInt8), -1 ≤ plc l s
  | [], s => by simp [plc]
  | e :: l, s => by
    have := plc_ge l s
    unfold plc
    split
    · omega
    · split <;> omega
theorem plc_lt : ∀ (l : List Nd) (s : List UInt8), plc l s < l.length
  | [], s => by simp [plc]
  | e :: l, s => by
    have := plc_lt l s
    unfold plc
    simp only [List.length_cons]
    split
    · omega
    · split <;> omega
theorem plc_yes : ∀ (l : List Nd) (s : List UInt8) (k : Nat), k < l.length → (l.getD k n0).nm = s → (∀ j, j < k → (l.getD j n0).nm ≠ s) → plc l s = (k : Int)
  | [], s, k, h, _, _ => by simp at h
  | e :: l, s, 0, h, h1, h2 => by
    simp at h1
    simp [plc, h1]
  | e :: l, s, k + 1, h, h1, h2 => by
    have ih := plc_yes l s k (by simpa using h) (by simpa using h1) (fun j hj => by simpa using h2 (j + 1) (by omega))
    have h3 := h2 0 (by omega)
    simp at h3
    unfold plc
    rw [if_neg h3, ih, if_neg (by omega)]
    simp
theorem plc_no : ∀ (l : List Nd) (s : List UInt8), (∀ j, j < l.length → (l.getD j n0).nm ≠ s) → plc l s = -1
  | [], s, _ => rfl
  | e :: l, s, h => by
    have ih := plc_no l s fun j hj => by simpa using h (j + 1) (by simpa using hj)
    have h3 := h 0 (by simp)
    simp at h3
    unfold plc
    rw [if_neg h3, ih, if_pos (by omega)]
theorem plc_at : ∀ (l : List Nd) (s : List UInt8), 0 ≤ plc l s → (l.getD (plc l s).toNat n0).nm = s
  | [], s, h => by simp [plc] at h
  | e :: l, s, h => by
    unfold plc at h ⊢
    by_cases h1 : e.nm = s
    · rw [if_pos h1]; simpa using h1
    · rw [if_neg h1] at h ⊢
      by_cases h2 : plc l s < 0
      · rw [if_pos h2] at h; omega
      · rw [if_neg h2] at h ⊢
        have ih := plc_at l s (by omega)
        have e : (plc l s + 1).toNat = (plc l s).toNat + 1 := by omega
        rw [e]
        simpa using ih
theorem plc_mem {l : List Nd} {s : List UInt8} : 0 ≤ plc l s ↔ ∃ e ∈ l, e.nm = s := by
  constructor
  · intro h
    have h1 := plc_lt l s
    refine ⟨l.getD (plc l s).toNat n0, ?_, plc_at l s h⟩
    have h2 : (plc l s).toNat < l.length := by omega
    rw [List.getD_eq_getElem?_getD, List.getElem?_eq_getElem h2]
    exact List.getElem_mem h2
  · rintro ⟨e, he, rfl⟩
    by_cases h : 0 ≤ plc l e.nm
    · exact h
    · exfalso
      induction l with
      | nil => cases he
      | cons x l ih =>
        unfold plc at h
        by_cases hx : x.nm = e.nm
        · rw [if_pos hx] at h; omega
        · rw [if_neg hx] at h
          rcases List.mem_cons.1 he with rfl | he
          · exact hx rfl
          · by_cases h2 : plc l e.nm < 0
            · exact ih he (by omega)
            · rw [if_neg h2] at h; omega
/-- one text into a row of texts -/
def insT (out : List Tx) (s : Tx) : List Tx := out.takeWhile (fun x => Op.bytesLess x s) ++ s :: out.dropWhile (fun x => Op.bytesLess x s)
def addT (out : List Tx) (s : Tx) : List Tx := if s ∈ out then out else insT out s
def setF (out : List Tx) : List Tx → List Tx
  | [] => out
  | s :: l => setF (addT out s) l
def setM (l : List Tx) : List Tx := setF [] l
/-- rising, each once -/
def Rise (l : List Tx) : Prop := l.Pairwise (fun a b => Op.bytesLess a b = true)
theorem Rise.nodup {l : List Tx} (h : Rise l) : l.Nodup := h.imp fun hab e => by rw [e, less_irr] at hab; cases hab
theorem mem_ins {out : List Tx} {s x : Tx} : x ∈ insT out s ↔ x = s ∨ x ∈ out := by
  unfold insT
  rw [List.mem_append, List.mem_cons]
  conv => rhs; rw [← List.takeWhile_append_dropWhile (p := fun x => Op.bytesLess x s) (l := out), List.mem_append]
  constructor
  · rintro (h | h | h)
    · exact Or.inr (Or.inl h)
    · exact Or.inl h
    · exact Or.inr (Or.inr h)
  · rintro (h | h | h)
    · exact Or.inr (Or.inl h)
    · exact Or.inl h
    · exact Or.inr (Or.inr h)
theorem take_less {out : List Tx} {s x : Tx} (h : x ∈ out.takeWhile (fun x => Op.bytesLess x s)) : Op.bytesLess x s = true := by
  induction out with
  | nil => cases h
  | cons a l ih =>
    by_cases ha : Op.bytesLess a s = true
    · rw [List.takeWhile_cons_of_pos (by exact ha)] at h
      rcases List.mem_cons.1 h with rfl | h
      · exact ha
      · exact ih h
    · rw [List.takeWhile_cons_of_neg (by exact ha)] at h
      cases h
theorem drop_more {out : List Tx} (hr : Rise out) {s x : Tx} (hs : s ∉ out) (h : x ∈ out.dropWhile (fun x => Op.bytesLess x s)) : Op.bytesLess s x = true := by
  induction out with
  | nil => cases h
  | cons a l ih =>
    have h2 := List.pairwise_cons.1 hr
    have hs2 : s ≠ a ∧ s ∉ l := ⟨fun e => hs (by rw [e]; exact List.mem_cons_self), fun e => hs (List.mem_cons_of_mem _ e)⟩
    by_cases ha : Op.bytesLess a s = true
    · rw [List.dropWhile_cons_of_pos (by exact ha)] at h
      exact ih h2.2 hs2.2 h
    · rw [List.dropWhile_cons_of_neg (by exact ha)] at h
      have h3 : Op.bytesLess s a = true := by
        by_cases h4 : Op.bytesLess s a = true
        · exact h4
        · exact absurd (less_tri s a (by simpa using h4) (by simpa using ha)) hs2.1
      rcases List.mem_cons.1 h with rfl | h
      · exact h3
      · exact less_trans _ _ _ h3 (h2.1 x h)
theorem rise_ins {out : List Tx} (hr : Rise out) {s : Tx} (hs : s ∉ out) : Rise (insT out s) := by
  unfold insT
  refine List.pairwise_append.2 ⟨hr.sublist (List.takeWhile_sublist _), List.pairwise_cons.2 ⟨fun x hx => drop_more hr hs hx, hr.sublist (List.dropWhile_sublist _)⟩, fun x hx y hy => ?_⟩
  have h1 := take_less hx
  rcases List.mem_cons.1 hy with rfl | hy
  · exact h1
  · exact less_trans _ _ _ h1 (drop_more hr hs hy)
theorem mem_add {out : List Tx} {s x : Tx} : x ∈ addT out s ↔ x = s ∨ x ∈ out := by
  unfold addT
  split
  · next h => exact ⟨Or.inr, fun h2 => h2.elim (fun e => e ▸ h) id⟩
  · exact mem_ins
theorem rise_add {out : List Tx} (hr : Rise out) (s : Tx) : Rise (addT out s) := by
  unfold addT
  split
  · exact hr
  · next h => exact rise_ins hr h
theorem mem_setF : ∀ (l out : List Tx) (x : Tx), x ∈ setF out l ↔ x ∈ out ∨ x ∈ l
  | [], out, x => by simp [setF]
  | s :: l, out, x => by
    rw [setF, mem_setF l, mem_add, List.mem_cons]
    constructor
    · rintro ((h | h) | h)
      · exact Or.inr (Or.inl h)
      · exact Or.inl h
      · exact Or.inr (Or.inr h)
    · rintro (h | h | h)
      · exact Or.inl (Or.inr h)
      · exact Or.inl (Or.inl h)
      · exact Or.inr h
theorem rise_setF : ∀ (l out : List Tx), Rise out → Rise (setF out l)
  | [], out, h => h
  | s :: l, out, h => rise_setF l _ (rise_add h s)
theorem mem_set {l : List Tx} {x : Tx} : x ∈ setM l ↔ x ∈ l := by unfold setM; rw [mem_setF]; simp
theorem rise_set (l : List Tx) : Rise (setM l) := rise_setF l [] List.Pairwise.nil
/-- rising texts are told by which there are -/
theorem rise_ext {a b : List Tx} (ha : Rise a) (hb : Rise b) (h : ∀ x, x ∈ a ↔ x ∈ b) : a = b := by
  refine List.Perm.eq_of_pairwise (le := fun x y => Op.bytesLess x y = true) (fun x y _ _ h1 h2 => ?_) ha hb ((List.perm_ext_iff_of_nodup ha.nodup hb.nodup).2 h)
  have := less_asym x y h1
  rw [h2] at this
  cases this
theorem set_self {l : List Tx} (h : Rise l) : setM l = l := rise_ext (rise_set l) h fun x => mem_set
theorem set_ext {a b : List Tx} (h : ∀ x, x ∈ a ↔ x ∈ b) : setM a = setM b := rise_ext (rise_set a) (rise_set b) fun x => by rw [mem_set, mem_set, h]
theorem setF_take (l out : List Tx) (k : Nat) (h : k < l.length) : setF out (l.take (k + 1)) = addT (setF out (l.take k)) (l.getD k []) := by
  induction l generalizing out k with
  | nil => simp at h
  | cons a l ih =>
    cases k with
    | zero => simp [setF]
    | succ k =>
      simp only [List.take_succ_cons, setF, List.getD_cons_succ]
      exact ih _ k (by simpa using h)
theorem len_setF_le (l out : List Tx) : (setF out l).length ≤ out.length + l.length := by
  induction l generalizing out with
  | nil => simp [setF]
  | cons a l ih =>
    have h1 := ih (addT out a)
    have h2 : (addT out a).length ≤ out.length + 1 := by
      unfold addT
      split
      · omega
      · unfold insT
        have h3 : (out.takeWhile (fun x => Op.bytesLess x a) ++ out.dropWhile (fun x => Op.bytesLess x a)).length = out.length := by rw [List.takeWhile_append_dropWhile]
        rw [List.length_append] at h3
        rw [List.length_append, List.length_cons, ← Nat.add_assoc]
        exact Nat.le_of_eq (congrArg (· + 1) h3)
    simp only [setF, List.length_cons]
    omega
theorem len_set_le (l : List Tx) : (setM l).length ≤ l.length := by have := len_setF_le l []; simpa [setM] using this
/-- looks -/
def hasM (g : List Nd) (n : Tx) : Bool := decide (0 ≤ plc g n)
def depsM (g : List Nd) (n : Tx) : List Tx := if plc g n < 0 then [] else (g.getD (plc g n).toNat n0).ds
def dptM (g : List Nd) (n : Tx) : List Tx := (g.filter (fun x => decide (n ∈ x.ds))).map (·.nm)
def allM (g : List Nd) (l : List Tx) : Bool := l.all (fun x => hasM g x)
def outM (g : List Nd) (n : Tx) : List Nd := g.filter (fun x => decide (x.nm ≠ n))
def withM (g : List Nd) (n : Nd) : List Nd := g.takeWhile (fun x => Op.bytesLess x.nm n.nm) ++ n :: g.dropWhile (fun x => Op.bytesLess x.nm n.nm)
def roundM (g : List Nd) (l : List Tx) : List Tx := setM (l ++ l.flatMap (depsM g))
def itM (g : List Nd) : Nat → List Tx → List Tx
  | 0, l => l
  | k + 1, l => itM g k (roundM g l)
def reachedM (g : List Nd) (n : Tx) : List Tx := itM g (g.length + 1) (depsM g n)
def reachesM (g : List Nd) (a b : Tx) : Bool := hasM g a && hasM g b && decide (b ∈ reachedM g a)
def addM (g : List Nd) (n : Tx) (ds : List Tx) : List Nd × Int :=
  if hasM g n = true then (g, 9) else if allM g ds = false then (g, 8) else (withM g ⟨n, setM ds⟩, 0)
def removeM (g : List Nd) (n : Tx) : List Nd × Int :=
  if hasM g n = false then (g, 8) else if dptM g n ≠ [] then (g, 26) else (outM g n, 0)
def turnM (g : List Nd) (n : Tx) (ds : List Tx) : List Nd × Int :=
  if hasM g n = false ∨ allM g ds = false then (g, 8) else if ∃ d ∈ ds, d = n ∨ reachesM g d n = true then (g, 24) else (withM (outM g n) ⟨n, setM ds⟩, 0)
def readyM (came : List Tx) (n : Nd) : Bool := n.ds.all (fun d => decide (d ∈ came)) && !decide (n.nm ∈ came)
def stepO (g : List Nd) (came : List Tx) : List Tx := match g.find? (readyM came) with
  | some n => came ++ [n.nm]
  | none => came
def itO (g : List Nd) : Nat → List Tx → List Tx
  | 0, l => l
  | k + 1, l => itO g k (stepO g l)
def orderM (g : List Nd) : List Tx := itO g g.length []
theorem itO_succ (g : List Nd) : ∀ (k : Nat) (l : List Tx), itO g (k + 1) l = stepO g (itO g k l)
  | 0, l => rfl
  | k + 1, l => by
    show itO g (k + 1) (stepO g l) = stepO g (itO g k (stepO g l))
    rw [itO_succ g k]
theorem itM_succ (g : List Nd) : ∀ (k : Nat) (l : List Tx), itM g (k + 1) l = roundM g (itM g k l)
  | 0, l => rfl
  | k + 1, l => by
    show itM g (k + 1) (roundM g l) = roundM g (itM g k (roundM g l))
    rw [itM_succ g k]
theorem has_iff {g : List Nd} {n : Tx} : hasM g n = true ↔ ∃ x ∈ g, x.nm = n := by unfold hasM; rw [decide_eq_true_eq]; exact plc_mem
theorem has_no {g : List Nd} {n : Tx} : hasM g n = false ↔ ∀ x ∈ g, x.nm ≠ n := by
  rw [← Bool.not_eq_true, has_iff]
  exact ⟨fun h x hx e => h ⟨x, hx, e⟩, fun h ⟨x, hx, e⟩ => h x hx e⟩
theorem all_iff {g : List Nd} {l : List Tx} : allM g l = true ↔ ∀ x ∈ l, hasM g x = true := by unfold allM; rw [List.all_eq_true]
theorem uniq_nm {l : List Nd} (hu : (l.map (·.nm)).Nodup) {a b : Nd} (ha : a ∈ l) (hb : b ∈ l) (h : a.nm = b.nm) : a = b := by
  induction l with
  | nil => cases ha
  | cons x l ih =>
    simp only [List.map_cons, List.nodup_cons] at hu
    rcases List.mem_cons.1 ha with h1 | h1
    · rcases List.mem_cons.1 hb with h2 | h2
      · rw [h1, h2]
      · exact absurd (List.mem_map.2 ⟨b, h2, by rw [← h, h1]⟩) hu.1
    · rcases List.mem_cons.1 hb with h2 | h2
      · exact absurd (List.mem_map.2 ⟨a, h1, by rw [h, h2]⟩) hu.1
      · exact ih hu.2 h1 h2
theorem getD_memN {l : List Nd} {k : Nat} (h : k < l.length) : l.getD k n0 ∈ l := by
  rw [List.getD_eq_getElem?_getD, List.getElem?_eq_getElem h]
  exact List.getElem_mem h
theorem deps_of {g : List Nd} (hu : (g.map (·.nm)).Nodup) {x : Nd} (hx : x ∈ g) : depsM g x.nm = x.ds := by
  have h0 : 0 ≤ plc g x.nm := plc_mem.2 ⟨x, hx, rfl⟩
  have h1 := plc_lt g x.nm
  have hm := getD_memN (l := g) (k := (plc g x.nm).toNat) (by omega)
  unfold depsM
  rw [if_neg (by omega), uniq_nm hu hm hx (plc_at g x.nm h0)]
theorem deps_no {g : List Nd} {n : Tx} (h : hasM g n = false) : depsM g n = [] := by
  unfold hasM at h
  unfold depsM
  rw [if_pos (by have := of_decide_eq_false h; omega)]
theorem deps_has {g : List Nd} {n d : Tx} (h : d ∈ depsM g n) : ∃ x ∈ g, x.nm = n ∧ d ∈ x.ds := by
  unfold depsM at h
  split at h
  · cases h
  · next hp =>
    have h1 := plc_lt g n
    exact ⟨_, getD_memN (by omega), plc_at g n (by omega), h⟩
end Go.Proofs.Ytijcojidfallkaa.GM

/-
  Layer 14 as lists alone: what is reached, no circles. Nothing here is a statement of the seed, no function of the program is named.
-/
namespace Go.Proofs.Ytijcojidfallkaa.GM
/-- a reaches b -/
inductive Reach (g : List Nd) : Tx → Tx → Prop
  | one {a b : Tx} : b ∈ depsM g a → Reach g a b
  | more {a c b : Tx} : c ∈ depsM g a → Reach g c b → Reach g a b
theorem Reach.trans {g : List Nd} {a b c : Tx} (h : Reach g a b) (k : Reach g b c) : Reach g a c := by
  induction h with
  | one h => exact .more h k
  | more h _ ih => exact .more h (ih k)
theorem Reach.last {g : List Nd} {a b : Tx} (h : Reach g a b) : ∃ c, b ∈ depsM g c := by
  induction h with
  | one h => exact ⟨_, h⟩
  | more _ _ ih => exact ih
theorem Reach.first {g : List Nd} {a b : Tx} (h : Reach g a b) : ∃ c, c ∈ depsM g a := by
  cases h with
  | one h => exact ⟨_, h⟩
  | more h _ => exact ⟨_, h⟩
/-- all that ever stands -/
structure Good (g : List Nd) : Prop where
  srt : Rise (g.map (·.nm))
  dsr : ∀ x ∈ g, Rise x.ds
  nod : ∀ x ∈ g, ∀ d ∈ x.ds, hasM g d = true
  acy : ∀ a, ¬ Reach g a a
theorem Good.uq {g : List Nd} (h : Good g) : (g.map (·.nm)).Nodup := h.srt.nodup
theorem Good.dep_node {g : List Nd} (h : Good g) {n d : Tx} (hd : d ∈ depsM g n) : hasM g d = true := by
  obtain ⟨x, hx, _, h2⟩ := deps_has hd
  exact h.nod x hx d h2
theorem Good.deps_rise {g : List Nd} (h : Good g) (n : Tx) : Rise (depsM g n) := by
  by_cases hn : hasM g n = true
  · obtain ⟨x, hx, rfl⟩ := has_iff.1 hn
    rw [deps_of h.uq hx]
    exact h.dsr x hx
  · rw [deps_no (by simpa using hn)]
    exact List.Pairwise.nil
theorem Good.reach_node {g : List Nd} (h : Good g) {a b : Tx} (hr : Reach g a b) : hasM g a = true ∧ hasM g b = true := by
  refine ⟨?_, ?_⟩
  · obtain ⟨c, hc⟩ := hr.first
    obtain ⟨x, hx, hn, _⟩ := deps_has hc
    exact has_iff.2 ⟨x, hx, hn⟩
  · obtain ⟨c, hc⟩ := hr.last
    exact h.dep_node hc
theorem good_nil : Good [] := ⟨List.Pairwise.nil, fun _ h => (by cases h), fun _ h => (by cases h), fun a h => by
  obtain ⟨c, hc⟩ := h.first
  simp [depsM, plc] at hc⟩
/-! the rounds of the document's answer -/
theorem mem_round {g : List Nd} {l : List Tx} {x : Tx} : x ∈ roundM g l ↔ x ∈ l ∨ ∃ y ∈ l, x ∈ depsM g y := by
  unfold roundM
  rw [mem_set, List.mem_append, List.mem_flatMap]
theorem it_sound {g : List Nd} {n : Tx} : ∀ (k : Nat) (l : List Tx), (∀ x ∈ l, Reach g n x) → ∀ x ∈ itM g k l, Reach g n x
  | 0, l, h => h
  | k + 1, l, h => it_sound k _ fun x hx => by
    rcases mem_round.1 hx with hx | ⟨y, hy, hx⟩
    · exact h x hx
    · exact (h y hy).trans (.one hx)
def Shut (g : List Nd) (l : List Tx) : Prop := ∀ y ∈ l, ∀ x ∈ depsM g y, x ∈ l
theorem shut_reach {g : List Nd} {l : List Tx} (hs : Shut g l) {a x : Tx} (h : Reach g a x) : (∀ d ∈ depsM g a, d ∈ l) → x ∈ l := by
  induction h with
  | one h => exact fun hd => hd _ h
  | more h _ ih => exact fun hd => ih (hs _ (hd _ h))
theorem filter_lt {α : Type} {p q : α → Bool} : ∀ {l : List α}, (∀ x ∈ l, p x = true → q x = true) → (∃ x ∈ l, q x = true ∧ p x = false) → (l.filter p).length < (l.filter q).length
  | [], _, ⟨x, hx, _⟩ => by cases hx
  | a :: l, h1, ⟨x, hx, h2⟩ => by
    have hle : (l.filter p).length ≤ (l.filter q).length := by
      clear hx h2
      induction l with
      | nil => exact Nat.le_refl _
      | cons b l ih =>
        have ih := ih (fun x hx => h1 x (by rcases List.mem_cons.1 hx with rfl | hx; exact List.mem_cons_self; exact List.mem_cons_of_mem _ (List.mem_cons_of_mem _ hx)))
        have hb := h1 b (List.mem_cons_of_mem _ List.mem_cons_self)
        by_cases hp : p b = true
        · rw [List.filter_cons_of_pos hp, List.filter_cons_of_pos (hb hp)]
          simpa using ih
        · rw [List.filter_cons_of_neg hp]
          by_cases hq : q b = true
          · rw [List.filter_cons_of_pos hq]; simp; omega
          · rw [List.filter_cons_of_neg hq]; exact ih
    rcases List.mem_cons.1 hx with rfl | hx
    · rw [List.filter_cons_of_neg (by simp [h2.2]), List.filter_cons_of_pos h2.1]
      simp
      omega
    · have ih := filter_lt (fun y hy => h1 y (List.mem_cons_of_mem _ hy)) ⟨x, hx, h2⟩
      by_cases hp : p a = true
      · rw [List.filter_cons_of_pos hp, List.filter_cons_of_pos (h1 a List.mem_cons_self hp)]
        simpa using ih
      · rw [List.filter_cons_of_neg hp]
        by_cases hq : q a = true
        · rw [List.filter_cons_of_pos hq]; simp; omega
        · rw [List.filter_cons_of_neg hq]; exact ih
def szM (g : List Nd) (l : List Tx) : Nat := ((g.map (·.nm)).filter (fun x => decide (x ∈ l))).length
theorem sz_le (g : List Nd) (l : List Tx) : szM g l ≤ g.length := by
  unfold szM
  have := List.length_filter_le (fun x => decide (x ∈ l)) (g.map (·.nm))
  simpa using this
theorem shut_round {g : List Nd} {l : List Tx} (h : Shut g l) : Shut g (roundM g l) := by
  have e : ∀ x, x ∈ roundM g l ↔ x ∈ l := fun x => by
    rw [mem_round]
    exact ⟨fun hx => hx.elim id fun ⟨y, hy, hd⟩ => h y hy x hd, Or.inl⟩
  intro y hy x hx
  rw [e] at hy ⊢
  exact h y hy x hx
theorem sz_round {g : List Nd} (hg : Good g) {l : List Tx} (h : ¬ Shut g l) : szM g l < szM g (roundM g l) := by
  have : ∃ y ∈ l, ∃ x ∈ depsM g y, x ∉ l := by
    by_cases h2 : ∃ y ∈ l, ∃ x ∈ depsM g y, x ∉ l
    · exact h2
    · exact absurd (fun y hy x hx => by
        by_cases hxl : x ∈ l
        · exact hxl
        · exact absurd ⟨y, hy, x, hx, hxl⟩ h2) h
  obtain ⟨y, hy, x, hx, hn⟩ := this
  obtain ⟨z, hz, hzn⟩ := has_iff.1 (hg.dep_node hx)
  refine filter_lt (fun s _ hs => ?_) ⟨x, List.mem_map.2 ⟨z, hz, hzn⟩, ?_, ?_⟩
  · rw [decide_eq_true_eq] at hs ⊢
    exact mem_round.2 (Or.inl hs)
  · rw [decide_eq_true_eq]
    exact mem_round.2 (Or.inr ⟨y, hy, hx⟩)
  · simpa using hn
theorem it_shut {g : List Nd} (hg : Good g) (l : List Tx) : ∀ k, Shut g (itM g k l) ∨ k ≤ szM g (itM g k l)
  | 0 => Or.inr (Nat.zero_le _)
  | k + 1 => by
    rw [itM_succ]
    by_cases hs : Shut g (itM g k l)
    · exact Or.inl (shut_round hs)
    · rcases it_shut hg l k with h | h
      · exact absurd h hs
      · have := sz_round hg hs
        exact Or.inr (by omega)
theorem it_sub {g : List Nd} : ∀ (k : Nat) (l : List Tx) (x : Tx), x ∈ l → x ∈ itM g k l
  | 0, l, x, h => h
  | k + 1, l, x, h => it_sub k _ x (mem_round.2 (Or.inl h))
theorem reached_iff {g : List Nd} (hg : Good g) {n x : Tx} : x ∈ reachedM g n ↔ Reach g n x := by
  constructor
  · exact it_sound _ _ (fun y hy => .one hy) x
  · intro h
    have hs : Shut g (reachedM g n) := by
      rcases it_shut hg (depsM g n) (g.length + 1) with h | h
      · exact h
      · have := sz_le g (itM g (g.length + 1) (depsM g n))
        omega
    exact shut_reach hs h fun d hd => it_sub _ _ d hd
theorem reaches_iff {g : List Nd} (hg : Good g) {a b : Tx} : reachesM g a b = true ↔ Reach g a b := by
  unfold reachesM
  rw [Bool.and_eq_true, Bool.and_eq_true, decide_eq_true_eq, reached_iff hg]
  exact ⟨fun h => h.2, fun h => ⟨hg.reach_node h, h⟩⟩
theorem rise_it {g : List Nd} : ∀ (k : Nat) (l : List Tx), Rise l → Rise (itM g k l)
  | 0, l, h => h
  | k + 1, l, h => rise_it k _ (rise_set _)
end Go.Proofs.Ytijcojidfallkaa.GM

/-
  Layer 14 as lists alone: what each call leaves is in order, and has no circles; the order has each node once. Nothing here is a statement of the seed, no function of the program is named.
-/
namespace Go.Proofs.Ytijcojidfallkaa.GM
theorem mem_with {g : List Nd} {n x : Nd} : x ∈ withM g n ↔ x = n ∨ x ∈ g := by
  unfold withM
  rw [List.mem_append, List.mem_cons]
  conv => rhs; rw [← List.takeWhile_append_dropWhile (p := fun x => Op.bytesLess x.nm n.nm) (l := g), List.mem_append]
  constructor
  · rintro (h | h | h)
    · exact Or.inr (Or.inl h)
    · exact Or.inl h
    · exact Or.inr (Or.inr h)
  · rintro (h | h | h)
    · exact Or.inr (Or.inl h)
    · exact Or.inl h
    · exact Or.inr (Or.inr h)
theorem names_with (g : List Nd) (n : Nd) : (withM g n).map (·.nm) = insT (g.map (·.nm)) n.nm := by
  unfold withM insT
  rw [List.map_append, List.map_cons, List.takeWhile_map, List.dropWhile_map]
  rfl
theorem mem_out {g : List Nd} {n : Tx} {x : Nd} : x ∈ outM g n ↔ x ∈ g ∧ x.nm ≠ n := by
  unfold outM
  rw [List.mem_filter, decide_eq_true_eq]
theorem rise_out {g : List Nd} (h : Rise (g.map (·.nm))) (n : Tx) : Rise ((outM g n).map (·.nm)) := h.sublist (List.filter_sublist.map _)
theorem rise_with {g : List Nd} (h : Rise (g.map (·.nm))) {n : Nd} (hn : hasM g n.nm = false) : Rise ((withM g n).map (·.nm)) := by
  rw [names_with]
  exact rise_ins h fun hm => by
    obtain ⟨x, hx, e⟩ := List.mem_map.1 hm
    exact has_no.1 hn x hx e
theorem has_with {g : List Nd} {n : Nd} {a : Tx} : hasM (withM g n) a = true ↔ a = n.nm ∨ hasM g a = true := by
  rw [has_iff, has_iff]
  constructor
  · rintro ⟨x, hx, rfl⟩
    rcases mem_with.1 hx with rfl | hx
    · exact Or.inl rfl
    · exact Or.inr ⟨x, hx, rfl⟩
  · rintro (rfl | ⟨x, hx, rfl⟩)
    · exact ⟨n, mem_with.2 (Or.inl rfl), rfl⟩
    · exact ⟨x, mem_with.2 (Or.inr hx), rfl⟩
theorem has_out {g : List Nd} {n a : Tx} : hasM (outM g n) a = true ↔ hasM g a = true ∧ a ≠ n := by
  rw [has_iff, has_iff]
  constructor
  · rintro ⟨x, hx, rfl⟩
    obtain ⟨h1, h2⟩ := mem_out.1 hx
    exact ⟨⟨x, h1, rfl⟩, h2⟩
  · rintro ⟨⟨x, hx, rfl⟩, h⟩
    exact ⟨x, mem_out.2 ⟨hx, h⟩, rfl⟩
theorem deps_with {g : List Nd} (h : Rise (g.map (·.nm))) {n : Nd} (hn : hasM g n.nm = false) (a : Tx) : depsM (withM g n) a = if a = n.nm then n.ds else depsM g a := by
  have hu := (rise_with h hn).nodup
  by_cases ha : a = n.nm
  · rw [if_pos ha, ha, deps_of hu (mem_with.2 (Or.inl rfl))]
  · rw [if_neg ha]
    by_cases hb : hasM g a = true
    · obtain ⟨x, hx, rfl⟩ := has_iff.1 hb
      rw [deps_of hu (mem_with.2 (Or.inr hx)), deps_of h.nodup hx]
    · have hb2 : hasM g a = false := by simpa using hb
      rw [deps_no hb2, deps_no (by
        rw [← Bool.not_eq_true, has_with]
        exact fun h => h.elim ha hb)]
theorem deps_out {g : List Nd} (h : Rise (g.map (·.nm))) (n a : Tx) : depsM (outM g n) a = if a = n then [] else depsM g a := by
  by_cases hb : hasM (outM g n) a = true
  · obtain ⟨h1, h2⟩ := has_out.1 hb
    obtain ⟨x, hx, rfl⟩ := has_iff.1 h1
    rw [if_neg h2, deps_of (rise_out h n).nodup (mem_out.2 ⟨hx, h2⟩), deps_of h.nodup hx]
  · have hb2 : hasM (outM g n) a = false := by simpa using hb
    rw [deps_no hb2]
    split
    · rfl
    · next ha =>
      have : hasM g a = false := by
        rw [← Bool.not_eq_true]
        exact fun h => hb (has_out.2 ⟨h, ha⟩)
      rw [deps_no this]
theorem reach_split {g g' : List Nd} {n : Tx} (hs : ∀ a, a ≠ n → depsM g' a = depsM g a) {a b : Tx} (h : Reach g' a b) : a ≠ n → Reach g a b ∨ (Reach g a n ∧ Reach g' n b) := by
  induction h with
  | one h =>
    intro ha
    rw [hs _ ha] at h
    exact Or.inl (.one h)
  | @more a c b h k ih =>
    intro ha
    rw [hs _ ha] at h
    by_cases hc : c = n
    · subst hc
      exact Or.inr ⟨.one h, k⟩
    · rcases ih hc with h1 | ⟨h1, h2⟩
      · exact Or.inl (.more h h1)
      · exact Or.inr ⟨.more h h1, h2⟩
/-- one node's deps are laid anew -/
theorem acy_set {g g' : List Nd} {n : Tx} (hc : ∀ a, ¬ Reach g a a) (hs : ∀ a, a ≠ n → depsM g' a = depsM g a) (hD : ∀ d ∈ depsM g' n, d ≠ n ∧ ¬ Reach g d n) : ∀ a, ¬ Reach g' a a := by
  have back : ∀ x, Reach g' n x → x = n ∨ Reach g x n → False := by
    intro x h hx
    cases h with
    | one h =>
      rcases hx with rfl | hx
      · exact (hD _ h).1 rfl
      · exact (hD _ h).2 hx
    | @more _ d _ h k =>
      have hd := hD d h
      rcases reach_split hs k hd.1 with h1 | ⟨h1, _⟩
      · rcases hx with rfl | hx
        · exact hd.2 h1
        · exact hd.2 (h1.trans hx)
      · exact hd.2 h1
  intro a h
  by_cases ha : a = n
  · subst ha
    exact back a h (Or.inl rfl)
  · rcases reach_split hs h ha with h1 | ⟨h1, h2⟩
    · exact hc a h1
    · exact back a h2 (Or.inr h1)
theorem good_with {g : List Nd} (hg : Good g) {n : Tx} {ds : List Tx} (hn : hasM g n = false) (hd : ∀ d ∈ ds, hasM g d = true) : Good (withM g ⟨n, setM ds⟩) := by
  refine ⟨rise_with hg.srt hn, fun x hx => ?_, fun x hx d h => has_with.2 (Or.inr ?_), acy_set (n := n) hg.acy (fun a ha => ?_) fun d h => ?_⟩
  · rcases mem_with.1 hx with rfl | hx
    · exact rise_set _
    · exact hg.dsr x hx
  · rcases mem_with.1 hx with rfl | hx
    · exact hd d (mem_set.1 h)
    · exact hg.nod x hx d h
  · rw [deps_with hg.srt hn, if_neg ha]
  · rw [deps_with hg.srt hn, if_pos rfl] at h
    have h1 := hd d (mem_set.1 h)
    refine ⟨fun e => ?_, fun hr => ?_⟩
    · rw [e, hn] at h1; cases h1
    · rw [(hg.reach_node hr).2] at hn; cases hn
theorem good_add {g : List Nd} (hg : Good g) (n : Tx) (ds : List Tx) : Good (addM g n ds).1 := by
  unfold addM
  split
  · exact hg
  · next h1 =>
    split
    · exact hg
    · next h2 => exact good_with hg (by simpa using h1) (all_iff.1 (by simpa using h2))
theorem dpt_nil {g : List Nd} {n : Tx} : dptM g n = [] ↔ ∀ x ∈ g, n ∉ x.ds := by
  unfold dptM
  rw [List.map_eq_nil_iff, List.filter_eq_nil_iff]
  exact ⟨fun h x hx hn => h x hx (by simpa using hn), fun h x hx hn => h x hx (by simpa using hn)⟩
theorem reach_mono {g g' : List Nd} (hs : ∀ a d, d ∈ depsM g' a → d ∈ depsM g a) {a b : Tx} (h : Reach g' a b) : Reach g a b := by
  induction h with
  | one h => exact .one (hs _ _ h)
  | more h _ ih => exact .more (hs _ _ h) ih
theorem out_deps {g : List Nd} (h : Rise (g.map (·.nm))) (n a d : Tx) (hd : d ∈ depsM (outM g n) a) : d ∈ depsM g a := by
  rw [deps_out h] at hd
  split at hd
  · cases hd
  · exact hd
theorem good_out {g : List Nd} (hg : Good g) {n : Tx} (hn : dptM g n = []) : Good (outM g n) := by
  refine ⟨rise_out hg.srt n, fun x hx => hg.dsr x (mem_out.1 hx).1, fun x hx d h => has_out.2 ⟨hg.nod x (mem_out.1 hx).1 d h, fun e => ?_⟩, fun a h => hg.acy a (reach_mono (out_deps hg.srt n) h)⟩
  rw [e] at h
  exact dpt_nil.1 hn x (mem_out.1 hx).1 h
theorem good_remove {g : List Nd} (hg : Good g) (n : Tx) : Good (removeM g n).1 := by
  unfold removeM
  split
  · exact hg
  · split
    · exact hg
    · next h => exact good_out hg (Decidable.not_not.1 h)
theorem turn_no {g : List Nd} {n : Tx} : hasM (outM g n) n = false := by
  rw [← Bool.not_eq_true, has_out]
  exact fun h => h.2 rfl
theorem good_turned {g : List Nd} (hg : Good g) {n : Tx} {ds : List Tx} (hn : hasM g n = true) (hd : ∀ d ∈ ds, hasM g d = true) (hc : ∀ d ∈ ds, d ≠ n ∧ ¬ Reach g d n) : Good (withM (outM g n) ⟨n, setM ds⟩) := by
  have ho := rise_out hg.srt n
  have hno : hasM (outM g n) (⟨n, setM ds⟩ : Nd).nm = false := turn_no
  have hk : ∀ a, hasM g a = true → hasM (withM (outM g n) ⟨n, setM ds⟩) a = true := fun a ha => has_with.2 (by
    by_cases e : a = n
    · exact Or.inl e
    · exact Or.inr (has_out.2 ⟨ha, e⟩))
  refine ⟨rise_with ho hno, fun x hx => ?_, fun x hx d h => hk d ?_, acy_set (n := n) hg.acy (fun a ha => ?_) fun d h => ?_⟩
  · rcases mem_with.1 hx with rfl | hx
    · exact rise_set _
    · exact hg.dsr x (mem_out.1 hx).1
  · rcases mem_with.1 hx with rfl | hx
    · exact hd d (mem_set.1 h)
    · exact hg.nod x (mem_out.1 hx).1 d h
  · rw [deps_with ho hno, if_neg ha, deps_out hg.srt, if_neg ha]
  · rw [deps_with ho hno, if_pos rfl] at h
    exact hc d (mem_set.1 h)
theorem good_turn {g : List Nd} (hg : Good g) (n : Tx) (ds : List Tx) : Good (turnM g n ds).1 := by
  unfold turnM
  split
  · exact hg
  · next h1 =>
    split
    · exact hg
    · next h2 =>
      have h3 : hasM g n = true ∧ allM g ds = true := by
        refine ⟨?_, ?_⟩
        · by_cases h : hasM g n = true
          · exact h
          · exact absurd (Or.inl (by simpa using h)) h1
        · by_cases h : allM g ds = true
          · exact h
          · exact absurd (Or.inr (by simpa using h)) h1
      exact good_turned hg h3.1 (all_iff.1 h3.2) fun d hd => ⟨fun e => h2 ⟨d, hd, Or.inl e⟩, fun hr => h2 ⟨d, hd, Or.inr ((reaches_iff hg).2 hr)⟩⟩
/-! the order -/
open Classical in
noncomputable def rk (g : List Nd) (a : Tx) : Nat := ((g.map (·.nm)).filter (fun y => decide (Reach g a y))).length
open Classical in
theorem rk_lt {g : List Nd} (hg : Good g) {a d : Tx} (h : d ∈ depsM g a) : rk g d < rk g a := by
  obtain ⟨z, hz, hzn⟩ := has_iff.1 (hg.dep_node h)
  refine filter_lt (fun y _ hy => ?_) ⟨d, List.mem_map.2 ⟨z, hz, hzn⟩, ?_, ?_⟩
  · rw [decide_eq_true_eq] at hy ⊢
    exact .more h hy
  · rw [decide_eq_true_eq]
    exact .one h
  · rw [decide_eq_false_iff_not]
    exact hg.acy d
theorem ready_ex {g : List Nd} (hg : Good g) (came : List Tx) : ∀ (r : Nat) (x : Nd), x ∈ g → x.nm ∉ came → rk g x.nm ≤ r → ∃ y ∈ g, readyM came y = true
  | r, x, hx, hn, hr => by
    by_cases hd : ∀ d ∈ x.ds, d ∈ came
    · refine ⟨x, hx, ?_⟩
      unfold readyM
      rw [Bool.and_eq_true, List.all_eq_true]
      exact ⟨fun d h => by rw [decide_eq_true_eq]; exact hd d h, by simpa using hn⟩
    · have : ∃ d ∈ x.ds, d ∉ came := by
        by_cases h : ∃ d ∈ x.ds, d ∉ came
        · exact h
        · exact absurd (fun d hx => by
            by_cases hc : d ∈ came
            · exact hc
            · exact absurd ⟨d, hx, hc⟩ h) hd
      obtain ⟨d, hdx, hdc⟩ := this
      obtain ⟨y, hy, rfl⟩ := has_iff.1 (hg.nod x hx d hdx)
      have hlt := rk_lt hg (a := x.nm) (d := y.nm) (by rw [deps_of hg.uq hx]; exact hdx)
      match r, hr with
      | 0, hr => omega
      | r + 1, hr => exact ready_ex hg came r y hy hdc (by omega)
/-- what has come so far -/
structure OrdI (g : List Nd) (came : List Tx) : Prop where
  nd : came.Nodup
  sub : ∀ x ∈ came, hasM g x = true
  ahead : ∀ k, k < came.length → ∀ d ∈ depsM g (came.getD k []), d ∈ came.take k
theorem OrdI.nil (g : List Nd) : OrdI g [] := ⟨List.nodup_nil, fun _ h => (by cases h), fun k h => by simp at h⟩
theorem ready_iff {came : List Tx} {n : Nd} : readyM came n = true ↔ (∀ d ∈ n.ds, d ∈ came) ∧ n.nm ∉ came := by
  unfold readyM
  rw [Bool.and_eq_true, List.all_eq_true]
  simp
theorem OrdI.step {g : List Nd} (hg : Good g) {came : List Tx} (h : OrdI g came) (hl : came.length < g.length) : ∃ n ∈ g, g.find? (readyM came) = some n ∧ stepO g came = came ++ [n.nm] ∧ OrdI g (came ++ [n.nm]) := by
  have hx : ∃ x ∈ g, x.nm ∉ came := by
    by_cases hx : ∃ x ∈ g, x.nm ∉ came
    · exact hx
    · exfalso
      have hall : ∀ y ∈ g.map (·.nm), y ∈ came := fun y hy => by
        obtain ⟨x, hxg, rfl⟩ := List.mem_map.1 hy
        by_cases hc : x.nm ∈ came
        · exact hc
        · exact absurd ⟨x, hxg, hc⟩ hx
      have hp : (g.map (·.nm)).Perm came := (List.perm_ext_iff_of_nodup hg.uq h.nd).2 fun y => ⟨hall y, fun hy => by
        obtain ⟨x, hxg, rfl⟩ := has_iff.1 (h.sub y hy)
        exact List.mem_map.2 ⟨x, hxg, rfl⟩⟩
      have := hp.length_eq
      rw [List.length_map] at this
      omega
  obtain ⟨x, hxg, hxn⟩ := hx
  obtain ⟨y, hy, hyr⟩ := ready_ex hg came _ x hxg hxn (Nat.le_refl _)
  have hs : (g.find? (readyM came)).isSome = true := List.find?_isSome.2 ⟨y, hy, hyr⟩
  obtain ⟨n, hn⟩ := Option.isSome_iff_exists.1 hs
  have hng := List.mem_of_find?_eq_some hn
  have hnr := ready_iff.1 (List.find?_some hn)
  refine ⟨n, hng, hn, by unfold stepO; rw [hn], ⟨?_, fun x hx => ?_, fun k hk d hd => ?_⟩⟩
  · rw [List.nodup_append]
    exact ⟨h.nd, by simp, fun a ha b hb e => hnr.2 (by rw [List.mem_singleton] at hb; rw [← hb, ← e]; exact ha)⟩
  · rcases List.mem_append.1 hx with hx | hx
    · exact h.sub x hx
    · rw [List.mem_singleton.1 hx]
      exact has_iff.2 ⟨n, hng, rfl⟩
  · rw [List.length_append, List.length_singleton] at hk
    by_cases hk2 : k < came.length
    · have e : (came ++ [n.nm]).getD k [] = came.getD k [] := by
        rw [List.getD_eq_getElem?_getD, List.getElem?_append_left hk2, ← List.getD_eq_getElem?_getD]
      rw [e] at hd
      rw [List.take_append_of_le_length (by omega)]
      exact h.ahead k hk2 d hd
    · have hk3 : k = came.length := by omega
      subst hk3
      have e : (came ++ [n.nm]).getD came.length [] = n.nm := by
        rw [List.getD_eq_getElem?_getD, List.getElem?_append_right (Nat.le_refl _)]
        simp
      rw [e, deps_of hg.uq hng] at hd
      rw [List.take_append_of_le_length (Nat.le_refl _), List.take_length]
      exact hnr.1 d hd
theorem order_upto {g : List Nd} (hg : Good g) : ∀ k, k ≤ g.length → OrdI g (itO g k []) ∧ (itO g k []).length = k
  | 0, _ => ⟨OrdI.nil g, rfl⟩
  | k + 1, hk => by
    obtain ⟨h1, h2⟩ := order_upto hg k (by omega)
    obtain ⟨n, hn, _, h3, h4⟩ := h1.step hg (by omega)
    rw [itO_succ, h3]
    exact ⟨h4, by rw [List.length_append, h2]; rfl⟩
theorem order_all {g : List Nd} (hg : Good g) : OrdI g (orderM g) ∧ (orderM g).length = g.length := order_upto hg g.length (Nat.le_refl _)
theorem order_mem {g : List Nd} (hg : Good g) (x : Tx) : x ∈ orderM g ↔ hasM g x = true := by
  obtain ⟨h1, h2⟩ := order_all hg
  constructor
  · exact h1.sub x
  · intro h
    by_cases hc : x ∈ orderM g
    · exact hc
    · exfalso
      have hlt : (orderM g).length < (g.map (·.nm)).length := by
        have e : ((g.map (·.nm)).filter (fun y => decide (y ∈ orderM g))).length = (orderM g).length := by
          refine List.Perm.length_eq ((List.perm_ext_iff_of_nodup (hg.uq.sublist List.filter_sublist) h1.nd).2 fun y => ?_)
          rw [List.mem_filter, decide_eq_true_eq]
          refine ⟨fun hy => hy.2, fun hy => ⟨?_, hy⟩⟩
          obtain ⟨z, hz, rfl⟩ := has_iff.1 (h1.sub y hy)
          exact List.mem_map.2 ⟨z, hz, rfl⟩
        rw [← e]
        obtain ⟨z, hz, rfl⟩ := has_iff.1 h
        have := filter_lt (p := fun y => decide (y ∈ orderM g)) (q := fun _ => true) (l := g.map (·.nm)) (fun _ _ _ => rfl) ⟨z.nm, List.mem_map.2 ⟨z, hz, rfl⟩, rfl, by simpa using hc⟩
        rw [List.filter_eq_self.2 (fun _ _ => rfl)] at this
        exact this
      rw [List.length_map] at hlt
      omega
end Go.Proofs.Ytijcojidfallkaa.GM
