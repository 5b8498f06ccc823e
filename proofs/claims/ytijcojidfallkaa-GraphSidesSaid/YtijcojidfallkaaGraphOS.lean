/-
  What the loops of Order keep. Nothing here is a statement of the seed.
-/
import Derived.Test.YtijcojidfallkaaGraphOR
import Derived.Test.YtijcojidfallkaaGraphPF
set_option linter.unusedSimpArgs false
set_option linter.unusedVariables false
namespace Go.Proofs.Ytijcojidfallkaa.GO
open Go.RowKit WM NR OM OR GM GR MV GF GP GH
set_option maxHeartbeats 4000000
set_option maxRecDepth 10000
/-- what is missing, of nodes that have been met -/
def misL (left : List UInt8 → Bool) (g : List Nd) (s : Tx) : Option Value := if hasM g s = true ∧ left s = false then some (.int .i64 ((depsM g s).length : Int)) else none
def misC (h : Tx → Int) (g : List Nd) (s : Tx) : Option Value := if hasM g s = true then some (.int .i64 (h s)) else none
theorem misL_put {left : List UInt8 → Bool} {g : List Nd} {n : Tx} (hn : hasM g n = true) (x : Tx) : (if x = n then some (Value.int .i64 ((depsM g n).length : Int)) else misL left g x) = misL (fun x => left x && !decide (x = n)) g x := by
  unfold misL
  by_cases e : x = n
  · subst e
    simp [hn]
  · simp [e]
theorem misC_put {h : Tx → Int} {g : List Nd} {n : Tx} (hn : hasM g n = true) (z : Int) (x : Tx) : (if x = n then some (Value.int .i64 z) else misC h g x) = misC (fun x => if x = n then z else h x) g x := by
  unfold misC
  by_cases e : x = n
  · subst e
    simp [hn]
  · simp [e]
theorem misL_in {left : List UInt8 → Bool} {g : List Nd} {s : Tx} (h : (misL left g s).isSome = true) : s ∈ g.map (·.nm) := by
  unfold misL at h
  split at h
  · next h1 => obtain ⟨x, hx, e⟩ := has_iff.1 h1.1; exact List.mem_map.2 ⟨x, hx, e⟩
  · cases h
theorem misC_in {f : Tx → Int} {g : List Nd} {s : Tx} (h : (misC f g s).isSome = true) : s ∈ g.map (·.nm) := by
  unfold misC at h
  split at h
  · next h1 => obtain ⟨x, hx, e⟩ := has_iff.1 h1; exact List.mem_map.2 ⟨x, hx, e⟩
  · cases h
/-- where all lies -/
structure Lay (N b B m1 m2 pr r1 : Nat) : Prop where
  bl : b < N
  h1 : m1 = N
  h2 : m2 = N + 1
  hp : pr = N + 2
  hr : r1 = N + 3
  hB : B = N + 4
section
variable {b B m1 m2 pr r1 r2 ct c2 : Nat} {k : Tx → Nat} {g : List Nd} {lf l2 : List UInt8 → Bool} {v q : Value} {ss : List Tx} {w wr u : World} {fd : Tx → Option Value} {vd : Tx → Value} {Dc : Tx → List Tx} {n : Tx} {C : List Tx}
/-- the first loop: what its inner loop leaves as it is -/
structure Pa (w wr : World) (b B m1 pr r1 : Nat) (k : Tx → Nat) (g : List Nd) (lf : List UInt8 → Bool) (ct : Nat) (v : Value) (ss : List Tx) : Prop where
  rg : RangeV Try.prog 9 any wr b r1 (nodF k g) lf ct
  bl : Below w.heap.size w wr
  ms : ME wr m1 (misL lf g)
  hp : Hp B wr pr v ss
  sz : B ≤ wr.heap.size
theorem Pa.fr (L : Lay w.heap.size b B m1 m2 pr r1) (h : Pa w wr b B m1 pr r1 k g lf ct v ss) {Z : Nat → Prop} (hf : Fr Z wr u) (hz : ∀ c, Z c → c = m2 ∨ (B ≤ c ∧ v.ownBlock ≠ some c)) : Pa w u b B m1 pr r1 k g lf ct v ss := by
  obtain ⟨q1, q2, q3, q4, q5, q6⟩ := L
  have nz : ∀ c, c < B → c ≠ m2 → ¬ Z c := fun c h1 h2 h3 => (hz c h3).elim h2 fun h4 => by omega
  exact ⟨rng_fr h.rg hf (nz _ (by omega) (by omega)) (nz _ (by omega) (by omega)), h.bl.trans (hf.below h.bl.size fun c hc => by rcases hz c hc with e | e <;> omega), me_fr h.ms hf (nz _ (by omega) (by omega)), hp_fr h.hp hf (nz _ (by omega) (by omega)) fun c hc hzc => (hz c hzc).elim (fun e => by have := (h.hp.1.ow.lt c hc).1; omega) (fun h4 => h4.2 hc), Nat.le_trans h.sz hf.size⟩
/-- the first loop -/
structure Po (w wr : World) (b B m1 m2 pr r1 : Nat) (k : Tx → Nat) (g : List Nd) (lf : List UInt8 → Bool) (ct : Nat) (v : Value) (ss : List Tx) (fd : Tx → Option Value) (vd : Tx → Value) (Dc : Tx → List Tx) : Prop where
  pa : Pa w wr b B m1 pr r1 k g lf ct v ss
  dm : DM B (fun c => v.ownBlock = some c) wr m2 g fd vd Dc
  dn : ∀ d, (Dc d).Nodup
  dc : ∀ d y, y ∈ Dc d ↔ lf y = false ∧ d ∈ depsM g y
  sn : ss.Nodup
  sm : ∀ s, s ∈ ss ↔ hasM g s = true ∧ lf s = false ∧ depsM g s = []
/-- its inner loop -/
structure Pb (w wr : World) (b B m1 m2 pr r1 r2 : Nat) (k : Tx → Nat) (g : List Nd) (lf : List UInt8 → Bool) (ct : Nat) (v : Value) (ss : List Tx) (n : Tx) (l2 : List UInt8 → Bool) (c2 : Nat) (fd : Tx → Option Value) (vd : Tx → Value) (Dc : Tx → List Tx) : Prop where
  pa : Pa w wr b B m1 pr r1 k g lf ct v ss
  rg : RangeV Try.prog 9 any wr (k n) r2 (memF (depsM g n)) l2 c2
  dm : DM B (fun c => v.ownBlock = some c ∨ c = r2) wr m2 g fd vd Dc
  dn : ∀ d, (Dc d).Nodup
  dc : ∀ d y, y ∈ Dc d ↔ (y ≠ n ∧ lf y = false ∧ d ∈ depsM g y) ∨ (y = n ∧ d ∈ depsM g n ∧ l2 d = false)
/-- one dep more -/
theorem dc_next {d0 : Tx} (dn : ∀ d, (Dc d).Nodup) (dc : ∀ d y, y ∈ Dc d ↔ (y ≠ n ∧ lf y = false ∧ d ∈ depsM g y) ∨ (y = n ∧ d ∈ depsM g n ∧ l2 d = false)) (h0 : d0 ∈ depsM g n) (hl : l2 d0 = true) :
    (∀ d, ((fun x => if x = d0 then Dc d0 ++ [n] else Dc x) d).Nodup) ∧ (∀ d y, y ∈ (fun x => if x = d0 then Dc d0 ++ [n] else Dc x) d ↔ (y ≠ n ∧ lf y = false ∧ d ∈ depsM g y) ∨ (y = n ∧ d ∈ depsM g n ∧ (fun x => l2 x && !decide (x = d0)) d = false)) := by
  have hn0 : n ∉ Dc d0 := fun h => by
    rcases (dc d0 n).1 h with h1 | h1
    · exact h1.1 rfl
    · rw [hl] at h1; cases h1.2.2
  constructor
  · intro d
    by_cases e : d = d0
    · simp only [if_pos e]
      exact List.nodup_append.2 ⟨dn d0, by simp, fun a ha b hb => by rw [List.mem_singleton] at hb; subst hb; exact fun e => hn0 (e ▸ ha)⟩
    · simp only [if_neg e]; exact dn d
  · intro d y
    by_cases e : d = d0
    · subst e
      simp only [if_true]
      rw [List.mem_append, List.mem_singleton, dc]
      constructor
      · rintro ((h1 | h1) | rfl)
        · exact Or.inl h1
        · exact Or.inr ⟨h1.1, h1.2.1, by simp⟩
        · exact Or.inr ⟨rfl, h0, by simp⟩
      · rintro (h1 | h1)
        · exact Or.inl (Or.inl h1)
        · exact Or.inr h1.1
    · simp only [if_neg e]
      rw [dc]
      constructor
      · rintro (h1 | ⟨h1, h2, h3⟩)
        · exact Or.inl h1
        · exact Or.inr ⟨h1, h2, by simp [h3]⟩
      · rintro (h1 | ⟨h1, h2, h3⟩)
        · exact Or.inl h1
        · exact Or.inr ⟨h1, h2, by simpa [e] using h3⟩
theorem dc_start (hn : lf n = true) (dc : ∀ d y, y ∈ Dc d ↔ lf y = false ∧ d ∈ depsM g y) : ∀ d y, y ∈ Dc d ↔ (y ≠ n ∧ (lf y && !decide (y = n)) = false ∧ d ∈ depsM g y) ∨ (y = n ∧ d ∈ depsM g n ∧ (memF (depsM g n) d).isSome = false) := by
  intro d y
  rw [dc, memF_isSome]
  constructor
  · rintro ⟨h1, h2⟩
    exact Or.inl ⟨fun e => (by rw [e, hn] at h1; cases h1), by simp [h1], h2⟩
  · rintro (⟨h1, h2, h3⟩ | ⟨_, h2, h3⟩)
    · exact ⟨by simpa [h1] using h2, h3⟩
    · exact absurd h2 (of_decide_eq_false h3)
theorem dc_end (h2 : ∀ d ∈ depsM g n, l2 d = false) (hn : lf n = false) (dc : ∀ d y, y ∈ Dc d ↔ (y ≠ n ∧ lf y = false ∧ d ∈ depsM g y) ∨ (y = n ∧ d ∈ depsM g n ∧ l2 d = false)) : ∀ d y, y ∈ Dc d ↔ lf y = false ∧ d ∈ depsM g y := by
  intro d y
  rw [dc]
  constructor
  · rintro (⟨_, h1, h3⟩ | ⟨rfl, h3, _⟩)
    · exact ⟨h1, h3⟩
    · exact ⟨hn, h3⟩
  · rintro ⟨h1, h3⟩
    by_cases e : y = n
    · subst e; exact Or.inr ⟨rfl, h3, h2 d h3⟩
    · exact Or.inl ⟨e, h1, h3⟩
/-- the second loop -/
structure Pc (w wr : World) (B m1 m2 pr : Nat) (g : List Nd) (C : List Tx) (v : Value) (ss : List Tx) (q : Value) (fd : Tx → Option Value) (vd : Tx → Value) (Dc : Tx → List Tx) : Prop where
  bl : Below w.heap.size w wr
  ms : ME wr m1 (misC (fun s => (cnt g C s : Int)) g)
  dm : DM B (fun c => v.ownBlock = some c ∨ q.ownBlock = some c) wr m2 g fd vd Dc
  hp : Hp B wr pr v ss
  dp : ∀ n, DpL g n (Dc n)
  ki : KI g C ss
  ow : wr.ownsRow B 9 1 q C.length (strs C)
  vq : ∀ c, v.ownBlock = some c → q.ownBlock ≠ some c
  sz : B ≤ wr.heap.size
/-- its inner loop -/
structure Pd (w wr : World) (B m1 m2 pr : Nat) (g : List Nd) (C : List Tx) (n : Tx) (i : Nat) (v : Value) (ss : List Tx) (q : Value) (fd : Tx → Option Value) (vd : Tx → Value) (Dc : Tx → List Tx) : Prop where
  bl : Below w.heap.size w wr
  ms : ME wr m1 (misC (fun s => (cnt g C s : Int) - (if s ∈ (Dc n).take i then 1 else 0)) g)
  dm : DM B (fun c => v.ownBlock = some c ∨ q.ownBlock = some c) wr m2 g fd vd Dc
  hp : Hp B wr pr v ss
  kj : KJ g C n (Dc n) i ss
  ow : wr.ownsRow B 9 1 q (C ++ [n]).length (strs (C ++ [n]))
  vq : ∀ c, v.ownBlock = some c → q.ownBlock ≠ some c
  sz : B ≤ wr.heap.size
theorem misC_congr {h h' : Tx → Int} {s : Tx} (e : h s = h' s) : misC h g s = misC h' g s := by unfold misC; rw [e]
theorem ms_end {D : List Tx} {n : Tx} (hg : GM.Good g) (hD : DpL g n D) (hn : n ∉ C) (s : Tx) : misC (fun s => (cnt g C s : Int) - (if s ∈ D.take D.length then 1 else 0)) g s = misC (fun s => (cnt g (C ++ [n]) s : Int)) g s := by
  refine misC_congr ?_
  show (cnt g C s : Int) - (if s ∈ D.take D.length then 1 else 0) = (cnt g (C ++ [n]) s : Int)
  rw [List.take_length]
  have hc := cnt_snoc (g := g) (C := C) (n := n) (s := s) (hg.deps_rise s).nodup hn
  by_cases h1 : n ∈ depsM g s
  · rw [if_pos h1] at hc
    rw [if_pos ((hD.mem s).2 h1)]
    omega
  · rw [if_neg h1] at hc
    rw [if_neg (fun h => h1 ((hD.mem s).1 h))]
    omega
theorem ms_next {D : List Tx} (hd : D.Nodup) {i : Nat} (hi : i < D.length) (s : Tx) : misC (fun x => if x = D.getD i [] then (cnt g C (D.getD i []) : Int) - 1 else (cnt g C x : Int) - (if x ∈ D.take i then 1 else 0)) g s = misC (fun s => (cnt g C s : Int) - (if s ∈ D.take (i + 1) then 1 else 0)) g s := by
  refine misC_congr ?_
  show (if s = D.getD i [] then (cnt g C (D.getD i []) : Int) - 1 else (cnt g C s : Int) - (if s ∈ D.take i then 1 else 0)) = (cnt g C s : Int) - (if s ∈ D.take (i + 1) then 1 else 0)
  by_cases e : s = D.getD i []
  · rw [if_pos e, if_pos ((take_one hi s).2 (Or.inr e)), e]
  · rw [if_neg e]
    by_cases h1 : s ∈ D.take i
    · rw [if_pos h1, if_pos ((take_one hi s).2 (Or.inl h1))]
    · rw [if_neg h1, if_neg (fun h => ((take_one hi s).1 h).elim h1 e)]
end
end Go.Proofs.Ytijcojidfallkaa.GO
