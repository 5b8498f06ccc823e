/-
  The program's graph of layer 14 in memory: a map to sets behind a pointer. Nothing here is a statement of the seed.
-/
import Derived.Test.YtijcojidfallkaaMapV
import Derived.Test.YtijcojidfallkaaGraphMathA
import Derived.Test.YtijcojidfallkaaGraphRow
set_option linter.unusedSimpArgs false
set_option linter.unusedVariables false
namespace Go.Proofs.Ytijcojidfallkaa.GP
open Go.RowKit WM NR OM OR GM GR MV
set_option maxHeartbeats 4000000
set_option maxRecDepth 10000
abbrev any : Value → Bool := fun _ => true
abbrev uV : Value := .agg #[]
theorem zeroSet (w : World) : (zeroValue 57).run Try.prog w = .ok (.map none) w := by kernel_rfl
theorem zeroU (w : World) : (zeroValue 59).run Try.prog w = .ok uV w := by kernel_rfl
/-- a map with text keys -/
abbrev ME (u : World) (b : Nat) (f : List UInt8 → Option Value) : Prop := MapV Try.prog 9 any u b f
/-- a set, as a map tells it -/
def memF (l : List Tx) (s : Tx) : Option Value := if s ∈ l then some uV else none
/-- the nodes, as the map tells them -/
def nodF (k : Tx → Nat) (g : List Nd) (s : Tx) : Option Value := if hasM g s = true then some (.map (some (k s))) else none
theorem memF_isSome (l : List Tx) (s : Tx) : (memF l s).isSome = decide (s ∈ l) := by
  unfold memF
  split
  · next h => simp [h]
  · next h => simp [h]
theorem memF_getD (l : List Tx) (s : Tx) : (memF l s).getD uV = uV := by
  unfold memF
  split <;> rfl
theorem nodF_isSome (k : Tx → Nat) (g : List Nd) (s : Tx) : (nodF k g s).isSome = hasM g s := by
  unfold nodF
  split
  · next h => rw [h]; rfl
  · next h => simpa using h
/-- the parts of a graph -/
structure Pt (S : Nat → Prop) (u : World) (a b : Nat) (k : Tx → Nat) (g : List Nd) : Prop where
  hd : Whole u a 52 #[.map (some b)]
  md : ME u b (nodF k g)
  st : ∀ x ∈ g, ME u (k x.nm) (memF x.ds)
  sa : S a
  sb : S b
  sk : ∀ x ∈ g, S (k x.nm)
  nb : ∀ x ∈ g, k x.nm ≠ b
  lt : ∀ c, S c → c < u.heap.size
  zn : ∀ x ∈ g, x.nm.length ≤ maxLen
/-- v is a graph of the program: its blocks are S's, it has g -/
def PT (S : Nat → Prop) (u : World) (v : Value) (g : List Nd) : Prop := ∃ a b k, v = .pointer (some ⟨a, 0, none⟩) ∧ Pt S u a b k g
theorem PT.lt {S : Nat → Prop} {u : World} {v : Value} {g : List Nd} (h : PT S u v g) : ∀ b, S b → b < u.heap.size := by
  obtain ⟨a, b, k, _, h⟩ := h
  exact h.lt
theorem PT.form {S : Nat → Prop} {u : World} {v : Value} {g : List Nd} (h : PT S u v g) : ∃ a, v = .pointer (some a) := by
  obtain ⟨a, b, k, e, h⟩ := h
  exact ⟨_, e⟩
theorem Pt.keep {S : Nat → Prop} {u u' : World} {a b : Nat} {k : Tx → Nat} {g : List Nd} (h : Pt S u a b k g) (hs : u.heap.size ≤ u'.heap.size) (hk : ∀ c, S c → u'.heap[c]? = u.heap[c]?) : Pt S u' a b k g :=
  ⟨h.hd.as (hk _ h.sa), h.md.same (hk _ h.sb), fun x hx => (h.st x hx).same (hk _ (h.sk x hx)), h.sa, h.sb, h.sk, h.nb, fun c hc => Nat.lt_of_lt_of_le (h.lt c hc) hs, h.zn⟩
theorem PT.keep {S : Nat → Prop} {u u' : World} {v : Value} {g : List Nd} (h : PT S u v g) (hs : u.heap.size ≤ u'.heap.size) (hk : ∀ b, S b → u'.heap[b]? = u.heap[b]?) : PT S u' v g := by
  obtain ⟨a, b, k, e, h⟩ := h
  exact ⟨a, b, k, e, h.keep hs hk⟩
theorem Pt.below {S : Nat → Prop} {u u' : World} {a b : Nat} {k : Tx → Nat} {g : List Nd} (h : Pt S u a b k g) (hb : Below u.heap.size u u') : Pt S u' a b k g :=
  h.keep hb.size fun c hc => hb.block c (h.lt c hc)
/-- what a call that changes the graph leaves -/
def Chg (S : Nat → Prop) (w : World) (v : Value) (g : List Nd) (u : World) : Prop := ∃ S', PT S' u v g ∧ (∀ b, S' b → S b ∨ w.heap.size ≤ b) ∧ Fr S w u
theorem Pt.chg_below {S : Nat → Prop} {w u : World} {a b : Nat} {k : Tx → Nat} {g : List Nd} (h : Pt S w a b k g) (hb : Below w.heap.size w u) : Chg S w (.pointer (some ⟨a, 0, none⟩)) g u :=
  ⟨S, ⟨a, b, k, rfl, h.below hb⟩, fun c hc => Or.inl hc, Fr.of_below hb⟩
section
variable {S : Nat → Prop} {u : World} {a b : Nat} {k : Tx → Nat} {g : List Nd}
theorem Pt.cell0 (h : Pt S u a b k g) : u.cell? ⟨a, 0, none⟩ = some (.map (some b)) := h.hd.cell 0
theorem Pt.look_ok (h : Pt S u a b k g) {s : Tx} (hs : s.length ≤ maxLen) :
    (Instr.lookup 50 (.map (some b)) (.string (bs s)) true).run Try.prog u = .ok (.tuple #[(nodF k g s).getD (.map none), .bool (hasM g s)]) u := by
  have := h.md.look_ok Try.underlying9 Try.underlying50 zeroSet rfl hs
  rw [nodF_isSome] at this
  exact this
theorem Pt.look (h : Pt S u a b k g) {s : Tx} (hs : s.length ≤ maxLen) :
    (Instr.lookup 50 (.map (some b)) (.string (bs s)) false).run Try.prog u = .ok ((nodF k g s).getD (.map none)) u :=
  h.md.look Try.underlying9 Try.underlying50 zeroSet rfl hs
theorem Pt.a_ne (h : Pt S u a b k g) : a ≠ b := by
  have h1 := h.hd
  unfold Whole at h1
  obtain ⟨D, ⟨es, clock, e1, _⟩, _⟩ := h.md
  rintro rfl
  rw [e1] at h1
  cases h1
theorem Pt.deps (h : Pt S u a b k g) (hg : GM.Good g) {s : Tx} (hn : hasM g s = true) : nodF k g s = some (.map (some (k s))) ∧ ME u (k s) (memF (depsM g s)) ∧ S (k s) := by
  obtain ⟨x, hx, rfl⟩ := has_iff.1 hn
  refine ⟨if_pos hn, ?_, h.sk x hx⟩
  rw [deps_of hg.uq hx]
  exact h.st x hx
theorem Pt.has_len (h : Pt S u a b k g) {s : Tx} (hn : hasM g s = true) : s.length ≤ maxLen := by
  obtain ⟨x, hx, rfl⟩ := has_iff.1 hn
  exact h.zn x hx
theorem nodF_no {s : Tx} (hn : hasM g s = false) : nodF k g s = none := if_neg (by rw [hn]; simp)
theorem set_look {b : Nat} {l : List Tx} (h : ME u b (memF l)) {s : Tx} (hs : s.length ≤ maxLen) :
    (Instr.lookup 57 (.map (some b)) (.string (bs s)) true).run Try.prog u = .ok (.tuple #[uV, .bool (decide (s ∈ l))]) u := by
  have := h.look_ok (T := 57) (E := 59) Try.underlying9 Try.underlying57 zeroU rfl hs
  rw [memF_isSome, memF_getD] at this
  exact this
end
theorem new_any (w : World) : Calls Try.prog 10 #[] w fun e u => ∃ v S, e = .returned v ∧ PT S u v [] ∧ (∀ b, S b → w.heap.size ≤ b) ∧ Below w.heap.size w u := by
  have hmm := @run_makeMap Try.prog
  go_enter Try.func10, Try.ntmps10
  go_wp2_with fail
  refine bodyPost_ret (v := .pointer (some ⟨w.heap.size + 1, 0, none⟩)) (by simp [results, Try.results10, go_sem]) rfl ?_
  have b1 : Below w.heap.size w (w.alloc (.map #[] 0)) := (Below.refl _ _).alloc (Nat.le_refl _) _
  have b2 : Below (w.alloc (.map #[] 0)).heap.size (w.alloc (.map #[] 0)) ((w.alloc (.map #[] 0)).alloc (.cells #[.map (some w.heap.size)] 52)) := (Below.refl _ _).alloc (Nat.le_refl _) _
  have m1 : ME (w.alloc (.map #[] 0)) w.heap.size (fun _ => none) := MapV.made w
  have hw := Whole.new (w.alloc (.map #[] 0)) 52 #[.map (some w.heap.size)]
  simp only [World.size_alloc] at hw
  refine ⟨_, fun c => c = w.heap.size ∨ c = w.heap.size + 1, rfl, ⟨_, _, fun _ => 0, rfl, ⟨hw, ?_, fun x hx => (by cases hx), Or.inr rfl, Or.inl rfl, fun x hx => (by cases hx), fun x hx => (by cases hx), ?_, fun x hx => (by cases hx)⟩⟩, ?_, b1.trans (b2.mono b1.size)⟩
  · exact (m1.belowS b2).as fun s hs => (nodF_no (by simp [hasM, plc])).symm
  · intro c hc
    simp
    omega
  · intro c hc
    omega
end Go.Proofs.Ytijcojidfallkaa.GP
