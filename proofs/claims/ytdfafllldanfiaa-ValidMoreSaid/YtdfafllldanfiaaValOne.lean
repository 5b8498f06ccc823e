/-
  A law's own module, on the way; a map of numbers and truths, as a function. Nothing here is a statement of the seed.
-/
import Derived.Test.YtdfafllldanfiaaValAwk
import Derived.Test.YtdfafllldanfiaaObjSizeR
set_option linter.unusedSimpArgs false
set_option linter.unusedVariables false
namespace Go.Proofs.Ytdfafllldanfiaa.VR
open Go.RowKit Go.Maps WM NR OM OR VM
set_option maxRecDepth 10000
/-- a module's box, on the way -/
structure BJ (w : World) (cs : Array Value) (u : World) : Prop where
  X : Whole u w.heap.size 26 cs
  B : Below w.heap.size w u
  sz : w.heap.size + 1 ≤ u.heap.size
theorem BJ.belowS {w u u' : World} {cs : Array Value} (h : BJ w cs u) (hb : Below u.heap.size u u') : BJ w cs u' := ⟨h.X.belowS hb, h.B.trans (hb.mono h.B.size), Nat.le_trans h.sz hb.size⟩
theorem BJ.new (w : World) (cs : Array Value) : BJ w cs (w.alloc (.cells cs 26)) := ⟨Whole.new w _ _, below_new w _, by simp⟩
theorem chk_good {m : Md} (h : chkV m = 0) : VM.Good m := by
  refine good_of ?_
  unfold chkV at h
  by_cases e : (vld m).1 = 0
  · exact e
  · rw [if_neg e] at h
    omega
theorem intLaw : Keyed Try.prog 3 := int_keyed Try.underlying3
theorem zeroBool (w : World) : (zeroValue 4).run Try.prog w = .ok (.bool false) w := by kernel_rfl
theorem key_int (a : Int) (ha : -9223372036854775808 ≤ a ∧ a ≤ 9223372036854775807) : keyOf Try.prog 3 (.int .i64 a) = some (.int .i64 a) :=
  keyOf_int_mk Try.underlying3 (by simp [Lit.wf, IntKind.min, IntKind.max, IntKind.bits, IntKind.signed]; omega)
/-- block b is a map that tells what f tells -/
def MapB (u : World) (b n : Nat) (f : Int → Bool) : Prop :=
  ∃ D : DataW Unit, u.ownsMap Try.prog 3 (plainElem Try.prog 4) b n D ∧ ∀ a, -9223372036854775808 ≤ a ∧ a ≤ 9223372036854775807 → D.atKey (.int .i64 a) (.lit (.bool false)) = .lit (.bool (f a))
section
variable {u u' : World} {b n : Nat} {f : Int → Bool}
theorem MapB.made (u : World) : MapB (u.alloc (.map #[] 0)) u.heap.size 0 (fun _ => false) :=
  ⟨_, World.ownsMap_made _ _ _ _, fun a ha => rfl⟩
theorem MapB.mono (h : MapB u b n f) {m : Nat} (hm : n ≤ m) : MapB u b m f := by
  obtain ⟨D, h1, h2⟩ := h
  exact ⟨D, h1.mono hm, h2⟩
theorem MapB.belowS (h : MapB u b n f) (hb : Below u.heap.size u u') : MapB u' b n f := by
  obtain ⟨D, h1, h2⟩ := h
  exact ⟨D, h1.kept (grown_below none hb) (by simp), h2⟩
theorem MapB.as {g : Int → Bool} (h : MapB u b n f) (he : ∀ a, f a = g a) : MapB u b n g := by
  obtain ⟨D, h1, h2⟩ := h
  exact ⟨D, h1, fun a ha => by rw [← he a]; exact h2 a ha⟩
theorem plain_bool_inv {v : Value} {z : DataW Unit × List MemPlace} (h : plainElem Try.prog 4 v = some z) : ∃ x, v = .bool x ∧ z = (.lit (.bool x), []) := by
  unfold plainElem at h
  rw [Try.underlying4] at h
  cases v <;> simp at h
  exact ⟨_, rfl, h.symm⟩
theorem MapB.look (h : MapB u b n f) (a : Int) (ha : -9223372036854775808 ≤ a ∧ a ≤ 9223372036854775807) :
    (Instr.lookup 34 (.map (some b)) (.int .i64 a) false).run Try.prog u = .ok (.bool (f a)) u := by
  obtain ⟨D, h1, h2⟩ := h
  obtain ⟨v, ps, hr, hv⟩ := h1.lookup intLaw Try.underlying34 (zeroBool u) (plainElem_bool Try.underlying4 false) (key_int a ha)
  obtain ⟨c, rfl, hc⟩ := plain_bool_inv hv
  rw [h2 a ha] at hc
  simp only [Prod.mk.injEq, DataW.lit.injEq, Lit.bool.injEq] at hc
  rw [← hc.1] at hr
  exact hr
theorem MapB.put (h : MapB u b n f) (hn : n < maxLen) (a : Int) (ha : -9223372036854775808 ≤ a ∧ a ≤ 9223372036854775807) (v : Bool) :
    ∃ u', (Instr.mapUpdate 34 (.map (some b)) (.int .i64 a) (.bool v)).run Try.prog u = .ok () u' ∧ MapB u' b (n + 1) (fun a' => if a' = a then v else f a') ∧ u.grownBy u' (some b) := by
  obtain ⟨D, h1, h2⟩ := h
  obtain ⟨u', hr, h3, hg⟩ := h1.update intLaw Try.underlying34 hn (key_int a ha) (plainElem_bool Try.underlying4 v)
  refine ⟨u', hr, ⟨_, h3, fun a' ha' => ?_⟩, hg⟩
  by_cases e : a' = a
  · subst e
    simp only [if_true]
    exact Maps.atKey_put_same h1.isMap (intLaw.key (key_int _ ha)) _ _
  · simp only [if_neg e]
    rw [Maps.atKey_put_other (fun hh => e (by simpa using hh))]
    exact h2 a' ha'
end
/-- is a word of code named by the first k relocations? -/
def fB (m : Md) (k : Nat) (a : Int) : Bool := (List.range k).any fun j => inC (rl m j).kind && decide (((rl m j).at_ : Int) = a)
theorem fB_skip {m : Md} {k : Nat} (h : inC (rl m k).kind = false) (a : Int) : fB m k a = fB m (k + 1) a := by
  unfold fB
  rw [List.range_succ, List.any_append]
  simp [h]
theorem fB_put {m : Md} {k : Nat} (h : inC (rl m k).kind = true) (a : Int) : (if a = ((rl m k).at_ : Int) then true else fB m k a) = fB m (k + 1) a := by
  unfold fB
  rw [List.range_succ, List.any_append]
  by_cases e : a = ((rl m k).at_ : Int)
  · rw [if_pos e]
    simp [h, e]
  · rw [if_neg e]
    have e' : ¬ ((rl m k).at_ : Int) = a := fun x => e x.symm
    simp [h, e']
theorem fB_new {m : Md} (hg : VM.Good m) {k : Nat} (hk : k < m.rels.length) (h : inC (rl m k).kind = true) : fB m k ((rl m k).at_ : Int) = false := by
  unfold fB
  rw [List.any_eq_false]
  intro j hj
  rw [List.mem_range] at hj
  intro hh
  rw [Bool.and_eq_true, decide_eq_true_eq] at hh
  exact (placeB_no.1 (hg.pl k hk)).2 j hj ⟨by omega, by rw [hh.1, h]⟩
theorem fB_call {m : Md} (hg : VM.Good m) {i : Nat} (hi : i < m.code.length) (h : opW ((m.code.getD i 0 : Nat) : Int) = 17) : fB m m.rels.length (i : Int) = true := by
  obtain ⟨k, hk, h1, h2⟩ := looseB_no.1 (hg.lo i hi) h
  unfold fB
  rw [List.any_eq_true]
  exact ⟨k, by simpa using hk, by rw [h2, h1]; simp⟩
end Go.Proofs.Ytdfafllldanfiaa.VR
