/-
  The program's table of layer 13 in memory: two maps behind a pointer. Nothing here is a statement of the seed.
-/
import Derived.Test.YtajidaicojekdaaMapV
import Derived.Test.YtajidaicojekdaaSymA
set_option linter.unusedSimpArgs false
set_option linter.unusedVariables false
namespace Go.Proofs.Ytajidaicojekdaa.SP
open Go.RowKit WM NR OM OR SM SR MV
set_option maxRecDepth 10000
abbrev any : Value → Bool := fun _ => true
abbrev zE : Value := .agg #[.string ⟨#[]⟩, .string ⟨#[]⟩, .int .i64 0, .int .i64 0, .int .i64 0]
abbrev zC : Array Value := #[.string ⟨#[]⟩, .string ⟨#[]⟩, .int .i64 0, .int .i64 0, .int .i64 0]
theorem zeroE (w : World) : (zeroValue 93).run Try.prog w = .ok zE w := by kernel_rfl
theorem zeroS (w : World) : (zeroValue 23).run Try.prog w = .ok (.slice none 0 0) w := by kernel_rfl
/-- the map of entries and the map of modules -/
abbrev ME (u : World) (b : Nat) (f : List UInt8 → Option Value) : Prop := MapV Try.prog 9 any u b f
/-- what the map of entries tells -/
def entF (l : List En) (s : List UInt8) : Option Value := if plc l s < 0 then none else some (enV (l.getD (plc l s).toNat e0))
theorem entF_none {l : List En} {s : List UInt8} (h : plc l s < 0) : entF l s = none := if_pos h
theorem entF_some {l : List En} {s : List UInt8} (h : ¬ plc l s < 0) : entF l s = some (enV (l.getD (plc l s).toNat e0)) := if_neg h
theorem entF_isSome (l : List En) (s : List UInt8) : (entF l s).isSome = decide (0 ≤ plc l s) := by
  by_cases h : plc l s < 0
  · rw [entF_none h]; simp; omega
  · rw [entF_some h]; simp; omega
/-- the names of a module's entries -/
def nmsOf (l : List En) (m : List UInt8) : List (List UInt8) := (l.filter (fun e => decide (e.md = m))).map (·.nm)
/-- what the map of modules tells -/
def ModI (G : Nat → Prop) (u : World) (fm : List UInt8 → Option Value) (t : Tb) : Prop :=
  ∀ m, m.length ≤ maxLen → (m ∈ t.mods → ∃ a n c names, fm m = some (.slice a n c) ∧ Reads G u (.slice a n c) (strs names) ∧ names.Perm (nmsOf t.L m)) ∧ (m ∉ t.mods → fm m = none)
/-- the parts of a table -/
structure Pt (S : Nat → Prop) (u : World) (a be bm : Nat) (fm : List UInt8 → Option Value) (t : Tb) : Prop where
  hd : Whole u a 84 #[.map (some be), .map (some bm)]
  en : ME u be (entF t.L)
  md : ME u bm fm
  mi : ModI (fun g => S g ∧ g ≠ be ∧ g ≠ bm) u fm t
  ne : be ≠ bm
  sa : S a
  sb : S be
  sm : S bm
  lt : ∀ g, S g → g < u.heap.size
  zn : ∀ e ∈ t.L, e.nm.length ≤ maxLen
  zm : ∀ m ∈ t.mods, m.length ≤ maxLen
/-- v is a table of the program: its blocks are S's, it has t -/
def PT (S : Nat → Prop) (u : World) (v : Value) (t : Tb) : Prop := ∃ a be bm fm, v = .pointer (some ⟨a, 0, none⟩) ∧ Pt S u a be bm fm t
theorem PT.lt {S : Nat → Prop} {u : World} {v : Value} {t : Tb} (h : PT S u v t) : ∀ g, S g → g < u.heap.size := by
  obtain ⟨a, be, bm, fm, _, h⟩ := h
  exact h.lt
theorem PT.form {S : Nat → Prop} {u : World} {v : Value} {t : Tb} (h : PT S u v t) : ∃ a, v = .pointer (some a) := by
  obtain ⟨a, be, bm, fm, e, h⟩ := h
  exact ⟨_, e⟩
theorem Pt.keep {S : Nat → Prop} {u u' : World} {a be bm : Nat} {fm : List UInt8 → Option Value} {t : Tb} (h : Pt S u a be bm fm t) (hs : u.heap.size ≤ u'.heap.size) (hk : ∀ g, S g → u'.heap[g]? = u.heap[g]?) : Pt S u' a be bm fm t :=
  ⟨h.hd.as (hk _ h.sa), h.en.same (hk _ h.sb), h.md.same (hk _ h.sm), fun m hm => ⟨fun hi => by
      obtain ⟨a, n, c, names, h1, h2, h3⟩ := (h.mi m hm).1 hi
      exact ⟨a, n, c, names, h1, h2.keep fun g hg _ => hk g hg.1, h3⟩, (h.mi m hm).2⟩, h.ne, h.sa, h.sb, h.sm, fun g hg => Nat.lt_of_lt_of_le (h.lt g hg) hs, h.zn, h.zm⟩
theorem PT.keep {S : Nat → Prop} {u u' : World} {v : Value} {t : Tb} (h : PT S u v t) (hs : u.heap.size ≤ u'.heap.size) (hk : ∀ g, S g → u'.heap[g]? = u.heap[g]?) : PT S u' v t := by
  obtain ⟨a, be, bm, fm, e, h⟩ := h
  exact ⟨a, be, bm, fm, e, h.keep hs hk⟩
theorem Pt.below {S : Nat → Prop} {u u' : World} {a be bm : Nat} {fm : List UInt8 → Option Value} {t : Tb} (h : Pt S u a be bm fm t) (hb : Below u.heap.size u u') : Pt S u' a be bm fm t :=
  h.keep hb.size fun g hg => hb.block g (h.lt g hg)
/-- what a call that changes the table leaves -/
def Chg (S : Nat → Prop) (w : World) (v : Value) (t : Tb) (u : World) : Prop := ∃ S', PT S' u v t ∧ (∀ g, S' g → S g ∨ w.heap.size ≤ g) ∧ Fr S w u
theorem Pt.chg_below {S : Nat → Prop} {w u : World} {a be bm : Nat} {fm : List UInt8 → Option Value} {t : Tb} (h : Pt S w a be bm fm t) (hb : Below w.heap.size w u) : Chg S w (.pointer (some ⟨a, 0, none⟩)) t u :=
  ⟨S, ⟨a, be, bm, fm, rfl, h.below hb⟩, fun g hg => Or.inl hg, Fr.of_below hb⟩
section
variable {S : Nat → Prop} {u : World} {a be bm : Nat} {fm : List UInt8 → Option Value} {t : Tb}
theorem Pt.cell0 (h : Pt S u a be bm fm t) : u.cell? ⟨a, 0, none⟩ = some (.map (some be)) := h.hd.cell 0
theorem Pt.cell1 (h : Pt S u a be bm fm t) : u.cell? ⟨a, 1, none⟩ = some (.map (some bm)) := h.hd.cell 1
theorem Pt.look_ok (h : Pt S u a be bm fm t) {s : List UInt8} (hs : s.length ≤ maxLen) :
    (Instr.lookup 81 (.map (some be)) (.string (bs s)) true).run Try.prog u = .ok (.tuple #[(entF t.L s).getD zE, .bool (entF t.L s).isSome]) u :=
  h.en.look_ok Try.underlying9 Try.underlying81 zeroE rfl hs
theorem Pt.look (h : Pt S u a be bm fm t) {s : List UInt8} (hs : s.length ≤ maxLen) :
    (Instr.lookup 81 (.map (some be)) (.string (bs s)) false).run Try.prog u = .ok ((entF t.L s).getD zE) u :=
  h.en.look Try.underlying9 Try.underlying81 zeroE rfl hs
theorem Pt.mlook_ok (h : Pt S u a be bm fm t) {s : List UInt8} (hs : s.length ≤ maxLen) :
    (Instr.lookup 82 (.map (some bm)) (.string (bs s)) true).run Try.prog u = .ok (.tuple #[(fm s).getD (.slice none 0 0), .bool (fm s).isSome]) u :=
  h.md.look_ok Try.underlying9 Try.underlying82 zeroS rfl hs
theorem Pt.mlook (h : Pt S u a be bm fm t) {s : List UInt8} (hs : s.length ≤ maxLen) :
    (Instr.lookup 82 (.map (some bm)) (.string (bs s)) false).run Try.prog u = .ok ((fm s).getD (.slice none 0 0)) u :=
  h.md.look Try.underlying9 Try.underlying82 zeroS rfl hs
theorem Pt.mod_some (h : Pt S u a be bm fm t) {m : List UInt8} (hm : m.length ≤ maxLen) : (fm m).isSome = hasM t m := by
  unfold hasM
  by_cases hi : m ∈ t.mods
  · obtain ⟨a, n, c, names, h1, _⟩ := (h.mi m hm).1 hi
    rw [h1]; simp [hi]
  · rw [(h.mi m hm).2 hi]; simp [hi]
end
end Go.Proofs.Ytajidaicojekdaa.SP
