/-
  Joined texts: SymPI, SymPJ. Nothing here is a statement of the seed.
-/
import Derived.Test.YtleggfofgpiabaaSymCo
import Derived.Shelf.SlMaps.Clone
import Derived.Deep.RegionHeld3
import Derived.Test.YtleggfofgpiabaaShelf
import Derived.Test.YtleggfofgpiabaaSymPH
set_option linter.unusedSimpArgs false
set_option linter.unusedVariables false
/-
  The program's copies: a map, a list of texts. Nothing here is a statement of the seed.
-/
namespace Go.Proofs.Ytleggfofgpiabaa.SP
open Go.RowKit WM NR OM OR SM SR MV
set_option maxHeartbeats 4000000
set_option maxRecDepth 10000
end Go.Proofs.Ytleggfofgpiabaa.SP

/-
  The program's Fork. Nothing here is a statement of the seed.
-/
namespace Go.Proofs.Ytleggfofgpiabaa.SP
open Go.RowKit WM NR OM OR SM SR MV
set_option maxHeartbeats 4000000
set_option maxRecDepth 10000
/-- the map of modules, of modules that there are alone -/
def fmC (fm : List UInt8 → Option Value) (t : Tb) (s : List UInt8) : Option Value := if s ∈ t.mods then fm s else none
abbrev mkS (x : Option Addr × Nat × Nat) : Value := .slice x.1 x.2.1 x.2.2
theorem fmC_mk {G : Nat → Prop} {u : World} {fm : List UInt8 → Option Value} {t : Tb} (h : ModI G u fm t) (hz : ∀ m ∈ t.mods, m.length ≤ maxLen) (s : List UInt8) (v : Value) (hv : fmC fm t s = some v) : ∃ c, v = mkS c := by
  unfold fmC at hv
  split at hv
  · next hm =>
    obtain ⟨a, n, c, _, h1, _⟩ := (h s (hz s hm)).1 hm
    rw [h1] at hv
    exact ⟨(a, n, c), (Option.some.inj hv).symm⟩
  · cases hv
/-- what has been copied of the modules -/
structure FkI (B : Nat) (t : Tb) (left : List UInt8 → Bool) (fn : List UInt8 → Option Value) (u : World) : Prop where
  got : ∀ m ∈ t.mods, left m = false → ∃ a n c names, fn m = some (.slice a n c) ∧ Reads (B < ·) u (.slice a n c) (strs names) ∧ names.Perm (nmsOf t.L m)
  no : ∀ m, (fn m).isSome = true → m ∈ t.mods
theorem FkI.keep {B : Nat} {t : Tb} {left : List UInt8 → Bool} {fn : List UInt8 → Option Value} {u u' : World} (h : FkI B t left fn u) (hk : ∀ g, B < g → g < u.heap.size → u'.heap[g]? = u.heap[g]?) : FkI B t left fn u' :=
  ⟨fun m hm hl => by
    obtain ⟨a, n, c, names, h1, h2, h3⟩ := h.got m hm hl
    exact ⟨a, n, c, names, h1, h2.keep hk, h3⟩, h.no⟩
theorem FkI.put {B : Nat} {t : Tb} {left : List UInt8 → Bool} {fn : List UInt8 → Option Value} {u : World} (h : FkI B t left fn u) {s : List UInt8} (hs : s ∈ t.mods) {a : Option Addr} {n c : Nat} {names : List (List UInt8)} (hr : Reads (B < ·) u (.slice a n c) (strs names)) (hp : names.Perm (nmsOf t.L s)) :
    FkI B t (fun x => left x && !decide (x = s)) (fun x => if x = s then some (.slice a n c) else fn x) u :=
  ⟨fun m hm hl => by
    by_cases e : m = s
    · subst e
      exact ⟨a, n, c, names, if_pos rfl, hr, hp⟩
    · simp [e] at hl
      obtain ⟨a', n', c', names', h1, h2⟩ := h.got m hm hl
      exact ⟨a', n', c', names', by show (if m = s then _ else fn m) = _; rw [if_neg e, h1], h2⟩, fun m hm => by
    by_cases e : m = s
    · rw [e]; exact hs
    · exact h.no m (by rw [show (if m = s then some (Value.slice a n c) else fn m) = fn m from if_neg e] at hm; exact hm)⟩
end Go.Proofs.Ytleggfofgpiabaa.SP
