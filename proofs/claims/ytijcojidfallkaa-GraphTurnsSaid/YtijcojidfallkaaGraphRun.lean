/-
  Both graphs through many calls. Nothing here is a statement of the seed.
-/
import Derived.Test.YtijcojidfallkaaGraphSame
import Derived.Test.YtijcojidfallkaaGraphFew
set_option linter.unusedSimpArgs false
set_option linter.unusedVariables false
namespace Go.Proofs.Ytijcojidfallkaa.GL
open Go.RowKit WM NR OM OR GM GR GF GP
set_option maxHeartbeats 4000000
set_option maxRecDepth 10000
/-- the law's two graphs on the way: r's box p, the program's graph v -/
structure PJ (w : World) (p : Nat) (G S : Nat → Prop) (u : World) (v : Value) (la : Option Addr) (ln lc : Nat) (t : List Nd) : Prop where
  Z : Whole u p 29 (gC la ln lc)
  D : ∃ l, Duo G S u v la ln lc l ∧ ndL l = t
  B : Below w.heap.size w u
  SB : ∀ g, S g → w.heap.size ≤ g ∧ g ≠ p
  GB : ∀ g, G g → g ≠ p
  hp : w.heap.size ≤ p
section
variable {w : World} {p : Nat} {G S G' S' : Nat → Prop} {u u' : World} {v : Value} {la : Option Addr} {ln lc : Nat} {la' : Option Addr} {ln' lc' : Nat} {t t' : List Nd}
theorem PJ.belowS (h : PJ w p G S u v la ln lc t) (hb : Below u.heap.size u u') : PJ w p G S u' v la ln lc t := ⟨h.Z.belowS hb, let ⟨l, d, e⟩ := h.D; ⟨l, d.belowS hb, e⟩, h.B.trans (hb.mono h.B.size), h.SB, h.GB, h.hp⟩
theorem PJ.ln_eq (h : PJ w p G S u v la ln lc t) : t.length = ln := by
  obtain ⟨l, d, e⟩ := h.D
  have := d.R.len.1
  subst e
  rw [List.length_map]
  exact this
theorem PJ.step {l' : List Nr} (h : PJ w p G S u v la ln lc t) (d : Duo G' S' u' v la' ln' lc' l') (e : ndL l' = t') (hS' : ∀ g, S' g → S g ∨ u.heap.size ≤ g) (hG' : ∀ g, G' g → G g ∨ u.heap.size ≤ g) (hF : Fr S u u') :
    Whole u' p 29 (gC la ln lc) ∧ PJ w p G' S' (u'.setCell ⟨p, 0, none⟩ (.slice la' ln' lc')) v la' ln' lc' t' := by
  have hz := h.Z.lt
  have nS : ¬ S p := fun hh => (h.SB p hh).2 rfl
  have nG : ¬ G p := fun hh => h.GB p hh rfl
  have nS' : ¬ S' p := fun hh => (hS' p hh).elim nS (fun h => by omega)
  have nG' : ¬ G' p := fun hh => (hG' p hh).elim nG (fun h => by omega)
  have z := h.Z.fr hF nS
  have hB : Below w.heap.size w u' := Below.fr h.B hF h.B.size fun i hi => (h.SB i hi).1
  have hw := h.B.size
  refine ⟨z, z.set_ 0 _, ⟨l', d.far nS' nG' _, e⟩, hB.setCell (by exact h.hp) _, fun g hg => ⟨?_, fun e => nS' (e ▸ hg)⟩, fun g hg e => nG' (e ▸ hg), h.hp⟩
  rcases hS' g hg with h1 | h1
  · exact (h.SB g h1).1
  · omega
theorem PJ.act (h : PJ w p G S u v la ln lc t) {x : Ac} (hx : AcOk (· < w.heap.size) u x) : AcOk (fun g => ¬ S g ∧ g < u.heap.size) u x :=
  ⟨hx.kind, hx.ns.mono fun g hg => ⟨fun hh => by have := (h.SB g hh).1; omega, Nat.lt_of_lt_of_le hg h.B.size⟩⟩
/-- a call of both -/
theorem PJ.do_ (h : PJ w p G S u v la ln lc t) (hg : GM.Good t) (hb : t.length ≤ 100) (x : Ac) (hx : AcOk (· < w.heap.size) u x) (hn : x.nm.length ≤ 140737488351232) (hns : ∀ s ∈ x.ns, s.length ≤ 140737488351232) (hnl : x.ns.length ≤ 1000) :
    Calls Try.prog 11 #[v, gV la ln lc, acV x] u fun e u' => ∃ la' ln' lc' G' S', e = .returned (.tuple #[gV la' ln' lc', .bool true]) ∧ Below w.heap.size w u' ∧ Whole u' p 29 (gC la ln lc) ∧ PJ w p G' S' (u'.setCell ⟨p, 0, none⟩ (.slice la' ln' lc')) v la' ln' lc' (actM t x).1 := by
  have hx' := h.act hx
  have hle := h.ln_eq
  obtain ⟨l, d, rfl⟩ := h.D
  refine (do_any d hg (by omega) x hx' hn hns hnl).mono fun e u' he => ?_
  obtain ⟨la', ln', lc', l', G', S', rfl, hD, hl, hS', hG', hF⟩ := he
  have s := h.step hD hl hS' hG' hF
  exact ⟨la', ln', lc', G', S', rfl, Below.fr h.B hF h.B.size fun i hi => (h.SB i hi).1, s.1, s.2⟩
/-- what both tell -/
theorem PJ.same_ (h : PJ w p G S u v la ln lc t) (hg : GM.Good t) (hb : t.length ≤ 100) (x y : List UInt8) (hx : x.length ≤ 140737488351232) (hy : y.length ≤ 140737488351232) :
    Calls Try.prog 12 #[v, gV la ln lc, .string (bs x), .string (bs y)] u fun e u' => e = .returned (.bool true) ∧ Below u.heap.size u u' := by
  have hle := h.ln_eq
  obtain ⟨l, d, rfl⟩ := h.D
  exact same_any d hg (by omega) x y hx hy
/-- a new graph and an empty one -/
theorem PJ.zero {w2 : World} (hP : PT S w2 v []) (hS : ∀ b, S b → w.heap.size ≤ b) (hB : Below w.heap.size w w2) :
    PJ w w2.heap.size (fun _ => False) S (w2.alloc (.cells #[.slice none 0 0] 29)) v none 0 0 [] := by
  have bn := below_new w2 (.cells #[.slice none 0 0] 29)
  exact ⟨Whole.new _ _ _, ⟨[], ⟨hP.keep bn.size (fun g hg => bn.block g (hP.lt g hg)), RdG.zero _ _, fun g hg => hg.elim⟩, rfl⟩, hB.trans (bn.mono hB.size), fun g hg => ⟨hS g hg, by have := hP.lt g hg; omega⟩, fun g hg => hg.elim, hB.size⟩
theorem PJ.pt (h : PJ w p G S u v la ln lc t) : PT S u v t := by
  obtain ⟨l, d, rfl⟩ := h.D
  exact d.P
theorem strs_reads {G : Nat → Prop} {w : World} {a : Option Addr} {n c : Nat} {xs : List Tx} (h : Reads G w (.slice a n c) (strs xs)) {k : Nat} (hk : k < n) : ∃ g off, a = some ⟨g, off, none⟩ ∧ n ≤ c ∧ ∀ u : World, (∀ g, G g → g < w.heap.size → u.heap[g]? = w.heap[g]?) → u.cell? ⟨g, off + k, none⟩ = some (.string (bs (xs.getD k []))) := by
  have hl := (reads_len h).1
  rw [strs_len] at hl
  obtain ⟨g, off, rfl, q, _⟩ := GP.reads_atG h (u := w) (fun _ _ _ => rfl) hk
  refine ⟨g, off, rfl, q, fun u hu => ?_⟩
  obtain ⟨g', off', e, _, e1⟩ := GP.reads_atG h (u := u) hu hk
  simp only [Option.some.injEq, Addr.mk.injEq, and_true] at e
  obtain ⟨rfl, rfl⟩ := e
  rw [strs_at (by omega)] at e1
  exact e1
theorem strs_all {G : Nat → Prop} {w : World} {a : Option Addr} {n c : Nat} {xs : List Tx} (h : Reads G w (.slice a n c) (strs xs)) (hn : 0 < n) : ∃ g off, a = some ⟨g, off, none⟩ ∧ n ≤ c ∧ ∀ u : World, (∀ g, G g → g < w.heap.size → u.heap[g]? = w.heap[g]?) → ∀ k, k < n → u.cell? ⟨g, off + k, none⟩ = some (.string (bs (xs.getD k []))) := by
  have hl := (reads_len h).1
  rw [strs_len] at hl
  obtain ⟨g, off, rfl, q, _⟩ := GP.reads_atG h (u := w) (fun _ _ _ => rfl) hn
  refine ⟨g, off, rfl, q, fun u hu k hk => ?_⟩
  obtain ⟨g', off', e, _, e1⟩ := GP.reads_atG h (u := u) hu hk
  simp only [Option.some.injEq, Addr.mk.injEq, and_true] at e
  obtain ⟨rfl, rfl⟩ := e
  rw [strs_at (by omega)] at e1
  exact e1
theorem PJ.strs_ (h : PJ w p G S u v la ln lc t) {a : Option Addr} {n c : Nat} {l : List Tx} (hx : Reads (· < w.heap.size) w (.slice a n c) (strs l)) : Reads (fun g => ¬ S g ∧ g < u.heap.size) u (.slice a n c) (strs l) :=
  (hx.below h.B).mono fun g hg => ⟨fun hh => by have := (h.SB g hh).1; omega, Nat.lt_of_lt_of_le hg h.B.size⟩
/-- a call that leaves the program's graph as it was -/
theorem PJ.chg (h : PJ w p G S u v la ln lc t) (hc : Chg S u v t u') : ∃ S', PJ w p G S' u' v la ln lc t := by
  obtain ⟨S', hP, hS', hF⟩ := hc
  have hz := h.Z.lt
  have hw := h.B.size
  have nS : ¬ S p := fun hh => (h.SB p hh).2 rfl
  have nS' : ¬ S' p := fun hh => (hS' p hh).elim nS (fun h => by omega)
  obtain ⟨l, d, rfl⟩ := h.D
  refine ⟨S', h.Z.fr hF nS, ⟨l, ⟨hP, d.R.keep fun g hg _ => hF.block g (d.GS g hg).2 (d.GS g hg).1, fun g hg => ⟨fun hh => (hS' g hh).elim (d.GS g hg).1 (fun h1 => by have := (d.GS g hg).2; omega), Nat.lt_of_lt_of_le (d.GS g hg).2 hF.size⟩⟩, rfl⟩, Below.fr h.B hF h.B.size fun i hi => (h.SB i hi).1, fun g hg => ⟨?_, fun e => nS' (e ▸ hg)⟩, h.GB, h.hp⟩
  rcases hS' g hg with h1 | h1
  · exact (h.SB g h1).1
  · omega
/-- Turn, told of both -/
theorem PJ.turn_ (h : PJ w p G S u v la ln lc t) (hg : GM.Good t) (hb : t.length ≤ 100) (m : Tx) (hm : m.length ≤ 140737488351232) {na : Option Addr} {nn nc : Nat} {xs : List Tx} (hx : Reads (· < w.heap.size) w (.slice na nn nc) (strs xs)) (hxs : ∀ x ∈ xs, x.length ≤ 140737488351232) (hxl : xs.length ≤ 1000) :
    Calls Try.prog 16 #[v, .string (bs m), .slice na nn nc] u fun e u' => e = .returned (.int .i64 (turnM t m xs).2) ∧ Below w.heap.size w u' ∧ (∃ S', PT S' u' v (turnM t m xs).1) ∧ ((turnM t m xs).1 = t → ∃ S', PJ w p G S' u' v la ln lc t) := by
  refine (turn_any h.pt hg hb m (by omega) (h.strs_ hx) (fun x hx => by have := hxs x hx; omega) hxl).mono fun e u' he => ?_
  obtain ⟨he, hc⟩ := he
  refine ⟨he, ?_, ?_, fun e2 => h.chg (e2 ▸ hc)⟩
  · obtain ⟨S', _, _, hF⟩ := hc
    exact Below.fr h.B hF h.B.size fun i hi => (h.SB i hi).1
  · obtain ⟨S', hP, _, _⟩ := hc
    exact ⟨S', hP⟩
/-- the pair that a fork begins: its base world is the one at the fork, so that what was there is told on -/
theorem PJ.fork {p2 : Nat} {S2 : Nat → Prop} {u1 : World} {v2 : Value} (h : PJ w p G S u v la ln lc t) (hb : Below u.heap.size u u1) (hP : PT S2 u1 v2 t) (hS : ∀ g, S2 g → u.heap.size ≤ g) (hZ : Whole u1 p2 29 (gC la ln lc)) (hp : u.heap.size ≤ p2) (hne : ∀ g, S2 g → g ≠ p2) :
    PJ u p2 G S2 u1 v2 la ln lc t := by
  obtain ⟨l, d, rfl⟩ := h.D
  exact ⟨hZ, ⟨l, ⟨hP, d.R.keep fun g hg _ => hb.block g (d.GS g hg).2, fun g hg => ⟨fun hh => by have := hS g hh; have := (d.GS g hg).2; omega, Nat.lt_of_lt_of_le (d.GS g hg).2 hb.size⟩⟩, rfl⟩, hb, fun g hg => ⟨hS g hg, hne g hg⟩, fun g hg e => by have := (d.GS g hg).2; omega, hp⟩
/-- behind the fork: the copy of r is made after the call .. -/
theorem PJ.fork_a {S2 : Nat → Prop} {u1 : World} {v2 : Value} (h : PJ w p G S u v la ln lc t) (hb : Below u.heap.size u u1) (hP : PT S2 u1 v2 t) (hS : ∀ g, S2 g → u.heap.size ≤ g) :
    PJ w p G S (u1.alloc (.cells #[.slice la ln lc] 29)) v la ln lc t ∧ PJ u u1.heap.size G S2 (u1.alloc (.cells #[.slice la ln lc] 29)) v2 la ln lc t := by
  have bn := below_new u1 (.cells #[.slice la ln lc] 29)
  have hb2 := hb.trans (bn.mono hb.size)
  exact ⟨h.belowS hb2, h.fork hb2 (hP.keep bn.size fun g hg => bn.block g (hP.lt g hg)) hS (Whole.new _ _ _) hb.size fun g hg e => by have := hP.lt g hg; omega⟩
/-- .. or ahead of it -/
theorem PJ.fork_b {p2 : Nat} {S2 : Nat → Prop} {u1 : World} {v2 : Value} (h : PJ w p G S u v la ln lc t) (hb : Below u.heap.size u u1) (hP : PT S2 u1 v2 t) (hS : ∀ g, S2 g → u.heap.size ≤ g) (hZ : Whole u1 p2 29 (gC none 0 0)) (hp : u.heap.size ≤ p2) (hne : ∀ g, S2 g → g ≠ p2) :
    PJ w p G S (u1.setCell ⟨p2, 0, none⟩ (.slice la ln lc)) v la ln lc t ∧ PJ u p2 G S2 (u1.setCell ⟨p2, 0, none⟩ (.slice la ln lc)) v2 la ln lc t := by
  have hb2 : Below u.heap.size u (u1.setCell ⟨p2, 0, none⟩ (.slice la ln lc)) := hb.setCell (by exact hp) _
  exact ⟨h.belowS hb2, h.fork hb2 (hP.keep (by simp) fun g hg => Below.heap_setCell _ _ _ _ (fun e => hne g hg e)) hS (hZ.set_ 0 _) hp hne⟩
theorem run_bd2 (t : List Nd) (ht : t.length ≤ 24) (l : List Ac) (k : Nat) (hk : l.length ≤ 24) : (runM t (l.take k)).length ≤ 48 := by
  have h1 := run_len (l.take k) t
  rw [List.length_take] at h1
  omega
end
end Go.Proofs.Ytijcojidfallkaa.GL
