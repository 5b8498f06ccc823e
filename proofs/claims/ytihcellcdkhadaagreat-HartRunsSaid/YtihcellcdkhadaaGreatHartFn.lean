/-
  What a step is made of, where no memory is asked: registers, turns, stops. Nothing here is a statement of the seed.
-/
import Derived.Test.YtihcellcdkhadaaGreatHartRow
import Derived.Test.YtihcellcdkhadaaGreatHartMath
import Derived.Test.YtihcellcdkhadaaGreatIsaC
set_option linter.unusedSimpArgs false
set_option linter.unusedVariables false
namespace Go.Proofs.YtihcellcdkhadaaGreat.HF
open Go.RowKit PM PR MM HM HR

theorem bl1 (w : World) (o : Obj) : Below w.heap.size w (w.alloc o) := below_new w o
theorem bl2 (w : World) (o p : Obj) : Below w.heap.size w ((w.alloc o).alloc p) := (below_new w o).alloc (by simp) _
theorem bl3 (w : World) (o p q : Obj) : Below w.heap.size w (((w.alloc o).alloc p).alloc q) := (bl2 w o p).alloc (by simp; omega) _
set_option maxHeartbeats 2000000
set_option maxRecDepth 10000
theorem turn8 (pc r0 r1 r2 r3 r4 r5 r6 r7 : Int) (a : Option Addr) (n c : Nat) (why ep home : Int) (to : Int) : Says Tryz.prog 83 #[h8 pc r0 r1 r2 r3 r4 r5 r6 r7 a n c why ep home, .int .u32 to] (.tuple #[h8 to r0 r1 r2 r3 r4 r5 r6 r7 a n c why ep home, nV false false 0 0]) := by
  intro w
  go_enter Tryz.func83, Tryz.ntmps83
  go_wp2_with fail
  exact bodyPost_ret (v := .tuple #[h8 to r0 r1 r2 r3 r4 r5 r6 r7 a n c why ep home, nV false false 0 0]) (by simp [results, Tryz.results83, go_sem]) rfl ⟨rfl, bl3 ..⟩
theorem stop8 (pc r0 r1 r2 r3 r4 r5 r6 r7 : Int) (a : Option Addr) (n c : Nat) (why ep home : Int) (y : Int) : Says Tryz.prog 29 #[h8 pc r0 r1 r2 r3 r4 r5 r6 r7 a n c why ep home, .int .u8 y] (.tuple #[h8 pc r0 r1 r2 r3 r4 r5 r6 r7 a n c y ep home, nV false false 0 0]) := by
  intro w
  go_enter Tryz.func29, Tryz.ntmps29
  go_wp2_with fail
  exact bodyPost_ret (v := .tuple #[h8 pc r0 r1 r2 r3 r4 r5 r6 r7 a n c y ep home, nV false false 0 0]) (by simp [results, Tryz.results29, go_sem]) rfl ⟨rfl, bl3 ..⟩
theorem turn_any (pc : Int) (R : Nat → Int) (a : Option Addr) (n c : Nat) (why ep home : Int) (to : Int) : Says Tryz.prog 83 #[hV pc R a n c why ep home, .int .u32 to] (.tuple #[hV to R a n c why ep home, nV false false 0 0]) := turn8 pc (R 0) (R 1) (R 2) (R 3) (R 4) (R 5) (R 6) (R 7) a n c why ep home to
theorem stop_any (pc : Int) (R : Nat → Int) (a : Option Addr) (n c : Nat) (why ep home : Int) (y : Int) : Says Tryz.prog 29 #[hV pc R a n c why ep home, .int .u8 y] (.tuple #[hV pc R a n c y ep home, nV false false 0 0]) := stop8 pc (R 0) (R 1) (R 2) (R 3) (R 4) (R 5) (R 6) (R 7) a n c why ep home y
theorem get_any (pc : Int) (R : Nat → Int) (a : Option Addr) (n c : Nat) (why ep home : Int) (i : Int) (hi : 0 ≤ i ∧ i ≤ 7) : Says Tryz.prog 74 #[hV pc R a n c why ep home, .int .u8 i] (.int .u32 (getR R i)) := by
  intro w
  rcases (show i = 0 ∨ i = 1 ∨ i = 2 ∨ i = 3 ∨ i = 4 ∨ i = 5 ∨ i = 6 ∨ i = 7 by omega) with rfl | rfl | rfl | rfl | rfl | rfl | rfl | rfl
  all_goals
    clear hi
    go_enter Tryz.func74, Tryz.ntmps74
    go_wp2_with fail
    go_ret
    exact ⟨rfl, bl1 ..⟩
theorem below_any (x y : Int) (w : World) : Calls Tryz.prog 76 #[.int .u32 x, .int .u32 y] w fun e w' => e = .returned (.int .u32 (if wrap32 x < wrap32 y then 1 else 0)) ∧ w = w' := by
  by_cases h : wrap32 x < wrap32 y
  · rw [if_pos h]
    go_enter Tryz.func76, Tryz.ntmps76
    go_wp2_with fail
    go_ret
    exact ⟨rfl, rfl⟩
  · rw [if_neg h]
    go_enter Tryz.func76, Tryz.ntmps76
    go_wp2_with fail
    go_ret
    exact ⟨rfl, rfl⟩
/-- the world of a function that tells a hart and a note: its box, its two results -/
abbrev w3 (w : World) (cs : Array Value) : World := ((w.alloc (.cells cs 30)).alloc (.cells hZ 30)).alloc (.cells nZ 41)
theorem w3_facts (w : World) (cs : Array Value) : Below w.heap.size w (w3 w cs) ∧ (w3 w cs).heap.size = w.heap.size + 1 + 1 + 1 ∧ Whole (w3 w cs) w.heap.size 30 cs ∧ Whole (w3 w cs) (w.heap.size + 1) 30 hZ ∧ Whole (w3 w cs) (w.heap.size + 1 + 1) 41 nZ := by
  refine ⟨bl3 .., by simp, ((Whole.new w _ _).alloc _).alloc _, ?_, ?_⟩
  · have := (Whole.new (w.alloc (.cells cs 30)) 30 hZ).alloc (.cells nZ 41)
    simpa using this
  · have := Whole.new ((w.alloc (.cells cs 30)).alloc (.cells hZ 30)) 41 nZ
    simpa using this
/-- both results laid -/
abbrev end2 (u : World) (b : Nat) (pc r0 r1 r2 r3 r4 r5 r6 r7 : Int) (a : Option Addr) (n c : Nat) (why ep home : Int) (sf st : Bool) (y x : Int) : World := putN (putH u b pc r0 r1 r2 r3 r4 r5 r6 r7 a n c why ep home) (b + 1) sf st y x
/-- the two blocks that a function's results lie in, ahead of the two stores of its end -/
structure Ends (u : World) (b : Nat) : Prop where
  hh : ∃ cs, Whole u b 30 cs ∧ cs.size = 13
  hn : ∃ cs, Whole u (b + 1) 41 cs ∧ cs.size = 4
section
variable {w u : World} {b : Nat}
theorem ends_fr (u : World) (b : Nat) (pc r0 r1 r2 r3 r4 r5 r6 r7 : Int) (a : Option Addr) (n c : Nat) (why ep home : Int) (sf st : Bool) (y x : Int) : Fr (fun i => i = b ∨ i = b + 1) u (end2 u b pc r0 r1 r2 r3 r4 r5 r6 r7 a n c why ep home sf st y x) :=
  ((putH_fr u b pc r0 r1 r2 r3 r4 r5 r6 r7 a n c why ep home).mono (S' := fun i => i = b ∨ i = b + 1) (fun i h => Or.inl (Or.inl h))).trans (putN_fr (putH u b pc r0 r1 r2 r3 r4 r5 r6 r7 a n c why ep home) (b + 1) sf st y x) (fun i h => Or.inl (Or.inr h))
theorem ends_low {w u : World} {b : Nat} (hb : Below w.heap.size w u) (hl : w.heap.size ≤ b) (pc r0 r1 r2 r3 r4 r5 r6 r7 : Int) (a : Option Addr) (n c : Nat) (why ep home : Int) (sf st : Bool) (y x : Int) : Below w.heap.size w (end2 u b pc r0 r1 r2 r3 r4 r5 r6 r7 a n c why ep home sf st y x) :=
  PR.Below.fr hb (ends_fr u b ..) hb.size (by rintro i (rfl | rfl) <;> omega)
theorem Ends.cells (E : Ends u b) : ∀ (pc r0 r1 r2 r3 r4 r5 r6 r7 : Int) (a : Option Addr) (n c : Nat) (why ep home : Int) (sf st : Bool) (y x : Int), (end2 u b pc r0 r1 r2 r3 r4 r5 r6 r7 a n c why ep home sf st y x).cell? ⟨b, 0, none⟩ = some (.int .u32 pc) ∧ (end2 u b pc r0 r1 r2 r3 r4 r5 r6 r7 a n c why ep home sf st y x).cell? ⟨b, 1, none⟩ = some (.int .u32 r0) ∧ (end2 u b pc r0 r1 r2 r3 r4 r5 r6 r7 a n c why ep home sf st y x).cell? ⟨b, 2, none⟩ = some (.int .u32 r1) ∧ (end2 u b pc r0 r1 r2 r3 r4 r5 r6 r7 a n c why ep home sf st y x).cell? ⟨b, 3, none⟩ = some (.int .u32 r2) ∧ (end2 u b pc r0 r1 r2 r3 r4 r5 r6 r7 a n c why ep home sf st y x).cell? ⟨b, 4, none⟩ = some (.int .u32 r3) ∧ (end2 u b pc r0 r1 r2 r3 r4 r5 r6 r7 a n c why ep home sf st y x).cell? ⟨b, 5, none⟩ = some (.int .u32 r4) ∧ (end2 u b pc r0 r1 r2 r3 r4 r5 r6 r7 a n c why ep home sf st y x).cell? ⟨b, 6, none⟩ = some (.int .u32 r5) ∧ (end2 u b pc r0 r1 r2 r3 r4 r5 r6 r7 a n c why ep home sf st y x).cell? ⟨b, 7, none⟩ = some (.int .u32 r6) ∧ (end2 u b pc r0 r1 r2 r3 r4 r5 r6 r7 a n c why ep home sf st y x).cell? ⟨b, 8, none⟩ = some (.int .u32 r7) ∧ (end2 u b pc r0 r1 r2 r3 r4 r5 r6 r7 a n c why ep home sf st y x).cell? ⟨b, 9, none⟩ = some (.slice a n c) ∧ (end2 u b pc r0 r1 r2 r3 r4 r5 r6 r7 a n c why ep home sf st y x).cell? ⟨b, 10, none⟩ = some (.int .u8 why) ∧ (end2 u b pc r0 r1 r2 r3 r4 r5 r6 r7 a n c why ep home sf st y x).cell? ⟨b, 11, none⟩ = some (.int .u64 ep) ∧ (end2 u b pc r0 r1 r2 r3 r4 r5 r6 r7 a n c why ep home sf st y x).cell? ⟨b, 12, none⟩ = some (.int .u32 home) ∧ (end2 u b pc r0 r1 r2 r3 r4 r5 r6 r7 a n c why ep home sf st y x).cell? ⟨b + 1, 0, none⟩ = some (.bool sf) ∧ (end2 u b pc r0 r1 r2 r3 r4 r5 r6 r7 a n c why ep home sf st y x).cell? ⟨b + 1, 1, none⟩ = some (.bool st) ∧ (end2 u b pc r0 r1 r2 r3 r4 r5 r6 r7 a n c why ep home sf st y x).cell? ⟨b + 1, 2, none⟩ = some (.int .u32 y) ∧ (end2 u b pc r0 r1 r2 r3 r4 r5 r6 r7 a n c why ep home sf st y x).cell? ⟨b + 1, 3, none⟩ = some (.int .u32 x) := by
  intro pc r0 r1 r2 r3 r4 r5 r6 r7 a n c why ep home sf st y x
  obtain ⟨c1, h1, s1⟩ := E.hh
  obtain ⟨c2, h2, s2⟩ := E.hn
  have H1 := (putH_whole h1 s1 pc r0 r1 r2 r3 r4 r5 r6 r7 a n c why ep home).fr (putN_fr (putH u b pc r0 r1 r2 r3 r4 r5 r6 r7 a n c why ep home) (b + 1) sf st y x) (by show ¬ b = b + 1; omega)
  have H2 := putN_whole (h2.fr (putH_fr u b pc r0 r1 r2 r3 r4 r5 r6 r7 a n c why ep home) (by show ¬ b + 1 = b; omega)) s2 sf st y x
  exact ⟨H1.cell 0, H1.cell 1, H1.cell 2, H1.cell 3, H1.cell 4, H1.cell 5, H1.cell 6, H1.cell 7, H1.cell 8, H1.cell 9, H1.cell 10, H1.cell 11, H1.cell 12, H2.cell 0, H2.cell 1, H2.cell 2, H2.cell 3⟩
theorem Ends.open_ (E : Ends u b) : b < u.heap.size ∧ b + 1 < u.heap.size ∧ ((∃ v0 v1 v2 v3 v4 v5 v6 v7 v8 v9 v10 v11 v12, u.cell? ⟨b, 0, none⟩ = some v0 ∧ u.cell? ⟨b, 1, none⟩ = some v1 ∧ u.cell? ⟨b, 2, none⟩ = some v2 ∧ u.cell? ⟨b, 3, none⟩ = some v3 ∧ u.cell? ⟨b, 4, none⟩ = some v4 ∧ u.cell? ⟨b, 5, none⟩ = some v5 ∧ u.cell? ⟨b, 6, none⟩ = some v6 ∧ u.cell? ⟨b, 7, none⟩ = some v7 ∧ u.cell? ⟨b, 8, none⟩ = some v8 ∧ u.cell? ⟨b, 9, none⟩ = some v9 ∧ u.cell? ⟨b, 10, none⟩ = some v10 ∧ u.cell? ⟨b, 11, none⟩ = some v11 ∧ u.cell? ⟨b, 12, none⟩ = some v12) ∧ u.frozen? ⟨b, 0, none⟩ = false ∧ u.frozen? ⟨b, 1, none⟩ = false ∧ u.frozen? ⟨b, 2, none⟩ = false ∧ u.frozen? ⟨b, 3, none⟩ = false ∧ u.frozen? ⟨b, 4, none⟩ = false ∧ u.frozen? ⟨b, 5, none⟩ = false ∧ u.frozen? ⟨b, 6, none⟩ = false ∧ u.frozen? ⟨b, 7, none⟩ = false ∧ u.frozen? ⟨b, 8, none⟩ = false ∧ u.frozen? ⟨b, 9, none⟩ = false ∧ u.frozen? ⟨b, 10, none⟩ = false ∧ u.frozen? ⟨b, 11, none⟩ = false ∧ u.frozen? ⟨b, 12, none⟩ = false) ∧ ((∃ z0 z1 z2 z3, u.cell? ⟨b + 1, 0, none⟩ = some z0 ∧ u.cell? ⟨b + 1, 1, none⟩ = some z1 ∧ u.cell? ⟨b + 1, 2, none⟩ = some z2 ∧ u.cell? ⟨b + 1, 3, none⟩ = some z3) ∧ u.frozen? ⟨b + 1, 0, none⟩ = false ∧ u.frozen? ⟨b + 1, 1, none⟩ = false ∧ u.frozen? ⟨b + 1, 2, none⟩ = false ∧ u.frozen? ⟨b + 1, 3, none⟩ = false) := by
  obtain ⟨c1, h1, s1⟩ := E.hh
  obtain ⟨c2, h2, s2⟩ := E.hn
  exact ⟨h1.lt, h2.lt, hart_open h1 s1, note_open h2 s2⟩
end
/-- behind a call, in a function's own world -/
theorem w3_ends {w w1 : World} {cs : Array Value} (hb : Below (w3 w cs).heap.size (w3 w cs) w1) : Ends w1 (w.heap.size + 1) ∧ Below w.heap.size w w1 := by
  obtain ⟨hb0, hs0, B1, B2, B3⟩ := w3_facts w cs
  exact ⟨⟨⟨_, B2.belowS hb, rfl⟩, ⟨_, B3.belowS hb, rfl⟩⟩, below_of hb0 hb⟩
end Go.Proofs.YtihcellcdkhadaaGreat.HF
