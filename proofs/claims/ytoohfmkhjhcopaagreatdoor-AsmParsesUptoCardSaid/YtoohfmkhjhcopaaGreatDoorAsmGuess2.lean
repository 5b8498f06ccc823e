/-
  The one instruction that may have a line, as package asm guesses it. Nothing here is a statement of the seed.
-/
import Derived.Test.YtoohfmkhjhcopaaGreatDoorAsmGuess
import Derived.Test.YtoohfmkhjhcopaaGreatDoorAsmPrint
import Derived.Test.YtoohfmkhjhcopaaGreatDoorWordParse
set_option linter.unusedSimpArgs false
set_option linter.unusedVariables false
namespace Go.Proofs.YtoohfmkhjhcopaaGreatDoor.AF
open Go.RowKit WM IM WF IF AM

/-- the next part of a line, and what is left in its box -/
theorem next_any (l : List UInt8) (hl : l.length ≤ 140737488355328) (B : Nat) (w : World) (hc : w.cell? ⟨B, 0, none⟩ = some (.string (bs l))) (hf : w.frozen? ⟨B, 0, none⟩ = false) :
    Calls Tryz.prog 44 #[.pointer (some ⟨B, 0, none⟩)] w fun e w' => e = .returned (.string (bs (pre 32 l))) ∧ ∃ n, w' = (w.drewN n).setCell ⟨B, 0, none⟩ (.string (bs (post 32 l))) := by
  have C := fun w => cut_bs l 32 w (by omega)
  generalize bs (pre 32 l) = X at *
  generalize bs (post 32 l) = Y at *
  generalize decide (32 ∈ l) = b at *
  generalize bs l = S at *
  go_enter Tryz.func44, Tryz.ntmps44
  go_wp2_with (go_at_call 42; refine (C _).mono ?_; rintro e w' ⟨rfl, n, rfl⟩)
  go_ret
  exact ⟨rfl, n, rfl⟩
def sel (u : Bool) (a b : ByteArray) : ByteArray := match u with
  | true => a
  | false => b
def selI (u : Bool) (a : Int) : Int := match u with
  | true => a
  | false => 0
abbrev NextAt (R P S : ByteArray) : Prop := ∀ (B : Nat) (w : World), w.cell? ⟨B, 0, none⟩ = some (.string R) → w.frozen? ⟨B, 0, none⟩ = false →
    Calls Tryz.prog 44 #[.pointer (some ⟨B, 0, none⟩)] w fun e w' => e = .returned (.string P) ∧ ∃ n, w' = (w.drewN n).setCell ⟨B, 0, none⟩ (.string S)
theorem bset {B : Nat} {w u : World} {p : Addr} {v : Value} (h : Below B w u) (hp : B ≤ p.block) : Below B w (u.setCell p v) := h.setCell hp v
theorem ball {w u : World} {o : Obj} (h : Below w.heap.size w u) : Below w.heap.size w (u.alloc o) := h.alloc h.size o
theorem bdr {B : Nat} {w u : World} {n : Nat} (h : Below B w u) : Below B w (u.drewN n) := IF.below_drewN h n
theorem btr {w u v : World} (h : Below w.heap.size w u) (h2 : Below u.heap.size u v) : Below w.heap.size w v := h.trans (h2.mono h.size)
theorem blk_below {w u : World} {g : Nat} {t : TypeId} {cs : Array Value} (h : Blk w g t cs) (hb : Below w.heap.size w u) : Blk u g t cs := by
  unfold Blk at h ⊢
  have hlt : g < w.heap.size := by
    rcases Nat.lt_or_ge g w.heap.size with h' | h'
    · exact h'
    · simp [Array.getElem?_eq_none h'] at h
  rw [hb.block g hlt]
  exact h
theorem blk_other {w : World} {g : Nat} {t : TypeId} {cs : Array Value} (h : Blk w g t cs) (p : Addr) (v : Value) (hp : p.block ≠ g) : Blk (w.setCell p v) g t cs := by
  unfold Blk at h ⊢
  simp [World.setCell, Array.getElem?_modify, h, hp]
/-- five cells, and one, of what a guess keeps -/
structure Hs (w W : World) (R : ByteArray) : Prop where
  below : Below w.heap.size w W
  size : W.heap.size = w.heap.size + 1 + 1
  h2 : Blk W w.heap.size 24 #[.int .u8 0, .int .u8 0, .int .u8 0, .int .u8 0, .int .i32 0]
  h5 : Blk W (w.heap.size + 1) 9 #[.string R]
theorem hs_start (w : World) (n : Nat) (R : ByteArray) : Hs w (((w.alloc (.cells #[.int .u8 0, .int .u8 0, .int .u8 0, .int .u8 0, .int .i32 0] 24)).drewN n).alloc (.cells #[.string R] 9)) R := by
  have h0 := Blk.new w 24 #[.int .u8 0, .int .u8 0, .int .u8 0, .int .u8 0, .int .i32 0]
  have h1 := Blk.drewN h0 n
  refine ⟨ball (bdr (below_new _ _)), by simp, ?_, ?_⟩
  · exact blk_below h1 (below_new _ _)
  · have := Blk.new ((w.alloc (.cells #[.int .u8 0, .int .u8 0, .int .u8 0, .int .u8 0, .int .i32 0] 24)).drewN n) 9 #[.string R]
    simpa using this
theorem Hs.facts {w W : World} {R : ByteArray} (h : Hs w W R) : W.heap.size = w.heap.size + 1 + 1 ∧ (W.cell? ⟨w.heap.size, 0, none⟩ = some (.int .u8 0) ∧ W.cell? ⟨w.heap.size, 1, none⟩ = some (.int .u8 0) ∧ W.cell? ⟨w.heap.size, 2, none⟩ = some (.int .u8 0) ∧ W.cell? ⟨w.heap.size, 3, none⟩ = some (.int .u8 0) ∧ W.cell? ⟨w.heap.size, 4, none⟩ = some (.int .i32 0)) ∧
    (∀ i, W.frozen? ⟨w.heap.size, i, none⟩ = false) := ⟨h.size, ⟨h.h2.cell 0, h.h2.cell 1, h.h2.cell 2, h.h2.cell 3, h.h2.cell 4⟩, h.h2.frozen⟩
structure G (w W : World) (R : ByteArray) (o d a b m : Int) : Prop where
  below : Below w.heap.size w W
  h2 : Blk W w.heap.size 24 #[.int .u8 0, .int .u8 0, .int .u8 0, .int .u8 0, .int .i32 0]
  h5 : Blk W (w.heap.size + 1) 9 #[.string R]
  h10 : Blk W (w.heap.size + 1 + 1) 24 #[.int .u8 o, .int .u8 d, .int .u8 a, .int .u8 b, .int .i32 m]
section
variable {w W : World} {R : ByteArray} {o d a b m : Int}
theorem Hs.start (h : Hs w W R) (o : Int) : G w (W.alloc (.cells #[.int .u8 o, .int .u8 0, .int .u8 0, .int .u8 0, .int .i32 0] 24)) R o 0 0 0 0 :=
  ⟨ball h.below, blk_below h.h2 (below_new _ _), blk_below h.h5 (below_new _ _), by rw [← h.size]; exact Blk.new _ _ _⟩
theorem G.facts (h : G w W R o d a b m) : (W.cell? ⟨w.heap.size, 0, none⟩ = some (.int .u8 0) ∧ W.cell? ⟨w.heap.size, 1, none⟩ = some (.int .u8 0) ∧ W.cell? ⟨w.heap.size, 2, none⟩ = some (.int .u8 0) ∧ W.cell? ⟨w.heap.size, 3, none⟩ = some (.int .u8 0) ∧ W.cell? ⟨w.heap.size, 4, none⟩ = some (.int .i32 0)) ∧
    (W.cell? ⟨w.heap.size + 1 + 1, 0, none⟩ = some (.int .u8 o) ∧ W.cell? ⟨w.heap.size + 1 + 1, 1, none⟩ = some (.int .u8 d) ∧ W.cell? ⟨w.heap.size + 1 + 1, 2, none⟩ = some (.int .u8 a) ∧ W.cell? ⟨w.heap.size + 1 + 1, 3, none⟩ = some (.int .u8 b) ∧ W.cell? ⟨w.heap.size + 1 + 1, 4, none⟩ = some (.int .i32 m)) ∧
    (∀ i, W.frozen? ⟨w.heap.size, i, none⟩ = false) ∧ (∀ i, W.frozen? ⟨w.heap.size + 1 + 1, i, none⟩ = false) :=
  ⟨⟨h.h2.cell 0, h.h2.cell 1, h.h2.cell 2, h.h2.cell 3, h.h2.cell 4⟩, ⟨h.h10.cell 0, h.h10.cell 1, h.h10.cell 2, h.h10.cell 3, h.h10.cell 4⟩, h.h2.frozen, h.h10.frozen⟩
theorem G.set1 (h : G w W R o d a b m) (v : Int) : G w (W.setCell ⟨w.heap.size + 1 + 1, 1, none⟩ (.int .u8 v)) R o v a b m :=
  ⟨bset h.below (by simp; omega), blk_other h.h2 _ _ (by simp; omega), blk_other h.h5 _ _ (by simp), h.h10.set_ 1 _⟩
theorem G.set2 (h : G w W R o d a b m) (v : Int) : G w (W.setCell ⟨w.heap.size + 1 + 1, 2, none⟩ (.int .u8 v)) R o d v b m :=
  ⟨bset h.below (by simp; omega), blk_other h.h2 _ _ (by simp; omega), blk_other h.h5 _ _ (by simp), h.h10.set_ 2 _⟩
theorem G.set3 (h : G w W R o d a b m) (v : Int) : G w (W.setCell ⟨w.heap.size + 1 + 1, 3, none⟩ (.int .u8 v)) R o d a v m :=
  ⟨bset h.below (by simp; omega), blk_other h.h2 _ _ (by simp; omega), blk_other h.h5 _ _ (by simp), h.h10.set_ 3 _⟩
theorem G.set4 (h : G w W R o d a b m) (v : Int) : G w (W.setCell ⟨w.heap.size + 1 + 1, 4, none⟩ (.int .i32 v)) R o d a b v :=
  ⟨bset h.below (by simp; omega), blk_other h.h2 _ _ (by simp; omega), blk_other h.h5 _ _ (by simp), h.h10.set_ 4 _⟩
theorem G.next {P S : ByteArray} (h : G w W R o d a b m) (N : NextAt R P S) :
    Calls Tryz.prog 44 #[.pointer (some ⟨w.heap.size + 1, 0, none⟩)] W fun e w' => e = .returned (.string P) ∧ G w w' S o d a b m :=
  (N _ _ (h.h5.cell 0) (h.h5.frozen 0)).mono fun e w' ⟨he, n, hw⟩ => by
    subst hw
    refine ⟨he, bset (bdr h.below) (by simp), blk_other (h.h2.drewN n) _ _ (by simp), ?_, blk_other (h.h10.drewN n) _ _ (by simp)⟩
    exact (h.h5.drewN n).set_ 0 _
theorem G.num {D : Int} {P : ByteArray} (h : G w W R o d a b m) (T : Tab W) (C : SaysT 46 #[.string P] (.int .i32 D)) :
    Calls Tryz.prog 46 #[.string P] W fun e w' => e = .returned (.int .i32 D) ∧ G w w' R o d a b m :=
  (C W T).mono fun e w' ⟨he, hb⟩ => ⟨he, btr h.below hb, blk_below h.h2 hb, blk_below h.h5 hb, blk_below h.h10 hb⟩
end
theorem fin5 {w W : World} {z0 z1 z2 z3 z4 : Value} (hb : Below w.heap.size w W) (h2 : Blk W w.heap.size 24 #[z0, z1, z2, z3, z4]) (x0 x1 x2 x3 x4 : Value) :
    Blk (((((W.setCell ⟨w.heap.size, 0, none⟩ x0).setCell ⟨w.heap.size, 1, none⟩ x1).setCell ⟨w.heap.size, 2, none⟩ x2).setCell ⟨w.heap.size, 3, none⟩ x3).setCell ⟨w.heap.size, 4, none⟩ x4) w.heap.size 24 #[x0, x1, x2, x3, x4] ∧
    Below w.heap.size w (((((W.setCell ⟨w.heap.size, 0, none⟩ x0).setCell ⟨w.heap.size, 1, none⟩ x1).setCell ⟨w.heap.size, 2, none⟩ x2).setCell ⟨w.heap.size, 3, none⟩ x3).setCell ⟨w.heap.size, 4, none⟩ x4) := by
  have h := ((((h2.set_ 0 x0).set_ 1 x1).set_ 2 x2).set_ 3 x3).set_ 4 x4
  refine ⟨by simpa using h, ?_⟩
  exact bset (bset (bset (bset (bset hb (by simp)) (by simp)) (by simp)) (by simp)) (by simp)
theorem loadVar_blk (w : World) (g : Nat) (x0 x1 x2 x3 x4 : Value) (h : Blk w g 24 #[x0, x1, x2, x3, x4]) : (loadVar 24 ⟨g, 0, none⟩).run Tryz.prog w = .ok (.agg #[x0, x1, x2, x3, x4]) w := by
  have hA : (isAgg 24).run Tryz.prog w = .ok true w := by kernel_rfl
  have hz : (sizeOf 24).run Tryz.prog w = .ok 5 w := by kernel_rfl
  have hl := run_loadCells_list (P := Tryz.prog) w ⟨g, 0, none⟩ [x0, x1, x2, x3, x4] (fun j v hj => by
    rw [show (Addr.add ⟨g, 0, none⟩ j) = ⟨g, j, none⟩ by simp [Addr.add]; intro h; exact h.symm, h.cell j, List.getElem?_toArray]
    exact hj)
  rw [show [x0, x1, x2, x3, x4].length = 5 from rfl] at hl
  unfold loadVar
  simp only [Sem.run_bind, hA, Result.andThen, hz, hl, if_true]
  rfl
theorem results_ins {fn : Func} {i j : Tmp} (h : fn.results = #[.cell i 24, .tmp j]) {tmps : Array Value} {w : World} {g : Nat} {x0 x1 x2 x3 x4 v : Value} (hi : tmps.getD i undef = .pointer (some ⟨g, 0, none⟩)) (hj : tmps.getD j undef = v)
    (hb : Blk w g 24 #[x0, x1, x2, x3, x4]) : (results fn tmps).run Tryz.prog w = .ok (.tuple #[.agg #[x0, x1, x2, x3, x4], v]) w := by
  have hl := loadVar_blk w g x0 x1 x2 x3 x4 hb
  subst hj
  unfold results
  rw [h]
  simp only [Array.getD_eq_getD_getElem?] at hi ⊢
  simp [hi, asAddr, hl, Result.andThen, Array.mapM_eq_mapM_toList]
theorem guess_no (L M R : ByteArray) (b : Bool) (C1 : ∀ w, Calls Tryz.prog 42 #[.string L, .string ⟨#[32]⟩] w fun e w' => e = .returned (.tuple #[.string M, .string R, .bool b]) ∧ ∃ n, w' = w.drewN n)
    (C0 : ∀ w, Tab w → Calls Tryz.prog 43 #[.string M] w fun e w' => e = .returned (.tuple #[.int .u8 0, .bool false]) ∧ w = w') :
    SaysT 26 #[.string L] (.tuple #[insV 0 0 0 0 0, .bool false]) := by
  intro w T
  have HC : Hid (∀ n, Calls Tryz.prog 43 #[.string M] (((w.alloc (.cells #[.int .u8 0, .int .u8 0, .int .u8 0, .int .u8 0, .int .i32 0] 24)).drewN n).alloc (.cells #[.string R] 9)) fun e w' => e = .returned (.tuple #[.int .u8 0, .bool false]) ∧ Hs w w' R) :=
    fun n => (C0 _ (T.below (hs_start w n R).below)).mono fun e w' ⟨he, hw⟩ => ⟨he, by subst hw; exact hs_start w n R⟩
  clear T C0
  go_enter Tryz.func26, Tryz.ntmps26
  go_wp2_with (first | (go_at_call 42; refine (C1 _).mono ?_; rintro e w' ⟨rfl, n1, rfl⟩) | (go_at_call 43; refine (HC.out _).mono ?_; rintro e w2 ⟨rfl, hH⟩; obtain ⟨hz, ⟨k0, k1, k2, k3, k4⟩, hf⟩ := hH.facts))
  refine bodyPost_ret (results_ins (x0 := .int .u8 0) (x1 := .int .u8 0) (x2 := .int .u8 0) (x3 := .int .u8 0) (x4 := .int .i32 0) (v := .bool false) rfl rfl rfl ?_) rfl ⟨rfl, ?_⟩
  · exact (fin5 hH.below hH.h2 _ _ _ _ _).1
  · exact (fin5 hH.below hH.h2 _ _ _ _ _).2
set_option maxHeartbeats 4000000 in
theorem guess_way (o D0 D1 D2 D3 : Int) (L M R0 P0 S0 P1 S1 P2 S2 P3 S3 : ByteArray) (b u0 u1 u2 u3 : Bool)
    (C1 : ∀ w, Calls Tryz.prog 42 #[.string L, .string ⟨#[32]⟩] w fun e w' => e = .returned (.tuple #[.string M, .string R0, .bool b]) ∧ ∃ n, w' = w.drewN n)
    (C0 : ∀ w, Tab w → Calls Tryz.prog 43 #[.string M] w fun e w' => e = .returned (.tuple #[.int .u8 o, .bool true]) ∧ w = w')
    (C2 : ∀ w, Calls Tryz.prog 20 #[.int .u8 o] w fun e w' => e = .returned (.tuple #[.bool u0, .bool u1, .bool u2, .bool u3]) ∧ w = w')
    (N0 : NextAt R0 P0 S0) (N1 : NextAt (sel u0 S0 R0) P1 S1) (N2 : NextAt (sel u1 S1 (sel u0 S0 R0)) P2 S2) (N3 : NextAt (sel u2 S2 (sel u1 S1 (sel u0 S0 R0))) P3 S3)
    (G0 : ∀ w, Calls Tryz.prog 45 #[.string P0] w fun e w' => e = .returned (.int .u8 D0) ∧ w = w')
    (G1 : ∀ w, Calls Tryz.prog 45 #[.string P1] w fun e w' => e = .returned (.int .u8 D1) ∧ w = w')
    (G2 : ∀ w, Calls Tryz.prog 45 #[.string P2] w fun e w' => e = .returned (.int .u8 D2) ∧ w = w')
    (G3 : SaysT 46 #[.string P3] (.int .i32 D3))
    (hp : u0 = false ∧ u1 = false ∧ u2 = false ∧ u3 = false ∨ u0 = true ∧ u1 = false ∧ u2 = false ∧ u3 = true ∨ u0 = true ∧ u1 = true ∧ u2 = true ∧ u3 = false ∨ u0 = true ∧ u1 = true ∧ u2 = false ∧ u3 = true ∨ u0 = false ∧ u1 = false ∧ u2 = false ∧ u3 = true ∨ u0 = false ∧ u1 = true ∧ u2 = false ∧ u3 = false) :
    SaysT 26 #[.string L] (.tuple #[insV o (selI u0 D0) (selI u1 D1) (selI u2 D2) (selI u3 D3), .bool true]) := by
  intro w T
  have HC : Hid (∀ n, Calls Tryz.prog 43 #[.string M] (((w.alloc (.cells #[.int .u8 0, .int .u8 0, .int .u8 0, .int .u8 0, .int .i32 0] 24)).drewN n).alloc (.cells #[.string R0] 9)) fun e w' => e = .returned (.tuple #[.int .u8 o, .bool true]) ∧ Hs w w' R0) :=
    fun n => (C0 _ (T.below (hs_start w n R0).below)).mono fun e w' ⟨he, hw⟩ => ⟨he, by subst hw; exact hs_start w n R0⟩
  have HT : Hid (∀ u, Below w.heap.size w u → Tab u) := fun u hb => T.below hb
  clear T C0
  have HN0 := Lib.hid N0
  have HN1 := Lib.hid N1
  have HN2 := Lib.hid N2
  have HN3 := Lib.hid N3
  clear N0 N1 N2 N3
  rcases hp with ⟨rfl, rfl, rfl, rfl⟩ | ⟨rfl, rfl, rfl, rfl⟩ | ⟨rfl, rfl, rfl, rfl⟩ | ⟨rfl, rfl, rfl, rfl⟩ | ⟨rfl, rfl, rfl, rfl⟩ | ⟨rfl, rfl, rfl, rfl⟩
  all_goals dsimp only [sel, selI] at *
  · clear HN0 HN1 HN2 HN3 G0 G1 G2 G3
    go_enter Tryz.func26, Tryz.ntmps26
    go_wp2_with (first | (go_at_call 42; refine (C1 _).mono ?_; rintro e w' ⟨rfl, n1, rfl⟩) | (go_at_call 20; refine (C2 _).mono ?_; rintro e w' ⟨rfl, rfl⟩) | (go_at_call 43; refine (HC.out _).mono ?_; rintro e w2 ⟨rfl, hH⟩; obtain ⟨hz, ⟨k0, k1, k2, k3, k4⟩, hf⟩ := hH.facts; have hG := hH.start o))
    refine bodyPost_ret (results_ins (x0 := .int .u8 o) (x1 := .int .u8 0) (x2 := .int .u8 0) (x3 := .int .u8 0) (x4 := .int .i32 0) (v := .bool true) rfl rfl rfl ?_) rfl ⟨rfl, ?_⟩
    · exact blk_below (fin5 hH.below hH.h2 _ _ _ _ _).1 (below_new _ _)
    · exact ball (fin5 hH.below hH.h2 _ _ _ _ _).2
  · clear HN1 HN2 G1 G2
    go_enter Tryz.func26, Tryz.ntmps26
    go_wp2_with (first | (go_at_call 42; refine (C1 _).mono ?_; rintro e w' ⟨rfl, n1, rfl⟩) | (go_at_call 20; refine (C2 _).mono ?_; rintro e w' ⟨rfl, rfl⟩) | (go_at_call 43; refine (HC.out _).mono ?_; rintro e w2 ⟨rfl, hH⟩; obtain ⟨hz, ⟨k0, k1, k2, k3, k4⟩, hf⟩ := hH.facts; have hG := hH.start o) | (go_at_call 44; (first | refine (hG.next HN0.out).mono ?_ | refine ((hG.set1 _).next HN3.out).mono ?_); rintro e w2 ⟨rfl, hG⟩; obtain ⟨⟨k0, k1, k2, k3, k4⟩, ⟨l0, l1, l2, l3, l4⟩, hf, hf'⟩ := hG.facts) | (go_at_call 45; (first | (with_reducible refine (G0 _).mono ?_)); rintro e w' ⟨rfl, rfl⟩) | (go_at_call 46; refine (hG.num (HT.out _ hG.below) G3).mono ?_; rintro e w2 ⟨rfl, hG⟩; obtain ⟨⟨k0, k1, k2, k3, k4⟩, ⟨l0, l1, l2, l3, l4⟩, hf, hf'⟩ := hG.facts))
    refine bodyPost_ret (results_ins (x0 := .int .u8 o) (x1 := .int .u8 D0) (x2 := .int .u8 0) (x3 := .int .u8 0) (x4 := .int .i32 D3) (v := .bool true) rfl rfl rfl ?_) rfl ⟨rfl, ?_⟩
    · exact (fin5 (hG.set4 _).below (hG.set4 _).h2 _ _ _ _ _).1
    · exact (fin5 (hG.set4 _).below (hG.set4 _).h2 _ _ _ _ _).2
  · clear HN3 G3
    go_enter Tryz.func26, Tryz.ntmps26
    go_wp2_with (first | (go_at_call 42; refine (C1 _).mono ?_; rintro e w' ⟨rfl, n1, rfl⟩) | (go_at_call 20; refine (C2 _).mono ?_; rintro e w' ⟨rfl, rfl⟩) | (go_at_call 43; refine (HC.out _).mono ?_; rintro e w2 ⟨rfl, hH⟩; obtain ⟨hz, ⟨k0, k1, k2, k3, k4⟩, hf⟩ := hH.facts; have hG := hH.start o) | (go_at_call 44; (first | refine (hG.next HN0.out).mono ?_ | refine ((hG.set1 _).next HN1.out).mono ?_ | refine ((hG.set2 _).next HN2.out).mono ?_); rintro e w2 ⟨rfl, hG⟩; obtain ⟨⟨k0, k1, k2, k3, k4⟩, ⟨l0, l1, l2, l3, l4⟩, hf, hf'⟩ := hG.facts) | (go_at_call 45; (first | (with_reducible refine (G0 _).mono ?_) | (with_reducible refine (G1 _).mono ?_) | (with_reducible refine (G2 _).mono ?_)); rintro e w' ⟨rfl, rfl⟩))
    refine bodyPost_ret (results_ins (x0 := .int .u8 o) (x1 := .int .u8 D0) (x2 := .int .u8 D1) (x3 := .int .u8 D2) (x4 := .int .i32 0) (v := .bool true) rfl rfl rfl ?_) rfl ⟨rfl, ?_⟩
    · exact (fin5 (hG.set3 _).below (hG.set3 _).h2 _ _ _ _ _).1
    · exact (fin5 (hG.set3 _).below (hG.set3 _).h2 _ _ _ _ _).2
  · clear HN2 G2
    go_enter Tryz.func26, Tryz.ntmps26
    go_wp2_with (first | (go_at_call 42; refine (C1 _).mono ?_; rintro e w' ⟨rfl, n1, rfl⟩) | (go_at_call 20; refine (C2 _).mono ?_; rintro e w' ⟨rfl, rfl⟩) | (go_at_call 43; refine (HC.out _).mono ?_; rintro e w2 ⟨rfl, hH⟩; obtain ⟨hz, ⟨k0, k1, k2, k3, k4⟩, hf⟩ := hH.facts; have hG := hH.start o) | (go_at_call 44; (first | refine (hG.next HN0.out).mono ?_ | refine ((hG.set1 _).next HN1.out).mono ?_ | refine ((hG.set2 _).next HN3.out).mono ?_); rintro e w2 ⟨rfl, hG⟩; obtain ⟨⟨k0, k1, k2, k3, k4⟩, ⟨l0, l1, l2, l3, l4⟩, hf, hf'⟩ := hG.facts) | (go_at_call 45; (first | (with_reducible refine (G0 _).mono ?_) | (with_reducible refine (G1 _).mono ?_)); rintro e w' ⟨rfl, rfl⟩) | (go_at_call 46; refine (hG.num (HT.out _ hG.below) G3).mono ?_; rintro e w2 ⟨rfl, hG⟩; obtain ⟨⟨k0, k1, k2, k3, k4⟩, ⟨l0, l1, l2, l3, l4⟩, hf, hf'⟩ := hG.facts))
    refine bodyPost_ret (results_ins (x0 := .int .u8 o) (x1 := .int .u8 D0) (x2 := .int .u8 D1) (x3 := .int .u8 0) (x4 := .int .i32 D3) (v := .bool true) rfl rfl rfl ?_) rfl ⟨rfl, ?_⟩
    · exact (fin5 (hG.set4 _).below (hG.set4 _).h2 _ _ _ _ _).1
    · exact (fin5 (hG.set4 _).below (hG.set4 _).h2 _ _ _ _ _).2
  · clear HN0 HN1 HN2 G0 G1 G2
    go_enter Tryz.func26, Tryz.ntmps26
    go_wp2_with (first | (go_at_call 42; refine (C1 _).mono ?_; rintro e w' ⟨rfl, n1, rfl⟩) | (go_at_call 20; refine (C2 _).mono ?_; rintro e w' ⟨rfl, rfl⟩) | (go_at_call 43; refine (HC.out _).mono ?_; rintro e w2 ⟨rfl, hH⟩; obtain ⟨hz, ⟨k0, k1, k2, k3, k4⟩, hf⟩ := hH.facts; have hG := hH.start o) | (go_at_call 44; (first | refine (hG.next HN3.out).mono ?_); rintro e w2 ⟨rfl, hG⟩; obtain ⟨⟨k0, k1, k2, k3, k4⟩, ⟨l0, l1, l2, l3, l4⟩, hf, hf'⟩ := hG.facts) | (go_at_call 46; refine (hG.num (HT.out _ hG.below) G3).mono ?_; rintro e w2 ⟨rfl, hG⟩; obtain ⟨⟨k0, k1, k2, k3, k4⟩, ⟨l0, l1, l2, l3, l4⟩, hf, hf'⟩ := hG.facts))
    refine bodyPost_ret (results_ins (x0 := .int .u8 o) (x1 := .int .u8 0) (x2 := .int .u8 0) (x3 := .int .u8 0) (x4 := .int .i32 D3) (v := .bool true) rfl rfl rfl ?_) rfl ⟨rfl, ?_⟩
    · exact (fin5 (hG.set4 _).below (hG.set4 _).h2 _ _ _ _ _).1
    · exact (fin5 (hG.set4 _).below (hG.set4 _).h2 _ _ _ _ _).2
  · clear HN0 HN2 HN3 G0 G2 G3
    go_enter Tryz.func26, Tryz.ntmps26
    go_wp2_with (first | (go_at_call 42; refine (C1 _).mono ?_; rintro e w' ⟨rfl, n1, rfl⟩) | (go_at_call 20; refine (C2 _).mono ?_; rintro e w' ⟨rfl, rfl⟩) | (go_at_call 43; refine (HC.out _).mono ?_; rintro e w2 ⟨rfl, hH⟩; obtain ⟨hz, ⟨k0, k1, k2, k3, k4⟩, hf⟩ := hH.facts; have hG := hH.start o) | (go_at_call 44; (first | refine (hG.next HN1.out).mono ?_); rintro e w2 ⟨rfl, hG⟩; obtain ⟨⟨k0, k1, k2, k3, k4⟩, ⟨l0, l1, l2, l3, l4⟩, hf, hf'⟩ := hG.facts) | (go_at_call 45; (first | (with_reducible refine (G1 _).mono ?_)); rintro e w' ⟨rfl, rfl⟩))
    refine bodyPost_ret (results_ins (x0 := .int .u8 o) (x1 := .int .u8 0) (x2 := .int .u8 D1) (x3 := .int .u8 0) (x4 := .int .i32 0) (v := .bool true) rfl rfl rfl ?_) rfl ⟨rfl, ?_⟩
    · exact (fin5 (hG.set2 _).below (hG.set2 _).h2 _ _ _ _ _).1
    · exact (fin5 (hG.set2 _).below (hG.set2 _).h2 _ _ _ _ _).2
end Go.Proofs.YtoohfmkhjhcopaaGreatDoor.AF
