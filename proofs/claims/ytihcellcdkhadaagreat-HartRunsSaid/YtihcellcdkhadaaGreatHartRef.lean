/-
  The reference's parts of a step: registers, turns, stops, sums. Nothing here is a statement of the seed.
-/
import Derived.Test.YtihcellcdkhadaaGreatHartCopy
import Derived.Test.YtihcellcdkhadaaGreatHartMath2
set_option linter.unusedSimpArgs false
set_option linter.unusedVariables false
namespace Go.Proofs.YtihcellcdkhadaaGreat.HF
open Go.RowKit PM PR PF MM MR MF HM HR
set_option maxHeartbeats 2000000
set_option maxRecDepth 10000
theorem refR_any (pc : Int) (R : Nat → Int) (a : Option Addr) (n c : Nat) (why ep home : Int) (i : Int) (hi : 0 ≤ i ∧ i ≤ 7) : Says Tryz.prog 35 #[hV pc R a n c why ep home, .int .u8 i] (.int .u32 (getR R i)) := by
  intro w
  rcases (show i = 0 ∨ i = 1 ∨ i = 2 ∨ i = 3 ∨ i = 4 ∨ i = 5 ∨ i = 6 ∨ i = 7 by omega) with rfl | rfl | rfl | rfl | rfl | rfl | rfl | rfl
  all_goals
    clear hi
    go_enter Tryz.func35, Tryz.ntmps35
    go_wp2_with fail
    go_ret
    exact ⟨rfl, bl1 ..⟩
theorem refPut9_any (pc : Int) (R : Nat → Int) (a : Option Addr) (n c : Nat) (why ep home : Int) (i x : Int) (hi : 0 ≤ i ∧ i ≤ 7) : Says Tryz.prog 38 #[hV pc R a n c why ep home, .int .u8 i, .int .u32 x] (hV pc (putR R i x) a n c why ep home) := by
  intro w
  rcases (show i = 0 ∨ i = 1 ∨ i = 2 ∨ i = 3 ∨ i = 4 ∨ i = 5 ∨ i = 6 ∨ i = 7 by omega) with rfl | rfl | rfl | rfl | rfl | rfl | rfl | rfl
  all_goals
    clear hi
    go_enter Tryz.func38, Tryz.ntmps38
    go_wp2_with fail
    exact bodyPost_ret (v := hV pc (putR R _ x) a n c why ep home) (by simp [results, Tryz.results38, go_sem, putR, setG]) rfl ⟨rfl, bl2 ..⟩
theorem refStill_any (pc : Int) (R : Nat → Int) (a : Option Addr) (n c : Nat) (why ep home : Int) (y : Int) : Says Tryz.prog 33 #[hV pc R a n c why ep home, .int .u8 y] (hV pc R a n c y ep home) := by
  intro w
  go_enter Tryz.func33, Tryz.ntmps33
  go_wp2_with fail
  exact bodyPost_ret (v := hV pc R a n c y ep home) (by simp [results, Tryz.results33, go_sem]) rfl ⟨rfl, bl2 ..⟩
theorem refNext_any (pc : Int) (R : Nat → Int) (a : Option Addr) (n c : Nat) (why ep home : Int)  : Says Tryz.prog 37 #[hV pc R a n c why ep home] (hV (up pc) R a n c why ep home) := by
  intro w
  go_enter Tryz.func37, Tryz.ntmps37
  go_wp2_with fail
  exact bodyPost_ret (v := hV (up pc) R a n c why ep home) (by simp [results, Tryz.results37, go_sem, up]) rfl ⟨rfl, bl2 ..⟩
abbrev rfW (w : World) (cs : Array Value) : World := ((w.alloc (.cells cs 30)).alloc (.cells hZ 30)).alloc (.cells nZ 44)
theorem rfW_facts (w : World) (cs : Array Value) : Below w.heap.size w (rfW w cs) ∧ (rfW w cs).heap.size = w.heap.size + 1 + 1 + 1 ∧ Whole (rfW w cs) w.heap.size 30 cs ∧ Whole (rfW w cs) (w.heap.size + 1) 30 hZ ∧ Whole (rfW w cs) (w.heap.size + 1 + 1) 44 nZ := by
  refine ⟨bl3 .., by simp, ((Whole.new w _ _).alloc _).alloc _, ?_, ?_⟩
  · have := (Whole.new (w.alloc (.cells cs 30)) 30 hZ).alloc (.cells nZ 44)
    simpa using this
  · have := Whole.new ((w.alloc (.cells cs 30)).alloc (.cells hZ 30)) 44 nZ
    simpa using this
theorem safe_end {w u : World} {t2 : TypeId} {c1 c2 : Array Value} (hb : Below w.heap.size w u) (h1 : Whole u (w.heap.size + 1) 30 c1) (s1 : c1.size = 13) (h2 : Whole u (w.heap.size + 1 + 1) t2 c2) (s2 : c2.size = 4) (pc r0 r1 r2 r3 r4 r5 r6 r7 : Int) (a : Option Addr) (n c : Nat) (why ep home : Int) (sf st : Bool) (y x : Int) :
    Whole (putN (putH u (w.heap.size + 1) pc r0 r1 r2 r3 r4 r5 r6 r7 a n c why ep home) (w.heap.size + 1 + 1) sf st y x) (w.heap.size + 1) 30 (c8 pc r0 r1 r2 r3 r4 r5 r6 r7 a n c why ep home) ∧ Whole (putN (putH u (w.heap.size + 1) pc r0 r1 r2 r3 r4 r5 r6 r7 a n c why ep home) (w.heap.size + 1 + 1) sf st y x) (w.heap.size + 1 + 1) t2 (nCs sf st y x) ∧ Below w.heap.size w (putN (putH u (w.heap.size + 1) pc r0 r1 r2 r3 r4 r5 r6 r7 a n c why ep home) (w.heap.size + 1 + 1) sf st y x) :=
  ⟨(putH_whole h1 s1 ..).fr (putN_fr ..) (by show ¬ w.heap.size + 1 = w.heap.size + 1 + 1; omega), putN_whole (h2.fr (putH_fr ..) (by show ¬ w.heap.size + 1 + 1 = w.heap.size + 1; omega)) s2 .., ends_low hb (by omega) ..⟩
theorem refSafe_any (pc : Int) (R : Nat → Int) (a : Option Addr) (n c : Nat) (why ep home : Int) (xe y : Int) : Says Tryz.prog 41 #[hV pc R a n c why ep home, .int .u64 xe, .int .u8 y] (.tuple #[if 0 < n then hV pc R a n c y ep home else hV home R a n c why xe home, nV (decide (n = 0)) false 0 0]) := by
  intro w
  by_cases hn : 0 < n
  · rw [if_pos hn, decide_eq_false (show ¬ n = 0 by omega)]
    have C := Lib.hid (fun u => refStill_any pc R a n c why ep home y u)
    have hn' : (0 : Int) < n := by omega
    obtain ⟨hb0, hs0, B1, B2, B3⟩ := rfW_facts w (hCs pc R a n c why ep home)
    have HX := Lib.hid (And.intro hb0 (And.intro B2 B3))
    clear hb0 hs0 B1 B2 B3
    go_enter Tryz.func41, Tryz.ntmps41
    go_wp2_with (go_at_call 33; (with_reducible refine (C.out _).mono ?_); rintro e w1 ⟨rfl, hb⟩; have X2 := HX.out.2.1.belowS hb; have X3 := HX.out.2.2.belowS hb; have q1 := X2.lt; have q2 := X3.lt; obtain ⟨⟨v0, v1, v2, v3, v4, v5, v6, v7, v8, v9, v10, v11, v12, e0, e1, e2, e3, e4, e5, e6, e7, e8, e9, e10, e11, e12⟩, f0, f1, f2, f3, f4, f5, f6, f7, f8, f9, f10, f11, f12⟩ := hart_open X2 rfl; obtain ⟨⟨z0, z1, z2, z3, g0, g1, g2, g3⟩, i0, i1, i2, i3⟩ := note_open X3 rfl; have HY := Lib.hid (And.intro (below_of HX.out.1 hb) (And.intro X2 X3)); clear hb X2 X3)
    rw [putH_eq, putN_eq]
    obtain ⟨y1, y2, y3⟩ := safe_end HY.out.1 HY.out.2.1 rfl HY.out.2.2 rfl pc (R 0) (R 1) (R 2) (R 3) (R 4) (R 5) (R 6) (R 7) a n c y ep home false false 0 0
    obtain ⟨p0, p1, p2, p3, p4, p5, p6, p7, p8, p9, p10, p11, p12⟩ := hart_cells y1
    obtain ⟨s0, s1, s2, s3⟩ := note_cells y2
    exact bodyPost_ret (v := .tuple #[hV pc R a n c y ep home, nV false false 0 0]) (by simp [results, Tryz.results41, go_sem, p0, p1, p2, p3, p4, p5, p6, p7, p8, p9, p10, p11, p12, s0, s1, s2, s3]) rfl ⟨rfl, y3⟩
  · obtain rfl : n = 0 := by omega
    rw [if_neg hn, decide_eq_true rfl]
    go_enter Tryz.func41, Tryz.ntmps41
    go_wp2_with fail
    exact bodyPost_ret (v := .tuple #[hV home R a 0 c why xe home, nV true false 0 0]) (by simp [results, Tryz.results41, go_sem]) rfl ⟨rfl, bl3 ..⟩
theorem refReckon_any (o x y : Int) (ho : 3 ≤ o ∧ o ≤ 10) (hx : B32 x) (hy : B32 y) (w : World) : Calls Tryz.prog 43 #[.int .u8 o, .int .u32 x, .int .u32 y] w fun e w' => e = .returned (.int .u32 (reck o x y)) ∧ w = w' := by
  obtain ⟨hx0, hx1⟩ := hx
  obtain ⟨hy0, hy1⟩ := hy
  obtain ⟨ho0, ho1⟩ := ho
  have h5 : 0 ≤ y % 32 := by omega
  have h6 : y % 32 < 32 := by omega
  have hsl : ∀ u, (Op.shift .shl .u32 x .u32 (y % 32)).run Tryz.prog u = .ok (.int .u32 (x * 2 ^ (y % 32).toNat % 4294967296)) u := fun u => by
    unfold Op.shift
    rw [if_neg (by omega)]
    have e : min (y % 32).toNat IntKind.u32.bits = (y % 32).toNat := by simp [IntKind.bits]; omega
    simp only [e, IntKind.wrap_u32]
    rfl
  have hsr : ∀ u, (Op.shift .shr .u32 x .u32 (y % 32)).run Tryz.prog u = .ok (.int .u32 (x / 2 ^ (y % 32).toNat)) u := fun u => by
    unfold Op.shift
    rw [if_neg (by omega)]
    have e : min (y % 32).toNat IntKind.u32.bits = (y % 32).toNat := by simp [IntKind.bits]; omega
    have hp : (0 : Int) ≤ 2 ^ (y % 32).toNat := Int.le_of_lt (Int.pow_pos (by omega))
    simp only [e, Int.fdiv_eq_ediv_of_nonneg _ hp]
    rfl
  unfold reck
  by_cases h10 : o = 10
  case neg =>
    rcases (show o = 3 ∨ o = 4 ∨ o = 5 ∨ o = 6 ∨ o = 7 ∨ o = 8 ∨ o = 9 by omega) with rfl | rfl | rfl | rfl | rfl | rfl | rfl
    all_goals
      clear h10
      simp (config := { decide := true }) only [if_true, if_false]
      go_enter Tryz.func43, Tryz.ntmps43
      go_wp2_with fail
      go_ret
      exact ⟨rfl, rfl⟩
  subst h10
  simp (config := { decide := true }) only [if_true, if_false]
  by_cases h : wrap32 x < wrap32 y
  · rw [if_pos h]
    go_enter Tryz.func43, Tryz.ntmps43
    go_wp2_with fail
    go_ret
    exact ⟨rfl, rfl⟩
  · rw [if_neg h]
    go_enter Tryz.func43, Tryz.ntmps43
    go_wp2_with fail
    go_ret
    exact ⟨rfl, rfl⟩
end Go.Proofs.YtihcellcdkhadaaGreat.HF
