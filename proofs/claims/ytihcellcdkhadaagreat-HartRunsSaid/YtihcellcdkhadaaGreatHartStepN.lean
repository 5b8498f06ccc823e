/-
  A step of the program's, joined; a step without a memory. Nothing here is a statement of the seed.
-/
import Derived.Test.YtihcellcdkhadaaGreatHartStep
import Derived.Test.YtihcellcdkhadaaGreatHartMath2
set_option linter.unusedSimpArgs false
set_option linter.unusedVariables false
namespace Go.Proofs.YtihcellcdkhadaaGreat.HF
open Go.RowKit PM PR PF MM MR MF HM HR
set_option maxHeartbeats 2000000
set_option maxRecDepth 10000
open IM
theorem step_any {G : Nat → Prop} {w : World} {p t g gw : Nat} {M : Mm} {a : Option Addr} {n c : Nat} {h : Ht} (pm : Pm w p t g gw M) (hr : Reads G w (.slice a n c) (wcs h.sk)) (hn : n * 4 ≤ 140737488355328) (ok : HOk h) (wk : WOk M) (xe : Int) :
    Calls Tryz.prog 8 #[hV h.pc h.r a n c h.why h.ep h.home, .pointer (some ⟨p, 0, none⟩), .int .u64 xe] w (Does w.heap.size p t g gw none 0 0 (stepR h M xe) w) := by
  by_cases hw : h.why = 0
  · cases hf : fetchB M h.pc h.ep
    · exact step_none pm hr hn ok xe hw hf
    · have hx : B32 (fetchW M h.pc h.ep) := fetchW_ok wk ok.pc.1 h.ep
      cases hd : hasB (fetchW M h.pc h.ep)
      · have e : stepR h M xe = stillR h M 3 := by unfold stepR; rw [if_pos hw, hf, if_pos rfl, hd]; rfl
        rw [e]
        exact step_word pm hr hn ok xe hw hf hx hd
      · have e : stepR h M xe = doR h M (fetchO M h.pc h.ep) xe (pO (fetchW M h.pc h.ep)) (pD (fetchW M h.pc h.ep)) (pA (fetchW M h.pc h.ep)) (pB (fetchW M h.pc h.ep)) (pM (fetchW M h.pc h.ep)) := by unfold stepR; rw [if_pos hw, hf, if_pos rfl, hd, if_pos rfl]
        rw [e]
        exact step_do pm hr hn ok xe hw hf hx hd
  · exact step_still pm hr hn xe hw
/-- a step's world: what lies below stays, but for the memory's own blocks -/
theorem Does.low {w w' : World} {B p t g gw : Nat} {r : Res} {e : Ending} (h : Does B p t g gw none 0 0 r w e w') : Fr (MS p g gw) w w' := by
  obtain ⟨a', n', c', _, _, _, hf⟩ := h
  exact hf.mono fun i hi => Or.inl (hi.elim id (fun h => by cases h))
theorem step_nil {G : Nat → Prop} {w : World} {p t g gw : Nat} {M : Mm} {a : Option Addr} {n c : Nat} {h : Ht} (pm : Pm w p t g gw M) (hr : Reads G w (.slice a n c) (wcs h.sk)) (hn : n * 4 ≤ 140737488355328) (xe : Int) : Calls Tryz.prog 8 #[hV h.pc h.r a n c h.why h.ep h.home, .pointer none, .int .u64 xe] w (Does w.heap.size p t g gw none 0 0 ⟨h, M, false, false, 0, 0⟩ w) := by
  have hlt := pm.lt
  have hnmx := hr.len
  have CP := Lib.hid (copy_any ((((hr.alloc (.cells (hCs h.pc h.r a n c h.why h.ep h.home) 30)).alloc (.cells hZ 30)).alloc (.cells nZ 41))) hn h.pc h.r h.why h.ep h.home)
  have EN := Lib.hid (fun (w1 : World) (a' : Option Addr) (c' : Nat) (s : Sk w1 (w3 w (hCs h.pc h.r a n c h.why h.ep h.home)).heap.size a' n c' h.sk) (b : Below (w3 w (hCs h.pc h.r a n c h.why h.ep h.home)).heap.size (w3 w (hCs h.pc h.r a n c h.why h.ep h.home)) w1) => step_pre pm hr hn s b)
  have BX := Lib.hid (w3_facts w (hCs h.pc h.r a n c h.why h.ep h.home)).2.2.1
  obtain ⟨pc, R, l, why, ep, home⟩ := h
  simp only at *
  by_cases hw : why = 0
  · subst hw
    clear pm hr hn hnmx
    go_enter Tryz.func8, Tryz.ntmps8
    go_upto_region 2 with (go_at_call 27; (with_reducible refine CP.out.mono ?_); rintro e w1 ⟨a', c', rfl, sk, hb⟩; have HY := Lib.hid (EN.out _ _ _ sk hb); have B1' := BX.out.belowS hb; have q1 := B1'.lt; obtain ⟨⟨v0, v1, v2, v3, v4, v5, v6, v7, v8, v9, v10, v11, v12, e0, e1, e2, e3, e4, e5, e6, e7, e8, e9, e10, e11, e12⟩, f0, f1, f2, f3, f4, f5, f6, f7, f8, f9, f10, f11, f12⟩ := hart_open B1' rfl; clear sk hb B1')
    rw [putH_eq]
    have HY2 := HY.out
    clear HY EN CP BX q1 e0 e1 e2 e3 e4 e5 e6 e7 e8 e9 e10 e11 e12 f0 f1 f2 f3 f4 f5 f6 f7 f8 f9 f10 f11 f12
    generalize putH w1 w.heap.size pc (R 0) (R 1) (R 2) (R 3) (R 4) (R 5) (R 6) (R 7) a' n c' 0 ep home = u at *
    obtain ⟨sk1, pm1, E1, X1, hb1⟩ := HY2
    have HZ := Lib.hid (And.intro sk1 (And.intro pm1 hb1))
    obtain ⟨c0, c1, c2, c3, c4, c5, c6, c7, c8, c9, c10, c11, c12⟩ := hart_cells X1
    have E := Lib.hid E1
    obtain ⟨l1, l2, ⟨⟨v0, v1, v2, v3, v4, v5, v6, v7, v8, v9, v10, v11, v12, e0, e1, e2, e3, e4, e5, e6, e7, e8, e9, e10, e11, e12⟩, f0, f1, f2, f3, f4, f5, f6, f7, f8, f9, f10, f11, f12⟩, ⟨⟨z0, z1, z2, z3, g0, g1, g2, g3⟩, i0, i1, i2, i3⟩⟩ := E.out.open_
    clear sk1 pm1 E1 X1 hb1
    go_wp2_with fail
    rw [putH_eq, putN_eq]
    refine bodyPost_ret (v := .tuple #[hV pc R a' n c' 0 ep home, nV false false 0 0]) (by simp [results, Tryz.results8, go_sem, E.out.cells]) rfl ?_
    obtain ⟨y1, y2, y3⟩ := HZ.out
    exact does_end (r := ⟨⟨pc, R, l, 0, ep, home⟩, M, false, false, 0, 0⟩) y1 y2 E.out (by omega) hlt (Fr.of_below (S := MS p g gw) y3) (fun i hi => Or.inl (Or.inl hi))
  · have hw' : (why != 0) = true := by simpa using hw
    clear hw
    clear pm hr hn hnmx
    go_enter Tryz.func8, Tryz.ntmps8
    go_upto_region 2 with (go_at_call 27; (with_reducible refine CP.out.mono ?_); rintro e w1 ⟨a', c', rfl, sk, hb⟩; have HY := Lib.hid (EN.out _ _ _ sk hb); have B1' := BX.out.belowS hb; have q1 := B1'.lt; obtain ⟨⟨v0, v1, v2, v3, v4, v5, v6, v7, v8, v9, v10, v11, v12, e0, e1, e2, e3, e4, e5, e6, e7, e8, e9, e10, e11, e12⟩, f0, f1, f2, f3, f4, f5, f6, f7, f8, f9, f10, f11, f12⟩ := hart_open B1' rfl; clear sk hb B1')
    rw [putH_eq]
    have HY2 := HY.out
    clear HY EN CP BX q1 e0 e1 e2 e3 e4 e5 e6 e7 e8 e9 e10 e11 e12 f0 f1 f2 f3 f4 f5 f6 f7 f8 f9 f10 f11 f12
    generalize putH w1 w.heap.size pc (R 0) (R 1) (R 2) (R 3) (R 4) (R 5) (R 6) (R 7) a' n c' why ep home = u at *
    obtain ⟨sk1, pm1, E1, X1, hb1⟩ := HY2
    have HZ := Lib.hid (And.intro sk1 (And.intro pm1 hb1))
    obtain ⟨c0, c1, c2, c3, c4, c5, c6, c7, c8, c9, c10, c11, c12⟩ := hart_cells X1
    have E := Lib.hid E1
    obtain ⟨l1, l2, ⟨⟨v0, v1, v2, v3, v4, v5, v6, v7, v8, v9, v10, v11, v12, e0, e1, e2, e3, e4, e5, e6, e7, e8, e9, e10, e11, e12⟩, f0, f1, f2, f3, f4, f5, f6, f7, f8, f9, f10, f11, f12⟩, ⟨⟨z0, z1, z2, z3, g0, g1, g2, g3⟩, i0, i1, i2, i3⟩⟩ := E.out.open_
    clear sk1 pm1 E1 X1 hb1
    go_wp2_with fail
    rw [putH_eq, putN_eq]
    refine bodyPost_ret (v := .tuple #[hV pc R a' n c' why ep home, nV false false 0 0]) (by simp [results, Tryz.results8, go_sem, E.out.cells]) rfl ?_
    obtain ⟨y1, y2, y3⟩ := HZ.out
    exact does_end (r := ⟨⟨pc, R, l, why, ep, home⟩, M, false, false, 0, 0⟩) y1 y2 E.out (by omega) hlt (Fr.of_below (S := MS p g gw) y3) (fun i hi => Or.inl (Or.inl hi))
end Go.Proofs.YtihcellcdkhadaaGreat.HF
