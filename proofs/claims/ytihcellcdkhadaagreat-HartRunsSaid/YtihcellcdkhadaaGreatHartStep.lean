/-
  A step of the program's. Nothing here is a statement of the seed.
-/
import Derived.Test.YtihcellcdkhadaaGreatHartDoZ
import Derived.Deep.CutRange
set_option linter.unusedSimpArgs false
set_option linter.unusedVariables false
namespace Go.Proofs.YtihcellcdkhadaaGreat.HF
open Go.RowKit PM PR PF MM MR MF HM HR
set_option maxHeartbeats 2000000
set_option maxRecDepth 10000
open IM
/-- a step's own beginning: the copy laid in the box -/
theorem step_pre {G : Nat → Prop} {w : World} {p t g gw : Nat} {M : Mm} {a : Option Addr} {n c : Nat} {h : Ht} (pm : Pm w p t g gw M) (hr : Reads G w (.slice a n c) (wcs h.sk)) (hn : n * 4 ≤ 140737488355328) {w1 : World} {a' : Option Addr} {c' : Nat} (sk : Sk w1 (w3 w (hCs h.pc h.r a n c h.why h.ep h.home)).heap.size a' n c' h.sk) (hb : Below (w3 w (hCs h.pc h.r a n c h.why h.ep h.home)).heap.size (w3 w (hCs h.pc h.r a n c h.why h.ep h.home)) w1) :
    Sk (putH w1 w.heap.size h.pc (h.r 0) (h.r 1) (h.r 2) (h.r 3) (h.r 4) (h.r 5) (h.r 6) (h.r 7) a' n c' h.why h.ep h.home) w.heap.size a' n c' h.sk ∧ Pm (putH w1 w.heap.size h.pc (h.r 0) (h.r 1) (h.r 2) (h.r 3) (h.r 4) (h.r 5) (h.r 6) (h.r 7) a' n c' h.why h.ep h.home) p t g gw M ∧
      Ends (putH w1 w.heap.size h.pc (h.r 0) (h.r 1) (h.r 2) (h.r 3) (h.r 4) (h.r 5) (h.r 6) (h.r 7) a' n c' h.why h.ep h.home) (w.heap.size + 1) ∧ Whole (putH w1 w.heap.size h.pc (h.r 0) (h.r 1) (h.r 2) (h.r 3) (h.r 4) (h.r 5) (h.r 6) (h.r 7) a' n c' h.why h.ep h.home) w.heap.size 30 (hCs h.pc h.r a' n c' h.why h.ep h.home) ∧
      Below w.heap.size w (putH w1 w.heap.size h.pc (h.r 0) (h.r 1) (h.r 2) (h.r 3) (h.r 4) (h.r 5) (h.r 6) (h.r 7) a' n c' h.why h.ep h.home) := by
  obtain ⟨hb0, hs0, B1, B2, B3⟩ := w3_facts w (hCs h.pc h.r a n c h.why h.ep h.home)
  have hlt := pm.lt
  have hB := below_of hb0 hb
  have F := putH_fr w1 w.heap.size h.pc (h.r 0) (h.r 1) (h.r 2) (h.r 3) (h.r 4) (h.r 5) (h.r 6) (h.r 7) a' n c' h.why h.ep h.home
  have s1 := sk.fr F (fun k hk => by have := (World.ownsRow.lt sk k hk).1; omega)
  refine ⟨⟨s1.1, s1.2.imp id (fun ⟨g, cap, cur, e, hB, hr⟩ => ⟨g, cap, cur, e, by omega, hr⟩)⟩, (pm.belowS hB).fr F (by omega) (by omega) (by omega) (by omega), ⟨⟨_, (B2.belowS hb).fr F (by omega), rfl⟩, ⟨_, (B3.belowS hb).fr F (by omega), rfl⟩⟩, putH_whole (B1.belowS hb) rfl .., PR.Below.fr hB F hB.size (by rintro i rfl; omega)⟩
theorem step_still {G : Nat → Prop} {w : World} {p t g gw : Nat} {M : Mm} {a : Option Addr} {n c : Nat} {h : Ht} (pm : Pm w p t g gw M) (hr : Reads G w (.slice a n c) (wcs h.sk)) (hn : n * 4 ≤ 140737488355328) (xe : Int) (hw : ¬ h.why = 0) : Calls Tryz.prog 8 #[hV h.pc h.r a n c h.why h.ep h.home, .pointer (some ⟨p, 0, none⟩), .int .u64 xe] w (Does w.heap.size p t g gw none 0 0 (stepR h M xe) w) := by
  have e : stepR h M xe = ⟨h, M, false, false, 0, 0⟩ := by unfold stepR; rw [if_neg hw]
  rw [e]
  clear e
  have hlt := pm.lt
  have hnmx := hr.len
  have CP := Lib.hid (copy_any ((((hr.alloc (.cells (hCs h.pc h.r a n c h.why h.ep h.home) 30)).alloc (.cells hZ 30)).alloc (.cells nZ 41))) hn h.pc h.r h.why h.ep h.home)
  have EN := Lib.hid (fun (w1 : World) (a' : Option Addr) (c' : Nat) (s : Sk w1 (w3 w (hCs h.pc h.r a n c h.why h.ep h.home)).heap.size a' n c' h.sk) (b : Below (w3 w (hCs h.pc h.r a n c h.why h.ep h.home)).heap.size (w3 w (hCs h.pc h.r a n c h.why h.ep h.home)) w1) => step_pre pm hr hn s b)
  have BX := Lib.hid (w3_facts w (hCs h.pc h.r a n c h.why h.ep h.home)).2.2.1
  obtain ⟨pc, R, l, why, ep, home⟩ := h
  simp only at *
  have hw' : (why != 0) = true := by simpa using hw
  clear hw
  clear pm hr hn hnmx
  go_enter Tryz.func8, Tryz.ntmps8
  go_upto_region 2 with (go_at_call 27; (with_reducible refine CP.out.mono ?_); rintro e w1 ⟨a', c', rfl, sk, hb⟩; have HY := Lib.hid (EN.out _ _ _ sk hb); have B1' := BX.out.belowS hb; have q1 := B1'.lt; obtain ⟨⟨v0, v1, v2, v3, v4, v5, v6, v7, v8, v9, v10, v11, v12, e0, e1, e2, e3, e4, e5, e6, e7, e8, e9, e10, e11, e12⟩, f0, f1, f2, f3, f4, f5, f6, f7, f8, f9, f10, f11, f12⟩ := hart_open B1' rfl; clear sk hb B1')
  rw [putH_eq]
  have HY2 := HY.out
  clear HY EN CP BX q1 e0 e1 e2 e3 e4 e5 e6 e7 e8 e9 e10 e11 e12 f0 f1 f2 f3 f4 f5 f6 f7 f8 f9 f10 f11 f12
  generalize putH w1 w.heap.size pc (R 0) (R 1) (R 2) (R 3) (R 4) (R 5) (R 6) (R 7) a' n c' why ep home = u at *
  obtain ⟨sk1, pm1, E1, X1, hb1⟩ := HY2
  have HZ := Lib.hid (And.intro sk1 (And.intro pm1 hb1))
  obtain ⟨c0, c1, c2, c3, c4, c5, c6, c7, c8, c9, c10, c11, c12⟩ := hart_cells X1
  have E := Lib.hid E1
  obtain ⟨l1, l2, ⟨⟨v0, v1, v2, v3, v4, v5, v6, v7, v8, v9, v10, v11, v12, e0, e1, e2, e3, e4, e5, e6, e7, e8, e9, e10, e11, e12⟩, f0, f1, f2, f3, f4, f5, f6, f7, f8, f9, f10, f11, f12⟩, ⟨⟨z0, z1, z2, z3, g0, g1, g2, g3⟩, i0, i1, i2, i3⟩⟩ := E.out.open_
  clear sk1 pm1 E1 X1 hb1
  go_wp2_with fail
  rw [putH_eq, putN_eq]
  refine bodyPost_ret (v := .tuple #[hV pc R a' n c' why ep home, nV false false 0 0]) (by simp [results, Tryz.results8, go_sem, E.out.cells]) rfl ?_
  obtain ⟨y1, y2, y3⟩ := HZ.out
  exact does_end (r := ⟨⟨pc, R, l, why, ep, home⟩, M, false, false, 0, 0⟩) y1 y2 E.out (by omega) hlt (Fr.of_below (S := MS p g gw) y3) (fun i hi => Or.inl (Or.inl hi))
theorem step_none {G : Nat → Prop} {w : World} {p t g gw : Nat} {M : Mm} {a : Option Addr} {n c : Nat} {h : Ht} (pm : Pm w p t g gw M) (hr : Reads G w (.slice a n c) (wcs h.sk)) (hn : n * 4 ≤ 140737488355328) (ok : HOk h) (xe : Int) (hw : h.why = 0) (hf : fetchB M h.pc h.ep = false) : Calls Tryz.prog 8 #[hV h.pc h.r a n c h.why h.ep h.home, .pointer (some ⟨p, 0, none⟩), .int .u64 xe] w (Does w.heap.size p t g gw none 0 0 (stepR h M xe) w) := by
  have e : stepR h M xe = stillR h M 2 := by unfold stepR; rw [if_pos hw, hf]; rfl
  rw [e]
  clear e
  have hpc := ok.pc
  clear ok
  have hlt := pm.lt
  have hnmx := hr.len
  have CP := Lib.hid (copy_any ((((hr.alloc (.cells (hCs h.pc h.r a n c h.why h.ep h.home) 30)).alloc (.cells hZ 30)).alloc (.cells nZ 41))) hn h.pc h.r h.why h.ep h.home)
  have EN := Lib.hid (fun (w1 : World) (a' : Option Addr) (c' : Nat) (s : Sk w1 (w3 w (hCs h.pc h.r a n c h.why h.ep h.home)).heap.size a' n c' h.sk) (b : Below (w3 w (hCs h.pc h.r a n c h.why h.ep h.home)).heap.size (w3 w (hCs h.pc h.r a n c h.why h.ep h.home)) w1) => step_pre pm hr hn s b)
  have BX := Lib.hid (w3_facts w (hCs h.pc h.r a n c h.why h.ep h.home)).2.2.1
  obtain ⟨pc, R, l, why, ep, home⟩ := h
  simp only at *
  subst hw
  have CF := Lib.hid (fun u (hb : Below w.heap.size w u) => fetch_any (pm.belowS hb) pc ep hpc)
  rw [hf] at CF
  have CS := Lib.hid (fun u a' c' => stop_any pc R a' n c' 0 ep home 2 u)
  generalize fetchW M pc ep = fw at *
  generalize fetchO M pc ep = fo at *
  clear hf hpc
  clear pm hr hn hnmx
  go_enter Tryz.func8, Tryz.ntmps8
  go_upto_region 2 with (go_at_call 27; (with_reducible refine CP.out.mono ?_); rintro e w1 ⟨a', c', rfl, sk, hb⟩; have HY := Lib.hid (EN.out _ _ _ sk hb); have B1' := BX.out.belowS hb; have q1 := B1'.lt; obtain ⟨⟨v0, v1, v2, v3, v4, v5, v6, v7, v8, v9, v10, v11, v12, e0, e1, e2, e3, e4, e5, e6, e7, e8, e9, e10, e11, e12⟩, f0, f1, f2, f3, f4, f5, f6, f7, f8, f9, f10, f11, f12⟩ := hart_open B1' rfl; clear sk hb B1')
  rw [putH_eq]
  have HY2 := HY.out
  clear HY EN CP BX q1 e0 e1 e2 e3 e4 e5 e6 e7 e8 e9 e10 e11 e12 f0 f1 f2 f3 f4 f5 f6 f7 f8 f9 f10 f11 f12
  generalize putH w1 w.heap.size pc (R 0) (R 1) (R 2) (R 3) (R 4) (R 5) (R 6) (R 7) a' n c' 0 ep home = u at *
  obtain ⟨sk1, pm1, E1, X1, hb1⟩ := HY2
  have HZ := Lib.hid (And.intro sk1 (And.intro pm1 (And.intro E1 (And.intro X1 hb1))))
  obtain ⟨c0, c1, c2, c3, c4, c5, c6, c7, c8, c9, c10, c11, c12⟩ := hart_cells X1
  clear sk1 pm1 E1 X1
  go_wp2_with (first | (go_at_call 28; (with_reducible refine (CF.out _ hb1).mono ?_); rintro e w2 ⟨rfl, hb2⟩; obtain ⟨d0, d1, d2, d3, d4, d5, d6, d7, d8, d9, d10, d11, d12⟩ := hart_cells (HZ.out.2.2.2.1.belowS hb2); have HB2 := Lib.hid hb2; clear hb2) | (go_at_call 29; (with_reducible refine (CS.out _ _ _).mono ?_); rintro e w3 ⟨rfl, hb3⟩; have E := Lib.hid ((HZ.out.2.2.1.belowS HB2.out).belowS hb3); have HB3 := Lib.hid hb3; clear hb3; obtain ⟨l1, l2, ⟨⟨v0, v1, v2, v3, v4, v5, v6, v7, v8, v9, v10, v11, v12, e0, e1, e2, e3, e4, e5, e6, e7, e8, e9, e10, e11, e12⟩, f0, f1, f2, f3, f4, f5, f6, f7, f8, f9, f10, f11, f12⟩, ⟨⟨z0, z1, z2, z3, g0, g1, g2, g3⟩, i0, i1, i2, i3⟩⟩ := E.out.open_))
  rw [putH_eq, putN_eq]
  refine bodyPost_ret (v := .tuple #[hV pc R a' n c' 2 ep home, nV false false 0 0]) (by simp [results, Tryz.results8, go_sem, E.out.cells]) rfl ?_
  obtain ⟨y1, y2, y3, y4, y5⟩ := HZ.out
  exact does_end (r := stillR ⟨pc, R, l, 0, ep, home⟩ M 2) ((y1.belowS HB2.out).belowS HB3.out) ((y2.belowS HB2.out).belowS HB3.out) E.out (by omega) hlt (Fr.of_below (S := MS p g gw) (below_of (below_of y5 HB2.out) HB3.out)) (fun i hi => Or.inl (Or.inl hi))
theorem step_mid {w u v w5 : World} {p t g gw : Nat} {a : Option Addr} {n c : Nat} {l : List Int} (E1 : Ends u (w.heap.size + 1)) (sk1 : Sk u w.heap.size a n c l) (hlt : p < w.heap.size ∧ t < w.heap.size ∧ g < w.heap.size ∧ gw < w.heap.size) (hv : Below u.heap.size u v) (hf : Fr (fun i => MS p g gw i ∨ (Value.slice a n c).ownBlock = some i) v w5) : Ends w5 (w.heap.size + 1) := by
  obtain ⟨⟨c1, x1, s1⟩, ⟨c2, x2, s2⟩⟩ := E1
  have n1 := sk1.ne_ x1 (by decide)
  have n2 := sk1.ne_ x2 (by decide)
  exact ⟨⟨c1, (x1.belowS hv).fr hf (by rintro ((e | e | e) | e); omega; omega; omega; exact n1 e), s1⟩, ⟨c2, (x2.belowS hv).fr hf (by rintro ((e | e | e) | e); omega; omega; omega; exact n2 e), s2⟩⟩
theorem step_word {G : Nat → Prop} {w : World} {p t g gw : Nat} {M : Mm} {a : Option Addr} {n c : Nat} {h : Ht} (pm : Pm w p t g gw M) (hr : Reads G w (.slice a n c) (wcs h.sk)) (hn : n * 4 ≤ 140737488355328) (ok : HOk h) (xe : Int) (hw : h.why = 0) (hf : fetchB M h.pc h.ep = true) (hx : 0 ≤ fetchW M h.pc h.ep ∧ fetchW M h.pc h.ep ≤ 4294967295) (hd : hasB (fetchW M h.pc h.ep) = false) : Calls Tryz.prog 8 #[hV h.pc h.r a n c h.why h.ep h.home, .pointer (some ⟨p, 0, none⟩), .int .u64 xe] w (Does w.heap.size p t g gw none 0 0 (stillR h M 3) w) := by
  have hpc := ok.pc
  have hlt := pm.lt
  have hnmx := hr.len
  have CP := Lib.hid (copy_any ((((hr.alloc (.cells (hCs h.pc h.r a n c h.why h.ep h.home) 30)).alloc (.cells hZ 30)).alloc (.cells nZ 41))) hn h.pc h.r h.why h.ep h.home)
  have EN := Lib.hid (fun (w1 : World) (a' : Option Addr) (c' : Nat) (s : Sk w1 (w3 w (hCs h.pc h.r a n c h.why h.ep h.home)).heap.size a' n c' h.sk) (b : Below (w3 w (hCs h.pc h.r a n c h.why h.ep h.home)).heap.size (w3 w (hCs h.pc h.r a n c h.why h.ep h.home)) w1) => step_pre pm hr hn s b)
  have BX := Lib.hid (w3_facts w (hCs h.pc h.r a n c h.why h.ep h.home)).2.2.1
  obtain ⟨pc, R, l, why, ep, home⟩ := h
  simp only at *
  subst hw
  have CF := Lib.hid (fun u (hb : Below w.heap.size w u) => fetch_any (pm.belowS hb) pc ep hpc)
  rw [hf] at CF
  have CD := Lib.hid (IF.decode_any _ hx)
  unfold IF.decV at CD
  rw [hd] at CD
  have CS := Lib.hid (fun u a' c' => stop_any pc R a' n c' 0 ep home 3 u)
  generalize fetchW M pc ep = fw at *
  generalize fetchO M pc ep = fo at *
  clear ok
  clear pm hr hn hnmx hf hpc hx hd
  go_enter Tryz.func8, Tryz.ntmps8
  go_upto_region 2 with (go_at_call 27; (with_reducible refine CP.out.mono ?_); rintro e w1 ⟨a', c', rfl, sk, hb⟩; have HY := Lib.hid (EN.out _ _ _ sk hb); have B1' := BX.out.belowS hb; have q1 := B1'.lt; obtain ⟨⟨v0, v1, v2, v3, v4, v5, v6, v7, v8, v9, v10, v11, v12, e0, e1, e2, e3, e4, e5, e6, e7, e8, e9, e10, e11, e12⟩, f0, f1, f2, f3, f4, f5, f6, f7, f8, f9, f10, f11, f12⟩ := hart_open B1' rfl; clear sk hb B1')
  rw [putH_eq]
  have HY2 := HY.out
  clear HY EN CP BX q1 e0 e1 e2 e3 e4 e5 e6 e7 e8 e9 e10 e11 e12 f0 f1 f2 f3 f4 f5 f6 f7 f8 f9 f10 f11 f12
  generalize putH w1 w.heap.size pc (R 0) (R 1) (R 2) (R 3) (R 4) (R 5) (R 6) (R 7) a' n c' 0 ep home = u at *
  obtain ⟨sk1, pm1, E1, X1, hb1⟩ := HY2
  have HZ := Lib.hid (And.intro sk1 (And.intro pm1 (And.intro E1 (And.intro X1 hb1))))
  have q0 := X1.lt
  obtain ⟨c0, c1, c2, c3, c4, c5, c6, c7, c8, c9, c10, c11, c12⟩ := hart_cells X1

  clear sk1 pm1 E1 X1
  go_wp2_with (first | (go_at_call 28; (with_reducible refine (CF.out _ hb1).mono ?_); rintro e w2 ⟨rfl, hb2⟩; have HB2 := Lib.hid hb2; clear hb2) | (go_at_call 30; (with_reducible refine (CD.out.at _).mono ?_); rintro e w3 ⟨rfl, hb3⟩; have HB3 := Lib.hid (below_of HB2.out hb3); have X3 := HZ.out.2.2.2.1.belowS HB3.out; have q3 := X3.lt; obtain ⟨d0, d1, d2, d3, d4, d5, d6, d7, d8, d9, d10, d11, d12⟩ := hart_cells X3; clear hb3 X3) | (go_at_call 29; (with_reducible refine (CS.out _ _ _).mono ?_); rintro e w4 ⟨rfl, hb4⟩; have HB4 := Lib.hid (below_of (HB3.out.alloc HB3.out.size (.cells #[.int .u8 0, .int .u8 0, .int .u8 0, .int .u8 0, .int .i32 0] 76)) hb4); have E := Lib.hid (HZ.out.2.2.1.belowS HB4.out); clear hb4; obtain ⟨l1, l2, ⟨⟨v0, v1, v2, v3, v4, v5, v6, v7, v8, v9, v10, v11, v12, e0, e1, e2, e3, e4, e5, e6, e7, e8, e9, e10, e11, e12⟩, f0, f1, f2, f3, f4, f5, f6, f7, f8, f9, f10, f11, f12⟩, ⟨⟨z0, z1, z2, z3, g0, g1, g2, g3⟩, i0, i1, i2, i3⟩⟩ := E.out.open_))
  rw [putH_eq, putN_eq]
  refine bodyPost_ret (v := .tuple #[hV pc R a' n c' 3 ep home, nV false false 0 0]) (by simp [results, Tryz.results8, go_sem, E.out.cells]) rfl ?_
  obtain ⟨y1, y2, y3, y4, y5⟩ := HZ.out
  exact does_end (r := stillR ⟨pc, R, l, 0, ep, home⟩ M 3) (y1.belowS HB4.out) (y2.belowS HB4.out) E.out (by omega) hlt (Fr.of_below (S := MS p g gw) (below_of y5 HB4.out)) (fun i hi => Or.inl (Or.inl hi))
theorem step_do {G : Nat → Prop} {w : World} {p t g gw : Nat} {M : Mm} {a : Option Addr} {n c : Nat} {h : Ht} (pm : Pm w p t g gw M) (hr : Reads G w (.slice a n c) (wcs h.sk)) (hn : n * 4 ≤ 140737488355328) (ok : HOk h) (xe : Int) (hw : h.why = 0) (hf : fetchB M h.pc h.ep = true) (hx : 0 ≤ fetchW M h.pc h.ep ∧ fetchW M h.pc h.ep ≤ 4294967295) (hd : hasB (fetchW M h.pc h.ep) = true) : Calls Tryz.prog 8 #[hV h.pc h.r a n c h.why h.ep h.home, .pointer (some ⟨p, 0, none⟩), .int .u64 xe] w (Does w.heap.size p t g gw none 0 0 (doR h M (fetchO M h.pc h.ep) xe (pO (fetchW M h.pc h.ep)) (pD (fetchW M h.pc h.ep)) (pA (fetchW M h.pc h.ep)) (pB (fetchW M h.pc h.ep)) (pM (fetchW M h.pc h.ep))) w) := by
  have hpc := ok.pc
  have hlt := pm.lt
  have hnmx := hr.len
  have CP := Lib.hid (copy_any ((((hr.alloc (.cells (hCs h.pc h.r a n c h.why h.ep h.home) 30)).alloc (.cells hZ 30)).alloc (.cells nZ 41))) hn h.pc h.r h.why h.ep h.home)
  have EN := Lib.hid (fun (w1 : World) (a' : Option Addr) (c' : Nat) (s : Sk w1 (w3 w (hCs h.pc h.r a n c h.why h.ep h.home)).heap.size a' n c' h.sk) (b : Below (w3 w (hCs h.pc h.r a n c h.why h.ep h.home)).heap.size (w3 w (hCs h.pc h.r a n c h.why h.ep h.home)) w1) => step_pre pm hr hn s b)
  have BX := Lib.hid (w3_facts w (hCs h.pc h.r a n c h.why h.ep h.home)).2.2.1
  obtain ⟨pc, R, l, why, ep, home⟩ := h
  simp only at *
  subst hw
  have CF := Lib.hid (fun u (hb : Below w.heap.size w u) => fetch_any (pm.belowS hb) pc ep hpc)
  rw [hf] at CF
  have CD := Lib.hid (IF.decode_any _ hx)
  unfold IF.decV at CD
  rw [hd] at CD
  have hio := (has_good hx hd).1
  generalize pO (fetchW M pc ep) = o at *
  generalize pD (fetchW M pc ep) = d at *
  generalize pA (fetchW M pc ep) = x at *
  generalize pB (fetchW M pc ep) = y at *
  generalize pM (fetchW M pc ep) = m at *
  generalize fetchW M pc ep = fw at *
  generalize fetchO M pc ep = fo at *
  have HOO := Lib.hid (And.intro ok hio)
  clear ok hio
  clear pm hr hn hnmx hf hpc hx hd
  go_enter Tryz.func8, Tryz.ntmps8
  go_upto_region 2 with (go_at_call 27; (with_reducible refine CP.out.mono ?_); rintro e w1 ⟨a', c', rfl, sk, hb⟩; have HY := Lib.hid (EN.out _ _ _ sk hb); have B1' := BX.out.belowS hb; have q1 := B1'.lt; obtain ⟨⟨v0, v1, v2, v3, v4, v5, v6, v7, v8, v9, v10, v11, v12, e0, e1, e2, e3, e4, e5, e6, e7, e8, e9, e10, e11, e12⟩, f0, f1, f2, f3, f4, f5, f6, f7, f8, f9, f10, f11, f12⟩ := hart_open B1' rfl; clear sk hb B1')
  rw [putH_eq]
  have HY2 := HY.out
  clear HY EN CP BX q1 e0 e1 e2 e3 e4 e5 e6 e7 e8 e9 e10 e11 e12 f0 f1 f2 f3 f4 f5 f6 f7 f8 f9 f10 f11 f12
  generalize putH w1 w.heap.size pc (R 0) (R 1) (R 2) (R 3) (R 4) (R 5) (R 6) (R 7) a' n c' 0 ep home = u at *
  obtain ⟨sk1, pm1, E1, X1, hb1⟩ := HY2
  have HZ := Lib.hid (And.intro sk1 (And.intro pm1 (And.intro E1 (And.intro X1 hb1))))
  have q0 := X1.lt
  obtain ⟨c0, c1, c2, c3, c4, c5, c6, c7, c8, c9, c10, c11, c12⟩ := hart_cells X1
  have CC0 := (fun v (hv : Below u.heap.size u v) => do_any (h := ⟨pc, R, l, 0, ep, home⟩) (B := w.heap.size) (pm1.belowS hv) (sk1.belowS hv) hlt (Nat.le_trans hb1.size hv.size) HOO.out.1 fo xe o d x y m HOO.out.2)
  simp only at CC0
  generalize hr2 : doR ⟨pc, R, l, 0, ep, home⟩ M fo xe o d x y m = r at *
  have CC := Lib.hid CC0
  clear CC0 hr2

  clear sk1 pm1 E1 X1
  go_wp2_with (first | (go_at_call 28; (with_reducible refine (CF.out _ hb1).mono ?_); rintro e w2 ⟨rfl, hb2⟩; have HB2 := Lib.hid hb2; clear hb2) | (go_at_call 30; (with_reducible refine (CD.out.at _).mono ?_); rintro e w3 ⟨rfl, hb3⟩; have HB3 := Lib.hid (below_of HB2.out hb3); have X3 := HZ.out.2.2.2.1.belowS HB3.out; have q3 := X3.lt; obtain ⟨d0, d1, d2, d3, d4, d5, d6, d7, d8, d9, d10, d11, d12⟩ := hart_cells X3; clear hb3 X3) | (go_at_call 31; (with_reducible refine (CC.out _ (HB3.out.alloc HB3.out.size (.cells #[.int .u8 o, .int .u8 d, .int .u8 x, .int .u8 y, .int .i32 m] 76))).mono ?_); rintro e w5 ⟨a2, n2, c2, rfl, sk5, pm5, hf5⟩; have E := Lib.hid (step_mid HZ.out.2.2.1 HZ.out.1 hlt (HB3.out.alloc HB3.out.size _) hf5); have HX := Lib.hid (And.intro sk5 (And.intro pm5 hf5)); clear sk5 pm5 hf5; obtain ⟨l1, l2, ⟨⟨v0, v1, v2, v3, v4, v5, v6, v7, v8, v9, v10, v11, v12, e0, e1, e2, e3, e4, e5, e6, e7, e8, e9, e10, e11, e12⟩, f0, f1, f2, f3, f4, f5, f6, f7, f8, f9, f10, f11, f12⟩, ⟨⟨z0, z1, z2, z3, g0, g1, g2, g3⟩, i0, i1, i2, i3⟩⟩ := E.out.open_))
  rw [putH_eq, putN_eq]
  refine bodyPost_ret (v := .tuple #[hV r.h.pc r.h.r a2 n2 c2 r.h.why r.h.ep r.h.home, nV r.sf r.st r.nt r.nx]) (by simp [results, Tryz.results8, go_sem, E.out.cells]) rfl ?_
  obtain ⟨y1, y2, y3, y4, y5⟩ := HZ.out
  obtain ⟨z1, z2, z3⟩ := HX.out
  have hO := World.ownsRow.lt y1
  exact does_end z1 z2 E.out (by omega) hlt ((Fr.of_below (S := fun i => MS p g gw i ∨ (Value.slice a' n c').ownBlock = some i) (below_of y5 (HB3.out.alloc HB3.out.size _))).trans z3 (fun i hi => Or.inl hi)) (fun i hi => hi.elim (fun h => Or.inl (Or.inl h)) (fun h => Or.inr (hO i h).1))
end Go.Proofs.YtihcellcdkhadaaGreat.HF
