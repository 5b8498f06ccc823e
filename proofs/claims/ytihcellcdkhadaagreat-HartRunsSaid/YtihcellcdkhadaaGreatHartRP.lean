/-
  The reference's step: its beginning, and where it stands still. Nothing here is a statement of the seed.
-/
import Derived.Test.YtihcellcdkhadaaGreatHartRS
import Derived.Deep.RegionHeld3
import Derived.Deep.CutRange
set_option linter.unusedSimpArgs false
set_option linter.unusedVariables false
namespace Go.Proofs.YtihcellcdkhadaaGreat.HF
open Go.RowKit PM PR PF MM MR MF HM HR
open IM
set_option maxHeartbeats 16000000
set_option maxRecDepth 10000
theorem rstep_rg {G : Nat → Prop} {w : World} {gr C gw d : Nat} {M : Mm} {a : Option Addr} {n c : Nat} {h : Ht} (rm : Rm w gr C gw d M) (hr : Reads G w (.slice a n c) (wcs h.sk)) (hn : n * 4 ≤ 140737488355328) {w1 : World} {a' : Option Addr} {c' : Nat} (sk : Sk w1 (w5 w (hCs h.pc h.r a n c h.why h.ep h.home) (rCs M.gt gr M.pg.length C gw M.ws.length d)).heap.size a' n c' h.sk) (hb : Below (w5 w (hCs h.pc h.r a n c h.why h.ep h.home) (rCs M.gt gr M.pg.length C gw M.ws.length d)).heap.size (w5 w (hCs h.pc h.r a n c h.why h.ep h.home) (rCs M.gt gr M.pg.length C gw M.ws.length d)) w1) :
    RG w gr C gw d M a' n c' h (putH w1 w.heap.size h.pc (h.r 0) (h.r 1) (h.r 2) (h.r 3) (h.r 4) (h.r 5) (h.r 6) (h.r 7) a' n c' h.why h.ep h.home) := by
  obtain ⟨hb0, hs0, B1, B2, B3, B4, B5⟩ := w5_facts w (hCs h.pc h.r a n c h.why h.ep h.home) (rCs M.gt gr M.pg.length C gw M.ws.length d)
  have hlt := rm.lt
  have hB := below_of hb0 hb
  have F := putH_fr w1 w.heap.size h.pc (h.r 0) (h.r 1) (h.r 2) (h.r 3) (h.r 4) (h.r 5) (h.r 6) (h.r 7) a' n c' h.why h.ep h.home
  have s1 := sk.fr F (fun k hk => by have := (World.ownsRow.lt sk k hk).1; omega)
  exact ⟨⟨s1.1, s1.2.imp id (fun ⟨g, cap, cur, e, hB, hr⟩ => ⟨g, cap, cur, e, by omega, hr⟩)⟩, (rm.belowS hB).fr F (by omega) (by omega), ⟨⟨_, (B3.belowS hb).fr F (by omega), rfl⟩, ⟨_, (B4.belowS hb).fr F (by omega), rfl⟩, ⟨_, (B5.belowS hb).fr F (by omega), rfl⟩⟩, putH_whole (B1.belowS hb) rfl .., (B2.belowS hb).fr F (by omega), PR.Below.fr hB F hB.size (by rintro i rfl; omega), hlt⟩
theorem rstep_still {G : Nat → Prop} {w : World} {gr C gw d : Nat} {M : Mm} {a : Option Addr} {n c : Nat} {h : Ht} (rm : Rm w gr C gw d M) (hr : Reads G w (.slice a n c) (wcs h.sk)) (hn : n * 4 ≤ 140737488355328) (xe : Int) (hw : ¬ h.why = 0) : Calls Tryz.prog 9 #[hV h.pc h.r a n c h.why h.ep h.home, rV M.gt gr M.pg.length C gw M.ws.length d, .int .u64 xe] w (RDid (stepR h M xe) gr C gw w) := by
  have e : stepR h M xe = ⟨h, M, false, false, 0, 0⟩ := by unfold stepR; rw [if_neg hw]
  rw [e]
  clear e
  obtain ⟨pc, R, l, why, ep, home⟩ := h
  simp only at *
  have hw' : (why != 0) = true := by simpa using hw
  clear hw
  have hnmx := hr.len
  have CP := Lib.hid (refCopy_any (((((hr.alloc (.cells (hCs pc R a n c why ep home) 30)).alloc (.cells (rCs M.gt gr M.pg.length C gw M.ws.length d) 36)).alloc (.cells hZ 30)).alloc (.cells zCs 36)).alloc (.cells nZ 44)) hn pc R why ep home)
  have EN := Lib.hid (fun (w1 : World) (a' : Option Addr) (c' : Nat) (s : Sk w1 (w5 w (hCs pc R a n c why ep home) (rCs M.gt gr M.pg.length C gw M.ws.length d)).heap.size a' n c' l) (b : Below (w5 w (hCs pc R a n c why ep home) (rCs M.gt gr M.pg.length C gw M.ws.length d)).heap.size (w5 w (hCs pc R a n c why ep home) (rCs M.gt gr M.pg.length C gw M.ws.length d)) w1) => rstep_rg (h := ⟨pc, R, l, why, ep, home⟩) rm hr hn s b)
  have BX := Lib.hid (w5_facts w (hCs pc R a n c why ep home) (rCs M.gt gr M.pg.length C gw M.ws.length d)).2.2.1
  simp only at EN
  clear rm hr hn hnmx
  go_enter Tryz.func9, Tryz.ntmps9
  go_upto_region 2 with (go_at_call 7; (with_reducible refine CP.out.mono ?_); rintro e w1 ⟨a', c', rfl, sk, hb⟩; have HY := Lib.hid (EN.out _ _ _ sk hb); have B1' := BX.out.belowS hb; have q1 := B1'.lt; obtain ⟨⟨v0, v1, v2, v3, v4, v5, v6, v7, v8, v9, v10, v11, v12, e0, e1, e2, e3, e4, e5, e6, e7, e8, e9, e10, e11, e12⟩, f0, f1, f2, f3, f4, f5, f6, f7, f8, f9, f10, f11, f12⟩ := hart_open B1' rfl; clear sk hb B1')
  rw [putH_eq]
  have HY2 := HY.out
  clear HY EN CP BX q1 e0 e1 e2 e3 e4 e5 e6 e7 e8 e9 e10 e11 e12 f0 f1 f2 f3 f4 f5 f6 f7 f8 f9 f10 f11 f12
  generalize putH w1 w.heap.size pc (R 0) (R 1) (R 2) (R 3) (R 4) (R 5) (R 6) (R 7) a' n c' why ep home = u at *
  have HG := Lib.hid HY2
  clear HY2
  obtain ⟨c0, c1, c2, c3, c4, c5, c6, c7, c8, c9, c10, c11, c12⟩ := hart_cells HG.out.X
  obtain ⟨m0, m1, m2, m3, m4, m5, m6, m7, m8, m9⟩ := box_cells HG.out.Y
  have q0 := HG.out.X.lt
  have q1 := HG.out.Y.lt
  go_upto_region 3 with fail
  have SX : RS w.heap.size pc (R 0) (R 1) (R 2) (R 3) (R 4) (R 5) (R 6) (R 7) a' n c' why ep home M.gt gr M.pg.length C gw M.ws.length d u.drew := HG.out.drew.rs
  have HG3 := Lib.hid HG.out.drew
  refine wp_region_held_drew (S := fun u => RS w.heap.size pc (R 0) (R 1) (R 2) (R 3) (R 4) (R 5) (R 6) (R 7) a' n c' why ep home M.gt gr M.pg.length C gw M.ws.length d u) (by kernel_rfl) SX (fun hHeld => ?_)
  refine wpAnyH_take (i := 0) (v := ?vv1) rfl (by kernel_rfl) (by kernel_rfl) (by kernel_rfl) (fun _ _ _ h => h) (Or.inl ⟨by rfl, ?hy1⟩) (by assumption) ?rest1
  case hy1 =>
    intro u hSu
    obtain ⟨⟨s0, s1, s2, s3, s4, s5, s6, s7, s8, s9, s10, s11, s12⟩, s13, s14, s15, s16, s17, s18, s19, s20, s21, s22⟩ := hSu
    go_simp
    try with_reducible rfl
  try simp only [Act.put, List.getElem_toArray, List.getElem_cons_succ, List.getElem_cons_zero, List.setIfInBounds_toArray, List.set_cons_zero, List.set_cons_succ]
  refine wpAnyH_take (i := 1) (v := ?vv2) rfl (by kernel_rfl) (by kernel_rfl) (by kernel_rfl) (fun _ _ _ h => h) (Or.inl ⟨by rfl, ?hy2⟩) (by assumption) ?rest2
  case hy2 =>
    intro u hSu
    obtain ⟨⟨s0, s1, s2, s3, s4, s5, s6, s7, s8, s9, s10, s11, s12⟩, s13, s14, s15, s16, s17, s18, s19, s20, s21, s22⟩ := hSu
    go_simp
    try with_reducible rfl
  try simp only [Act.put, List.getElem_toArray, List.getElem_cons_succ, List.getElem_cons_zero, List.setIfInBounds_toArray, List.set_cons_zero, List.set_cons_succ]
  refine wpAnyH_take (i := 2) (v := ?vv3) rfl (by kernel_rfl) (by kernel_rfl) (by kernel_rfl) (fun _ _ _ h => h) (Or.inl ⟨by rfl, ?hy3⟩) (by assumption) ?rest3
  case hy3 =>
    intro u hSu
    obtain ⟨⟨s0, s1, s2, s3, s4, s5, s6, s7, s8, s9, s10, s11, s12⟩, s13, s14, s15, s16, s17, s18, s19, s20, s21, s22⟩ := hSu
    go_simp
    try with_reducible rfl
  try simp only [Act.put, List.getElem_toArray, List.getElem_cons_succ, List.getElem_cons_zero, List.setIfInBounds_toArray, List.set_cons_zero, List.set_cons_succ]
  obtain ⟨z1, x1, s1⟩ := HG3.out.E.h
  have EE1 := Lib.hid HG3.out.E
  refine wpAnyH_ready (rs := [3]) (by kernel_rfl) (by simp) ?_
  refine AllReadyH.cons rfl (fun K hK => ?_) AllReadyH.nil
  refine ws_H rfl rfl x1 s1 rfl rfl ?_
  refine hK.out _ _ ?hS4 (fun hHeld => ?rst4)
  case hS4 => exact rs_H SX ..
  clear hK K
  try simp only [Act.put, List.getElem_toArray, List.getElem_cons_succ, List.getElem_cons_zero, List.setIfInBounds_toArray, List.set_cons_zero, List.set_cons_succ]
  obtain ⟨⟨z2, x2, s2⟩, z3, x3, s3⟩ := EE1.out.m1 pc (R 0) (R 1) (R 2) (R 3) (R 4) (R 5) (R 6) (R 7) a' n c' why ep home
  have T1 := rs_H SX pc (R 0) (R 1) (R 2) (R 3) (R 4) (R 5) (R 6) (R 7) a' n c' why ep home
  generalize hW1 : putH u.drew (w.heap.size + 1 + 1) pc (R 0) (R 1) (R 2) (R 3) (R 4) (R 5) (R 6) (R 7) a' n c' why ep home = V1 at *
  have hV1 := Lib.hid hW1
  clear hW1
  refine wpAnyH_ready (rs := [4]) (by kernel_rfl) (by simp) ?_
  refine AllReadyH.cons rfl (fun K hK => ?_) AllReadyH.nil
  refine ws_B (G := M.gt) (gr := gr) (N := M.pg.length) (C := C) (gw := gw) (m := M.ws.length) (d := d) rfl rfl x2 s2 rfl rfl ?_
  refine hK.out _ _ ?hS5 (fun hHeld => ?rst5)
  case hS5 => exact rs_B T1 ..
  clear hK K
  try simp only [Act.put, List.getElem_toArray, List.getElem_cons_succ, List.getElem_cons_zero, List.setIfInBounds_toArray, List.set_cons_zero, List.set_cons_succ]
  have T2 := rs_B T1 M.gt gr M.pg.length C gw M.ws.length d
  replace x3 := x3.fr (putB_fr V1 (w.heap.size + 1 + 1 + 1) M.gt gr M.pg.length C gw M.ws.length d) (by omega)
  generalize hW2 : putB V1 (w.heap.size + 1 + 1 + 1) M.gt gr M.pg.length C gw M.ws.length d = V2 at *
  have hV2 := Lib.hid hW2
  clear hW2
  refine wpAnyH_ready (rs := [5]) (by kernel_rfl) (by simp) ?_
  refine AllReadyH.cons rfl (fun K hK => ?_) AllReadyH.nil
  refine ws_M rfl rfl x3 s3 rfl rfl ?_
  refine hK.out _ _ ?hS6 (fun hHeld => ?rst6)
  case hS6 => exact rs_N T2 ..
  clear hK K
  try simp only [Act.put, List.getElem_toArray, List.getElem_cons_succ, List.getElem_cons_zero, List.setIfInBounds_toArray, List.set_cons_zero, List.set_cons_succ]
  generalize hW3 : putN V2 (w.heap.size + 1 + 1 + 1 + 1) false false 0 0 = V3 at *
  have hV3 := Lib.hid hW3
  clear hW3
  refine wpAnyH_done (by kernel_rfl) ?_ _
  repeat (first | (with_reducible refine q_te ?_) | (with_reducible refine q_tr ?_) | (with_reducible refine q_br ?_) | (with_reducible refine q_be ?_) | (with_reducible refine q_bn rfl ?_) | go_values | go_skip | go_guarded | go_step | go_upon | go_back | (go_ite <;> go_prune <;> (try go_simp)))
  have j3 := hV3.out
  subst j3
  have j2 := hV2.out
  subst j2
  have j1 := hV1.out
  subst j1
  obtain ⟨yy1, yy2, yy3⟩ := HG3.out.E.wholes pc (R 0) (R 1) (R 2) (R 3) (R 4) (R 5) (R 6) (R 7) a' n c' why ep home M.gt gr M.pg.length C gw M.ws.length d false false 0 0
  have Y1 := hart_cells yy1
  have Y2 := box_cells yy2
  have Y3 := note_cells yy3
  refine bodyPost_ret (v := .tuple #[hV pc R a' n c' why ep home, rV M.gt gr M.pg.length C gw M.ws.length d, nV false false 0 0]) (by simp [results, Tryz.results9, go_sem, Y1, Y2, Y3]) rfl ?_
  exact HG3.out.fin (r := ⟨⟨pc, R, l, why, ep, home⟩, M, false, false, 0, 0⟩) rfl HG3.out.rm (Or.inl rfl)
theorem rstep_none {G : Nat → Prop} {w : World} {gr C gw d : Nat} {M : Mm} {a : Option Addr} {n c : Nat} {pc : Int} {R : Nat → Int} {l : List Int} {ep home : Int} (rm : Rm w gr C gw d M) (hr : Reads G w (.slice a n c) (wcs l)) (hn : n * 4 ≤ 140737488355328) (xe fw fo : Int) (CF : ∀ u, Below w.heap.size w u → Calls Tryz.prog 32 #[rV M.gt gr M.pg.length C gw M.ws.length d, .int .u32 pc, .int .u64 ep] u fun e w' => e = .returned (.tuple #[.int .u32 fw, .int .u16 fo, .bool false]) ∧ Below u.heap.size u w') : Calls Tryz.prog 9 #[hV pc R a n c 0 ep home, rV M.gt gr M.pg.length C gw M.ws.length d, .int .u64 xe] w (RDid (stillR ⟨pc, R, l, 0, ep, home⟩ M 2) gr C gw w) := by
  have hnmx := hr.len
  have CP := Lib.hid (refCopy_any (((((hr.alloc (.cells (hCs pc R a n c 0 ep home) 30)).alloc (.cells (rCs M.gt gr M.pg.length C gw M.ws.length d) 36)).alloc (.cells hZ 30)).alloc (.cells zCs 36)).alloc (.cells nZ 44)) hn pc R 0 ep home)
  have EN := Lib.hid (fun (w1 : World) (a' : Option Addr) (c' : Nat) (s : Sk w1 (w5 w (hCs pc R a n c 0 ep home) (rCs M.gt gr M.pg.length C gw M.ws.length d)).heap.size a' n c' l) (b : Below (w5 w (hCs pc R a n c 0 ep home) (rCs M.gt gr M.pg.length C gw M.ws.length d)).heap.size (w5 w (hCs pc R a n c 0 ep home) (rCs M.gt gr M.pg.length C gw M.ws.length d)) w1) => rstep_rg (h := ⟨pc, R, l, 0, ep, home⟩) rm hr hn s b)
  have BX := Lib.hid (w5_facts w (hCs pc R a n c 0 ep home) (rCs M.gt gr M.pg.length C gw M.ws.length d)).2.2.1
  simp only at EN
  have CFH := Lib.hid CF
  have CS := Lib.hid (fun u a' c' => refStill_any pc R a' n c' 0 ep home 2 u)
  clear CF rm hr hn hnmx
  go_enter Tryz.func9, Tryz.ntmps9
  go_upto_region 2 with (go_at_call 7; (with_reducible refine CP.out.mono ?_); rintro e w1 ⟨a', c', rfl, sk, hb⟩; have HY := Lib.hid (EN.out _ _ _ sk hb); have B1' := BX.out.belowS hb; have q1 := B1'.lt; obtain ⟨⟨v0, v1, v2, v3, v4, v5, v6, v7, v8, v9, v10, v11, v12, e0, e1, e2, e3, e4, e5, e6, e7, e8, e9, e10, e11, e12⟩, f0, f1, f2, f3, f4, f5, f6, f7, f8, f9, f10, f11, f12⟩ := hart_open B1' rfl; clear sk hb B1')
  rw [putH_eq]
  have HY2 := HY.out
  clear HY EN CP BX q1 e0 e1 e2 e3 e4 e5 e6 e7 e8 e9 e10 e11 e12 f0 f1 f2 f3 f4 f5 f6 f7 f8 f9 f10 f11 f12
  generalize putH w1 w.heap.size pc (R 0) (R 1) (R 2) (R 3) (R 4) (R 5) (R 6) (R 7) a' n c' 0 ep home = u at *
  have HG := Lib.hid HY2
  clear HY2
  obtain ⟨c0, c1, c2, c3, c4, c5, c6, c7, c8, c9, c10, c11, c12⟩ := hart_cells HG.out.X
  obtain ⟨m0, m1, m2, m3, m4, m5, m6, m7, m8, m9⟩ := box_cells HG.out.Y
  have q0 := HG.out.X.lt
  have q1 := HG.out.Y.lt
  go_upto_region 6 with (first | (go_at_call 32; (with_reducible refine (CFH.out _ HG.out.B).mono ?_); rintro e w2 ⟨rfl, hb2⟩; have HB2 := Lib.hid hb2; clear hb2))
  have HG2 := Lib.hid (HG.out.belowS HB2.out)
  clear c0 c1 c2 c3 c4 c5 c6 c7 c8 c9 c10 c11 c12 m0 m1 m2 m3 m4 m5 m6 m7 m8 m9 q0 q1
  have SX : RS w.heap.size pc (R 0) (R 1) (R 2) (R 3) (R 4) (R 5) (R 6) (R 7) a' n c' 0 ep home M.gt gr M.pg.length C gw M.ws.length d w2.drew := HG2.out.drew.rs
  refine wp_region_held_drew (S := fun u => RS w.heap.size pc (R 0) (R 1) (R 2) (R 3) (R 4) (R 5) (R 6) (R 7) a' n c' 0 ep home M.gt gr M.pg.length C gw M.ws.length d u) (by kernel_rfl) SX (fun hHeld => ?_)
  refine wpAnyH_take (i := 0) (v := ?vv1) rfl (by kernel_rfl) (by kernel_rfl) (by kernel_rfl) (fun _ _ _ h => h) (Or.inl ⟨by rfl, ?hy1⟩) (by assumption) ?rest1
  case hy1 =>
    intro u hSu
    obtain ⟨⟨s0, s1, s2, s3, s4, s5, s6, s7, s8, s9, s10, s11, s12⟩, s13, s14, s15, s16, s17, s18, s19, s20, s21, s22⟩ := hSu
    go_simp
    try with_reducible rfl
  try simp only [Act.put, List.getElem_toArray, List.getElem_cons_succ, List.getElem_cons_zero, List.setIfInBounds_toArray, List.set_cons_zero, List.set_cons_succ]
  refine wpAnyH_take (i := 2) (v := ?vv2) rfl (by kernel_rfl) (by kernel_rfl) (by kernel_rfl) (fun _ _ _ h => h) (Or.inl ⟨by rfl, ?hy2⟩) (by assumption) ?rest2
  case hy2 =>
    intro u hSu
    obtain ⟨⟨s0, s1, s2, s3, s4, s5, s6, s7, s8, s9, s10, s11, s12⟩, s13, s14, s15, s16, s17, s18, s19, s20, s21, s22⟩ := hSu
    go_simp
    try with_reducible rfl
  try simp only [Act.put, List.getElem_toArray, List.getElem_cons_succ, List.getElem_cons_zero, List.setIfInBounds_toArray, List.set_cons_zero, List.set_cons_succ]
  refine wpAnyH_take (i := 3) (v := ?vv3) rfl (by kernel_rfl) (by kernel_rfl) (by kernel_rfl) (fun _ _ _ h => h) (Or.inl ⟨by rfl, ?hy3⟩) (by assumption) ?rest3
  case hy3 =>
    intro u hSu
    obtain ⟨⟨s0, s1, s2, s3, s4, s5, s6, s7, s8, s9, s10, s11, s12⟩, s13, s14, s15, s16, s17, s18, s19, s20, s21, s22⟩ := hSu
    go_simp
    try with_reducible rfl
  try simp only [Act.put, List.getElem_toArray, List.getElem_cons_succ, List.getElem_cons_zero, List.setIfInBounds_toArray, List.set_cons_zero, List.set_cons_succ]
  refine wpAnyH_ready (rs := [1]) (by kernel_rfl) (by simp) ?_
  refine AllReadyH.cons rfl (fun K hK => ?_) AllReadyH.nil
  (go_simp; go_at_call 33; (with_reducible refine (CS.out _ _ _).mono ?_); rintro e w4 ⟨rfl, hb4⟩; have HG3 := Lib.hid (HG2.out.drew.belowS hb4); have S3 := HG3.out.rs)
  refine hK.out _ _ ?hS4 (fun hHeld => ?rst4)
  case hS4 => exact S3
  clear hK K
  try simp only [Act.put, List.getElem_toArray, List.getElem_cons_succ, List.getElem_cons_zero, List.setIfInBounds_toArray, List.set_cons_zero, List.set_cons_succ]
  obtain ⟨z1, x1, s1⟩ := HG3.out.E.h
  have EE1 := Lib.hid HG3.out.E
  refine wpAnyH_ready (rs := [4]) (by kernel_rfl) (by simp) ?_
  refine AllReadyH.cons rfl (fun K hK => ?_) AllReadyH.nil
  refine ws_H rfl rfl x1 s1 rfl rfl ?_
  refine hK.out _ _ ?hS5 (fun hHeld => ?rst5)
  case hS5 => exact rs_H S3 ..
  clear hK K
  try simp only [Act.put, List.getElem_toArray, List.getElem_cons_succ, List.getElem_cons_zero, List.setIfInBounds_toArray, List.set_cons_zero, List.set_cons_succ]
  obtain ⟨⟨z2, x2, s2⟩, z3, x3, s3⟩ := EE1.out.m1 pc (R 0) (R 1) (R 2) (R 3) (R 4) (R 5) (R 6) (R 7) a' n c' 2 ep home
  have T1 := rs_H S3 pc (R 0) (R 1) (R 2) (R 3) (R 4) (R 5) (R 6) (R 7) a' n c' 2 ep home
  generalize hW1 : putH w4 (w.heap.size + 1 + 1) pc (R 0) (R 1) (R 2) (R 3) (R 4) (R 5) (R 6) (R 7) a' n c' 2 ep home = V1 at *
  have hV1 := Lib.hid hW1
  clear hW1
  refine wpAnyH_ready (rs := [5]) (by kernel_rfl) (by simp) ?_
  refine AllReadyH.cons rfl (fun K hK => ?_) AllReadyH.nil
  refine ws_B (G := M.gt) (gr := gr) (N := M.pg.length) (C := C) (gw := gw) (m := M.ws.length) (d := d) rfl rfl x2 s2 rfl rfl ?_
  refine hK.out _ _ ?hS6 (fun hHeld => ?rst6)
  case hS6 => exact rs_B T1 ..
  clear hK K
  try simp only [Act.put, List.getElem_toArray, List.getElem_cons_succ, List.getElem_cons_zero, List.setIfInBounds_toArray, List.set_cons_zero, List.set_cons_succ]
  have T2 := rs_B T1 M.gt gr M.pg.length C gw M.ws.length d
  replace x3 := x3.fr (putB_fr V1 (w.heap.size + 1 + 1 + 1) M.gt gr M.pg.length C gw M.ws.length d) (by omega)
  generalize hW2 : putB V1 (w.heap.size + 1 + 1 + 1) M.gt gr M.pg.length C gw M.ws.length d = V2 at *
  have hV2 := Lib.hid hW2
  clear hW2
  refine wpAnyH_ready (rs := [6]) (by kernel_rfl) (by simp) ?_
  refine AllReadyH.cons rfl (fun K hK => ?_) AllReadyH.nil
  refine ws_M rfl rfl x3 s3 rfl rfl ?_
  refine hK.out _ _ ?hS7 (fun hHeld => ?rst7)
  case hS7 => exact rs_N T2 ..
  clear hK K
  try simp only [Act.put, List.getElem_toArray, List.getElem_cons_succ, List.getElem_cons_zero, List.setIfInBounds_toArray, List.set_cons_zero, List.set_cons_succ]
  generalize hW3 : putN V2 (w.heap.size + 1 + 1 + 1 + 1) false false 0 0 = V3 at *
  have hV3 := Lib.hid hW3
  clear hW3
  refine wpAnyH_done (by kernel_rfl) ?_ _
  repeat (first | (with_reducible refine q_te ?_) | (with_reducible refine q_tr ?_) | (with_reducible refine q_br ?_) | (with_reducible refine q_be ?_) | (with_reducible refine q_bn rfl ?_) | go_values | go_skip | go_guarded | go_step | go_upon | go_back | (go_ite <;> go_prune <;> (try go_simp)))
  have j3 := hV3.out
  subst j3
  have j2 := hV2.out
  subst j2
  have j1 := hV1.out
  subst j1
  obtain ⟨yy1, yy2, yy3⟩ := HG3.out.E.wholes pc (R 0) (R 1) (R 2) (R 3) (R 4) (R 5) (R 6) (R 7) a' n c' 2 ep home M.gt gr M.pg.length C gw M.ws.length d false false 0 0
  have Y1 := hart_cells yy1
  have Y2 := box_cells yy2
  have Y3 := note_cells yy3
  refine bodyPost_ret (v := .tuple #[hV pc R a' n c' 2 ep home, rV M.gt gr M.pg.length C gw M.ws.length d, nV false false 0 0]) (by simp [results, Tryz.results9, go_sem, Y1, Y2, Y3]) rfl ?_
  exact HG3.out.fin (r := stillR ⟨pc, R, l, 0, ep, home⟩ M 2) rfl HG3.out.rm (Or.inl rfl)
theorem rstep_word {G : Nat → Prop} {w : World} {gr C gw d : Nat} {M : Mm} {a : Option Addr} {n c : Nat} {pc : Int} {R : Nat → Int} {l : List Int} {ep home : Int} (rm : Rm w gr C gw d M) (hr : Reads G w (.slice a n c) (wcs l)) (hn : n * 4 ≤ 140737488355328) (xe fw fo : Int) (CF : ∀ u, Below w.heap.size w u → Calls Tryz.prog 32 #[rV M.gt gr M.pg.length C gw M.ws.length d, .int .u32 pc, .int .u64 ep] u fun e w' => e = .returned (.tuple #[.int .u32 fw, .int .u16 fo, .bool true]) ∧ Below u.heap.size u w') (CD : ∀ u, Calls Tryz.prog 34 #[.int .u32 fw] u fun e w' => e = .returned (.tuple #[IF.insV 0 0 0 0 0, .int .i64 10]) ∧ Below u.heap.size u w') : Calls Tryz.prog 9 #[hV pc R a n c 0 ep home, rV M.gt gr M.pg.length C gw M.ws.length d, .int .u64 xe] w (RDid (stillR ⟨pc, R, l, 0, ep, home⟩ M 3) gr C gw w) := by
  have hnmx := hr.len
  have CP := Lib.hid (refCopy_any (((((hr.alloc (.cells (hCs pc R a n c 0 ep home) 30)).alloc (.cells (rCs M.gt gr M.pg.length C gw M.ws.length d) 36)).alloc (.cells hZ 30)).alloc (.cells zCs 36)).alloc (.cells nZ 44)) hn pc R 0 ep home)
  have EN := Lib.hid (fun (w1 : World) (a' : Option Addr) (c' : Nat) (s : Sk w1 (w5 w (hCs pc R a n c 0 ep home) (rCs M.gt gr M.pg.length C gw M.ws.length d)).heap.size a' n c' l) (b : Below (w5 w (hCs pc R a n c 0 ep home) (rCs M.gt gr M.pg.length C gw M.ws.length d)).heap.size (w5 w (hCs pc R a n c 0 ep home) (rCs M.gt gr M.pg.length C gw M.ws.length d)) w1) => rstep_rg (h := ⟨pc, R, l, 0, ep, home⟩) rm hr hn s b)
  have BX := Lib.hid (w5_facts w (hCs pc R a n c 0 ep home) (rCs M.gt gr M.pg.length C gw M.ws.length d)).2.2.1
  simp only at EN
  have CFH := Lib.hid CF
  have CS := Lib.hid (fun u a' c' => refStill_any pc R a' n c' 0 ep home 3 u)
  have CDH := Lib.hid CD
  clear CF rm hr hn hnmx CD
  go_enter Tryz.func9, Tryz.ntmps9
  go_upto_region 2 with (go_at_call 7; (with_reducible refine CP.out.mono ?_); rintro e w1 ⟨a', c', rfl, sk, hb⟩; have HY := Lib.hid (EN.out _ _ _ sk hb); have B1' := BX.out.belowS hb; have q1 := B1'.lt; obtain ⟨⟨v0, v1, v2, v3, v4, v5, v6, v7, v8, v9, v10, v11, v12, e0, e1, e2, e3, e4, e5, e6, e7, e8, e9, e10, e11, e12⟩, f0, f1, f2, f3, f4, f5, f6, f7, f8, f9, f10, f11, f12⟩ := hart_open B1' rfl; clear sk hb B1')
  rw [putH_eq]
  have HY2 := HY.out
  clear HY EN CP BX q1 e0 e1 e2 e3 e4 e5 e6 e7 e8 e9 e10 e11 e12 f0 f1 f2 f3 f4 f5 f6 f7 f8 f9 f10 f11 f12
  generalize putH w1 w.heap.size pc (R 0) (R 1) (R 2) (R 3) (R 4) (R 5) (R 6) (R 7) a' n c' 0 ep home = u at *
  have HG := Lib.hid HY2
  clear HY2
  obtain ⟨c0, c1, c2, c3, c4, c5, c6, c7, c8, c9, c10, c11, c12⟩ := hart_cells HG.out.X
  obtain ⟨m0, m1, m2, m3, m4, m5, m6, m7, m8, m9⟩ := box_cells HG.out.Y
  have q0 := HG.out.X.lt
  have q1 := HG.out.Y.lt
  go_upto_region 9 with (first | (go_at_call 32; (with_reducible refine (CFH.out _ HG.out.B).mono ?_); rintro e w2 ⟨rfl, hb2⟩; have HB2 := Lib.hid hb2; clear hb2) | (go_at_call 34; (with_reducible refine (CDH.out _).mono ?_); rintro e w3 ⟨rfl, hb3⟩; have HB3 := Lib.hid (below_of HB2.out hb3); clear hb3))
  have HG2 := Lib.hid (HG.out.belowS (HB3.out.alloc HB3.out.size (.cells #[.int .u8 0, .int .u8 0, .int .u8 0, .int .u8 0, .int .i32 0] 76)))
  generalize w3.alloc (.cells #[.int .u8 0, .int .u8 0, .int .u8 0, .int .u8 0, .int .i32 0] 76) = W at *
  clear c0 c1 c2 c3 c4 c5 c6 c7 c8 c9 c10 c11 c12 m0 m1 m2 m3 m4 m5 m6 m7 m8 m9 q0 q1
  have SX : RS w.heap.size pc (R 0) (R 1) (R 2) (R 3) (R 4) (R 5) (R 6) (R 7) a' n c' 0 ep home M.gt gr M.pg.length C gw M.ws.length d W.drew := HG2.out.drew.rs
  refine wp_region_held_drew (S := fun u => RS w.heap.size pc (R 0) (R 1) (R 2) (R 3) (R 4) (R 5) (R 6) (R 7) a' n c' 0 ep home M.gt gr M.pg.length C gw M.ws.length d u) (by kernel_rfl) SX (fun hHeld => ?_)
  refine wpAnyH_take (i := 0) (v := ?vv1) rfl (by kernel_rfl) (by kernel_rfl) (by kernel_rfl) (fun _ _ _ h => h) (Or.inl ⟨by rfl, ?hy1⟩) (by assumption) ?rest1
  case hy1 =>
    intro u hSu
    obtain ⟨⟨s0, s1, s2, s3, s4, s5, s6, s7, s8, s9, s10, s11, s12⟩, s13, s14, s15, s16, s17, s18, s19, s20, s21, s22⟩ := hSu
    go_simp
    try with_reducible rfl
  try simp only [Act.put, List.getElem_toArray, List.getElem_cons_succ, List.getElem_cons_zero, List.setIfInBounds_toArray, List.set_cons_zero, List.set_cons_succ]
  refine wpAnyH_take (i := 2) (v := ?vv2) rfl (by kernel_rfl) (by kernel_rfl) (by kernel_rfl) (fun _ _ _ h => h) (Or.inl ⟨by rfl, ?hy2⟩) (by assumption) ?rest2
  case hy2 =>
    intro u hSu
    obtain ⟨⟨s0, s1, s2, s3, s4, s5, s6, s7, s8, s9, s10, s11, s12⟩, s13, s14, s15, s16, s17, s18, s19, s20, s21, s22⟩ := hSu
    go_simp
    try with_reducible rfl
  try simp only [Act.put, List.getElem_toArray, List.getElem_cons_succ, List.getElem_cons_zero, List.setIfInBounds_toArray, List.set_cons_zero, List.set_cons_succ]
  refine wpAnyH_take (i := 3) (v := ?vv3) rfl (by kernel_rfl) (by kernel_rfl) (by kernel_rfl) (fun _ _ _ h => h) (Or.inl ⟨by rfl, ?hy3⟩) (by assumption) ?rest3
  case hy3 =>
    intro u hSu
    obtain ⟨⟨s0, s1, s2, s3, s4, s5, s6, s7, s8, s9, s10, s11, s12⟩, s13, s14, s15, s16, s17, s18, s19, s20, s21, s22⟩ := hSu
    go_simp
    try with_reducible rfl
  try simp only [Act.put, List.getElem_toArray, List.getElem_cons_succ, List.getElem_cons_zero, List.setIfInBounds_toArray, List.set_cons_zero, List.set_cons_succ]
  refine wpAnyH_ready (rs := [1]) (by kernel_rfl) (by simp) ?_
  refine AllReadyH.cons rfl (fun K hK => ?_) AllReadyH.nil
  (go_simp; go_at_call 33; (with_reducible refine (CS.out _ _ _).mono ?_); rintro e w4 ⟨rfl, hb4⟩; have HG3 := Lib.hid (HG2.out.drew.belowS hb4); have S3 := HG3.out.rs)
  refine hK.out _ _ ?hS4 (fun hHeld => ?rst4)
  case hS4 => exact S3
  clear hK K
  try simp only [Act.put, List.getElem_toArray, List.getElem_cons_succ, List.getElem_cons_zero, List.setIfInBounds_toArray, List.set_cons_zero, List.set_cons_succ]
  obtain ⟨z1, x1, s1⟩ := HG3.out.E.h
  have EE1 := Lib.hid HG3.out.E
  refine wpAnyH_ready (rs := [4]) (by kernel_rfl) (by simp) ?_
  refine AllReadyH.cons rfl (fun K hK => ?_) AllReadyH.nil
  refine ws_H rfl rfl x1 s1 rfl rfl ?_
  refine hK.out _ _ ?hS5 (fun hHeld => ?rst5)
  case hS5 => exact rs_H S3 ..
  clear hK K
  try simp only [Act.put, List.getElem_toArray, List.getElem_cons_succ, List.getElem_cons_zero, List.setIfInBounds_toArray, List.set_cons_zero, List.set_cons_succ]
  obtain ⟨⟨z2, x2, s2⟩, z3, x3, s3⟩ := EE1.out.m1 pc (R 0) (R 1) (R 2) (R 3) (R 4) (R 5) (R 6) (R 7) a' n c' 3 ep home
  have T1 := rs_H S3 pc (R 0) (R 1) (R 2) (R 3) (R 4) (R 5) (R 6) (R 7) a' n c' 3 ep home
  generalize hW1 : putH w4 (w.heap.size + 1 + 1) pc (R 0) (R 1) (R 2) (R 3) (R 4) (R 5) (R 6) (R 7) a' n c' 3 ep home = V1 at *
  have hV1 := Lib.hid hW1
  clear hW1
  refine wpAnyH_ready (rs := [5]) (by kernel_rfl) (by simp) ?_
  refine AllReadyH.cons rfl (fun K hK => ?_) AllReadyH.nil
  refine ws_B (G := M.gt) (gr := gr) (N := M.pg.length) (C := C) (gw := gw) (m := M.ws.length) (d := d) rfl rfl x2 s2 rfl rfl ?_
  refine hK.out _ _ ?hS6 (fun hHeld => ?rst6)
  case hS6 => exact rs_B T1 ..
  clear hK K
  try simp only [Act.put, List.getElem_toArray, List.getElem_cons_succ, List.getElem_cons_zero, List.setIfInBounds_toArray, List.set_cons_zero, List.set_cons_succ]
  have T2 := rs_B T1 M.gt gr M.pg.length C gw M.ws.length d
  replace x3 := x3.fr (putB_fr V1 (w.heap.size + 1 + 1 + 1) M.gt gr M.pg.length C gw M.ws.length d) (by omega)
  generalize hW2 : putB V1 (w.heap.size + 1 + 1 + 1) M.gt gr M.pg.length C gw M.ws.length d = V2 at *
  have hV2 := Lib.hid hW2
  clear hW2
  refine wpAnyH_ready (rs := [6]) (by kernel_rfl) (by simp) ?_
  refine AllReadyH.cons rfl (fun K hK => ?_) AllReadyH.nil
  refine ws_M rfl rfl x3 s3 rfl rfl ?_
  refine hK.out _ _ ?hS7 (fun hHeld => ?rst7)
  case hS7 => exact rs_N T2 ..
  clear hK K
  try simp only [Act.put, List.getElem_toArray, List.getElem_cons_succ, List.getElem_cons_zero, List.setIfInBounds_toArray, List.set_cons_zero, List.set_cons_succ]
  generalize hW3 : putN V2 (w.heap.size + 1 + 1 + 1 + 1) false false 0 0 = V3 at *
  have hV3 := Lib.hid hW3
  clear hW3
  refine wpAnyH_done (by kernel_rfl) ?_ _
  repeat (first | (with_reducible refine q_te ?_) | (with_reducible refine q_tr ?_) | (with_reducible refine q_br ?_) | (with_reducible refine q_be ?_) | (with_reducible refine q_bn rfl ?_) | go_values | go_skip | go_guarded | go_step | go_upon | go_back | (go_ite <;> go_prune <;> (try go_simp)))
  have j3 := hV3.out
  subst j3
  have j2 := hV2.out
  subst j2
  have j1 := hV1.out
  subst j1
  obtain ⟨yy1, yy2, yy3⟩ := HG3.out.E.wholes pc (R 0) (R 1) (R 2) (R 3) (R 4) (R 5) (R 6) (R 7) a' n c' 3 ep home M.gt gr M.pg.length C gw M.ws.length d false false 0 0
  have Y1 := hart_cells yy1
  have Y2 := box_cells yy2
  have Y3 := note_cells yy3
  refine bodyPost_ret (v := .tuple #[hV pc R a' n c' 3 ep home, rV M.gt gr M.pg.length C gw M.ws.length d, nV false false 0 0]) (by simp [results, Tryz.results9, go_sem, Y1, Y2, Y3]) rfl ?_
  exact HG3.out.fin (r := stillR ⟨pc, R, l, 0, ep, home⟩ M 3) rfl HG3.out.rm (Or.inl rfl)
end Go.Proofs.YtihcellcdkhadaaGreat.HF
