/-
  The reference's step: operations. Nothing here is a statement of the seed.
-/
import Derived.Test.YtihcellcdkhadaaGreatHartRP
set_option linter.unusedSimpArgs false
set_option linter.unusedVariables false
namespace Go.Proofs.YtihcellcdkhadaaGreat.HF
open Go.RowKit PM PR PF MM MR MF HM HR
open IM
set_option maxHeartbeats 16000000
set_option maxRecDepth 10000
theorem rop_0 {G : Nat → Prop} {w : World} {gr C gw d : Nat} {M : Mm} {a : Option Addr} {n c : Nat} {pc : Int} {R : Nat → Int} {l : List Int} {ep home : Int} (rm : Rm w gr C gw d M) (hr : Reads G w (.slice a n c) (wcs l)) (hn : n * 4 ≤ 140737488355328) (xe fw fo : Int) (dd x y m : Int) (hd : 0 ≤ dd ∧ dd ≤ 7) (hx : 0 ≤ x ∧ x ≤ 7) (hy : 0 ≤ y ∧ y ≤ 7) (hm : -1048576 ≤ m ∧ m ≤ 1048575) (CF : ∀ u, Below w.heap.size w u → Calls Tryz.prog 32 #[rV M.gt gr M.pg.length C gw M.ws.length d, .int .u32 pc, .int .u64 ep] u fun e w' => e = .returned (.tuple #[.int .u32 fw, .int .u16 fo, .bool true]) ∧ Below u.heap.size u w') (CD : ∀ u, Calls Tryz.prog 34 #[.int .u32 fw] u fun e w' => e = .returned (.tuple #[.agg #[.int .u8 0, .int .u8 dd, .int .u8 x, .int .u8 y, .int .i32 m], .int .i64 0]) ∧ Below u.heap.size u w') (tg : Int) (tb : Bool) (CT : ∀ u, Calls Tryz.prog 36 #[.int .u32 pc, .agg #[.int .u8 0, .int .u8 dd, .int .u8 x, .int .u8 y, .int .i32 m]] u fun e w' => e = .returned (.tuple #[.int .u32 tg, .bool tb]) ∧ Below u.heap.size u w') : Calls Tryz.prog 9 #[hV pc R a n c 0 ep home, rV M.gt gr M.pg.length C gw M.ws.length d, .int .u64 xe] w (RDid (stillR ⟨pc, R, l, 0, ep, home⟩ M 1) gr C gw w) := by
  have hnmx := hr.len
  have CP := Lib.hid (refCopy_any (((((hr.alloc (.cells (hCs pc R a n c 0 ep home) 30)).alloc (.cells (rCs M.gt gr M.pg.length C gw M.ws.length d) 36)).alloc (.cells hZ 30)).alloc (.cells zCs 36)).alloc (.cells nZ 44)) hn pc R 0 ep home)
  have EN := Lib.hid (fun (w1 : World) (a' : Option Addr) (c' : Nat) (s : Sk w1 (w5 w (hCs pc R a n c 0 ep home) (rCs M.gt gr M.pg.length C gw M.ws.length d)).heap.size a' n c' l) (b : Below (w5 w (hCs pc R a n c 0 ep home) (rCs M.gt gr M.pg.length C gw M.ws.length d)).heap.size (w5 w (hCs pc R a n c 0 ep home) (rCs M.gt gr M.pg.length C gw M.ws.length d)) w1) => rstep_rg (h := ⟨pc, R, l, 0, ep, home⟩) rm hr hn s b)
  have BX := Lib.hid (w5_facts w (hCs pc R a n c 0 ep home) (rCs M.gt gr M.pg.length C gw M.ws.length d)).2.2.1
  simp only at EN
  have CFH := Lib.hid CF
  have CS := Lib.hid (fun u a' c' => refStill_any pc R a' n c' 0 ep home 1 u)
  have CDH := Lib.hid CD
  have CTH := Lib.hid CT
  have CX := Lib.hid (fun u a' c' => refR_any pc R a' n c' 0 ep home x hx u)
  have CD0 := Lib.hid (fun u a' c' => refR_any pc R a' n c' 0 ep home dd hd u)
  clear CF CD CT rm hr hn hnmx
  generalize hA1 : getR R dd = Dv at *
  generalize hA2 : getR R x = Xv at *
  clear hA1 hA2
  obtain ⟨hm0, hm1⟩ := hm
  go_enter Tryz.func9, Tryz.ntmps9
  go_upto_region 2 with (go_at_call 7; (with_reducible refine CP.out.mono ?_); rintro e w1 ⟨a', c', rfl, sk, hb⟩; have HY := Lib.hid (EN.out _ _ _ sk hb); have B1' := BX.out.belowS hb; have q1 := B1'.lt; obtain ⟨⟨v0, v1, v2, v3, v4, v5, v6, v7, v8, v9, v10, v11, v12, e0, e1, e2, e3, e4, e5, e6, e7, e8, e9, e10, e11, e12⟩, f0, f1, f2, f3, f4, f5, f6, f7, f8, f9, f10, f11, f12⟩ := hart_open B1' rfl; clear sk hb B1')
  rw [putH_eq]
  have HY2 := HY.out
  clear HY EN CP BX q1 e0 e1 e2 e3 e4 e5 e6 e7 e8 e9 e10 e11 e12 f0 f1 f2 f3 f4 f5 f6 f7 f8 f9 f10 f11 f12
  generalize putH w1 w.heap.size pc (R 0) (R 1) (R 2) (R 3) (R 4) (R 5) (R 6) (R 7) a' n c' 0 ep home = u at *
  have HG := Lib.hid HY2
  clear HY2
  obtain ⟨c0, c1, c2, c3, c4, c5, c6, c7, c8, c9, c10, c11, c12⟩ := hart_cells HG.out.X
  obtain ⟨m0, m1, m2, m3, m4, m5, m6, m7, m8, m9⟩ := box_cells HG.out.Y
  have q0 := HG.out.X.lt
  have q1 := HG.out.Y.lt
  go_upto_region 10 with (first | (go_at_call 32; (with_reducible refine (CFH.out _ HG.out.B).mono ?_); rintro e w2 ⟨rfl, hb2⟩; have HB2 := Lib.hid hb2; clear hb2) | (go_at_call 34; (with_reducible refine (CDH.out _).mono ?_); rintro e w3 ⟨rfl, hb3⟩; have HB3 := Lib.hid (below_of HB2.out hb3); clear hb3))
  have HG3 := Lib.hid (HG.out.belowS (HB3.out.alloc HB3.out.size (.cells #[.int .u8 0, .int .u8 dd, .int .u8 x, .int .u8 y, .int .i32 m] 76)))
  have I3 := ic_of (Whole.new w3 76 #[.int .u8 0, .int .u8 dd, .int .u8 x, .int .u8 y, .int .i32 m])
  have hbi : w.heap.size + 1 + 1 + 1 + 1 < w3.heap.size := Nat.lt_of_lt_of_le HG.out.lt HB3.out.size
  clear c0 c1 c2 c3 c4 c5 c6 c7 c8 c9 c10 c11 c12 m0 m1 m2 m3 m4 m5 m6 m7 m8 m9 q0 q1 HB2 HB3 HG
  generalize w3.alloc (.cells #[.int .u8 0, .int .u8 dd, .int .u8 x, .int .u8 y, .int .i32 m] 76) = W at *
  generalize w3.heap.size = bi at *
  have K0 : RA w.heap.size bi pc (R 0) (R 1) (R 2) (R 3) (R 4) (R 5) (R 6) (R 7) a' n c' 0 ep home M.gt gr M.pg.length C gw M.ws.length d 0 dd x y m W.drew := ra_end (Below.refl _ _).drew ⟨HG3.out.rs, I3⟩
  have hbr : Below W.heap.size W W.drew := (Below.refl _ _).drew
  clear I3
  go_region_held3 (fun u => RA w.heap.size bi pc (R 0) (R 1) (R 2) (R 3) (R 4) (R 5) (R 6) (R 7) a' n c' 0 ep home M.gt gr M.pg.length C gw M.ws.length d 0 dd x y m u)
    (first | with_reducible exact K0 | with_reducible exact K1 | with_reducible exact K2)
    (first | (go_at_call 35; (with_reducible refine (CX.out _ _ _).mono ?_); rintro e w4 ⟨rfl, hb4⟩; have hB4 := below_of hbr hb4; have K1 := ra_end hb4 K0) | (go_at_call 35; (with_reducible refine (CD0.out _ _ _).mono ?_); rintro e w5' ⟨rfl, hb5⟩; have hB5 := below_of hB4 hb5; have K2 := ra_end hb5 K1))
  rename_i hHeld
  clear hHeld
  rw [show IntKind.u32.wrap m = m % 4294967296 from IntKind.wrap_u32 m]
  have HG5 := Lib.hid (HG3.out.belowS hB5)
  have KK := Lib.hid K2
  clear K0 K1 hbr hb4 hb5 hB4 hB5 CX CD0 HG3
  obtain ⟨⟨⟨c0, c1, c2, c3, c4, c5, c6, c7, c8, c9, c10, c11, c12⟩, m0, m1, m2, m3, m4, m5, m6, m7, m8, m9⟩, i0, i1, i2, i3, i4⟩ := K2
  go_upto_region 14 with (first | (go_at_call 36; (with_reducible refine (CTH.out _).mono ?_); rintro e w6 ⟨rfl, hb6⟩; have HG6 := Lib.hid (HG5.out.belowS hb6); have K6 := Lib.hid (ra_end hb6 KK.out); clear hb6 HG5 KK; obtain ⟨⟨⟨c0, c1, c2, c3, c4, c5, c6, c7, c8, c9, c10, c11, c12⟩, m0, m1, m2, m3, m4, m5, m6, m7, m8, m9⟩, i0, i1, i2, i3, i4⟩ := K6.out))
  clear c0 c1 c2 c3 c4 c5 c6 c7 c8 c9 c10 c11 c12 m0 m1 m2 m3 m4 m5 m6 m7 m8 m9 i0 i1 i2 i3 i4
  have SX : RA w.heap.size bi pc (R 0) (R 1) (R 2) (R 3) (R 4) (R 5) (R 6) (R 7) a' n c' 0 ep home M.gt gr M.pg.length C gw M.ws.length d 0 dd x y m w6.drew := ra_end (Below.refl _ _).drew K6.out
  have HGd := Lib.hid HG6.out.drew
  refine wp_region_held_drew (S := fun u => RA w.heap.size bi pc (R 0) (R 1) (R 2) (R 3) (R 4) (R 5) (R 6) (R 7) a' n c' 0 ep home M.gt gr M.pg.length C gw M.ws.length d 0 dd x y m u) (by kernel_rfl) SX (fun hHeld => ?_)
  refine wpAnyH_take (i := 0) (v := ?vv1) rfl (by kernel_rfl) (by kernel_rfl) (by kernel_rfl) (fun _ _ _ h => h) (Or.inl ⟨by rfl, ?hy1⟩) (by assumption) ?rest1
  case hy1 =>
    intro u hSu
    obtain ⟨⟨⟨s0, s1, s2, s3, s4, s5, s6, s7, s8, s9, s10, s11, s12⟩, s13, s14, s15, s16, s17, s18, s19, s20, s21, s22⟩, s23, s24, s25, s26, s27⟩ := hSu
    go_simp
    try with_reducible rfl
  try simp only [Act.put, List.getElem_toArray, List.getElem_cons_succ, List.getElem_cons_zero, List.setIfInBounds_toArray, List.set_cons_zero, List.set_cons_succ]
  refine wpAnyH_take (i := 2) (v := ?vv2) rfl (by kernel_rfl) (by kernel_rfl) (by kernel_rfl) (fun _ _ _ h => h) (Or.inl ⟨by rfl, ?hy2⟩) (by assumption) ?rest2
  case hy2 =>
    intro u hSu
    obtain ⟨⟨⟨s0, s1, s2, s3, s4, s5, s6, s7, s8, s9, s10, s11, s12⟩, s13, s14, s15, s16, s17, s18, s19, s20, s21, s22⟩, s23, s24, s25, s26, s27⟩ := hSu
    go_simp
    try with_reducible rfl
  try simp only [Act.put, List.getElem_toArray, List.getElem_cons_succ, List.getElem_cons_zero, List.setIfInBounds_toArray, List.set_cons_zero, List.set_cons_succ]
  refine wpAnyH_take (i := 3) (v := ?vv3) rfl (by kernel_rfl) (by kernel_rfl) (by kernel_rfl) (fun _ _ _ h => h) (Or.inl ⟨by rfl, ?hy3⟩) (by assumption) ?rest3
  case hy3 =>
    intro u hSu
    obtain ⟨⟨⟨s0, s1, s2, s3, s4, s5, s6, s7, s8, s9, s10, s11, s12⟩, s13, s14, s15, s16, s17, s18, s19, s20, s21, s22⟩, s23, s24, s25, s26, s27⟩ := hSu
    go_simp
    try with_reducible rfl
  try simp only [Act.put, List.getElem_toArray, List.getElem_cons_succ, List.getElem_cons_zero, List.setIfInBounds_toArray, List.set_cons_zero, List.set_cons_succ]
  refine wpAnyH_ready (rs := [1]) (by kernel_rfl) (by simp) ?_
  refine AllReadyH.cons rfl (fun K hK => ?_) AllReadyH.nil
  (go_simp; go_at_call 33; (with_reducible refine (CS.out _ _ _).mono ?_); rintro e w7 ⟨rfl, hb7⟩; have HG7' := Lib.hid (HGd.out.belowS hb7); have S7 := ra_end hb7 SX)
  refine hK.out _ _ ?hS4 (fun hHeld => ?rst4)
  case hS4 => exact S7
  clear hK K
  try simp only [Act.put, List.getElem_toArray, List.getElem_cons_succ, List.getElem_cons_zero, List.setIfInBounds_toArray, List.set_cons_zero, List.set_cons_succ]
  obtain ⟨z1, x1, s1⟩ := HG7'.out.E.h
  have EE1 := Lib.hid HG7'.out.E
  refine wpAnyH_ready (rs := [4]) (by kernel_rfl) (by simp) ?_
  refine AllReadyH.cons rfl (fun K hK => ?_) AllReadyH.nil
  refine ws_H rfl rfl x1 s1 rfl rfl ?_
  refine hK.out _ _ ?hS5 (fun hHeld => ?rst5)
  case hS5 => exact ra_H hbi S7 ..
  clear hK K
  try simp only [Act.put, List.getElem_toArray, List.getElem_cons_succ, List.getElem_cons_zero, List.setIfInBounds_toArray, List.set_cons_zero, List.set_cons_succ]
  obtain ⟨⟨z2, x2, s2⟩, z3, x3, s3⟩ := EE1.out.m1 pc (R 0) (R 1) (R 2) (R 3) (R 4) (R 5) (R 6) (R 7) a' n c' 1 ep home
  have T1 := ra_H hbi S7 pc (R 0) (R 1) (R 2) (R 3) (R 4) (R 5) (R 6) (R 7) a' n c' 1 ep home
  generalize hW1 : putH w7 (w.heap.size + 1 + 1) pc (R 0) (R 1) (R 2) (R 3) (R 4) (R 5) (R 6) (R 7) a' n c' 1 ep home = V1 at *
  have hV1 := Lib.hid hW1
  clear hW1
  refine wpAnyH_ready (rs := [5]) (by kernel_rfl) (by simp) ?_
  refine AllReadyH.cons rfl (fun K hK => ?_) AllReadyH.nil
  refine ws_B (G := M.gt) (gr := gr) (N := M.pg.length) (C := C) (gw := gw) (m := M.ws.length) (d := d) rfl rfl x2 s2 rfl rfl ?_
  refine hK.out _ _ ?hS6 (fun hHeld => ?rst6)
  case hS6 => exact ra_B hbi T1 ..
  clear hK K
  try simp only [Act.put, List.getElem_toArray, List.getElem_cons_succ, List.getElem_cons_zero, List.setIfInBounds_toArray, List.set_cons_zero, List.set_cons_succ]
  have T2 := ra_B hbi T1 M.gt gr M.pg.length C gw M.ws.length d
  replace x3 := x3.fr (putB_fr V1 (w.heap.size + 1 + 1 + 1) M.gt gr M.pg.length C gw M.ws.length d) (by omega)
  generalize hW2 : putB V1 (w.heap.size + 1 + 1 + 1) M.gt gr M.pg.length C gw M.ws.length d = V2 at *
  have hV2 := Lib.hid hW2
  clear hW2
  refine wpAnyH_ready (rs := [6]) (by kernel_rfl) (by simp) ?_
  refine AllReadyH.cons rfl (fun K hK => ?_) AllReadyH.nil
  refine ws_M rfl rfl x3 s3 rfl rfl ?_
  refine hK.out _ _ ?hS7 (fun hHeld => ?rst7)
  case hS7 => exact ra_N hbi T2 ..
  clear hK K
  try simp only [Act.put, List.getElem_toArray, List.getElem_cons_succ, List.getElem_cons_zero, List.setIfInBounds_toArray, List.set_cons_zero, List.set_cons_succ]
  generalize hW3 : putN V2 (w.heap.size + 1 + 1 + 1 + 1) false false 0 0 = V3 at *
  have hV3 := Lib.hid hW3
  clear hW3
  refine wpAnyH_done (by kernel_rfl) ?_ _
  repeat (first | (with_reducible refine q_te ?_) | (with_reducible refine q_tr ?_) | (with_reducible refine q_br ?_) | (with_reducible refine q_be ?_) | (with_reducible refine q_bn rfl ?_) | go_values | go_skip | go_guarded | go_step | go_upon | go_back | (go_ite <;> go_prune <;> (try go_simp)))
  have j3 := hV3.out
  subst j3
  have j2 := hV2.out
  subst j2
  have j1 := hV1.out
  subst j1
  obtain ⟨yy1, yy2, yy3⟩ := HG7'.out.E.wholes pc (R 0) (R 1) (R 2) (R 3) (R 4) (R 5) (R 6) (R 7) a' n c' 1 ep home M.gt gr M.pg.length C gw M.ws.length d false false 0 0
  have Y1 := hart_cells yy1
  have Y2 := box_cells yy2
  have Y3 := note_cells yy3
  refine bodyPost_ret (v := .tuple #[hV pc R a' n c' 1 ep home, rV M.gt gr M.pg.length C gw M.ws.length d, nV false false 0 0]) (by simp [results, Tryz.results9, go_sem, Y1, Y2, Y3]) rfl ?_
  exact HG7'.out.fin (r := stillR ⟨pc, R, l, 0, ep, home⟩ M 1) rfl HG7'.out.rm (Or.inl rfl)
theorem rop_1 {G : Nat → Prop} {w : World} {gr C gw d : Nat} {M : Mm} {a : Option Addr} {n c : Nat} {pc : Int} {R : Nat → Int} {l : List Int} {ep home : Int} (rm : Rm w gr C gw d M) (hr : Reads G w (.slice a n c) (wcs l)) (hn : n * 4 ≤ 140737488355328) (xe fw fo : Int) (dd x y m : Int) (hd : 0 ≤ dd ∧ dd ≤ 7) (hx : 0 ≤ x ∧ x ≤ 7) (hy : 0 ≤ y ∧ y ≤ 7) (hm : -1048576 ≤ m ∧ m ≤ 1048575) (CF : ∀ u, Below w.heap.size w u → Calls Tryz.prog 32 #[rV M.gt gr M.pg.length C gw M.ws.length d, .int .u32 pc, .int .u64 ep] u fun e w' => e = .returned (.tuple #[.int .u32 fw, .int .u16 fo, .bool true]) ∧ Below u.heap.size u w') (CD : ∀ u, Calls Tryz.prog 34 #[.int .u32 fw] u fun e w' => e = .returned (.tuple #[.agg #[.int .u8 1, .int .u8 dd, .int .u8 x, .int .u8 y, .int .i32 m], .int .i64 0]) ∧ Below u.heap.size u w') (tg : Int) (tb : Bool) (CT : ∀ u, Calls Tryz.prog 36 #[.int .u32 pc, .agg #[.int .u8 1, .int .u8 dd, .int .u8 x, .int .u8 y, .int .i32 m]] u fun e w' => e = .returned (.tuple #[.int .u32 tg, .bool tb]) ∧ Below u.heap.size u w') : Calls Tryz.prog 9 #[hV pc R a n c 0 ep home, rV M.gt gr M.pg.length C gw M.ws.length d, .int .u64 xe] w (RDid (turnR ⟨pc, R, l, 0, ep, home⟩ M (up pc)) gr C gw w) := by
  have hnmx := hr.len
  have CP := Lib.hid (refCopy_any (((((hr.alloc (.cells (hCs pc R a n c 0 ep home) 30)).alloc (.cells (rCs M.gt gr M.pg.length C gw M.ws.length d) 36)).alloc (.cells hZ 30)).alloc (.cells zCs 36)).alloc (.cells nZ 44)) hn pc R 0 ep home)
  have EN := Lib.hid (fun (w1 : World) (a' : Option Addr) (c' : Nat) (s : Sk w1 (w5 w (hCs pc R a n c 0 ep home) (rCs M.gt gr M.pg.length C gw M.ws.length d)).heap.size a' n c' l) (b : Below (w5 w (hCs pc R a n c 0 ep home) (rCs M.gt gr M.pg.length C gw M.ws.length d)).heap.size (w5 w (hCs pc R a n c 0 ep home) (rCs M.gt gr M.pg.length C gw M.ws.length d)) w1) => rstep_rg (h := ⟨pc, R, l, 0, ep, home⟩) rm hr hn s b)
  have BX := Lib.hid (w5_facts w (hCs pc R a n c 0 ep home) (rCs M.gt gr M.pg.length C gw M.ws.length d)).2.2.1
  simp only at EN
  have CFH := Lib.hid CF
  have CN := Lib.hid (fun u a' c' => refNext_any pc R a' n c' 0 ep home u)
  have CDH := Lib.hid CD
  have CTH := Lib.hid CT
  have CX := Lib.hid (fun u a' c' => refR_any pc R a' n c' 0 ep home x hx u)
  have CD0 := Lib.hid (fun u a' c' => refR_any pc R a' n c' 0 ep home dd hd u)
  clear CF CD CT rm hr hn hnmx
  generalize hA1 : getR R dd = Dv at *
  generalize hA2 : getR R x = Xv at *
  clear hA1 hA2
  obtain ⟨hm0, hm1⟩ := hm
  go_enter Tryz.func9, Tryz.ntmps9
  go_upto_region 2 with (go_at_call 7; (with_reducible refine CP.out.mono ?_); rintro e w1 ⟨a', c', rfl, sk, hb⟩; have HY := Lib.hid (EN.out _ _ _ sk hb); have B1' := BX.out.belowS hb; have q1 := B1'.lt; obtain ⟨⟨v0, v1, v2, v3, v4, v5, v6, v7, v8, v9, v10, v11, v12, e0, e1, e2, e3, e4, e5, e6, e7, e8, e9, e10, e11, e12⟩, f0, f1, f2, f3, f4, f5, f6, f7, f8, f9, f10, f11, f12⟩ := hart_open B1' rfl; clear sk hb B1')
  rw [putH_eq]
  have HY2 := HY.out
  clear HY EN CP BX q1 e0 e1 e2 e3 e4 e5 e6 e7 e8 e9 e10 e11 e12 f0 f1 f2 f3 f4 f5 f6 f7 f8 f9 f10 f11 f12
  generalize putH w1 w.heap.size pc (R 0) (R 1) (R 2) (R 3) (R 4) (R 5) (R 6) (R 7) a' n c' 0 ep home = u at *
  have HG := Lib.hid HY2
  clear HY2
  obtain ⟨c0, c1, c2, c3, c4, c5, c6, c7, c8, c9, c10, c11, c12⟩ := hart_cells HG.out.X
  obtain ⟨m0, m1, m2, m3, m4, m5, m6, m7, m8, m9⟩ := box_cells HG.out.Y
  have q0 := HG.out.X.lt
  have q1 := HG.out.Y.lt
  go_upto_region 10 with (first | (go_at_call 32; (with_reducible refine (CFH.out _ HG.out.B).mono ?_); rintro e w2 ⟨rfl, hb2⟩; have HB2 := Lib.hid hb2; clear hb2) | (go_at_call 34; (with_reducible refine (CDH.out _).mono ?_); rintro e w3 ⟨rfl, hb3⟩; have HB3 := Lib.hid (below_of HB2.out hb3); clear hb3))
  have HG3 := Lib.hid (HG.out.belowS (HB3.out.alloc HB3.out.size (.cells #[.int .u8 1, .int .u8 dd, .int .u8 x, .int .u8 y, .int .i32 m] 76)))
  have I3 := ic_of (Whole.new w3 76 #[.int .u8 1, .int .u8 dd, .int .u8 x, .int .u8 y, .int .i32 m])
  have hbi : w.heap.size + 1 + 1 + 1 + 1 < w3.heap.size := Nat.lt_of_lt_of_le HG.out.lt HB3.out.size
  clear c0 c1 c2 c3 c4 c5 c6 c7 c8 c9 c10 c11 c12 m0 m1 m2 m3 m4 m5 m6 m7 m8 m9 q0 q1 HB2 HB3 HG
  generalize w3.alloc (.cells #[.int .u8 1, .int .u8 dd, .int .u8 x, .int .u8 y, .int .i32 m] 76) = W at *
  generalize w3.heap.size = bi at *
  have K0 : RA w.heap.size bi pc (R 0) (R 1) (R 2) (R 3) (R 4) (R 5) (R 6) (R 7) a' n c' 0 ep home M.gt gr M.pg.length C gw M.ws.length d 1 dd x y m W.drew := ra_end (Below.refl _ _).drew ⟨HG3.out.rs, I3⟩
  have hbr : Below W.heap.size W W.drew := (Below.refl _ _).drew
  clear I3
  go_region_held3 (fun u => RA w.heap.size bi pc (R 0) (R 1) (R 2) (R 3) (R 4) (R 5) (R 6) (R 7) a' n c' 0 ep home M.gt gr M.pg.length C gw M.ws.length d 1 dd x y m u)
    (first | with_reducible exact K0 | with_reducible exact K1 | with_reducible exact K2)
    (first | (go_at_call 35; (with_reducible refine (CX.out _ _ _).mono ?_); rintro e w4 ⟨rfl, hb4⟩; have hB4 := below_of hbr hb4; have K1 := ra_end hb4 K0) | (go_at_call 35; (with_reducible refine (CD0.out _ _ _).mono ?_); rintro e w5' ⟨rfl, hb5⟩; have hB5 := below_of hB4 hb5; have K2 := ra_end hb5 K1))
  rename_i hHeld
  clear hHeld
  rw [show IntKind.u32.wrap m = m % 4294967296 from IntKind.wrap_u32 m]
  have HG5 := Lib.hid (HG3.out.belowS hB5)
  have KK := Lib.hid K2
  clear K0 K1 hbr hb4 hb5 hB4 hB5 CX CD0 HG3
  obtain ⟨⟨⟨c0, c1, c2, c3, c4, c5, c6, c7, c8, c9, c10, c11, c12⟩, m0, m1, m2, m3, m4, m5, m6, m7, m8, m9⟩, i0, i1, i2, i3, i4⟩ := K2
  go_upto_region 16 with (first | (go_at_call 36; (with_reducible refine (CTH.out _).mono ?_); rintro e w6 ⟨rfl, hb6⟩; have HG6 := Lib.hid (HG5.out.belowS hb6); have K6 := Lib.hid (ra_end hb6 KK.out); clear hb6 HG5 KK; obtain ⟨⟨⟨c0, c1, c2, c3, c4, c5, c6, c7, c8, c9, c10, c11, c12⟩, m0, m1, m2, m3, m4, m5, m6, m7, m8, m9⟩, i0, i1, i2, i3, i4⟩ := K6.out))
  clear c0 c1 c2 c3 c4 c5 c6 c7 c8 c9 c10 c11 c12 m0 m1 m2 m3 m4 m5 m6 m7 m8 m9 i0 i1 i2 i3 i4
  have SX : RA w.heap.size bi pc (R 0) (R 1) (R 2) (R 3) (R 4) (R 5) (R 6) (R 7) a' n c' 0 ep home M.gt gr M.pg.length C gw M.ws.length d 1 dd x y m w6.drew := ra_end (Below.refl _ _).drew K6.out
  have HGd := Lib.hid HG6.out.drew
  refine wp_region_held_drew (S := fun u => RA w.heap.size bi pc (R 0) (R 1) (R 2) (R 3) (R 4) (R 5) (R 6) (R 7) a' n c' 0 ep home M.gt gr M.pg.length C gw M.ws.length d 1 dd x y m u) (by kernel_rfl) SX (fun hHeld => ?_)
  refine wpAnyH_take (i := 0) (v := ?vv1) rfl (by kernel_rfl) (by kernel_rfl) (by kernel_rfl) (fun _ _ _ h => h) (Or.inl ⟨by rfl, ?hy1⟩) (by assumption) ?rest1
  case hy1 =>
    intro u hSu
    obtain ⟨⟨⟨s0, s1, s2, s3, s4, s5, s6, s7, s8, s9, s10, s11, s12⟩, s13, s14, s15, s16, s17, s18, s19, s20, s21, s22⟩, s23, s24, s25, s26, s27⟩ := hSu
    go_simp
    try with_reducible rfl
  try simp only [Act.put, List.getElem_toArray, List.getElem_cons_succ, List.getElem_cons_zero, List.setIfInBounds_toArray, List.set_cons_zero, List.set_cons_succ]
  refine wpAnyH_take (i := 2) (v := ?vv2) rfl (by kernel_rfl) (by kernel_rfl) (by kernel_rfl) (fun _ _ _ h => h) (Or.inl ⟨by rfl, ?hy2⟩) (by assumption) ?rest2
  case hy2 =>
    intro u hSu
    obtain ⟨⟨⟨s0, s1, s2, s3, s4, s5, s6, s7, s8, s9, s10, s11, s12⟩, s13, s14, s15, s16, s17, s18, s19, s20, s21, s22⟩, s23, s24, s25, s26, s27⟩ := hSu
    go_simp
    try with_reducible rfl
  try simp only [Act.put, List.getElem_toArray, List.getElem_cons_succ, List.getElem_cons_zero, List.setIfInBounds_toArray, List.set_cons_zero, List.set_cons_succ]
  refine wpAnyH_take (i := 3) (v := ?vv3) rfl (by kernel_rfl) (by kernel_rfl) (by kernel_rfl) (fun _ _ _ h => h) (Or.inl ⟨by rfl, ?hy3⟩) (by assumption) ?rest3
  case hy3 =>
    intro u hSu
    obtain ⟨⟨⟨s0, s1, s2, s3, s4, s5, s6, s7, s8, s9, s10, s11, s12⟩, s13, s14, s15, s16, s17, s18, s19, s20, s21, s22⟩, s23, s24, s25, s26, s27⟩ := hSu
    go_simp
    try with_reducible rfl
  try simp only [Act.put, List.getElem_toArray, List.getElem_cons_succ, List.getElem_cons_zero, List.setIfInBounds_toArray, List.set_cons_zero, List.set_cons_succ]
  refine wpAnyH_ready (rs := [1]) (by kernel_rfl) (by simp) ?_
  refine AllReadyH.cons rfl (fun K hK => ?_) AllReadyH.nil
  (go_simp; go_at_call 37; (with_reducible refine (CN.out _ _ _).mono ?_); rintro e w7 ⟨rfl, hb7⟩; have HG7' := Lib.hid (HGd.out.belowS hb7); have S7 := ra_end hb7 SX)
  refine hK.out _ _ ?hS4 (fun hHeld => ?rst4)
  case hS4 => exact S7
  clear hK K
  try simp only [Act.put, List.getElem_toArray, List.getElem_cons_succ, List.getElem_cons_zero, List.setIfInBounds_toArray, List.set_cons_zero, List.set_cons_succ]
  obtain ⟨z1, x1, s1⟩ := HG7'.out.E.h
  have EE1 := Lib.hid HG7'.out.E
  refine wpAnyH_ready (rs := [4]) (by kernel_rfl) (by simp) ?_
  refine AllReadyH.cons rfl (fun K hK => ?_) AllReadyH.nil
  refine ws_H rfl rfl x1 s1 rfl rfl ?_
  refine hK.out _ _ ?hS5 (fun hHeld => ?rst5)
  case hS5 => exact ra_H hbi S7 ..
  clear hK K
  try simp only [Act.put, List.getElem_toArray, List.getElem_cons_succ, List.getElem_cons_zero, List.setIfInBounds_toArray, List.set_cons_zero, List.set_cons_succ]
  obtain ⟨⟨z2, x2, s2⟩, z3, x3, s3⟩ := EE1.out.m1 (up pc) (R 0) (R 1) (R 2) (R 3) (R 4) (R 5) (R 6) (R 7) a' n c' 0 ep home
  have T1 := ra_H hbi S7 (up pc) (R 0) (R 1) (R 2) (R 3) (R 4) (R 5) (R 6) (R 7) a' n c' 0 ep home
  generalize hW1 : putH w7 (w.heap.size + 1 + 1) (up pc) (R 0) (R 1) (R 2) (R 3) (R 4) (R 5) (R 6) (R 7) a' n c' 0 ep home = V1 at *
  have hV1 := Lib.hid hW1
  clear hW1
  refine wpAnyH_ready (rs := [5]) (by kernel_rfl) (by simp) ?_
  refine AllReadyH.cons rfl (fun K hK => ?_) AllReadyH.nil
  refine ws_B (G := M.gt) (gr := gr) (N := M.pg.length) (C := C) (gw := gw) (m := M.ws.length) (d := d) rfl rfl x2 s2 rfl rfl ?_
  refine hK.out _ _ ?hS6 (fun hHeld => ?rst6)
  case hS6 => exact ra_B hbi T1 ..
  clear hK K
  try simp only [Act.put, List.getElem_toArray, List.getElem_cons_succ, List.getElem_cons_zero, List.setIfInBounds_toArray, List.set_cons_zero, List.set_cons_succ]
  have T2 := ra_B hbi T1 M.gt gr M.pg.length C gw M.ws.length d
  replace x3 := x3.fr (putB_fr V1 (w.heap.size + 1 + 1 + 1) M.gt gr M.pg.length C gw M.ws.length d) (by omega)
  generalize hW2 : putB V1 (w.heap.size + 1 + 1 + 1) M.gt gr M.pg.length C gw M.ws.length d = V2 at *
  have hV2 := Lib.hid hW2
  clear hW2
  refine wpAnyH_ready (rs := [6]) (by kernel_rfl) (by simp) ?_
  refine AllReadyH.cons rfl (fun K hK => ?_) AllReadyH.nil
  refine ws_M rfl rfl x3 s3 rfl rfl ?_
  refine hK.out _ _ ?hS7 (fun hHeld => ?rst7)
  case hS7 => exact ra_N hbi T2 ..
  clear hK K
  try simp only [Act.put, List.getElem_toArray, List.getElem_cons_succ, List.getElem_cons_zero, List.setIfInBounds_toArray, List.set_cons_zero, List.set_cons_succ]
  generalize hW3 : putN V2 (w.heap.size + 1 + 1 + 1 + 1) false false 0 0 = V3 at *
  have hV3 := Lib.hid hW3
  clear hW3
  refine wpAnyH_done (by kernel_rfl) ?_ _
  repeat (first | (with_reducible refine q_te ?_) | (with_reducible refine q_tr ?_) | (with_reducible refine q_br ?_) | (with_reducible refine q_be ?_) | (with_reducible refine q_bn rfl ?_) | go_values | go_skip | go_guarded | go_step | go_upon | go_back | (go_ite <;> go_prune <;> (try go_simp)))
  have j3 := hV3.out
  subst j3
  have j2 := hV2.out
  subst j2
  have j1 := hV1.out
  subst j1
  obtain ⟨yy1, yy2, yy3⟩ := HG7'.out.E.wholes (up pc) (R 0) (R 1) (R 2) (R 3) (R 4) (R 5) (R 6) (R 7) a' n c' 0 ep home M.gt gr M.pg.length C gw M.ws.length d false false 0 0
  have Y1 := hart_cells yy1
  have Y2 := box_cells yy2
  have Y3 := note_cells yy3
  refine bodyPost_ret (v := .tuple #[hV (up pc) R a' n c' 0 ep home, rV M.gt gr M.pg.length C gw M.ws.length d, nV false false 0 0]) (by simp [results, Tryz.results9, go_sem, Y1, Y2, Y3]) rfl ?_
  exact HG7'.out.fin (r := turnR ⟨pc, R, l, 0, ep, home⟩ M (up pc)) rfl HG7'.out.rm (Or.inl rfl)
theorem rop_2 {G : Nat → Prop} {w : World} {gr C gw d : Nat} {M : Mm} {a : Option Addr} {n c : Nat} {pc : Int} {R : Nat → Int} {l : List Int} {ep home : Int} (rm : Rm w gr C gw d M) (hr : Reads G w (.slice a n c) (wcs l)) (hn : n * 4 ≤ 140737488355328) (xe fw fo : Int) (dd x y m : Int) (hd : 0 ≤ dd ∧ dd ≤ 7) (hx : 0 ≤ x ∧ x ≤ 7) (hy : 0 ≤ y ∧ y ≤ 7) (hm : -1048576 ≤ m ∧ m ≤ 1048575) (CF : ∀ u, Below w.heap.size w u → Calls Tryz.prog 32 #[rV M.gt gr M.pg.length C gw M.ws.length d, .int .u32 pc, .int .u64 ep] u fun e w' => e = .returned (.tuple #[.int .u32 fw, .int .u16 fo, .bool true]) ∧ Below u.heap.size u w') (CD : ∀ u, Calls Tryz.prog 34 #[.int .u32 fw] u fun e w' => e = .returned (.tuple #[.agg #[.int .u8 2, .int .u8 dd, .int .u8 x, .int .u8 y, .int .i32 m], .int .i64 0]) ∧ Below u.heap.size u w') (tg : Int) (tb : Bool) (CT : ∀ u, Calls Tryz.prog 36 #[.int .u32 pc, .agg #[.int .u8 2, .int .u8 dd, .int .u8 x, .int .u8 y, .int .i32 m]] u fun e w' => e = .returned (.tuple #[.int .u32 tg, .bool tb]) ∧ Below u.heap.size u w') : Calls Tryz.prog 9 #[hV pc R a n c 0 ep home, rV M.gt gr M.pg.length C gw M.ws.length d, .int .u64 xe] w (RDid (setR ⟨pc, R, l, 0, ep, home⟩ M dd (m % 4294967296)) gr C gw w) := by
  have hnmx := hr.len
  have CP := Lib.hid (refCopy_any (((((hr.alloc (.cells (hCs pc R a n c 0 ep home) 30)).alloc (.cells (rCs M.gt gr M.pg.length C gw M.ws.length d) 36)).alloc (.cells hZ 30)).alloc (.cells zCs 36)).alloc (.cells nZ 44)) hn pc R 0 ep home)
  have EN := Lib.hid (fun (w1 : World) (a' : Option Addr) (c' : Nat) (s : Sk w1 (w5 w (hCs pc R a n c 0 ep home) (rCs M.gt gr M.pg.length C gw M.ws.length d)).heap.size a' n c' l) (b : Below (w5 w (hCs pc R a n c 0 ep home) (rCs M.gt gr M.pg.length C gw M.ws.length d)).heap.size (w5 w (hCs pc R a n c 0 ep home) (rCs M.gt gr M.pg.length C gw M.ws.length d)) w1) => rstep_rg (h := ⟨pc, R, l, 0, ep, home⟩) rm hr hn s b)
  have BX := Lib.hid (w5_facts w (hCs pc R a n c 0 ep home) (rCs M.gt gr M.pg.length C gw M.ws.length d)).2.2.1
  simp only at EN
  have CFH := Lib.hid CF
  have CP9 := Lib.hid (fun u a' c' v => refPut9_any pc R a' n c' 0 ep home dd v hd u)
  have CN9 := Lib.hid (fun u a' c' v => refNext_any pc (putR R dd v) a' n c' 0 ep home u)
  have CDH := Lib.hid CD
  have CTH := Lib.hid CT
  have CX := Lib.hid (fun u a' c' => refR_any pc R a' n c' 0 ep home x hx u)
  have CD0 := Lib.hid (fun u a' c' => refR_any pc R a' n c' 0 ep home dd hd u)
  clear CF CD CT rm hr hn hnmx
  generalize hA1 : getR R dd = Dv at *
  generalize hA2 : getR R x = Xv at *
  clear hA1 hA2
  obtain ⟨hm0, hm1⟩ := hm
  go_enter Tryz.func9, Tryz.ntmps9
  go_upto_region 2 with (go_at_call 7; (with_reducible refine CP.out.mono ?_); rintro e w1 ⟨a', c', rfl, sk, hb⟩; have HY := Lib.hid (EN.out _ _ _ sk hb); have B1' := BX.out.belowS hb; have q1 := B1'.lt; obtain ⟨⟨v0, v1, v2, v3, v4, v5, v6, v7, v8, v9, v10, v11, v12, e0, e1, e2, e3, e4, e5, e6, e7, e8, e9, e10, e11, e12⟩, f0, f1, f2, f3, f4, f5, f6, f7, f8, f9, f10, f11, f12⟩ := hart_open B1' rfl; clear sk hb B1')
  rw [putH_eq]
  have HY2 := HY.out
  clear HY EN CP BX q1 e0 e1 e2 e3 e4 e5 e6 e7 e8 e9 e10 e11 e12 f0 f1 f2 f3 f4 f5 f6 f7 f8 f9 f10 f11 f12
  generalize putH w1 w.heap.size pc (R 0) (R 1) (R 2) (R 3) (R 4) (R 5) (R 6) (R 7) a' n c' 0 ep home = u at *
  have HG := Lib.hid HY2
  clear HY2
  obtain ⟨c0, c1, c2, c3, c4, c5, c6, c7, c8, c9, c10, c11, c12⟩ := hart_cells HG.out.X
  obtain ⟨m0, m1, m2, m3, m4, m5, m6, m7, m8, m9⟩ := box_cells HG.out.Y
  have q0 := HG.out.X.lt
  have q1 := HG.out.Y.lt
  go_upto_region 10 with (first | (go_at_call 32; (with_reducible refine (CFH.out _ HG.out.B).mono ?_); rintro e w2 ⟨rfl, hb2⟩; have HB2 := Lib.hid hb2; clear hb2) | (go_at_call 34; (with_reducible refine (CDH.out _).mono ?_); rintro e w3 ⟨rfl, hb3⟩; have HB3 := Lib.hid (below_of HB2.out hb3); clear hb3))
  have HG3 := Lib.hid (HG.out.belowS (HB3.out.alloc HB3.out.size (.cells #[.int .u8 2, .int .u8 dd, .int .u8 x, .int .u8 y, .int .i32 m] 76)))
  have I3 := ic_of (Whole.new w3 76 #[.int .u8 2, .int .u8 dd, .int .u8 x, .int .u8 y, .int .i32 m])
  have hbi : w.heap.size + 1 + 1 + 1 + 1 < w3.heap.size := Nat.lt_of_lt_of_le HG.out.lt HB3.out.size
  clear c0 c1 c2 c3 c4 c5 c6 c7 c8 c9 c10 c11 c12 m0 m1 m2 m3 m4 m5 m6 m7 m8 m9 q0 q1 HB2 HB3 HG
  generalize w3.alloc (.cells #[.int .u8 2, .int .u8 dd, .int .u8 x, .int .u8 y, .int .i32 m] 76) = W at *
  generalize w3.heap.size = bi at *
  have K0 : RA w.heap.size bi pc (R 0) (R 1) (R 2) (R 3) (R 4) (R 5) (R 6) (R 7) a' n c' 0 ep home M.gt gr M.pg.length C gw M.ws.length d 2 dd x y m W.drew := ra_end (Below.refl _ _).drew ⟨HG3.out.rs, I3⟩
  have hbr : Below W.heap.size W W.drew := (Below.refl _ _).drew
  clear I3
  go_region_held3 (fun u => RA w.heap.size bi pc (R 0) (R 1) (R 2) (R 3) (R 4) (R 5) (R 6) (R 7) a' n c' 0 ep home M.gt gr M.pg.length C gw M.ws.length d 2 dd x y m u)
    (first | with_reducible exact K0 | with_reducible exact K1 | with_reducible exact K2)
    (first | (go_at_call 35; (with_reducible refine (CX.out _ _ _).mono ?_); rintro e w4 ⟨rfl, hb4⟩; have hB4 := below_of hbr hb4; have K1 := ra_end hb4 K0) | (go_at_call 35; (with_reducible refine (CD0.out _ _ _).mono ?_); rintro e w5' ⟨rfl, hb5⟩; have hB5 := below_of hB4 hb5; have K2 := ra_end hb5 K1))
  rename_i hHeld
  clear hHeld
  rw [show IntKind.u32.wrap m = m % 4294967296 from IntKind.wrap_u32 m]
  have HG5 := Lib.hid (HG3.out.belowS hB5)
  have KK := Lib.hid K2
  clear K0 K1 hbr hb4 hb5 hB4 hB5 CX CD0 HG3
  obtain ⟨⟨⟨c0, c1, c2, c3, c4, c5, c6, c7, c8, c9, c10, c11, c12⟩, m0, m1, m2, m3, m4, m5, m6, m7, m8, m9⟩, i0, i1, i2, i3, i4⟩ := K2
  have hI0 : 0 ≤ m % 4294967296 := by omega
  have hI1 : m % 4294967296 ≤ 4294967295 := by omega
  generalize m % 4294967296 = I at *
  go_upto_region 18 with (first | (go_at_call 36; (with_reducible refine (CTH.out _).mono ?_); rintro e w6 ⟨rfl, hb6⟩; have HG6 := Lib.hid (HG5.out.belowS hb6); have K6 := Lib.hid (ra_end hb6 KK.out); clear hb6 HG5 KK; obtain ⟨⟨⟨c0, c1, c2, c3, c4, c5, c6, c7, c8, c9, c10, c11, c12⟩, m0, m1, m2, m3, m4, m5, m6, m7, m8, m9⟩, i0, i1, i2, i3, i4⟩ := K6.out))
  clear c0 c1 c2 c3 c4 c5 c6 c7 c8 c9 c10 c11 c12 m0 m1 m2 m3 m4 m5 m6 m7 m8 m9 i0 i1 i2 i3 i4
  have SX : RA w.heap.size bi pc (R 0) (R 1) (R 2) (R 3) (R 4) (R 5) (R 6) (R 7) a' n c' 0 ep home M.gt gr M.pg.length C gw M.ws.length d 2 dd x y m w6.drew := ra_end (Below.refl _ _).drew K6.out
  have HGd := Lib.hid HG6.out.drew
  refine wp_region_held_drew (S := fun u => RA w.heap.size bi pc (R 0) (R 1) (R 2) (R 3) (R 4) (R 5) (R 6) (R 7) a' n c' 0 ep home M.gt gr M.pg.length C gw M.ws.length d 2 dd x y m u) (by kernel_rfl) SX (fun hHeld => ?_)
  refine wpAnyH_take (i := 0) (v := ?vv1) rfl (by kernel_rfl) (by kernel_rfl) (by kernel_rfl) (fun _ _ _ h => h) (Or.inl ⟨by rfl, ?hy1⟩) (by assumption) ?rest1
  case hy1 =>
    intro u hSu
    obtain ⟨⟨⟨s0, s1, s2, s3, s4, s5, s6, s7, s8, s9, s10, s11, s12⟩, s13, s14, s15, s16, s17, s18, s19, s20, s21, s22⟩, s23, s24, s25, s26, s27⟩ := hSu
    go_simp
    try with_reducible rfl
  try simp only [Act.put, List.getElem_toArray, List.getElem_cons_succ, List.getElem_cons_zero, List.setIfInBounds_toArray, List.set_cons_zero, List.set_cons_succ]
  refine wpAnyH_take (i := 1) (v := ?vv2) rfl (by kernel_rfl) (by kernel_rfl) (by kernel_rfl) (fun _ _ _ h => h) (Or.inl ⟨by rfl, ?hy2⟩) (by assumption) ?rest2
  case hy2 =>
    intro u hSu
    obtain ⟨⟨⟨s0, s1, s2, s3, s4, s5, s6, s7, s8, s9, s10, s11, s12⟩, s13, s14, s15, s16, s17, s18, s19, s20, s21, s22⟩, s23, s24, s25, s26, s27⟩ := hSu
    go_simp
    try with_reducible rfl
  try simp only [Act.put, List.getElem_toArray, List.getElem_cons_succ, List.getElem_cons_zero, List.setIfInBounds_toArray, List.set_cons_zero, List.set_cons_succ]
  refine wpAnyH_take (i := 2) (v := ?vv3) rfl (by kernel_rfl) (by kernel_rfl) (by kernel_rfl) (fun _ _ _ h => h) (Or.inl ⟨by rfl, ?hy3⟩) (by assumption) ?rest3
  case hy3 =>
    intro u hSu
    obtain ⟨⟨⟨s0, s1, s2, s3, s4, s5, s6, s7, s8, s9, s10, s11, s12⟩, s13, s14, s15, s16, s17, s18, s19, s20, s21, s22⟩, s23, s24, s25, s26, s27⟩ := hSu
    go_simp
    try with_reducible rfl
  try simp only [Act.put, List.getElem_toArray, List.getElem_cons_succ, List.getElem_cons_zero, List.setIfInBounds_toArray, List.set_cons_zero, List.set_cons_succ]
  refine wpAnyH_take (i := 3) (v := ?vv4) rfl (by kernel_rfl) (by kernel_rfl) (by kernel_rfl) (fun _ _ _ h => h) (Or.inl ⟨by rfl, ?hy4⟩) (by assumption) ?rest4
  case hy4 =>
    intro u hSu
    obtain ⟨⟨⟨s0, s1, s2, s3, s4, s5, s6, s7, s8, s9, s10, s11, s12⟩, s13, s14, s15, s16, s17, s18, s19, s20, s21, s22⟩, s23, s24, s25, s26, s27⟩ := hSu
    go_simp
    try with_reducible rfl
  try simp only [Act.put, List.getElem_toArray, List.getElem_cons_succ, List.getElem_cons_zero, List.setIfInBounds_toArray, List.set_cons_zero, List.set_cons_succ]
  refine wpAnyH_take (i := 6) (v := ?vv5) rfl (by kernel_rfl) (by kernel_rfl) (by kernel_rfl) (fun _ _ _ h => h) (Or.inl ⟨by rfl, ?hy5⟩) (by assumption) ?rest5
  case hy5 =>
    intro u hSu
    obtain ⟨⟨⟨s0, s1, s2, s3, s4, s5, s6, s7, s8, s9, s10, s11, s12⟩, s13, s14, s15, s16, s17, s18, s19, s20, s21, s22⟩, s23, s24, s25, s26, s27⟩ := hSu
    go_simp
    try with_reducible rfl
  try simp only [Act.put, List.getElem_toArray, List.getElem_cons_succ, List.getElem_cons_zero, List.setIfInBounds_toArray, List.set_cons_zero, List.set_cons_succ]
  refine wpAnyH_take (i := 7) (v := ?vv6) rfl (by kernel_rfl) (by kernel_rfl) (by kernel_rfl) (fun _ _ _ h => h) (Or.inl ⟨by rfl, ?hy6⟩) (by assumption) ?rest6
  case hy6 =>
    intro u hSu
    obtain ⟨⟨⟨s0, s1, s2, s3, s4, s5, s6, s7, s8, s9, s10, s11, s12⟩, s13, s14, s15, s16, s17, s18, s19, s20, s21, s22⟩, s23, s24, s25, s26, s27⟩ := hSu
    go_simp
    try with_reducible rfl
  try simp only [Act.put, List.getElem_toArray, List.getElem_cons_succ, List.getElem_cons_zero, List.setIfInBounds_toArray, List.set_cons_zero, List.set_cons_succ]
  refine wpAnyH_ready (rs := [4]) (by kernel_rfl) (by simp) ?_
  refine AllReadyH.cons rfl (fun K hK => ?_) AllReadyH.nil
  (go_simp; go_at_call 38; (with_reducible refine (CP9.out _ _ _ _).mono ?_); rintro e w7 ⟨rfl, hb7⟩; have HG7' := Lib.hid (HGd.out.belowS hb7); have S7 := ra_end hb7 SX)
  refine hK.out _ _ ?hS7 (fun hHeld => ?rst7)
  case hS7 => exact S7
  clear hK K
  try simp only [Act.put, List.getElem_toArray, List.getElem_cons_succ, List.getElem_cons_zero, List.setIfInBounds_toArray, List.set_cons_zero, List.set_cons_succ]
  refine wpAnyH_ready (rs := [5]) (by kernel_rfl) (by simp) ?_
  refine AllReadyH.cons rfl (fun K hK => ?_) AllReadyH.nil
  (go_simp; go_at_call 37; (with_reducible refine (CN9.out _ _ _ _).mono ?_); rintro e w8 ⟨rfl, hb8⟩; have HG8' := Lib.hid (HG7'.out.belowS hb8); have S8 := ra_end hb8 S7)
  refine hK.out _ _ ?hS8 (fun hHeld => ?rst8)
  case hS8 => exact S8
  clear hK K
  try simp only [Act.put, List.getElem_toArray, List.getElem_cons_succ, List.getElem_cons_zero, List.setIfInBounds_toArray, List.set_cons_zero, List.set_cons_succ]
  obtain ⟨z1, x1, s1⟩ := HG8'.out.E.h
  have EE1 := Lib.hid HG8'.out.E
  refine wpAnyH_ready (rs := [8]) (by kernel_rfl) (by simp) ?_
  refine AllReadyH.cons rfl (fun K hK => ?_) AllReadyH.nil
  refine ws_H rfl rfl x1 s1 rfl rfl ?_
  refine hK.out _ _ ?hS9 (fun hHeld => ?rst9)
  case hS9 => exact ra_H hbi S8 ..
  clear hK K
  try simp only [Act.put, List.getElem_toArray, List.getElem_cons_succ, List.getElem_cons_zero, List.setIfInBounds_toArray, List.set_cons_zero, List.set_cons_succ]
  obtain ⟨⟨z2, x2, s2⟩, z3, x3, s3⟩ := EE1.out.m1 (up pc) (putR R dd I 0) (putR R dd I 1) (putR R dd I 2) (putR R dd I 3) (putR R dd I 4) (putR R dd I 5) (putR R dd I 6) (putR R dd I 7) a' n c' 0 ep home
  have T1 := ra_H hbi S8 (up pc) (putR R dd I 0) (putR R dd I 1) (putR R dd I 2) (putR R dd I 3) (putR R dd I 4) (putR R dd I 5) (putR R dd I 6) (putR R dd I 7) a' n c' 0 ep home
  generalize hW1 : putH w8 (w.heap.size + 1 + 1) (up pc) (putR R dd I 0) (putR R dd I 1) (putR R dd I 2) (putR R dd I 3) (putR R dd I 4) (putR R dd I 5) (putR R dd I 6) (putR R dd I 7) a' n c' 0 ep home = V1 at *
  have hV1 := Lib.hid hW1
  clear hW1
  refine wpAnyH_ready (rs := [9]) (by kernel_rfl) (by simp) ?_
  refine AllReadyH.cons rfl (fun K hK => ?_) AllReadyH.nil
  refine ws_B (G := M.gt) (gr := gr) (N := M.pg.length) (C := C) (gw := gw) (m := M.ws.length) (d := d) rfl rfl x2 s2 rfl rfl ?_
  refine hK.out _ _ ?hS10 (fun hHeld => ?rst10)
  case hS10 => exact ra_B hbi T1 ..
  clear hK K
  try simp only [Act.put, List.getElem_toArray, List.getElem_cons_succ, List.getElem_cons_zero, List.setIfInBounds_toArray, List.set_cons_zero, List.set_cons_succ]
  have T2 := ra_B hbi T1 M.gt gr M.pg.length C gw M.ws.length d
  replace x3 := x3.fr (putB_fr V1 (w.heap.size + 1 + 1 + 1) M.gt gr M.pg.length C gw M.ws.length d) (by omega)
  generalize hW2 : putB V1 (w.heap.size + 1 + 1 + 1) M.gt gr M.pg.length C gw M.ws.length d = V2 at *
  have hV2 := Lib.hid hW2
  clear hW2
  refine wpAnyH_ready (rs := [10]) (by kernel_rfl) (by simp) ?_
  refine AllReadyH.cons rfl (fun K hK => ?_) AllReadyH.nil
  refine ws_M rfl rfl x3 s3 rfl rfl ?_
  refine hK.out _ _ ?hS11 (fun hHeld => ?rst11)
  case hS11 => exact ra_N hbi T2 ..
  clear hK K
  try simp only [Act.put, List.getElem_toArray, List.getElem_cons_succ, List.getElem_cons_zero, List.setIfInBounds_toArray, List.set_cons_zero, List.set_cons_succ]
  generalize hW3 : putN V2 (w.heap.size + 1 + 1 + 1 + 1) false false 0 0 = V3 at *
  have hV3 := Lib.hid hW3
  clear hW3
  refine wpAnyH_done (by kernel_rfl) ?_ _
  repeat (first | (with_reducible refine q_te ?_) | (with_reducible refine q_tr ?_) | (with_reducible refine q_br ?_) | (with_reducible refine q_be ?_) | (with_reducible refine q_bn rfl ?_) | go_values | go_skip | go_guarded | go_step | go_upon | go_back | (go_ite <;> go_prune <;> (try go_simp)))
  have j3 := hV3.out
  subst j3
  have j2 := hV2.out
  subst j2
  have j1 := hV1.out
  subst j1
  obtain ⟨yy1, yy2, yy3⟩ := HG8'.out.E.wholes (up pc) (putR R dd I 0) (putR R dd I 1) (putR R dd I 2) (putR R dd I 3) (putR R dd I 4) (putR R dd I 5) (putR R dd I 6) (putR R dd I 7) a' n c' 0 ep home M.gt gr M.pg.length C gw M.ws.length d false false 0 0
  have Y1 := hart_cells yy1
  have Y2 := box_cells yy2
  have Y3 := note_cells yy3
  refine bodyPost_ret (v := .tuple #[hV (up pc) (putR R dd I) a' n c' 0 ep home, rV M.gt gr M.pg.length C gw M.ws.length d, nV false false 0 0]) (by simp [results, Tryz.results9, go_sem, Y1, Y2, Y3]) rfl ?_
  exact HG8'.out.fin (r := setR ⟨pc, R, l, 0, ep, home⟩ M dd I) rfl HG8'.out.rm (Or.inl rfl)
theorem rop_11 {G : Nat → Prop} {w : World} {gr C gw d : Nat} {M : Mm} {a : Option Addr} {n c : Nat} {pc : Int} {R : Nat → Int} {l : List Int} {ep home : Int} (rm : Rm w gr C gw d M) (hr : Reads G w (.slice a n c) (wcs l)) (hn : n * 4 ≤ 140737488355328) (xe fw fo : Int) (dd x y m : Int) (hd : 0 ≤ dd ∧ dd ≤ 7) (hx : 0 ≤ x ∧ x ≤ 7) (hy : 0 ≤ y ∧ y ≤ 7) (hm : -1048576 ≤ m ∧ m ≤ 1048575) (CF : ∀ u, Below w.heap.size w u → Calls Tryz.prog 32 #[rV M.gt gr M.pg.length C gw M.ws.length d, .int .u32 pc, .int .u64 ep] u fun e w' => e = .returned (.tuple #[.int .u32 fw, .int .u16 fo, .bool true]) ∧ Below u.heap.size u w') (CD : ∀ u, Calls Tryz.prog 34 #[.int .u32 fw] u fun e w' => e = .returned (.tuple #[.agg #[.int .u8 11, .int .u8 dd, .int .u8 x, .int .u8 y, .int .i32 m], .int .i64 0]) ∧ Below u.heap.size u w') (tg : Int) (tb : Bool) (CT : ∀ u, Calls Tryz.prog 36 #[.int .u32 pc, .agg #[.int .u8 11, .int .u8 dd, .int .u8 x, .int .u8 y, .int .i32 m]] u fun e w' => e = .returned (.tuple #[.int .u32 tg, .bool tb]) ∧ Below u.heap.size u w') : Calls Tryz.prog 9 #[hV pc R a n c 0 ep home, rV M.gt gr M.pg.length C gw M.ws.length d, .int .u64 xe] w (RDid (setR ⟨pc, R, l, 0, ep, home⟩ M dd ((getR R x + m % 4294967296) % 4294967296)) gr C gw w) := by
  have hnmx := hr.len
  have CP := Lib.hid (refCopy_any (((((hr.alloc (.cells (hCs pc R a n c 0 ep home) 30)).alloc (.cells (rCs M.gt gr M.pg.length C gw M.ws.length d) 36)).alloc (.cells hZ 30)).alloc (.cells zCs 36)).alloc (.cells nZ 44)) hn pc R 0 ep home)
  have EN := Lib.hid (fun (w1 : World) (a' : Option Addr) (c' : Nat) (s : Sk w1 (w5 w (hCs pc R a n c 0 ep home) (rCs M.gt gr M.pg.length C gw M.ws.length d)).heap.size a' n c' l) (b : Below (w5 w (hCs pc R a n c 0 ep home) (rCs M.gt gr M.pg.length C gw M.ws.length d)).heap.size (w5 w (hCs pc R a n c 0 ep home) (rCs M.gt gr M.pg.length C gw M.ws.length d)) w1) => rstep_rg (h := ⟨pc, R, l, 0, ep, home⟩) rm hr hn s b)
  have BX := Lib.hid (w5_facts w (hCs pc R a n c 0 ep home) (rCs M.gt gr M.pg.length C gw M.ws.length d)).2.2.1
  simp only at EN
  have CFH := Lib.hid CF
  have CP9 := Lib.hid (fun u a' c' v => refPut9_any pc R a' n c' 0 ep home dd v hd u)
  have CN9 := Lib.hid (fun u a' c' v => refNext_any pc (putR R dd v) a' n c' 0 ep home u)
  have CDH := Lib.hid CD
  have CTH := Lib.hid CT
  have CX := Lib.hid (fun u a' c' => refR_any pc R a' n c' 0 ep home x hx u)
  have CD0 := Lib.hid (fun u a' c' => refR_any pc R a' n c' 0 ep home dd hd u)
  clear CF CD CT rm hr hn hnmx
  generalize hA1 : getR R dd = Dv at *
  generalize hA2 : getR R x = Xv at *
  clear hA1 hA2
  obtain ⟨hm0, hm1⟩ := hm
  go_enter Tryz.func9, Tryz.ntmps9
  go_upto_region 2 with (go_at_call 7; (with_reducible refine CP.out.mono ?_); rintro e w1 ⟨a', c', rfl, sk, hb⟩; have HY := Lib.hid (EN.out _ _ _ sk hb); have B1' := BX.out.belowS hb; have q1 := B1'.lt; obtain ⟨⟨v0, v1, v2, v3, v4, v5, v6, v7, v8, v9, v10, v11, v12, e0, e1, e2, e3, e4, e5, e6, e7, e8, e9, e10, e11, e12⟩, f0, f1, f2, f3, f4, f5, f6, f7, f8, f9, f10, f11, f12⟩ := hart_open B1' rfl; clear sk hb B1')
  rw [putH_eq]
  have HY2 := HY.out
  clear HY EN CP BX q1 e0 e1 e2 e3 e4 e5 e6 e7 e8 e9 e10 e11 e12 f0 f1 f2 f3 f4 f5 f6 f7 f8 f9 f10 f11 f12
  generalize putH w1 w.heap.size pc (R 0) (R 1) (R 2) (R 3) (R 4) (R 5) (R 6) (R 7) a' n c' 0 ep home = u at *
  have HG := Lib.hid HY2
  clear HY2
  obtain ⟨c0, c1, c2, c3, c4, c5, c6, c7, c8, c9, c10, c11, c12⟩ := hart_cells HG.out.X
  obtain ⟨m0, m1, m2, m3, m4, m5, m6, m7, m8, m9⟩ := box_cells HG.out.Y
  have q0 := HG.out.X.lt
  have q1 := HG.out.Y.lt
  go_upto_region 10 with (first | (go_at_call 32; (with_reducible refine (CFH.out _ HG.out.B).mono ?_); rintro e w2 ⟨rfl, hb2⟩; have HB2 := Lib.hid hb2; clear hb2) | (go_at_call 34; (with_reducible refine (CDH.out _).mono ?_); rintro e w3 ⟨rfl, hb3⟩; have HB3 := Lib.hid (below_of HB2.out hb3); clear hb3))
  have HG3 := Lib.hid (HG.out.belowS (HB3.out.alloc HB3.out.size (.cells #[.int .u8 11, .int .u8 dd, .int .u8 x, .int .u8 y, .int .i32 m] 76)))
  have I3 := ic_of (Whole.new w3 76 #[.int .u8 11, .int .u8 dd, .int .u8 x, .int .u8 y, .int .i32 m])
  have hbi : w.heap.size + 1 + 1 + 1 + 1 < w3.heap.size := Nat.lt_of_lt_of_le HG.out.lt HB3.out.size
  clear c0 c1 c2 c3 c4 c5 c6 c7 c8 c9 c10 c11 c12 m0 m1 m2 m3 m4 m5 m6 m7 m8 m9 q0 q1 HB2 HB3 HG
  generalize w3.alloc (.cells #[.int .u8 11, .int .u8 dd, .int .u8 x, .int .u8 y, .int .i32 m] 76) = W at *
  generalize w3.heap.size = bi at *
  have K0 : RA w.heap.size bi pc (R 0) (R 1) (R 2) (R 3) (R 4) (R 5) (R 6) (R 7) a' n c' 0 ep home M.gt gr M.pg.length C gw M.ws.length d 11 dd x y m W.drew := ra_end (Below.refl _ _).drew ⟨HG3.out.rs, I3⟩
  have hbr : Below W.heap.size W W.drew := (Below.refl _ _).drew
  clear I3
  go_region_held3 (fun u => RA w.heap.size bi pc (R 0) (R 1) (R 2) (R 3) (R 4) (R 5) (R 6) (R 7) a' n c' 0 ep home M.gt gr M.pg.length C gw M.ws.length d 11 dd x y m u)
    (first | with_reducible exact K0 | with_reducible exact K1 | with_reducible exact K2)
    (first | (go_at_call 35; (with_reducible refine (CX.out _ _ _).mono ?_); rintro e w4 ⟨rfl, hb4⟩; have hB4 := below_of hbr hb4; have K1 := ra_end hb4 K0) | (go_at_call 35; (with_reducible refine (CD0.out _ _ _).mono ?_); rintro e w5' ⟨rfl, hb5⟩; have hB5 := below_of hB4 hb5; have K2 := ra_end hb5 K1))
  rename_i hHeld
  clear hHeld
  rw [show IntKind.u32.wrap m = m % 4294967296 from IntKind.wrap_u32 m]
  have HG5 := Lib.hid (HG3.out.belowS hB5)
  have KK := Lib.hid K2
  clear K0 K1 hbr hb4 hb5 hB4 hB5 CX CD0 HG3
  obtain ⟨⟨⟨c0, c1, c2, c3, c4, c5, c6, c7, c8, c9, c10, c11, c12⟩, m0, m1, m2, m3, m4, m5, m6, m7, m8, m9⟩, i0, i1, i2, i3, i4⟩ := K2
  have hI0 : 0 ≤ m % 4294967296 := by omega
  have hI1 : m % 4294967296 ≤ 4294967295 := by omega
  generalize m % 4294967296 = I at *
  go_upto_region 20 with (first | (go_at_call 36; (with_reducible refine (CTH.out _).mono ?_); rintro e w6 ⟨rfl, hb6⟩; have HG6 := Lib.hid (HG5.out.belowS hb6); have K6 := Lib.hid (ra_end hb6 KK.out); clear hb6 HG5 KK; obtain ⟨⟨⟨c0, c1, c2, c3, c4, c5, c6, c7, c8, c9, c10, c11, c12⟩, m0, m1, m2, m3, m4, m5, m6, m7, m8, m9⟩, i0, i1, i2, i3, i4⟩ := K6.out))
  clear c0 c1 c2 c3 c4 c5 c6 c7 c8 c9 c10 c11 c12 m0 m1 m2 m3 m4 m5 m6 m7 m8 m9 i0 i1 i2 i3 i4
  have SX : RA w.heap.size bi pc (R 0) (R 1) (R 2) (R 3) (R 4) (R 5) (R 6) (R 7) a' n c' 0 ep home M.gt gr M.pg.length C gw M.ws.length d 11 dd x y m w6.drew := ra_end (Below.refl _ _).drew K6.out
  have HGd := Lib.hid HG6.out.drew
  refine wp_region_held_drew (S := fun u => RA w.heap.size bi pc (R 0) (R 1) (R 2) (R 3) (R 4) (R 5) (R 6) (R 7) a' n c' 0 ep home M.gt gr M.pg.length C gw M.ws.length d 11 dd x y m u) (by kernel_rfl) SX (fun hHeld => ?_)
  refine wpAnyH_take (i := 0) (v := ?vv1) rfl (by kernel_rfl) (by kernel_rfl) (by kernel_rfl) (fun _ _ _ h => h) (Or.inl ⟨by rfl, ?hy1⟩) (by assumption) ?rest1
  case hy1 =>
    intro u hSu
    obtain ⟨⟨⟨s0, s1, s2, s3, s4, s5, s6, s7, s8, s9, s10, s11, s12⟩, s13, s14, s15, s16, s17, s18, s19, s20, s21, s22⟩, s23, s24, s25, s26, s27⟩ := hSu
    go_simp
    try with_reducible rfl
  try simp only [Act.put, List.getElem_toArray, List.getElem_cons_succ, List.getElem_cons_zero, List.setIfInBounds_toArray, List.set_cons_zero, List.set_cons_succ]
  refine wpAnyH_take (i := 1) (v := ?vv2) rfl (by kernel_rfl) (by kernel_rfl) (by kernel_rfl) (fun _ _ _ h => h) (Or.inl ⟨by rfl, ?hy2⟩) (by assumption) ?rest2
  case hy2 =>
    intro u hSu
    obtain ⟨⟨⟨s0, s1, s2, s3, s4, s5, s6, s7, s8, s9, s10, s11, s12⟩, s13, s14, s15, s16, s17, s18, s19, s20, s21, s22⟩, s23, s24, s25, s26, s27⟩ := hSu
    go_simp
    try with_reducible rfl
  try simp only [Act.put, List.getElem_toArray, List.getElem_cons_succ, List.getElem_cons_zero, List.setIfInBounds_toArray, List.set_cons_zero, List.set_cons_succ]
  refine wpAnyH_take (i := 2) (v := ?vv3) rfl (by kernel_rfl) (by kernel_rfl) (by kernel_rfl) (fun _ _ _ h => h) (Or.inl ⟨by rfl, ?hy3⟩) (by assumption) ?rest3
  case hy3 =>
    intro u hSu
    obtain ⟨⟨⟨s0, s1, s2, s3, s4, s5, s6, s7, s8, s9, s10, s11, s12⟩, s13, s14, s15, s16, s17, s18, s19, s20, s21, s22⟩, s23, s24, s25, s26, s27⟩ := hSu
    go_simp
    try with_reducible rfl
  try simp only [Act.put, List.getElem_toArray, List.getElem_cons_succ, List.getElem_cons_zero, List.setIfInBounds_toArray, List.set_cons_zero, List.set_cons_succ]
  refine wpAnyH_take (i := 3) (v := ?vv4) rfl (by kernel_rfl) (by kernel_rfl) (by kernel_rfl) (fun _ _ _ h => h) (Or.inl ⟨by rfl, ?hy4⟩) (by assumption) ?rest4
  case hy4 =>
    intro u hSu
    obtain ⟨⟨⟨s0, s1, s2, s3, s4, s5, s6, s7, s8, s9, s10, s11, s12⟩, s13, s14, s15, s16, s17, s18, s19, s20, s21, s22⟩, s23, s24, s25, s26, s27⟩ := hSu
    go_simp
    try with_reducible rfl
  try simp only [Act.put, List.getElem_toArray, List.getElem_cons_succ, List.getElem_cons_zero, List.setIfInBounds_toArray, List.set_cons_zero, List.set_cons_succ]
  refine wpAnyH_take (i := 4) (v := ?vv5) rfl (by kernel_rfl) (by kernel_rfl) (by kernel_rfl) (fun _ _ _ h => h) (Or.inl ⟨by rfl, ?hy5⟩) (by assumption) ?rest5
  case hy5 =>
    intro u hSu
    obtain ⟨⟨⟨s0, s1, s2, s3, s4, s5, s6, s7, s8, s9, s10, s11, s12⟩, s13, s14, s15, s16, s17, s18, s19, s20, s21, s22⟩, s23, s24, s25, s26, s27⟩ := hSu
    go_simp
    try with_reducible rfl
  try simp only [Act.put, List.getElem_toArray, List.getElem_cons_succ, List.getElem_cons_zero, List.setIfInBounds_toArray, List.set_cons_zero, List.set_cons_succ]
  refine wpAnyH_take (i := 5) (v := ?vv6) rfl (by kernel_rfl) (by kernel_rfl) (by kernel_rfl) (fun _ _ _ h => h) (Or.inl ⟨by rfl, ?hy6⟩) (by assumption) ?rest6
  case hy6 =>
    intro u hSu
    obtain ⟨⟨⟨s0, s1, s2, s3, s4, s5, s6, s7, s8, s9, s10, s11, s12⟩, s13, s14, s15, s16, s17, s18, s19, s20, s21, s22⟩, s23, s24, s25, s26, s27⟩ := hSu
    go_simp
    try with_reducible rfl
  try simp only [Act.put, List.getElem_toArray, List.getElem_cons_succ, List.getElem_cons_zero, List.setIfInBounds_toArray, List.set_cons_zero, List.set_cons_succ]
  refine wpAnyH_take (i := 8) (v := ?vv7) rfl (by kernel_rfl) (by kernel_rfl) (by kernel_rfl) (fun _ _ _ h => h) (Or.inl ⟨by rfl, ?hy7⟩) (by assumption) ?rest7
  case hy7 =>
    intro u hSu
    obtain ⟨⟨⟨s0, s1, s2, s3, s4, s5, s6, s7, s8, s9, s10, s11, s12⟩, s13, s14, s15, s16, s17, s18, s19, s20, s21, s22⟩, s23, s24, s25, s26, s27⟩ := hSu
    go_simp
    try with_reducible rfl
  try simp only [Act.put, List.getElem_toArray, List.getElem_cons_succ, List.getElem_cons_zero, List.setIfInBounds_toArray, List.set_cons_zero, List.set_cons_succ]
  refine wpAnyH_take (i := 9) (v := ?vv8) rfl (by kernel_rfl) (by kernel_rfl) (by kernel_rfl) (fun _ _ _ h => h) (Or.inl ⟨by rfl, ?hy8⟩) (by assumption) ?rest8
  case hy8 =>
    intro u hSu
    obtain ⟨⟨⟨s0, s1, s2, s3, s4, s5, s6, s7, s8, s9, s10, s11, s12⟩, s13, s14, s15, s16, s17, s18, s19, s20, s21, s22⟩, s23, s24, s25, s26, s27⟩ := hSu
    go_simp
    try with_reducible rfl
  try simp only [Act.put, List.getElem_toArray, List.getElem_cons_succ, List.getElem_cons_zero, List.setIfInBounds_toArray, List.set_cons_zero, List.set_cons_succ]
  rw [show IntKind.u32.wrap (Xv + I) = (Xv + I) % 4294967296 from IntKind.wrap_u32 _]
  generalize hAT : (Xv + I) % 4294967296 = AT at *
  clear hAT
  refine wpAnyH_ready (rs := [6]) (by kernel_rfl) (by simp) ?_
  refine AllReadyH.cons rfl (fun K hK => ?_) AllReadyH.nil
  (go_simp; go_at_call 38; (with_reducible refine (CP9.out _ _ _ _).mono ?_); rintro e w7 ⟨rfl, hb7⟩; have HG7' := Lib.hid (HGd.out.belowS hb7); have S7 := ra_end hb7 SX)
  refine hK.out _ _ ?hS9 (fun hHeld => ?rst9)
  case hS9 => exact S7
  clear hK K
  try simp only [Act.put, List.getElem_toArray, List.getElem_cons_succ, List.getElem_cons_zero, List.setIfInBounds_toArray, List.set_cons_zero, List.set_cons_succ]
  refine wpAnyH_ready (rs := [7]) (by kernel_rfl) (by simp) ?_
  refine AllReadyH.cons rfl (fun K hK => ?_) AllReadyH.nil
  (go_simp; go_at_call 37; (with_reducible refine (CN9.out _ _ _ _).mono ?_); rintro e w8 ⟨rfl, hb8⟩; have HG8' := Lib.hid (HG7'.out.belowS hb8); have S8 := ra_end hb8 S7)
  refine hK.out _ _ ?hS10 (fun hHeld => ?rst10)
  case hS10 => exact S8
  clear hK K
  try simp only [Act.put, List.getElem_toArray, List.getElem_cons_succ, List.getElem_cons_zero, List.setIfInBounds_toArray, List.set_cons_zero, List.set_cons_succ]
  obtain ⟨z1, x1, s1⟩ := HG8'.out.E.h
  have EE1 := Lib.hid HG8'.out.E
  refine wpAnyH_ready (rs := [10]) (by kernel_rfl) (by simp) ?_
  refine AllReadyH.cons rfl (fun K hK => ?_) AllReadyH.nil
  refine ws_H rfl rfl x1 s1 rfl rfl ?_
  refine hK.out _ _ ?hS11 (fun hHeld => ?rst11)
  case hS11 => exact ra_H hbi S8 ..
  clear hK K
  try simp only [Act.put, List.getElem_toArray, List.getElem_cons_succ, List.getElem_cons_zero, List.setIfInBounds_toArray, List.set_cons_zero, List.set_cons_succ]
  obtain ⟨⟨z2, x2, s2⟩, z3, x3, s3⟩ := EE1.out.m1 (up pc) (putR R dd AT 0) (putR R dd AT 1) (putR R dd AT 2) (putR R dd AT 3) (putR R dd AT 4) (putR R dd AT 5) (putR R dd AT 6) (putR R dd AT 7) a' n c' 0 ep home
  have T1 := ra_H hbi S8 (up pc) (putR R dd AT 0) (putR R dd AT 1) (putR R dd AT 2) (putR R dd AT 3) (putR R dd AT 4) (putR R dd AT 5) (putR R dd AT 6) (putR R dd AT 7) a' n c' 0 ep home
  generalize hW1 : putH w8 (w.heap.size + 1 + 1) (up pc) (putR R dd AT 0) (putR R dd AT 1) (putR R dd AT 2) (putR R dd AT 3) (putR R dd AT 4) (putR R dd AT 5) (putR R dd AT 6) (putR R dd AT 7) a' n c' 0 ep home = V1 at *
  have hV1 := Lib.hid hW1
  clear hW1
  refine wpAnyH_ready (rs := [11]) (by kernel_rfl) (by simp) ?_
  refine AllReadyH.cons rfl (fun K hK => ?_) AllReadyH.nil
  refine ws_B (G := M.gt) (gr := gr) (N := M.pg.length) (C := C) (gw := gw) (m := M.ws.length) (d := d) rfl rfl x2 s2 rfl rfl ?_
  refine hK.out _ _ ?hS12 (fun hHeld => ?rst12)
  case hS12 => exact ra_B hbi T1 ..
  clear hK K
  try simp only [Act.put, List.getElem_toArray, List.getElem_cons_succ, List.getElem_cons_zero, List.setIfInBounds_toArray, List.set_cons_zero, List.set_cons_succ]
  have T2 := ra_B hbi T1 M.gt gr M.pg.length C gw M.ws.length d
  replace x3 := x3.fr (putB_fr V1 (w.heap.size + 1 + 1 + 1) M.gt gr M.pg.length C gw M.ws.length d) (by omega)
  generalize hW2 : putB V1 (w.heap.size + 1 + 1 + 1) M.gt gr M.pg.length C gw M.ws.length d = V2 at *
  have hV2 := Lib.hid hW2
  clear hW2
  refine wpAnyH_ready (rs := [12]) (by kernel_rfl) (by simp) ?_
  refine AllReadyH.cons rfl (fun K hK => ?_) AllReadyH.nil
  refine ws_M rfl rfl x3 s3 rfl rfl ?_
  refine hK.out _ _ ?hS13 (fun hHeld => ?rst13)
  case hS13 => exact ra_N hbi T2 ..
  clear hK K
  try simp only [Act.put, List.getElem_toArray, List.getElem_cons_succ, List.getElem_cons_zero, List.setIfInBounds_toArray, List.set_cons_zero, List.set_cons_succ]
  generalize hW3 : putN V2 (w.heap.size + 1 + 1 + 1 + 1) false false 0 0 = V3 at *
  have hV3 := Lib.hid hW3
  clear hW3
  refine wpAnyH_done (by kernel_rfl) ?_ _
  repeat (first | (with_reducible refine q_te ?_) | (with_reducible refine q_tr ?_) | (with_reducible refine q_br ?_) | (with_reducible refine q_be ?_) | (with_reducible refine q_bn rfl ?_) | go_values | go_skip | go_guarded | go_step | go_upon | go_back | (go_ite <;> go_prune <;> (try go_simp)))
  have j3 := hV3.out
  subst j3
  have j2 := hV2.out
  subst j2
  have j1 := hV1.out
  subst j1
  obtain ⟨yy1, yy2, yy3⟩ := HG8'.out.E.wholes (up pc) (putR R dd AT 0) (putR R dd AT 1) (putR R dd AT 2) (putR R dd AT 3) (putR R dd AT 4) (putR R dd AT 5) (putR R dd AT 6) (putR R dd AT 7) a' n c' 0 ep home M.gt gr M.pg.length C gw M.ws.length d false false 0 0
  have Y1 := hart_cells yy1
  have Y2 := box_cells yy2
  have Y3 := note_cells yy3
  refine bodyPost_ret (v := .tuple #[hV (up pc) (putR R dd AT) a' n c' 0 ep home, rV M.gt gr M.pg.length C gw M.ws.length d, nV false false 0 0]) (by simp [results, Tryz.results9, go_sem, Y1, Y2, Y3]) rfl ?_
  exact HG8'.out.fin (r := setR ⟨pc, R, l, 0, ep, home⟩ M dd AT) rfl HG8'.out.rm (Or.inl rfl)
end Go.Proofs.YtihcellcdkhadaaGreat.HF
