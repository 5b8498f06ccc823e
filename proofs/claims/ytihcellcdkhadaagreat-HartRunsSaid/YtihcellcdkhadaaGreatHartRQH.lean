/-
  The reference's step: operations. Nothing here is a statement of the seed.
-/
import Derived.Test.YtihcellcdkhadaaGreatHartRP
set_option linter.unusedSimpArgs false
set_option linter.unusedVariables false
namespace Go.Proofs.YtihcellcdkhadaaGreat.HF
open Go.RowKit PM PR PF MM MR MF HM HR
open IM
set_option maxHeartbeats 16000000
set_option maxRecDepth 10000
theorem rop_18e {G : Nat → Prop} {w : World} {gr C gw d : Nat} {M : Mm} {a : Option Addr} {n c : Nat} {pc : Int} {R : Nat → Int} {l : List Int} {ep home : Int} (rm : Rm w gr C gw d M) (hr : Reads G w (.slice a n c) (wcs l)) (hn : n * 4 ≤ 140737488355328) (xe fw fo : Int) (dd x y m : Int) (hd : 0 ≤ dd ∧ dd ≤ 7) (hx : 0 ≤ x ∧ x ≤ 7) (hy : 0 ≤ y ∧ y ≤ 7) (hm : -1048576 ≤ m ∧ m ≤ 1048575) (CF : ∀ u, Below w.heap.size w u → Calls Tryz.prog 32 #[rV M.gt gr M.pg.length C gw M.ws.length d, .int .u32 pc, .int .u64 ep] u fun e w' => e = .returned (.tuple #[.int .u32 fw, .int .u16 fo, .bool true]) ∧ Below u.heap.size u w') (CD : ∀ u, Calls Tryz.prog 34 #[.int .u32 fw] u fun e w' => e = .returned (.tuple #[.agg #[.int .u8 18, .int .u8 dd, .int .u8 x, .int .u8 y, .int .i32 m], .int .i64 0]) ∧ Below u.heap.size u w') (tg : Int) (tb : Bool) (CT : ∀ u, Calls Tryz.prog 36 #[.int .u32 pc, .agg #[.int .u8 18, .int .u8 dd, .int .u8 x, .int .u8 y, .int .i32 m]] u fun e w' => e = .returned (.tuple #[.int .u32 tg, .bool tb]) ∧ Below u.heap.size u w') (p2 y2 e2 : Int) (sf : Bool) (CSF : ∀ u a' c', Calls Tryz.prog 41 #[hV pc R a' n c' 0 ep home, .int .u64 xe, .int .u8 6] u fun e w' => e = .returned (.tuple #[hV p2 R a' n c' y2 e2 home, nV sf false 0 0]) ∧ Below u.heap.size u w') (hq : ((n : Int) == 0) = true) : Calls Tryz.prog 9 #[hV pc R a n c 0 ep home, rV M.gt gr M.pg.length C gw M.ws.length d, .int .u64 xe] w (RDid (⟨⟨p2, R, l, y2, e2, home⟩, M, sf, false, 0, 0⟩) gr C gw w) := by
  have hnmx := hr.len
  have CP := Lib.hid (refCopy_any (((((hr.alloc (.cells (hCs pc R a n c 0 ep home) 30)).alloc (.cells (rCs M.gt gr M.pg.length C gw M.ws.length d) 36)).alloc (.cells hZ 30)).alloc (.cells zCs 36)).alloc (.cells nZ 44)) hn pc R 0 ep home)
  have EN := Lib.hid (fun (w1 : World) (a' : Option Addr) (c' : Nat) (s : Sk w1 (w5 w (hCs pc R a n c 0 ep home) (rCs M.gt gr M.pg.length C gw M.ws.length d)).heap.size a' n c' l) (b : Below (w5 w (hCs pc R a n c 0 ep home) (rCs M.gt gr M.pg.length C gw M.ws.length d)).heap.size (w5 w (hCs pc R a n c 0 ep home) (rCs M.gt gr M.pg.length C gw M.ws.length d)) w1) => rstep_rg (h := ⟨pc, R, l, 0, ep, home⟩) rm hr hn s b)
  have BX := Lib.hid (w5_facts w (hCs pc R a n c 0 ep home) (rCs M.gt gr M.pg.length C gw M.ws.length d)).2.2.1
  simp only at EN
  have CFH := Lib.hid CF
  have CSH := Lib.hid CSF
  clear CSF
  have hq' := Lib.hid hq
  clear hq
  have CDH := Lib.hid CD
  have CTH := Lib.hid CT
  have CX := Lib.hid (fun u a' c' => refR_any pc R a' n c' 0 ep home x hx u)
  have CD0 := Lib.hid (fun u a' c' => refR_any pc R a' n c' 0 ep home dd hd u)
  clear CF CD CT rm hr hn hnmx
  generalize hA1 : getR R dd = Dv at *
  generalize hA2 : getR R x = Xv at *
  clear hA1 hA2
  obtain ⟨hm0, hm1⟩ := hm
  go_enter Tryz.func9, Tryz.ntmps9
  go_upto_region 2 with (go_at_call 7; (with_reducible refine CP.out.mono ?_); rintro e w1 ⟨a', c', rfl, sk, hb⟩; have HY := Lib.hid (EN.out _ _ _ sk hb); have B1' := BX.out.belowS hb; have q1 := B1'.lt; obtain ⟨⟨v0, v1, v2, v3, v4, v5, v6, v7, v8, v9, v10, v11, v12, e0, e1, e2, e3, e4, e5, e6, e7, e8, e9, e10, e11, e12⟩, f0, f1, f2, f3, f4, f5, f6, f7, f8, f9, f10, f11, f12⟩ := hart_open B1' rfl; clear sk hb B1')
  rw [putH_eq]
  have HY2 := HY.out
  clear HY EN CP BX q1 e0 e1 e2 e3 e4 e5 e6 e7 e8 e9 e10 e11 e12 f0 f1 f2 f3 f4 f5 f6 f7 f8 f9 f10 f11 f12
  generalize putH w1 w.heap.size pc (R 0) (R 1) (R 2) (R 3) (R 4) (R 5) (R 6) (R 7) a' n c' 0 ep home = u at *
  have HG := Lib.hid HY2
  clear HY2
  obtain ⟨c0, c1, c2, c3, c4, c5, c6, c7, c8, c9, c10, c11, c12⟩ := hart_cells HG.out.X
  obtain ⟨m0, m1, m2, m3, m4, m5, m6, m7, m8, m9⟩ := box_cells HG.out.Y
  have q0 := HG.out.X.lt
  have q1 := HG.out.Y.lt
  go_upto_region 10 with (first | (go_at_call 32; (with_reducible refine (CFH.out _ HG.out.B).mono ?_); rintro e w2 ⟨rfl, hb2⟩; have HB2 := Lib.hid hb2; clear hb2) | (go_at_call 34; (with_reducible refine (CDH.out _).mono ?_); rintro e w3 ⟨rfl, hb3⟩; have HB3 := Lib.hid (below_of HB2.out hb3); clear hb3))
  have HG3 := Lib.hid (HG.out.belowS (HB3.out.alloc HB3.out.size (.cells #[.int .u8 18, .int .u8 dd, .int .u8 x, .int .u8 y, .int .i32 m] 76)))
  have I3 := ic_of (Whole.new w3 76 #[.int .u8 18, .int .u8 dd, .int .u8 x, .int .u8 y, .int .i32 m])
  have hbi : w.heap.size + 1 + 1 + 1 + 1 < w3.heap.size := Nat.lt_of_lt_of_le HG.out.lt HB3.out.size
  clear c0 c1 c2 c3 c4 c5 c6 c7 c8 c9 c10 c11 c12 m0 m1 m2 m3 m4 m5 m6 m7 m8 m9 q0 q1 HB2 HB3 HG
  generalize w3.alloc (.cells #[.int .u8 18, .int .u8 dd, .int .u8 x, .int .u8 y, .int .i32 m] 76) = W at *
  generalize w3.heap.size = bi at *
  have K0 : RA w.heap.size bi pc (R 0) (R 1) (R 2) (R 3) (R 4) (R 5) (R 6) (R 7) a' n c' 0 ep home M.gt gr M.pg.length C gw M.ws.length d 18 dd x y m W.drew := ra_end (Below.refl _ _).drew ⟨HG3.out.rs, I3⟩
  have hbr : Below W.heap.size W W.drew := (Below.refl _ _).drew
  clear I3
  go_region_held3 (fun u => RA w.heap.size bi pc (R 0) (R 1) (R 2) (R 3) (R 4) (R 5) (R 6) (R 7) a' n c' 0 ep home M.gt gr M.pg.length C gw M.ws.length d 18 dd x y m u)
    (first | with_reducible exact K0 | with_reducible exact K1 | with_reducible exact K2)
    (first | (go_at_call 35; (with_reducible refine (CX.out _ _ _).mono ?_); rintro e w4 ⟨rfl, hb4⟩; have hB4 := below_of hbr hb4; have K1 := ra_end hb4 K0) | (go_at_call 35; (with_reducible refine (CD0.out _ _ _).mono ?_); rintro e w5' ⟨rfl, hb5⟩; have hB5 := below_of hB4 hb5; have K2 := ra_end hb5 K1))
  rename_i hHeld
  clear hHeld
  rw [show IntKind.u32.wrap m = m % 4294967296 from IntKind.wrap_u32 m]
  have HG5 := Lib.hid (HG3.out.belowS hB5)
  have KK := Lib.hid K2
  clear K0 K1 hbr hb4 hb5 hB4 hB5 CX CD0 HG3
  obtain ⟨⟨⟨c0, c1, c2, c3, c4, c5, c6, c7, c8, c9, c10, c11, c12⟩, m0, m1, m2, m3, m4, m5, m6, m7, m8, m9⟩, i0, i1, i2, i3, i4⟩ := K2
  have hq := hq'.out
  go_upto_region 47 with (first | (go_at_call 36; (with_reducible refine (CTH.out _).mono ?_); rintro e w6 ⟨rfl, hb6⟩; have HG6 := Lib.hid (HG5.out.belowS hb6); have K6 := Lib.hid (ra_end hb6 KK.out); clear hb6 HG5 KK; obtain ⟨⟨⟨c0, c1, c2, c3, c4, c5, c6, c7, c8, c9, c10, c11, c12⟩, m0, m1, m2, m3, m4, m5, m6, m7, m8, m9⟩, i0, i1, i2, i3, i4⟩ := K6.out))
  go_upto_region 49 with fail
  go_upto_region 50 with (go_at_call 41; (with_reducible refine (CSH.out _ _ _).mono ?_); rintro e w9 ⟨rfl, hb9⟩; have HG9 := Lib.hid (HG6.out.belowS hb9); clear hb9)
  clear c0 c1 c2 c3 c4 c5 c6 c7 c8 c9 c10 c11 c12 m0 m1 m2 m3 m4 m5 m6 m7 m8 m9 i0 i1 i2 i3 i4
  have hbx := HG9.out.lt
  obtain ⟨HG10, SB10⟩ := HG9.out.safebox p2 y2 e2 sf
  simp only at HG10 SB10
  have HGs := Lib.hid HG10
  clear HG10
  generalize ((w9.alloc (.cells #[.int .u32 p2, .int .u32 (R 0), .int .u32 (R 1), .int .u32 (R 2), .int .u32 (R 3), .int .u32 (R 4), .int .u32 (R 5), .int .u32 (R 6), .int .u32 (R 7), .slice a' n c', .int .u8 y2, .int .u64 e2, .int .u32 home] 30)).alloc (.cells #[.bool sf, .bool false, .int .u32 0, .int .u32 0] 44)) = V at *
  generalize w9.heap.size = bx at *
  have SX : SB w.heap.size bx pc (R 0) (R 1) (R 2) (R 3) (R 4) (R 5) (R 6) (R 7) a' n c' 0 ep home M.gt gr M.pg.length C gw M.ws.length d p2 y2 e2 sf V.drew := sb_fr (S := fun _ => False) (Fr.of_below (Below.refl _ _).drew) SB10 (fun h => h) (fun h => h) (fun h => h) (fun h => h)
  have HGd := Lib.hid HGs.out.drew
  refine wp_region_held_drew (S := fun u => SB w.heap.size bx pc (R 0) (R 1) (R 2) (R 3) (R 4) (R 5) (R 6) (R 7) a' n c' 0 ep home M.gt gr M.pg.length C gw M.ws.length d p2 y2 e2 sf u) (by kernel_rfl) SX (fun hHeld => ?_)
  refine wpAnyH_take (i := 0) (v := ?vv1) rfl (by kernel_rfl) (by kernel_rfl) (by kernel_rfl) (fun _ _ _ h => h) (Or.inl ⟨by rfl, ?hy1⟩) (by assumption) ?rest1
  case hy1 =>
    intro u hSu
    obtain ⟨⟨⟨⟨s0, s1, s2, s3, s4, s5, s6, s7, s8, s9, s10, s11, s12⟩, s13, s14, s15, s16, s17, s18, s19, s20, s21, s22⟩, s23, s24, s25, s26, s27, s28, s29, s30, s31, s32, s33, s34, s35⟩, s36, s37, s38, s39⟩ := hSu
    go_simp
    try with_reducible rfl
  try simp only [Act.put, List.getElem_toArray, List.getElem_cons_succ, List.getElem_cons_zero, List.setIfInBounds_toArray, List.set_cons_zero, List.set_cons_succ]
  refine wpAnyH_take (i := 1) (v := ?vv2) rfl (by kernel_rfl) (by kernel_rfl) (by kernel_rfl) (fun _ _ _ h => h) (Or.inl ⟨by rfl, ?hy2⟩) (by assumption) ?rest2
  case hy2 =>
    intro u hSu
    obtain ⟨⟨⟨⟨s0, s1, s2, s3, s4, s5, s6, s7, s8, s9, s10, s11, s12⟩, s13, s14, s15, s16, s17, s18, s19, s20, s21, s22⟩, s23, s24, s25, s26, s27, s28, s29, s30, s31, s32, s33, s34, s35⟩, s36, s37, s38, s39⟩ := hSu
    go_simp
    try with_reducible rfl
  try simp only [Act.put, List.getElem_toArray, List.getElem_cons_succ, List.getElem_cons_zero, List.setIfInBounds_toArray, List.set_cons_zero, List.set_cons_succ]
  refine wpAnyH_take (i := 2) (v := ?vv3) rfl (by kernel_rfl) (by kernel_rfl) (by kernel_rfl) (fun _ _ _ h => h) (Or.inl ⟨by rfl, ?hy3⟩) (by assumption) ?rest3
  case hy3 =>
    intro u hSu
    obtain ⟨⟨⟨⟨s0, s1, s2, s3, s4, s5, s6, s7, s8, s9, s10, s11, s12⟩, s13, s14, s15, s16, s17, s18, s19, s20, s21, s22⟩, s23, s24, s25, s26, s27, s28, s29, s30, s31, s32, s33, s34, s35⟩, s36, s37, s38, s39⟩ := hSu
    go_simp
    try with_reducible rfl
  try simp only [Act.put, List.getElem_toArray, List.getElem_cons_succ, List.getElem_cons_zero, List.setIfInBounds_toArray, List.set_cons_zero, List.set_cons_succ]
  obtain ⟨z1, x1, s1⟩ := HGd.out.E.h
  have EE1 := Lib.hid HGd.out.E
  refine wpAnyH_ready (rs := [3]) (by kernel_rfl) (by simp) ?_
  refine AllReadyH.cons rfl (fun K hK => ?_) AllReadyH.nil
  refine ws_H rfl rfl x1 s1 rfl rfl ?_
  refine hK.out _ _ ?hS4 (fun hHeld => ?rst4)
  case hS4 => exact sb_fr (putH_fr _ _ ..) SX (by omega) (by omega) (by omega) (by omega)
  clear hK K
  try simp only [Act.put, List.getElem_toArray, List.getElem_cons_succ, List.getElem_cons_zero, List.setIfInBounds_toArray, List.set_cons_zero, List.set_cons_succ]
  obtain ⟨⟨z2, x2, s2⟩, z3, x3, s3⟩ := EE1.out.m1 p2 (R 0) (R 1) (R 2) (R 3) (R 4) (R 5) (R 6) (R 7) a' n c' y2 e2 home
  have T1 := sb_fr (putH_fr _ (w.heap.size + 1 + 1) p2 (R 0) (R 1) (R 2) (R 3) (R 4) (R 5) (R 6) (R 7) a' n c' y2 e2 home) SX (by omega) (by omega) (by omega) (by omega)
  generalize hW1 : putH V.drew (w.heap.size + 1 + 1) p2 (R 0) (R 1) (R 2) (R 3) (R 4) (R 5) (R 6) (R 7) a' n c' y2 e2 home = V1 at *
  have hV1 := Lib.hid hW1
  clear hW1
  refine wpAnyH_ready (rs := [4]) (by kernel_rfl) (by simp) ?_
  refine AllReadyH.cons rfl (fun K hK => ?_) AllReadyH.nil
  refine ws_B (G := M.gt) (gr := gr) (N := M.pg.length) (C := C) (gw := gw) (m := M.ws.length) (d := d) rfl rfl x2 s2 rfl rfl ?_
  refine hK.out _ _ ?hS5 (fun hHeld => ?rst5)
  case hS5 => exact sb_fr (putB_fr _ _ ..) T1 (by omega) (by omega) (by omega) (by omega)
  clear hK K
  try simp only [Act.put, List.getElem_toArray, List.getElem_cons_succ, List.getElem_cons_zero, List.setIfInBounds_toArray, List.set_cons_zero, List.set_cons_succ]
  have T2 := sb_fr (putB_fr _ (w.heap.size + 1 + 1 + 1) M.gt gr M.pg.length C gw M.ws.length d) T1 (by omega) (by omega) (by omega) (by omega)
  replace x3 := x3.fr (putB_fr V1 (w.heap.size + 1 + 1 + 1) M.gt gr M.pg.length C gw M.ws.length d) (by omega)
  generalize hW2 : putB V1 (w.heap.size + 1 + 1 + 1) M.gt gr M.pg.length C gw M.ws.length d = V2 at *
  have hV2 := Lib.hid hW2
  clear hW2
  refine wpAnyH_ready (rs := [5]) (by kernel_rfl) (by simp) ?_
  refine AllReadyH.cons rfl (fun K hK => ?_) AllReadyH.nil
  refine ws_M rfl rfl x3 s3 rfl rfl ?_
  refine hK.out _ _ ?hS6 (fun hHeld => ?rst6)
  case hS6 => exact sb_fr (putN_fr _ _ ..) T2 (by omega) (by omega) (by omega) (by omega)
  clear hK K
  try simp only [Act.put, List.getElem_toArray, List.getElem_cons_succ, List.getElem_cons_zero, List.setIfInBounds_toArray, List.set_cons_zero, List.set_cons_succ]
  generalize hW3 : putN V2 (w.heap.size + 1 + 1 + 1 + 1) sf false 0 0 = V3 at *
  have hV3 := Lib.hid hW3
  clear hW3
  refine wpAnyH_done (by kernel_rfl) ?_ _
  repeat (first | (with_reducible refine q_te ?_) | (with_reducible refine q_tr ?_) | (with_reducible refine q_br ?_) | (with_reducible refine q_be ?_) | (with_reducible refine q_bn rfl ?_) | go_values | go_skip | go_guarded | go_step | go_upon | go_back | (go_ite <;> go_prune <;> (try go_simp)))
  have j3 := hV3.out
  subst j3
  have j2 := hV2.out
  subst j2
  have j1 := hV1.out
  subst j1
  obtain ⟨yy1, yy2, yy3⟩ := HGd.out.E.wholes p2 (R 0) (R 1) (R 2) (R 3) (R 4) (R 5) (R 6) (R 7) a' n c' y2 e2 home M.gt gr M.pg.length C gw M.ws.length d sf false 0 0
  have Y1 := hart_cells yy1
  have Y2 := box_cells yy2
  have Y3 := note_cells yy3
  refine bodyPost_ret (v := .tuple #[hV p2 R a' n c' y2 e2 home, rV M.gt gr M.pg.length C gw M.ws.length d, nV sf false 0 0]) (by simp [results, Tryz.results9, go_sem, Y1, Y2, Y3]) rfl ?_
  exact HGd.out.fin (r := ⟨⟨p2, R, l, y2, e2, home⟩, M, sf, false, 0, 0⟩) rfl HGd.out.rm (Or.inl rfl)
theorem rop_20 {G : Nat → Prop} {w : World} {gr C gw d : Nat} {M : Mm} {a : Option Addr} {n c : Nat} {pc : Int} {R : Nat → Int} {l : List Int} {ep home : Int} (rm : Rm w gr C gw d M) (hr : Reads G w (.slice a n c) (wcs l)) (hn : n * 4 ≤ 140737488355328) (xe fw fo : Int) (dd x y m : Int) (hd : 0 ≤ dd ∧ dd ≤ 7) (hx : 0 ≤ x ∧ x ≤ 7) (hy : 0 ≤ y ∧ y ≤ 7) (hm : -1048576 ≤ m ∧ m ≤ 1048575) (CF : ∀ u, Below w.heap.size w u → Calls Tryz.prog 32 #[rV M.gt gr M.pg.length C gw M.ws.length d, .int .u32 pc, .int .u64 ep] u fun e w' => e = .returned (.tuple #[.int .u32 fw, .int .u16 fo, .bool true]) ∧ Below u.heap.size u w') (CD : ∀ u, Calls Tryz.prog 34 #[.int .u32 fw] u fun e w' => e = .returned (.tuple #[.agg #[.int .u8 20, .int .u8 dd, .int .u8 x, .int .u8 y, .int .i32 m], .int .i64 0]) ∧ Below u.heap.size u w') (tg : Int) (tb : Bool) (CT : ∀ u, Calls Tryz.prog 36 #[.int .u32 pc, .agg #[.int .u8 20, .int .u8 dd, .int .u8 x, .int .u8 y, .int .i32 m]] u fun e w' => e = .returned (.tuple #[.int .u32 tg, .bool tb]) ∧ Below u.heap.size u w') (p2 y2 e2 : Int) (sf : Bool) (CSF : ∀ u a' c', Calls Tryz.prog 41 #[hV pc R a' n c' 0 ep home, .int .u64 xe, .int .u8 6] u fun e w' => e = .returned (.tuple #[hV p2 R a' n c' y2 e2 home, nV sf false 0 0]) ∧ Below u.heap.size u w') : Calls Tryz.prog 9 #[hV pc R a n c 0 ep home, rV M.gt gr M.pg.length C gw M.ws.length d, .int .u64 xe] w (RDid (⟨⟨p2, R, l, y2, e2, home⟩, M, sf, false, 0, 0⟩) gr C gw w) := by
  have hnmx := hr.len
  have CP := Lib.hid (refCopy_any (((((hr.alloc (.cells (hCs pc R a n c 0 ep home) 30)).alloc (.cells (rCs M.gt gr M.pg.length C gw M.ws.length d) 36)).alloc (.cells hZ 30)).alloc (.cells zCs 36)).alloc (.cells nZ 44)) hn pc R 0 ep home)
  have EN := Lib.hid (fun (w1 : World) (a' : Option Addr) (c' : Nat) (s : Sk w1 (w5 w (hCs pc R a n c 0 ep home) (rCs M.gt gr M.pg.length C gw M.ws.length d)).heap.size a' n c' l) (b : Below (w5 w (hCs pc R a n c 0 ep home) (rCs M.gt gr M.pg.length C gw M.ws.length d)).heap.size (w5 w (hCs pc R a n c 0 ep home) (rCs M.gt gr M.pg.length C gw M.ws.length d)) w1) => rstep_rg (h := ⟨pc, R, l, 0, ep, home⟩) rm hr hn s b)
  have BX := Lib.hid (w5_facts w (hCs pc R a n c 0 ep home) (rCs M.gt gr M.pg.length C gw M.ws.length d)).2.2.1
  simp only at EN
  have CFH := Lib.hid CF
  have CSH := Lib.hid CSF
  clear CSF
  have CDH := Lib.hid CD
  have CTH := Lib.hid CT
  have CX := Lib.hid (fun u a' c' => refR_any pc R a' n c' 0 ep home x hx u)
  have CD0 := Lib.hid (fun u a' c' => refR_any pc R a' n c' 0 ep home dd hd u)
  clear CF CD CT rm hr hn hnmx
  generalize hA1 : getR R dd = Dv at *
  generalize hA2 : getR R x = Xv at *
  clear hA1 hA2
  obtain ⟨hm0, hm1⟩ := hm
  go_enter Tryz.func9, Tryz.ntmps9
  go_upto_region 2 with (go_at_call 7; (with_reducible refine CP.out.mono ?_); rintro e w1 ⟨a', c', rfl, sk, hb⟩; have HY := Lib.hid (EN.out _ _ _ sk hb); have B1' := BX.out.belowS hb; have q1 := B1'.lt; obtain ⟨⟨v0, v1, v2, v3, v4, v5, v6, v7, v8, v9, v10, v11, v12, e0, e1, e2, e3, e4, e5, e6, e7, e8, e9, e10, e11, e12⟩, f0, f1, f2, f3, f4, f5, f6, f7, f8, f9, f10, f11, f12⟩ := hart_open B1' rfl; clear sk hb B1')
  rw [putH_eq]
  have HY2 := HY.out
  clear HY EN CP BX q1 e0 e1 e2 e3 e4 e5 e6 e7 e8 e9 e10 e11 e12 f0 f1 f2 f3 f4 f5 f6 f7 f8 f9 f10 f11 f12
  generalize putH w1 w.heap.size pc (R 0) (R 1) (R 2) (R 3) (R 4) (R 5) (R 6) (R 7) a' n c' 0 ep home = u at *
  have HG := Lib.hid HY2
  clear HY2
  obtain ⟨c0, c1, c2, c3, c4, c5, c6, c7, c8, c9, c10, c11, c12⟩ := hart_cells HG.out.X
  obtain ⟨m0, m1, m2, m3, m4, m5, m6, m7, m8, m9⟩ := box_cells HG.out.Y
  have q0 := HG.out.X.lt
  have q1 := HG.out.Y.lt
  go_upto_region 10 with (first | (go_at_call 32; (with_reducible refine (CFH.out _ HG.out.B).mono ?_); rintro e w2 ⟨rfl, hb2⟩; have HB2 := Lib.hid hb2; clear hb2) | (go_at_call 34; (with_reducible refine (CDH.out _).mono ?_); rintro e w3 ⟨rfl, hb3⟩; have HB3 := Lib.hid (below_of HB2.out hb3); clear hb3))
  have HG3 := Lib.hid (HG.out.belowS (HB3.out.alloc HB3.out.size (.cells #[.int .u8 20, .int .u8 dd, .int .u8 x, .int .u8 y, .int .i32 m] 76)))
  have I3 := ic_of (Whole.new w3 76 #[.int .u8 20, .int .u8 dd, .int .u8 x, .int .u8 y, .int .i32 m])
  have hbi : w.heap.size + 1 + 1 + 1 + 1 < w3.heap.size := Nat.lt_of_lt_of_le HG.out.lt HB3.out.size
  clear c0 c1 c2 c3 c4 c5 c6 c7 c8 c9 c10 c11 c12 m0 m1 m2 m3 m4 m5 m6 m7 m8 m9 q0 q1 HB2 HB3 HG
  generalize w3.alloc (.cells #[.int .u8 20, .int .u8 dd, .int .u8 x, .int .u8 y, .int .i32 m] 76) = W at *
  generalize w3.heap.size = bi at *
  have K0 : RA w.heap.size bi pc (R 0) (R 1) (R 2) (R 3) (R 4) (R 5) (R 6) (R 7) a' n c' 0 ep home M.gt gr M.pg.length C gw M.ws.length d 20 dd x y m W.drew := ra_end (Below.refl _ _).drew ⟨HG3.out.rs, I3⟩
  have hbr : Below W.heap.size W W.drew := (Below.refl _ _).drew
  clear I3
  go_region_held3 (fun u => RA w.heap.size bi pc (R 0) (R 1) (R 2) (R 3) (R 4) (R 5) (R 6) (R 7) a' n c' 0 ep home M.gt gr M.pg.length C gw M.ws.length d 20 dd x y m u)
    (first | with_reducible exact K0 | with_reducible exact K1 | with_reducible exact K2)
    (first | (go_at_call 35; (with_reducible refine (CX.out _ _ _).mono ?_); rintro e w4 ⟨rfl, hb4⟩; have hB4 := below_of hbr hb4; have K1 := ra_end hb4 K0) | (go_at_call 35; (with_reducible refine (CD0.out _ _ _).mono ?_); rintro e w5' ⟨rfl, hb5⟩; have hB5 := below_of hB4 hb5; have K2 := ra_end hb5 K1))
  rename_i hHeld
  clear hHeld
  rw [show IntKind.u32.wrap m = m % 4294967296 from IntKind.wrap_u32 m]
  have HG5 := Lib.hid (HG3.out.belowS hB5)
  have KK := Lib.hid K2
  clear K0 K1 hbr hb4 hb5 hB4 hB5 CX CD0 HG3
  obtain ⟨⟨⟨c0, c1, c2, c3, c4, c5, c6, c7, c8, c9, c10, c11, c12⟩, m0, m1, m2, m3, m4, m5, m6, m7, m8, m9⟩, i0, i1, i2, i3, i4⟩ := K2
  go_upto_region 57 with (first | (go_at_call 36; (with_reducible refine (CTH.out _).mono ?_); rintro e w6 ⟨rfl, hb6⟩; have HG6 := Lib.hid (HG5.out.belowS hb6); have K6 := Lib.hid (ra_end hb6 KK.out); clear hb6 HG5 KK; obtain ⟨⟨⟨c0, c1, c2, c3, c4, c5, c6, c7, c8, c9, c10, c11, c12⟩, m0, m1, m2, m3, m4, m5, m6, m7, m8, m9⟩, i0, i1, i2, i3, i4⟩ := K6.out))
  go_upto_region 58 with (go_at_call 41; (with_reducible refine (CSH.out _ _ _).mono ?_); rintro e w9 ⟨rfl, hb9⟩; have HG9 := Lib.hid (HG6.out.belowS hb9); clear hb9)
  clear c0 c1 c2 c3 c4 c5 c6 c7 c8 c9 c10 c11 c12 m0 m1 m2 m3 m4 m5 m6 m7 m8 m9 i0 i1 i2 i3 i4
  have hbx := HG9.out.lt
  obtain ⟨HG10, SB10⟩ := HG9.out.safebox p2 y2 e2 sf
  simp only at HG10 SB10
  have HGs := Lib.hid HG10
  clear HG10
  generalize ((w9.alloc (.cells #[.int .u32 p2, .int .u32 (R 0), .int .u32 (R 1), .int .u32 (R 2), .int .u32 (R 3), .int .u32 (R 4), .int .u32 (R 5), .int .u32 (R 6), .int .u32 (R 7), .slice a' n c', .int .u8 y2, .int .u64 e2, .int .u32 home] 30)).alloc (.cells #[.bool sf, .bool false, .int .u32 0, .int .u32 0] 44)) = V at *
  generalize w9.heap.size = bx at *
  have SX : SB w.heap.size bx pc (R 0) (R 1) (R 2) (R 3) (R 4) (R 5) (R 6) (R 7) a' n c' 0 ep home M.gt gr M.pg.length C gw M.ws.length d p2 y2 e2 sf V.drew := sb_fr (S := fun _ => False) (Fr.of_below (Below.refl _ _).drew) SB10 (fun h => h) (fun h => h) (fun h => h) (fun h => h)
  have HGd := Lib.hid HGs.out.drew
  refine wp_region_held_drew (S := fun u => SB w.heap.size bx pc (R 0) (R 1) (R 2) (R 3) (R 4) (R 5) (R 6) (R 7) a' n c' 0 ep home M.gt gr M.pg.length C gw M.ws.length d p2 y2 e2 sf u) (by kernel_rfl) SX (fun hHeld => ?_)
  refine wpAnyH_take (i := 0) (v := ?vv1) rfl (by kernel_rfl) (by kernel_rfl) (by kernel_rfl) (fun _ _ _ h => h) (Or.inl ⟨by rfl, ?hy1⟩) (by assumption) ?rest1
  case hy1 =>
    intro u hSu
    obtain ⟨⟨⟨⟨s0, s1, s2, s3, s4, s5, s6, s7, s8, s9, s10, s11, s12⟩, s13, s14, s15, s16, s17, s18, s19, s20, s21, s22⟩, s23, s24, s25, s26, s27, s28, s29, s30, s31, s32, s33, s34, s35⟩, s36, s37, s38, s39⟩ := hSu
    go_simp
    try with_reducible rfl
  try simp only [Act.put, List.getElem_toArray, List.getElem_cons_succ, List.getElem_cons_zero, List.setIfInBounds_toArray, List.set_cons_zero, List.set_cons_succ]
  refine wpAnyH_take (i := 1) (v := ?vv2) rfl (by kernel_rfl) (by kernel_rfl) (by kernel_rfl) (fun _ _ _ h => h) (Or.inl ⟨by rfl, ?hy2⟩) (by assumption) ?rest2
  case hy2 =>
    intro u hSu
    obtain ⟨⟨⟨⟨s0, s1, s2, s3, s4, s5, s6, s7, s8, s9, s10, s11, s12⟩, s13, s14, s15, s16, s17, s18, s19, s20, s21, s22⟩, s23, s24, s25, s26, s27, s28, s29, s30, s31, s32, s33, s34, s35⟩, s36, s37, s38, s39⟩ := hSu
    go_simp
    try with_reducible rfl
  try simp only [Act.put, List.getElem_toArray, List.getElem_cons_succ, List.getElem_cons_zero, List.setIfInBounds_toArray, List.set_cons_zero, List.set_cons_succ]
  refine wpAnyH_take (i := 2) (v := ?vv3) rfl (by kernel_rfl) (by kernel_rfl) (by kernel_rfl) (fun _ _ _ h => h) (Or.inl ⟨by rfl, ?hy3⟩) (by assumption) ?rest3
  case hy3 =>
    intro u hSu
    obtain ⟨⟨⟨⟨s0, s1, s2, s3, s4, s5, s6, s7, s8, s9, s10, s11, s12⟩, s13, s14, s15, s16, s17, s18, s19, s20, s21, s22⟩, s23, s24, s25, s26, s27, s28, s29, s30, s31, s32, s33, s34, s35⟩, s36, s37, s38, s39⟩ := hSu
    go_simp
    try with_reducible rfl
  try simp only [Act.put, List.getElem_toArray, List.getElem_cons_succ, List.getElem_cons_zero, List.setIfInBounds_toArray, List.set_cons_zero, List.set_cons_succ]
  obtain ⟨z1, x1, s1⟩ := HGd.out.E.h
  have EE1 := Lib.hid HGd.out.E
  refine wpAnyH_ready (rs := [3]) (by kernel_rfl) (by simp) ?_
  refine AllReadyH.cons rfl (fun K hK => ?_) AllReadyH.nil
  refine ws_H rfl rfl x1 s1 rfl rfl ?_
  refine hK.out _ _ ?hS4 (fun hHeld => ?rst4)
  case hS4 => exact sb_fr (putH_fr _ _ ..) SX (by omega) (by omega) (by omega) (by omega)
  clear hK K
  try simp only [Act.put, List.getElem_toArray, List.getElem_cons_succ, List.getElem_cons_zero, List.setIfInBounds_toArray, List.set_cons_zero, List.set_cons_succ]
  obtain ⟨⟨z2, x2, s2⟩, z3, x3, s3⟩ := EE1.out.m1 p2 (R 0) (R 1) (R 2) (R 3) (R 4) (R 5) (R 6) (R 7) a' n c' y2 e2 home
  have T1 := sb_fr (putH_fr _ (w.heap.size + 1 + 1) p2 (R 0) (R 1) (R 2) (R 3) (R 4) (R 5) (R 6) (R 7) a' n c' y2 e2 home) SX (by omega) (by omega) (by omega) (by omega)
  generalize hW1 : putH V.drew (w.heap.size + 1 + 1) p2 (R 0) (R 1) (R 2) (R 3) (R 4) (R 5) (R 6) (R 7) a' n c' y2 e2 home = V1 at *
  have hV1 := Lib.hid hW1
  clear hW1
  refine wpAnyH_ready (rs := [4]) (by kernel_rfl) (by simp) ?_
  refine AllReadyH.cons rfl (fun K hK => ?_) AllReadyH.nil
  refine ws_B (G := M.gt) (gr := gr) (N := M.pg.length) (C := C) (gw := gw) (m := M.ws.length) (d := d) rfl rfl x2 s2 rfl rfl ?_
  refine hK.out _ _ ?hS5 (fun hHeld => ?rst5)
  case hS5 => exact sb_fr (putB_fr _ _ ..) T1 (by omega) (by omega) (by omega) (by omega)
  clear hK K
  try simp only [Act.put, List.getElem_toArray, List.getElem_cons_succ, List.getElem_cons_zero, List.setIfInBounds_toArray, List.set_cons_zero, List.set_cons_succ]
  have T2 := sb_fr (putB_fr _ (w.heap.size + 1 + 1 + 1) M.gt gr M.pg.length C gw M.ws.length d) T1 (by omega) (by omega) (by omega) (by omega)
  replace x3 := x3.fr (putB_fr V1 (w.heap.size + 1 + 1 + 1) M.gt gr M.pg.length C gw M.ws.length d) (by omega)
  generalize hW2 : putB V1 (w.heap.size + 1 + 1 + 1) M.gt gr M.pg.length C gw M.ws.length d = V2 at *
  have hV2 := Lib.hid hW2
  clear hW2
  refine wpAnyH_ready (rs := [5]) (by kernel_rfl) (by simp) ?_
  refine AllReadyH.cons rfl (fun K hK => ?_) AllReadyH.nil
  refine ws_M rfl rfl x3 s3 rfl rfl ?_
  refine hK.out _ _ ?hS6 (fun hHeld => ?rst6)
  case hS6 => exact sb_fr (putN_fr _ _ ..) T2 (by omega) (by omega) (by omega) (by omega)
  clear hK K
  try simp only [Act.put, List.getElem_toArray, List.getElem_cons_succ, List.getElem_cons_zero, List.setIfInBounds_toArray, List.set_cons_zero, List.set_cons_succ]
  generalize hW3 : putN V2 (w.heap.size + 1 + 1 + 1 + 1) sf false 0 0 = V3 at *
  have hV3 := Lib.hid hW3
  clear hW3
  refine wpAnyH_done (by kernel_rfl) ?_ _
  repeat (first | (with_reducible refine q_te ?_) | (with_reducible refine q_tr ?_) | (with_reducible refine q_br ?_) | (with_reducible refine q_be ?_) | (with_reducible refine q_bn rfl ?_) | go_values | go_skip | go_guarded | go_step | go_upon | go_back | (go_ite <;> go_prune <;> (try go_simp)))
  have j3 := hV3.out
  subst j3
  have j2 := hV2.out
  subst j2
  have j1 := hV1.out
  subst j1
  obtain ⟨yy1, yy2, yy3⟩ := HGd.out.E.wholes p2 (R 0) (R 1) (R 2) (R 3) (R 4) (R 5) (R 6) (R 7) a' n c' y2 e2 home M.gt gr M.pg.length C gw M.ws.length d sf false 0 0
  have Y1 := hart_cells yy1
  have Y2 := box_cells yy2
  have Y3 := note_cells yy3
  refine bodyPost_ret (v := .tuple #[hV p2 R a' n c' y2 e2 home, rV M.gt gr M.pg.length C gw M.ws.length d, nV sf false 0 0]) (by simp [results, Tryz.results9, go_sem, Y1, Y2, Y3]) rfl ?_
  exact HGd.out.fin (r := ⟨⟨p2, R, l, y2, e2, home⟩, M, sf, false, 0, 0⟩) rfl HGd.out.rm (Or.inl rfl)
theorem rop_21s {G : Nat → Prop} {w : World} {gr C gw d : Nat} {M : Mm} {a : Option Addr} {n c : Nat} {pc : Int} {R : Nat → Int} {l : List Int} {ep home : Int} (rm : Rm w gr C gw d M) (hr : Reads G w (.slice a n c) (wcs l)) (hn : n * 4 ≤ 140737488355328) (xe fw fo : Int) (dd x y m : Int) (hd : 0 ≤ dd ∧ dd ≤ 7) (hx : 0 ≤ x ∧ x ≤ 7) (hy : 0 ≤ y ∧ y ≤ 7) (hm : -1048576 ≤ m ∧ m ≤ 1048575) (CF : ∀ u, Below w.heap.size w u → Calls Tryz.prog 32 #[rV M.gt gr M.pg.length C gw M.ws.length d, .int .u32 pc, .int .u64 ep] u fun e w' => e = .returned (.tuple #[.int .u32 fw, .int .u16 fo, .bool true]) ∧ Below u.heap.size u w') (CD : ∀ u, Calls Tryz.prog 34 #[.int .u32 fw] u fun e w' => e = .returned (.tuple #[.agg #[.int .u8 21, .int .u8 dd, .int .u8 x, .int .u8 y, .int .i32 m], .int .i64 0]) ∧ Below u.heap.size u w') (tg : Int) (tb : Bool) (CT : ∀ u, Calls Tryz.prog 36 #[.int .u32 pc, .agg #[.int .u8 21, .int .u8 dd, .int .u8 x, .int .u8 y, .int .i32 m]] u fun e w' => e = .returned (.tuple #[.int .u32 tg, .bool tb]) ∧ Below u.heap.size u w') (p2 y2 e2 : Int) (sf : Bool) (CSF : ∀ u a' c', Calls Tryz.prog 41 #[hV pc R a' n c' 0 ep home, .int .u64 xe, .int .u8 2] u fun e w' => e = .returned (.tuple #[hV p2 R a' n c' y2 e2 home, nV sf false 0 0]) ∧ Below u.heap.size u w') (gv : Int) (hgv : gate M (m / 8) = gv) (hq : (gv == 0) = true) (hm2 : 0 ≤ m ∧ m ≤ 63) : Calls Tryz.prog 9 #[hV pc R a n c 0 ep home, rV M.gt gr M.pg.length C gw M.ws.length d, .int .u64 xe] w (RDid (⟨⟨p2, R, l, y2, e2, home⟩, M, sf, false, 0, 0⟩) gr C gw w) := by
  have hnmx := hr.len
  have CP := Lib.hid (refCopy_any (((((hr.alloc (.cells (hCs pc R a n c 0 ep home) 30)).alloc (.cells (rCs M.gt gr M.pg.length C gw M.ws.length d) 36)).alloc (.cells hZ 30)).alloc (.cells zCs 36)).alloc (.cells nZ 44)) hn pc R 0 ep home)
  have EN := Lib.hid (fun (w1 : World) (a' : Option Addr) (c' : Nat) (s : Sk w1 (w5 w (hCs pc R a n c 0 ep home) (rCs M.gt gr M.pg.length C gw M.ws.length d)).heap.size a' n c' l) (b : Below (w5 w (hCs pc R a n c 0 ep home) (rCs M.gt gr M.pg.length C gw M.ws.length d)).heap.size (w5 w (hCs pc R a n c 0 ep home) (rCs M.gt gr M.pg.length C gw M.ws.length d)) w1) => rstep_rg (h := ⟨pc, R, l, 0, ep, home⟩) rm hr hn s b)
  have BX := Lib.hid (w5_facts w (hCs pc R a n c 0 ep home) (rCs M.gt gr M.pg.length C gw M.ws.length d)).2.2.1
  simp only at EN
  have CFH := Lib.hid CF
  have CSH := Lib.hid CSF
  clear CSF
  have CGH := Lib.hid (fun u => refGate_any M.gt gr M.pg.length C gw M.ws.length d (m / 8) u)
  rw [show (if m / 8 < 0 ∨ 8 ≤ m / 8 then 0 else M.gt (m / 8).toNat) = gv from hgv] at CGH
  have hq' := Lib.hid hq
  clear hq hgv
  obtain ⟨hm3, hm4⟩ := hm2
  have CDH := Lib.hid CD
  have CTH := Lib.hid CT
  have CX := Lib.hid (fun u a' c' => refR_any pc R a' n c' 0 ep home x hx u)
  have CD0 := Lib.hid (fun u a' c' => refR_any pc R a' n c' 0 ep home dd hd u)
  clear CF CD CT rm hr hn hnmx
  generalize hA1 : getR R dd = Dv at *
  generalize hA2 : getR R x = Xv at *
  clear hA1 hA2
  obtain ⟨hm0, hm1⟩ := hm
  go_enter Tryz.func9, Tryz.ntmps9
  go_upto_region 2 with (go_at_call 7; (with_reducible refine CP.out.mono ?_); rintro e w1 ⟨a', c', rfl, sk, hb⟩; have HY := Lib.hid (EN.out _ _ _ sk hb); have B1' := BX.out.belowS hb; have q1 := B1'.lt; obtain ⟨⟨v0, v1, v2, v3, v4, v5, v6, v7, v8, v9, v10, v11, v12, e0, e1, e2, e3, e4, e5, e6, e7, e8, e9, e10, e11, e12⟩, f0, f1, f2, f3, f4, f5, f6, f7, f8, f9, f10, f11, f12⟩ := hart_open B1' rfl; clear sk hb B1')
  rw [putH_eq]
  have HY2 := HY.out
  clear HY EN CP BX q1 e0 e1 e2 e3 e4 e5 e6 e7 e8 e9 e10 e11 e12 f0 f1 f2 f3 f4 f5 f6 f7 f8 f9 f10 f11 f12
  generalize putH w1 w.heap.size pc (R 0) (R 1) (R 2) (R 3) (R 4) (R 5) (R 6) (R 7) a' n c' 0 ep home = u at *
  have HG := Lib.hid HY2
  clear HY2
  obtain ⟨c0, c1, c2, c3, c4, c5, c6, c7, c8, c9, c10, c11, c12⟩ := hart_cells HG.out.X
  obtain ⟨m0, m1, m2, m3, m4, m5, m6, m7, m8, m9⟩ := box_cells HG.out.Y
  have q0 := HG.out.X.lt
  have q1 := HG.out.Y.lt
  go_upto_region 10 with (first | (go_at_call 32; (with_reducible refine (CFH.out _ HG.out.B).mono ?_); rintro e w2 ⟨rfl, hb2⟩; have HB2 := Lib.hid hb2; clear hb2) | (go_at_call 34; (with_reducible refine (CDH.out _).mono ?_); rintro e w3 ⟨rfl, hb3⟩; have HB3 := Lib.hid (below_of HB2.out hb3); clear hb3))
  have HG3 := Lib.hid (HG.out.belowS (HB3.out.alloc HB3.out.size (.cells #[.int .u8 21, .int .u8 dd, .int .u8 x, .int .u8 y, .int .i32 m] 76)))
  have I3 := ic_of (Whole.new w3 76 #[.int .u8 21, .int .u8 dd, .int .u8 x, .int .u8 y, .int .i32 m])
  have hbi : w.heap.size + 1 + 1 + 1 + 1 < w3.heap.size := Nat.lt_of_lt_of_le HG.out.lt HB3.out.size
  clear c0 c1 c2 c3 c4 c5 c6 c7 c8 c9 c10 c11 c12 m0 m1 m2 m3 m4 m5 m6 m7 m8 m9 q0 q1 HB2 HB3 HG
  generalize w3.alloc (.cells #[.int .u8 21, .int .u8 dd, .int .u8 x, .int .u8 y, .int .i32 m] 76) = W at *
  generalize w3.heap.size = bi at *
  have K0 : RA w.heap.size bi pc (R 0) (R 1) (R 2) (R 3) (R 4) (R 5) (R 6) (R 7) a' n c' 0 ep home M.gt gr M.pg.length C gw M.ws.length d 21 dd x y m W.drew := ra_end (Below.refl _ _).drew ⟨HG3.out.rs, I3⟩
  have hbr : Below W.heap.size W W.drew := (Below.refl _ _).drew
  clear I3
  go_region_held3 (fun u => RA w.heap.size bi pc (R 0) (R 1) (R 2) (R 3) (R 4) (R 5) (R 6) (R 7) a' n c' 0 ep home M.gt gr M.pg.length C gw M.ws.length d 21 dd x y m u)
    (first | with_reducible exact K0 | with_reducible exact K1 | with_reducible exact K2)
    (first | (go_at_call 35; (with_reducible refine (CX.out _ _ _).mono ?_); rintro e w4 ⟨rfl, hb4⟩; have hB4 := below_of hbr hb4; have K1 := ra_end hb4 K0) | (go_at_call 35; (with_reducible refine (CD0.out _ _ _).mono ?_); rintro e w5' ⟨rfl, hb5⟩; have hB5 := below_of hB4 hb5; have K2 := ra_end hb5 K1))
  rename_i hHeld
  clear hHeld
  rw [show IntKind.u32.wrap m = m % 4294967296 from IntKind.wrap_u32 m]
  have HG5 := Lib.hid (HG3.out.belowS hB5)
  have KK := Lib.hid K2
  clear K0 K1 hbr hb4 hb5 hB4 hB5 CX CD0 HG3
  obtain ⟨⟨⟨c0, c1, c2, c3, c4, c5, c6, c7, c8, c9, c10, c11, c12⟩, m0, m1, m2, m3, m4, m5, m6, m7, m8, m9⟩, i0, i1, i2, i3, i4⟩ := K2
  have hq := hq'.out
  go_upto_region 60 with (first | (go_at_call 36; (with_reducible refine (CTH.out _).mono ?_); rintro e w6 ⟨rfl, hb6⟩; have HG6 := Lib.hid (HG5.out.belowS hb6); have K6 := Lib.hid (ra_end hb6 KK.out); clear hb6 HG5 KK; obtain ⟨⟨⟨c0, c1, c2, c3, c4, c5, c6, c7, c8, c9, c10, c11, c12⟩, m0, m1, m2, m3, m4, m5, m6, m7, m8, m9⟩, i0, i1, i2, i3, i4⟩ := K6.out))
  go_upto_region 62 with (go_at_call 42; (with_reducible refine (CGH.out _).mono ?_); rintro e w7 ⟨rfl, hb7⟩; have HG7 := Lib.hid (HG6.out.belowS hb7); have K7 := Lib.hid (ra_end hb7 K6.out); clear hb7 HG6 K6 c0 c1 c2 c3 c4 c5 c6 c7 c8 c9 c10 c11 c12 m0 m1 m2 m3 m4 m5 m6 m7 m8 m9 i0 i1 i2 i3 i4; obtain ⟨⟨⟨c0, c1, c2, c3, c4, c5, c6, c7, c8, c9, c10, c11, c12⟩, m0, m1, m2, m3, m4, m5, m6, m7, m8, m9⟩, i0, i1, i2, i3, i4⟩ := K7.out)
  go_upto_region 63 with (go_at_call 41; (with_reducible refine (CSH.out _ _ _).mono ?_); rintro e w9 ⟨rfl, hb9⟩; have HG9 := Lib.hid (HG7.out.belowS hb9); clear hb9)
  clear c0 c1 c2 c3 c4 c5 c6 c7 c8 c9 c10 c11 c12 m0 m1 m2 m3 m4 m5 m6 m7 m8 m9 i0 i1 i2 i3 i4
  have hbx := HG9.out.lt
  obtain ⟨HG10, SB10⟩ := HG9.out.safebox p2 y2 e2 sf
  simp only at HG10 SB10
  have HGs := Lib.hid HG10
  clear HG10
  generalize ((w9.alloc (.cells #[.int .u32 p2, .int .u32 (R 0), .int .u32 (R 1), .int .u32 (R 2), .int .u32 (R 3), .int .u32 (R 4), .int .u32 (R 5), .int .u32 (R 6), .int .u32 (R 7), .slice a' n c', .int .u8 y2, .int .u64 e2, .int .u32 home] 30)).alloc (.cells #[.bool sf, .bool false, .int .u32 0, .int .u32 0] 44)) = V at *
  generalize w9.heap.size = bx at *
  have SX : SB w.heap.size bx pc (R 0) (R 1) (R 2) (R 3) (R 4) (R 5) (R 6) (R 7) a' n c' 0 ep home M.gt gr M.pg.length C gw M.ws.length d p2 y2 e2 sf V.drew := sb_fr (S := fun _ => False) (Fr.of_below (Below.refl _ _).drew) SB10 (fun h => h) (fun h => h) (fun h => h) (fun h => h)
  have HGd := Lib.hid HGs.out.drew
  refine wp_region_held_drew (S := fun u => SB w.heap.size bx pc (R 0) (R 1) (R 2) (R 3) (R 4) (R 5) (R 6) (R 7) a' n c' 0 ep home M.gt gr M.pg.length C gw M.ws.length d p2 y2 e2 sf u) (by kernel_rfl) SX (fun hHeld => ?_)
  refine wpAnyH_take (i := 0) (v := ?vv1) rfl (by kernel_rfl) (by kernel_rfl) (by kernel_rfl) (fun _ _ _ h => h) (Or.inl ⟨by rfl, ?hy1⟩) (by assumption) ?rest1
  case hy1 =>
    intro u hSu
    obtain ⟨⟨⟨⟨s0, s1, s2, s3, s4, s5, s6, s7, s8, s9, s10, s11, s12⟩, s13, s14, s15, s16, s17, s18, s19, s20, s21, s22⟩, s23, s24, s25, s26, s27, s28, s29, s30, s31, s32, s33, s34, s35⟩, s36, s37, s38, s39⟩ := hSu
    go_simp
    try with_reducible rfl
  try simp only [Act.put, List.getElem_toArray, List.getElem_cons_succ, List.getElem_cons_zero, List.setIfInBounds_toArray, List.set_cons_zero, List.set_cons_succ]
  refine wpAnyH_take (i := 1) (v := ?vv2) rfl (by kernel_rfl) (by kernel_rfl) (by kernel_rfl) (fun _ _ _ h => h) (Or.inl ⟨by rfl, ?hy2⟩) (by assumption) ?rest2
  case hy2 =>
    intro u hSu
    obtain ⟨⟨⟨⟨s0, s1, s2, s3, s4, s5, s6, s7, s8, s9, s10, s11, s12⟩, s13, s14, s15, s16, s17, s18, s19, s20, s21, s22⟩, s23, s24, s25, s26, s27, s28, s29, s30, s31, s32, s33, s34, s35⟩, s36, s37, s38, s39⟩ := hSu
    go_simp
    try with_reducible rfl
  try simp only [Act.put, List.getElem_toArray, List.getElem_cons_succ, List.getElem_cons_zero, List.setIfInBounds_toArray, List.set_cons_zero, List.set_cons_succ]
  refine wpAnyH_take (i := 2) (v := ?vv3) rfl (by kernel_rfl) (by kernel_rfl) (by kernel_rfl) (fun _ _ _ h => h) (Or.inl ⟨by rfl, ?hy3⟩) (by assumption) ?rest3
  case hy3 =>
    intro u hSu
    obtain ⟨⟨⟨⟨s0, s1, s2, s3, s4, s5, s6, s7, s8, s9, s10, s11, s12⟩, s13, s14, s15, s16, s17, s18, s19, s20, s21, s22⟩, s23, s24, s25, s26, s27, s28, s29, s30, s31, s32, s33, s34, s35⟩, s36, s37, s38, s39⟩ := hSu
    go_simp
    try with_reducible rfl
  try simp only [Act.put, List.getElem_toArray, List.getElem_cons_succ, List.getElem_cons_zero, List.setIfInBounds_toArray, List.set_cons_zero, List.set_cons_succ]
  obtain ⟨z1, x1, s1⟩ := HGd.out.E.h
  have EE1 := Lib.hid HGd.out.E
  refine wpAnyH_ready (rs := [3]) (by kernel_rfl) (by simp) ?_
  refine AllReadyH.cons rfl (fun K hK => ?_) AllReadyH.nil
  refine ws_H rfl rfl x1 s1 rfl rfl ?_
  refine hK.out _ _ ?hS4 (fun hHeld => ?rst4)
  case hS4 => exact sb_fr (putH_fr _ _ ..) SX (by omega) (by omega) (by omega) (by omega)
  clear hK K
  try simp only [Act.put, List.getElem_toArray, List.getElem_cons_succ, List.getElem_cons_zero, List.setIfInBounds_toArray, List.set_cons_zero, List.set_cons_succ]
  obtain ⟨⟨z2, x2, s2⟩, z3, x3, s3⟩ := EE1.out.m1 p2 (R 0) (R 1) (R 2) (R 3) (R 4) (R 5) (R 6) (R 7) a' n c' y2 e2 home
  have T1 := sb_fr (putH_fr _ (w.heap.size + 1 + 1) p2 (R 0) (R 1) (R 2) (R 3) (R 4) (R 5) (R 6) (R 7) a' n c' y2 e2 home) SX (by omega) (by omega) (by omega) (by omega)
  generalize hW1 : putH V.drew (w.heap.size + 1 + 1) p2 (R 0) (R 1) (R 2) (R 3) (R 4) (R 5) (R 6) (R 7) a' n c' y2 e2 home = V1 at *
  have hV1 := Lib.hid hW1
  clear hW1
  refine wpAnyH_ready (rs := [4]) (by kernel_rfl) (by simp) ?_
  refine AllReadyH.cons rfl (fun K hK => ?_) AllReadyH.nil
  refine ws_B (G := M.gt) (gr := gr) (N := M.pg.length) (C := C) (gw := gw) (m := M.ws.length) (d := d) rfl rfl x2 s2 rfl rfl ?_
  refine hK.out _ _ ?hS5 (fun hHeld => ?rst5)
  case hS5 => exact sb_fr (putB_fr _ _ ..) T1 (by omega) (by omega) (by omega) (by omega)
  clear hK K
  try simp only [Act.put, List.getElem_toArray, List.getElem_cons_succ, List.getElem_cons_zero, List.setIfInBounds_toArray, List.set_cons_zero, List.set_cons_succ]
  have T2 := sb_fr (putB_fr _ (w.heap.size + 1 + 1 + 1) M.gt gr M.pg.length C gw M.ws.length d) T1 (by omega) (by omega) (by omega) (by omega)
  replace x3 := x3.fr (putB_fr V1 (w.heap.size + 1 + 1 + 1) M.gt gr M.pg.length C gw M.ws.length d) (by omega)
  generalize hW2 : putB V1 (w.heap.size + 1 + 1 + 1) M.gt gr M.pg.length C gw M.ws.length d = V2 at *
  have hV2 := Lib.hid hW2
  clear hW2
  refine wpAnyH_ready (rs := [5]) (by kernel_rfl) (by simp) ?_
  refine AllReadyH.cons rfl (fun K hK => ?_) AllReadyH.nil
  refine ws_M rfl rfl x3 s3 rfl rfl ?_
  refine hK.out _ _ ?hS6 (fun hHeld => ?rst6)
  case hS6 => exact sb_fr (putN_fr _ _ ..) T2 (by omega) (by omega) (by omega) (by omega)
  clear hK K
  try simp only [Act.put, List.getElem_toArray, List.getElem_cons_succ, List.getElem_cons_zero, List.setIfInBounds_toArray, List.set_cons_zero, List.set_cons_succ]
  generalize hW3 : putN V2 (w.heap.size + 1 + 1 + 1 + 1) sf false 0 0 = V3 at *
  have hV3 := Lib.hid hW3
  clear hW3
  refine wpAnyH_done (by kernel_rfl) ?_ _
  repeat (first | (with_reducible refine q_te ?_) | (with_reducible refine q_tr ?_) | (with_reducible refine q_br ?_) | (with_reducible refine q_be ?_) | (with_reducible refine q_bn rfl ?_) | go_values | go_skip | go_guarded | go_step | go_upon | go_back | (go_ite <;> go_prune <;> (try go_simp)))
  have j3 := hV3.out
  subst j3
  have j2 := hV2.out
  subst j2
  have j1 := hV1.out
  subst j1
  obtain ⟨yy1, yy2, yy3⟩ := HGd.out.E.wholes p2 (R 0) (R 1) (R 2) (R 3) (R 4) (R 5) (R 6) (R 7) a' n c' y2 e2 home M.gt gr M.pg.length C gw M.ws.length d sf false 0 0
  have Y1 := hart_cells yy1
  have Y2 := box_cells yy2
  have Y3 := note_cells yy3
  refine bodyPost_ret (v := .tuple #[hV p2 R a' n c' y2 e2 home, rV M.gt gr M.pg.length C gw M.ws.length d, nV sf false 0 0]) (by simp [results, Tryz.results9, go_sem, Y1, Y2, Y3]) rfl ?_
  exact HGd.out.fin (r := ⟨⟨p2, R, l, y2, e2, home⟩, M, sf, false, 0, 0⟩) rfl HGd.out.rm (Or.inl rfl)
theorem rop_21y {G : Nat → Prop} {w : World} {gr C gw d : Nat} {M : Mm} {a : Option Addr} {n c : Nat} {pc : Int} {R : Nat → Int} {l : List Int} {ep home : Int} (rm : Rm w gr C gw d M) (hr : Reads G w (.slice a n c) (wcs l)) (hn : n * 4 ≤ 140737488355328) (xe fw fo : Int) (dd x y m : Int) (hd : 0 ≤ dd ∧ dd ≤ 7) (hx : 0 ≤ x ∧ x ≤ 7) (hy : 0 ≤ y ∧ y ≤ 7) (hm : -1048576 ≤ m ∧ m ≤ 1048575) (CF : ∀ u, Below w.heap.size w u → Calls Tryz.prog 32 #[rV M.gt gr M.pg.length C gw M.ws.length d, .int .u32 pc, .int .u64 ep] u fun e w' => e = .returned (.tuple #[.int .u32 fw, .int .u16 fo, .bool true]) ∧ Below u.heap.size u w') (CD : ∀ u, Calls Tryz.prog 34 #[.int .u32 fw] u fun e w' => e = .returned (.tuple #[.agg #[.int .u8 21, .int .u8 dd, .int .u8 x, .int .u8 y, .int .i32 m], .int .i64 0]) ∧ Below u.heap.size u w') (tg : Int) (tb : Bool) (CT : ∀ u, Calls Tryz.prog 36 #[.int .u32 pc, .agg #[.int .u8 21, .int .u8 dd, .int .u8 x, .int .u8 y, .int .i32 m]] u fun e w' => e = .returned (.tuple #[.int .u32 tg, .bool tb]) ∧ Below u.heap.size u w') (gv : Int) (hgv : gate M (m / 8) = gv) (hq : (gv == 0) = false) (hm2 : 0 ≤ m ∧ m ≤ 63) : Calls Tryz.prog 9 #[hV pc R a n c 0 ep home, rV M.gt gr M.pg.length C gw M.ws.length d, .int .u64 xe] w (RDid (turnR ⟨pc, R, l, 0, ep, home⟩ M ((gv + m % 8) % 4294967296)) gr C gw w) := by
  have hnmx := hr.len
  have CP := Lib.hid (refCopy_any (((((hr.alloc (.cells (hCs pc R a n c 0 ep home) 30)).alloc (.cells (rCs M.gt gr M.pg.length C gw M.ws.length d) 36)).alloc (.cells hZ 30)).alloc (.cells zCs 36)).alloc (.cells nZ 44)) hn pc R 0 ep home)
  have EN := Lib.hid (fun (w1 : World) (a' : Option Addr) (c' : Nat) (s : Sk w1 (w5 w (hCs pc R a n c 0 ep home) (rCs M.gt gr M.pg.length C gw M.ws.length d)).heap.size a' n c' l) (b : Below (w5 w (hCs pc R a n c 0 ep home) (rCs M.gt gr M.pg.length C gw M.ws.length d)).heap.size (w5 w (hCs pc R a n c 0 ep home) (rCs M.gt gr M.pg.length C gw M.ws.length d)) w1) => rstep_rg (h := ⟨pc, R, l, 0, ep, home⟩) rm hr hn s b)
  have BX := Lib.hid (w5_facts w (hCs pc R a n c 0 ep home) (rCs M.gt gr M.pg.length C gw M.ws.length d)).2.2.1
  simp only at EN
  have CFH := Lib.hid CF
  have CGH := Lib.hid (fun u => refGate_any M.gt gr M.pg.length C gw M.ws.length d (m / 8) u)
  rw [show (if m / 8 < 0 ∨ 8 ≤ m / 8 then 0 else M.gt (m / 8).toNat) = gv from hgv] at CGH
  have hq' := Lib.hid hq
  clear hq hgv
  obtain ⟨hm3, hm4⟩ := hm2
  have CDH := Lib.hid CD
  have CTH := Lib.hid CT
  have CX := Lib.hid (fun u a' c' => refR_any pc R a' n c' 0 ep home x hx u)
  have CD0 := Lib.hid (fun u a' c' => refR_any pc R a' n c' 0 ep home dd hd u)
  clear CF CD CT rm hr hn hnmx
  generalize hA1 : getR R dd = Dv at *
  generalize hA2 : getR R x = Xv at *
  clear hA1 hA2
  obtain ⟨hm0, hm1⟩ := hm
  go_enter Tryz.func9, Tryz.ntmps9
  go_upto_region 2 with (go_at_call 7; (with_reducible refine CP.out.mono ?_); rintro e w1 ⟨a', c', rfl, sk, hb⟩; have HY := Lib.hid (EN.out _ _ _ sk hb); have B1' := BX.out.belowS hb; have q1 := B1'.lt; obtain ⟨⟨v0, v1, v2, v3, v4, v5, v6, v7, v8, v9, v10, v11, v12, e0, e1, e2, e3, e4, e5, e6, e7, e8, e9, e10, e11, e12⟩, f0, f1, f2, f3, f4, f5, f6, f7, f8, f9, f10, f11, f12⟩ := hart_open B1' rfl; clear sk hb B1')
  rw [putH_eq]
  have HY2 := HY.out
  clear HY EN CP BX q1 e0 e1 e2 e3 e4 e5 e6 e7 e8 e9 e10 e11 e12 f0 f1 f2 f3 f4 f5 f6 f7 f8 f9 f10 f11 f12
  generalize putH w1 w.heap.size pc (R 0) (R 1) (R 2) (R 3) (R 4) (R 5) (R 6) (R 7) a' n c' 0 ep home = u at *
  have HG := Lib.hid HY2
  clear HY2
  obtain ⟨c0, c1, c2, c3, c4, c5, c6, c7, c8, c9, c10, c11, c12⟩ := hart_cells HG.out.X
  obtain ⟨m0, m1, m2, m3, m4, m5, m6, m7, m8, m9⟩ := box_cells HG.out.Y
  have q0 := HG.out.X.lt
  have q1 := HG.out.Y.lt
  go_upto_region 10 with (first | (go_at_call 32; (with_reducible refine (CFH.out _ HG.out.B).mono ?_); rintro e w2 ⟨rfl, hb2⟩; have HB2 := Lib.hid hb2; clear hb2) | (go_at_call 34; (with_reducible refine (CDH.out _).mono ?_); rintro e w3 ⟨rfl, hb3⟩; have HB3 := Lib.hid (below_of HB2.out hb3); clear hb3))
  have HG3 := Lib.hid (HG.out.belowS (HB3.out.alloc HB3.out.size (.cells #[.int .u8 21, .int .u8 dd, .int .u8 x, .int .u8 y, .int .i32 m] 76)))
  have I3 := ic_of (Whole.new w3 76 #[.int .u8 21, .int .u8 dd, .int .u8 x, .int .u8 y, .int .i32 m])
  have hbi : w.heap.size + 1 + 1 + 1 + 1 < w3.heap.size := Nat.lt_of_lt_of_le HG.out.lt HB3.out.size
  clear c0 c1 c2 c3 c4 c5 c6 c7 c8 c9 c10 c11 c12 m0 m1 m2 m3 m4 m5 m6 m7 m8 m9 q0 q1 HB2 HB3 HG
  generalize w3.alloc (.cells #[.int .u8 21, .int .u8 dd, .int .u8 x, .int .u8 y, .int .i32 m] 76) = W at *
  generalize w3.heap.size = bi at *
  have K0 : RA w.heap.size bi pc (R 0) (R 1) (R 2) (R 3) (R 4) (R 5) (R 6) (R 7) a' n c' 0 ep home M.gt gr M.pg.length C gw M.ws.length d 21 dd x y m W.drew := ra_end (Below.refl _ _).drew ⟨HG3.out.rs, I3⟩
  have hbr : Below W.heap.size W W.drew := (Below.refl _ _).drew
  clear I3
  go_region_held3 (fun u => RA w.heap.size bi pc (R 0) (R 1) (R 2) (R 3) (R 4) (R 5) (R 6) (R 7) a' n c' 0 ep home M.gt gr M.pg.length C gw M.ws.length d 21 dd x y m u)
    (first | with_reducible exact K0 | with_reducible exact K1 | with_reducible exact K2)
    (first | (go_at_call 35; (with_reducible refine (CX.out _ _ _).mono ?_); rintro e w4 ⟨rfl, hb4⟩; have hB4 := below_of hbr hb4; have K1 := ra_end hb4 K0) | (go_at_call 35; (with_reducible refine (CD0.out _ _ _).mono ?_); rintro e w5' ⟨rfl, hb5⟩; have hB5 := below_of hB4 hb5; have K2 := ra_end hb5 K1))
  rename_i hHeld
  clear hHeld
  rw [show IntKind.u32.wrap m = m % 4294967296 from IntKind.wrap_u32 m]
  have HG5 := Lib.hid (HG3.out.belowS hB5)
  have KK := Lib.hid K2
  clear K0 K1 hbr hb4 hb5 hB4 hB5 CX CD0 HG3
  obtain ⟨⟨⟨c0, c1, c2, c3, c4, c5, c6, c7, c8, c9, c10, c11, c12⟩, m0, m1, m2, m3, m4, m5, m6, m7, m8, m9⟩, i0, i1, i2, i3, i4⟩ := K2
  have hq := hq'.out
  rw [show m % 4294967296 = m by omega]
  go_upto_region 60 with (first | (go_at_call 36; (with_reducible refine (CTH.out _).mono ?_); rintro e w6 ⟨rfl, hb6⟩; have HG6 := Lib.hid (HG5.out.belowS hb6); have K6 := Lib.hid (ra_end hb6 KK.out); clear hb6 HG5 KK; obtain ⟨⟨⟨c0, c1, c2, c3, c4, c5, c6, c7, c8, c9, c10, c11, c12⟩, m0, m1, m2, m3, m4, m5, m6, m7, m8, m9⟩, i0, i1, i2, i3, i4⟩ := K6.out))
  go_upto_region 64 with (go_at_call 42; (with_reducible refine (CGH.out _).mono ?_); rintro e w7 ⟨rfl, hb7⟩; have HG7 := Lib.hid (HG6.out.belowS hb7); have K7 := Lib.hid (ra_end hb7 K6.out); clear hb7 HG6 K6 c0 c1 c2 c3 c4 c5 c6 c7 c8 c9 c10 c11 c12 m0 m1 m2 m3 m4 m5 m6 m7 m8 m9 i0 i1 i2 i3 i4; obtain ⟨⟨⟨c0, c1, c2, c3, c4, c5, c6, c7, c8, c9, c10, c11, c12⟩, m0, m1, m2, m3, m4, m5, m6, m7, m8, m9⟩, i0, i1, i2, i3, i4⟩ := K7.out)
  have qf := HG7.out.X.frozen 0
  go_upto_region 65 with fail
  have HGt := Lib.hid (HG7.out.turn ((gv + m % 8) % 4294967296))
  have Kt : RA w.heap.size bi ((gv + m % 8) % 4294967296) (R 0) (R 1) (R 2) (R 3) (R 4) (R 5) (R 6) (R 7) a' n c' 0 ep home M.gt gr M.pg.length C gw M.ws.length d 21 dd x y m (w7.setCell ⟨w.heap.size, 0, none⟩ (.int .u32 ((gv + m % 8) % 4294967296))) := ⟨HGt.out.rs, ic_fr ((Fr.refl (fun i => i = w.heap.size) _).set (p := ⟨w.heap.size, 0, none⟩) (Or.inl rfl) _) K7.out.2 (by omega)⟩
  clear c0 c1 c2 c3 c4 c5 c6 c7 c8 c9 c10 c11 c12 m0 m1 m2 m3 m4 m5 m6 m7 m8 m9 i0 i1 i2 i3 i4 HG7 K7
  generalize w7.setCell ⟨w.heap.size, 0, none⟩ (.int .u32 ((gv + m % 8) % 4294967296)) = V at *
  have SX : RA w.heap.size bi ((gv + m % 8) % 4294967296) (R 0) (R 1) (R 2) (R 3) (R 4) (R 5) (R 6) (R 7) a' n c' 0 ep home M.gt gr M.pg.length C gw M.ws.length d 21 dd x y m V.drew := ra_end (Below.refl _ _).drew Kt
  have HGd := Lib.hid HGt.out.drew
  refine wp_region_held_drew (S := fun u => RA w.heap.size bi ((gv + m % 8) % 4294967296) (R 0) (R 1) (R 2) (R 3) (R 4) (R 5) (R 6) (R 7) a' n c' 0 ep home M.gt gr M.pg.length C gw M.ws.length d 21 dd x y m u) (by kernel_rfl) SX (fun hHeld => ?_)
  refine wpAnyH_take (i := 0) (v := ?vv1) rfl (by kernel_rfl) (by kernel_rfl) (by kernel_rfl) (fun _ _ _ h => h) (Or.inl ⟨by rfl, ?hy1⟩) (by assumption) ?rest1
  case hy1 =>
    intro u hSu
    obtain ⟨⟨⟨s0, s1, s2, s3, s4, s5, s6, s7, s8, s9, s10, s11, s12⟩, s13, s14, s15, s16, s17, s18, s19, s20, s21, s22⟩, s23, s24, s25, s26, s27⟩ := hSu
    go_simp
    try with_reducible rfl
  try simp only [Act.put, List.getElem_toArray, List.getElem_cons_succ, List.getElem_cons_zero, List.setIfInBounds_toArray, List.set_cons_zero, List.set_cons_succ]
  refine wpAnyH_take (i := 1) (v := ?vv2) rfl (by kernel_rfl) (by kernel_rfl) (by kernel_rfl) (fun _ _ _ h => h) (Or.inl ⟨by rfl, ?hy2⟩) (by assumption) ?rest2
  case hy2 =>
    intro u hSu
    obtain ⟨⟨⟨s0, s1, s2, s3, s4, s5, s6, s7, s8, s9, s10, s11, s12⟩, s13, s14, s15, s16, s17, s18, s19, s20, s21, s22⟩, s23, s24, s25, s26, s27⟩ := hSu
    go_simp
    try with_reducible rfl
  try simp only [Act.put, List.getElem_toArray, List.getElem_cons_succ, List.getElem_cons_zero, List.setIfInBounds_toArray, List.set_cons_zero, List.set_cons_succ]
  refine wpAnyH_take (i := 2) (v := ?vv3) rfl (by kernel_rfl) (by kernel_rfl) (by kernel_rfl) (fun _ _ _ h => h) (Or.inl ⟨by rfl, ?hy3⟩) (by assumption) ?rest3
  case hy3 =>
    intro u hSu
    obtain ⟨⟨⟨s0, s1, s2, s3, s4, s5, s6, s7, s8, s9, s10, s11, s12⟩, s13, s14, s15, s16, s17, s18, s19, s20, s21, s22⟩, s23, s24, s25, s26, s27⟩ := hSu
    go_simp
    try with_reducible rfl
  try simp only [Act.put, List.getElem_toArray, List.getElem_cons_succ, List.getElem_cons_zero, List.setIfInBounds_toArray, List.set_cons_zero, List.set_cons_succ]
  obtain ⟨z1, x1, s1⟩ := HGd.out.E.h
  have EE1 := Lib.hid HGd.out.E
  refine wpAnyH_ready (rs := [3]) (by kernel_rfl) (by simp) ?_
  refine AllReadyH.cons rfl (fun K hK => ?_) AllReadyH.nil
  refine ws_H rfl rfl x1 s1 rfl rfl ?_
  refine hK.out _ _ ?hS4 (fun hHeld => ?rst4)
  case hS4 => exact ra_H hbi SX ..
  clear hK K
  try simp only [Act.put, List.getElem_toArray, List.getElem_cons_succ, List.getElem_cons_zero, List.setIfInBounds_toArray, List.set_cons_zero, List.set_cons_succ]
  obtain ⟨⟨z2, x2, s2⟩, z3, x3, s3⟩ := EE1.out.m1 ((gv + m % 8) % 4294967296) (R 0) (R 1) (R 2) (R 3) (R 4) (R 5) (R 6) (R 7) a' n c' 0 ep home
  have T1 := ra_H hbi SX ((gv + m % 8) % 4294967296) (R 0) (R 1) (R 2) (R 3) (R 4) (R 5) (R 6) (R 7) a' n c' 0 ep home
  generalize hW1 : putH V.drew (w.heap.size + 1 + 1) ((gv + m % 8) % 4294967296) (R 0) (R 1) (R 2) (R 3) (R 4) (R 5) (R 6) (R 7) a' n c' 0 ep home = V1 at *
  have hV1 := Lib.hid hW1
  clear hW1
  refine wpAnyH_ready (rs := [4]) (by kernel_rfl) (by simp) ?_
  refine AllReadyH.cons rfl (fun K hK => ?_) AllReadyH.nil
  refine ws_B (G := M.gt) (gr := gr) (N := M.pg.length) (C := C) (gw := gw) (m := M.ws.length) (d := d) rfl rfl x2 s2 rfl rfl ?_
  refine hK.out _ _ ?hS5 (fun hHeld => ?rst5)
  case hS5 => exact ra_B hbi T1 ..
  clear hK K
  try simp only [Act.put, List.getElem_toArray, List.getElem_cons_succ, List.getElem_cons_zero, List.setIfInBounds_toArray, List.set_cons_zero, List.set_cons_succ]
  have T2 := ra_B hbi T1 M.gt gr M.pg.length C gw M.ws.length d
  replace x3 := x3.fr (putB_fr V1 (w.heap.size + 1 + 1 + 1) M.gt gr M.pg.length C gw M.ws.length d) (by omega)
  generalize hW2 : putB V1 (w.heap.size + 1 + 1 + 1) M.gt gr M.pg.length C gw M.ws.length d = V2 at *
  have hV2 := Lib.hid hW2
  clear hW2
  refine wpAnyH_ready (rs := [5]) (by kernel_rfl) (by simp) ?_
  refine AllReadyH.cons rfl (fun K hK => ?_) AllReadyH.nil
  refine ws_M rfl rfl x3 s3 rfl rfl ?_
  refine hK.out _ _ ?hS6 (fun hHeld => ?rst6)
  case hS6 => exact ra_N hbi T2 ..
  clear hK K
  try simp only [Act.put, List.getElem_toArray, List.getElem_cons_succ, List.getElem_cons_zero, List.setIfInBounds_toArray, List.set_cons_zero, List.set_cons_succ]
  generalize hW3 : putN V2 (w.heap.size + 1 + 1 + 1 + 1) false false 0 0 = V3 at *
  have hV3 := Lib.hid hW3
  clear hW3
  refine wpAnyH_done (by kernel_rfl) ?_ _
  repeat (first | (with_reducible refine q_te ?_) | (with_reducible refine q_tr ?_) | (with_reducible refine q_br ?_) | (with_reducible refine q_be ?_) | (with_reducible refine q_bn rfl ?_) | go_values | go_skip | go_guarded | go_step | go_upon | go_back | (go_ite <;> go_prune <;> (try go_simp)))
  have j3 := hV3.out
  subst j3
  have j2 := hV2.out
  subst j2
  have j1 := hV1.out
  subst j1
  obtain ⟨yy1, yy2, yy3⟩ := HGd.out.E.wholes ((gv + m % 8) % 4294967296) (R 0) (R 1) (R 2) (R 3) (R 4) (R 5) (R 6) (R 7) a' n c' 0 ep home M.gt gr M.pg.length C gw M.ws.length d false false 0 0
  have Y1 := hart_cells yy1
  have Y2 := box_cells yy2
  have Y3 := note_cells yy3
  refine bodyPost_ret (v := .tuple #[hV ((gv + m % 8) % 4294967296) R a' n c' 0 ep home, rV M.gt gr M.pg.length C gw M.ws.length d, nV false false 0 0]) (by simp [results, Tryz.results9, go_sem, Y1, Y2, Y3]) rfl ?_
  exact HGd.out.fin (r := turnR ⟨pc, R, l, 0, ep, home⟩ M ((gv + m % 8) % 4294967296)) rfl HGd.out.rm (Or.inl rfl)
end Go.Proofs.YtihcellcdkhadaaGreat.HF
