/-
  The reference's step: operations. Nothing here is a statement of the seed.
-/
import Derived.Test.YtihcellcdkhadaaGreatHartRP
set_option linter.unusedSimpArgs false
set_option linter.unusedVariables false
namespace Go.Proofs.YtihcellcdkhadaaGreat.HF
open Go.RowKit PM PR PF MM MR MF HM HR
open IM
set_option maxHeartbeats 16000000
set_option maxRecDepth 10000
theorem rop_r {G : Nat → Prop} {w : World} {gr C gw d : Nat} {M : Mm} {a : Option Addr} {n c : Nat} {pc : Int} {R : Nat → Int} {l : List Int} {ep home : Int} (rm : Rm w gr C gw d M) (hr : Reads G w (.slice a n c) (wcs l)) (hn : n * 4 ≤ 140737488355328) (xe fw fo K : Int) (dd x y m : Int) (hd : 0 ≤ dd ∧ dd ≤ 7) (hx : 0 ≤ x ∧ x ≤ 7) (hy : 0 ≤ y ∧ y ≤ 7) (hm : -1048576 ≤ m ∧ m ≤ 1048575) (CF : ∀ u, Below w.heap.size w u → Calls Tryz.prog 32 #[rV M.gt gr M.pg.length C gw M.ws.length d, .int .u32 pc, .int .u64 ep] u fun e w' => e = .returned (.tuple #[.int .u32 fw, .int .u16 fo, .bool true]) ∧ Below u.heap.size u w') (CD : ∀ u, Calls Tryz.prog 34 #[.int .u32 fw] u fun e w' => e = .returned (.tuple #[.agg #[.int .u8 K, .int .u8 dd, .int .u8 x, .int .u8 y, .int .i32 m], .int .i64 0]) ∧ Below u.heap.size u w') (tg : Int) (tb : Bool) (CT : ∀ u, Calls Tryz.prog 36 #[.int .u32 pc, .agg #[.int .u8 K, .int .u8 dd, .int .u8 x, .int .u8 y, .int .i32 m]] u fun e w' => e = .returned (.tuple #[.int .u32 tg, .bool tb]) ∧ Below u.heap.size u w') (hK : 3 ≤ K ∧ K ≤ 10) (bX : B32 (getR R x)) (bY : B32 (getR R y)) (k0 : (K == 0) = false) (k1 : (K == 1) = false) (k2 : (K == 2) = false) (k11 : (K == 11) = false) (k12 : (K == 12) = false) (k13 : (K == 13) = false) (k14 : (K == 14) = false) (k15 : (K == 15) = false) (k16 : (K == 16) = false) (k17 : (K == 17) = false) (k18 : (K == 18) = false) (k19 : (K == 19) = false) (k20 : (K == 20) = false) (k21 : (K == 21) = false) : Calls Tryz.prog 9 #[hV pc R a n c 0 ep home, rV M.gt gr M.pg.length C gw M.ws.length d, .int .u64 xe] w (RDid (setR ⟨pc, R, l, 0, ep, home⟩ M dd (reck K (getR R x) (getR R y))) gr C gw w) := by
  have hnmx := hr.len
  have CP := Lib.hid (refCopy_any (((((hr.alloc (.cells (hCs pc R a n c 0 ep home) 30)).alloc (.cells (rCs M.gt gr M.pg.length C gw M.ws.length d) 36)).alloc (.cells hZ 30)).alloc (.cells zCs 36)).alloc (.cells nZ 44)) hn pc R 0 ep home)
  have EN := Lib.hid (fun (w1 : World) (a' : Option Addr) (c' : Nat) (s : Sk w1 (w5 w (hCs pc R a n c 0 ep home) (rCs M.gt gr M.pg.length C gw M.ws.length d)).heap.size a' n c' l) (b : Below (w5 w (hCs pc R a n c 0 ep home) (rCs M.gt gr M.pg.length C gw M.ws.length d)).heap.size (w5 w (hCs pc R a n c 0 ep home) (rCs M.gt gr M.pg.length C gw M.ws.length d)) w1) => rstep_rg (h := ⟨pc, R, l, 0, ep, home⟩) rm hr hn s b)
  have BX := Lib.hid (w5_facts w (hCs pc R a n c 0 ep home) (rCs M.gt gr M.pg.length C gw M.ws.length d)).2.2.1
  simp only at EN
  have CFH := Lib.hid CF
  have CP9 := Lib.hid (fun u a' c' v => refPut9_any pc R a' n c' 0 ep home dd v hd u)
  have CN9 := Lib.hid (fun u a' c' v => refNext_any pc (putR R dd v) a' n c' 0 ep home u)
  have CY := Lib.hid (fun u a' c' => refR_any pc R a' n c' 0 ep home y hy u)
  have CR := Lib.hid (fun u => refReckon_any K (getR R x) (getR R y) hK bX bY u)
  generalize hA3 : getR R y = Yv at *
  clear hA3 bX bY hK
  have CDH := Lib.hid CD
  have CTH := Lib.hid CT
  have CX := Lib.hid (fun u a' c' => refR_any pc R a' n c' 0 ep home x hx u)
  have CD0 := Lib.hid (fun u a' c' => refR_any pc R a' n c' 0 ep home dd hd u)
  clear CF CD CT rm hr hn hnmx
  generalize hA1 : getR R dd = Dv at *
  generalize hA2 : getR R x = Xv at *
  clear hA1 hA2
  obtain ⟨hm0, hm1⟩ := hm
  go_enter Tryz.func9, Tryz.ntmps9
  go_upto_region 2 with (go_at_call 7; (with_reducible refine CP.out.mono ?_); rintro e w1 ⟨a', c', rfl, sk, hb⟩; have HY := Lib.hid (EN.out _ _ _ sk hb); have B1' := BX.out.belowS hb; have q1 := B1'.lt; obtain ⟨⟨v0, v1, v2, v3, v4, v5, v6, v7, v8, v9, v10, v11, v12, e0, e1, e2, e3, e4, e5, e6, e7, e8, e9, e10, e11, e12⟩, f0, f1, f2, f3, f4, f5, f6, f7, f8, f9, f10, f11, f12⟩ := hart_open B1' rfl; clear sk hb B1')
  rw [putH_eq]
  have HY2 := HY.out
  clear HY EN CP BX q1 e0 e1 e2 e3 e4 e5 e6 e7 e8 e9 e10 e11 e12 f0 f1 f2 f3 f4 f5 f6 f7 f8 f9 f10 f11 f12
  generalize putH w1 w.heap.size pc (R 0) (R 1) (R 2) (R 3) (R 4) (R 5) (R 6) (R 7) a' n c' 0 ep home = u at *
  have HG := Lib.hid HY2
  clear HY2
  obtain ⟨c0, c1, c2, c3, c4, c5, c6, c7, c8, c9, c10, c11, c12⟩ := hart_cells HG.out.X
  obtain ⟨m0, m1, m2, m3, m4, m5, m6, m7, m8, m9⟩ := box_cells HG.out.Y
  have q0 := HG.out.X.lt
  have q1 := HG.out.Y.lt
  go_upto_region 10 with (first | (go_at_call 32; (with_reducible refine (CFH.out _ HG.out.B).mono ?_); rintro e w2 ⟨rfl, hb2⟩; have HB2 := Lib.hid hb2; clear hb2) | (go_at_call 34; (with_reducible refine (CDH.out _).mono ?_); rintro e w3 ⟨rfl, hb3⟩; have HB3 := Lib.hid (below_of HB2.out hb3); clear hb3))
  have HG3 := Lib.hid (HG.out.belowS (HB3.out.alloc HB3.out.size (.cells #[.int .u8 K, .int .u8 dd, .int .u8 x, .int .u8 y, .int .i32 m] 76)))
  have I3 := ic_of (Whole.new w3 76 #[.int .u8 K, .int .u8 dd, .int .u8 x, .int .u8 y, .int .i32 m])
  have hbi : w.heap.size + 1 + 1 + 1 + 1 < w3.heap.size := Nat.lt_of_lt_of_le HG.out.lt HB3.out.size
  clear c0 c1 c2 c3 c4 c5 c6 c7 c8 c9 c10 c11 c12 m0 m1 m2 m3 m4 m5 m6 m7 m8 m9 q0 q1 HB2 HB3 HG
  generalize w3.alloc (.cells #[.int .u8 K, .int .u8 dd, .int .u8 x, .int .u8 y, .int .i32 m] 76) = W at *
  generalize w3.heap.size = bi at *
  have K0 : RA w.heap.size bi pc (R 0) (R 1) (R 2) (R 3) (R 4) (R 5) (R 6) (R 7) a' n c' 0 ep home M.gt gr M.pg.length C gw M.ws.length d K dd x y m W.drew := ra_end (Below.refl _ _).drew ⟨HG3.out.rs, I3⟩
  have hbr : Below W.heap.size W W.drew := (Below.refl _ _).drew
  clear I3
  go_region_held3 (fun u => RA w.heap.size bi pc (R 0) (R 1) (R 2) (R 3) (R 4) (R 5) (R 6) (R 7) a' n c' 0 ep home M.gt gr M.pg.length C gw M.ws.length d K dd x y m u)
    (first | with_reducible exact K0 | with_reducible exact K1 | with_reducible exact K2)
    (first | (go_at_call 35; (with_reducible refine (CX.out _ _ _).mono ?_); rintro e w4 ⟨rfl, hb4⟩; have hB4 := below_of hbr hb4; have K1 := ra_end hb4 K0) | (go_at_call 35; (with_reducible refine (CD0.out _ _ _).mono ?_); rintro e w5' ⟨rfl, hb5⟩; have hB5 := below_of hB4 hb5; have K2 := ra_end hb5 K1))
  rename_i hHeld
  clear hHeld
  rw [show IntKind.u32.wrap m = m % 4294967296 from IntKind.wrap_u32 m]
  have HG5 := Lib.hid (HG3.out.belowS hB5)
  have KK := Lib.hid K2
  clear K0 K1 hbr hb4 hb5 hB4 hB5 CX CD0 HG3
  obtain ⟨⟨⟨c0, c1, c2, c3, c4, c5, c6, c7, c8, c9, c10, c11, c12⟩, m0, m1, m2, m3, m4, m5, m6, m7, m8, m9⟩, i0, i1, i2, i3, i4⟩ := K2
  have hI0 : 0 ≤ m % 4294967296 := by omega
  have hI1 : m % 4294967296 ≤ 4294967295 := by omega
  generalize m % 4294967296 = I at *
  go_upto_region 66 with (first | (go_at_call 36; (with_reducible refine (CTH.out _).mono ?_); rintro e w6 ⟨rfl, hb6⟩; have HG6 := Lib.hid (HG5.out.belowS hb6); have K6 := Lib.hid (ra_end hb6 KK.out); clear hb6 HG5 KK; obtain ⟨⟨⟨c0, c1, c2, c3, c4, c5, c6, c7, c8, c9, c10, c11, c12⟩, m0, m1, m2, m3, m4, m5, m6, m7, m8, m9⟩, i0, i1, i2, i3, i4⟩ := K6.out))
  clear c0 c1 c2 c3 c4 c5 c6 c7 c8 c9 c10 c11 c12 m0 m1 m2 m3 m4 m5 m6 m7 m8 m9 i0 i1 i2 i3 i4
  generalize hRV : reck K Xv Yv = RV at *
  have SX : RA w.heap.size bi pc (R 0) (R 1) (R 2) (R 3) (R 4) (R 5) (R 6) (R 7) a' n c' 0 ep home M.gt gr M.pg.length C gw M.ws.length d K dd x y m w6.drew := ra_end (Below.refl _ _).drew K6.out
  have HGd := Lib.hid HG6.out.drew
  refine wp_region_held_drew (S := fun u => RA w.heap.size bi pc (R 0) (R 1) (R 2) (R 3) (R 4) (R 5) (R 6) (R 7) a' n c' 0 ep home M.gt gr M.pg.length C gw M.ws.length d K dd x y m u) (by kernel_rfl) SX (fun hHeld => ?_)
  refine wpAnyH_take (i := 0) (v := ?vv1) rfl (by kernel_rfl) (by kernel_rfl) (by kernel_rfl) (fun _ _ _ h => h) (Or.inl ⟨by rfl, ?hy1⟩) (by assumption) ?rest1
  case hy1 =>
    intro u hSu
    obtain ⟨⟨⟨s0, s1, s2, s3, s4, s5, s6, s7, s8, s9, s10, s11, s12⟩, s13, s14, s15, s16, s17, s18, s19, s20, s21, s22⟩, s23, s24, s25, s26, s27⟩ := hSu
    go_simp
    try with_reducible rfl
  try simp only [Act.put, List.getElem_toArray, List.getElem_cons_succ, List.getElem_cons_zero, List.setIfInBounds_toArray, List.set_cons_zero, List.set_cons_succ]
  refine wpAnyH_take (i := 1) (v := ?vv2) rfl (by kernel_rfl) (by kernel_rfl) (by kernel_rfl) (fun _ _ _ h => h) (Or.inl ⟨by rfl, ?hy2⟩) (by assumption) ?rest2
  case hy2 =>
    intro u hSu
    obtain ⟨⟨⟨s0, s1, s2, s3, s4, s5, s6, s7, s8, s9, s10, s11, s12⟩, s13, s14, s15, s16, s17, s18, s19, s20, s21, s22⟩, s23, s24, s25, s26, s27⟩ := hSu
    go_simp
    try with_reducible rfl
  try simp only [Act.put, List.getElem_toArray, List.getElem_cons_succ, List.getElem_cons_zero, List.setIfInBounds_toArray, List.set_cons_zero, List.set_cons_succ]
  refine wpAnyH_take (i := 2) (v := ?vv3) rfl (by kernel_rfl) (by kernel_rfl) (by kernel_rfl) (fun _ _ _ h => h) (Or.inl ⟨by rfl, ?hy3⟩) (by assumption) ?rest3
  case hy3 =>
    intro u hSu
    obtain ⟨⟨⟨s0, s1, s2, s3, s4, s5, s6, s7, s8, s9, s10, s11, s12⟩, s13, s14, s15, s16, s17, s18, s19, s20, s21, s22⟩, s23, s24, s25, s26, s27⟩ := hSu
    go_simp
    try with_reducible rfl
  try simp only [Act.put, List.getElem_toArray, List.getElem_cons_succ, List.getElem_cons_zero, List.setIfInBounds_toArray, List.set_cons_zero, List.set_cons_succ]
  refine wpAnyH_take (i := 3) (v := ?vv4) rfl (by kernel_rfl) (by kernel_rfl) (by kernel_rfl) (fun _ _ _ h => h) (Or.inl ⟨by rfl, ?hy4⟩) (by assumption) ?rest4
  case hy4 =>
    intro u hSu
    obtain ⟨⟨⟨s0, s1, s2, s3, s4, s5, s6, s7, s8, s9, s10, s11, s12⟩, s13, s14, s15, s16, s17, s18, s19, s20, s21, s22⟩, s23, s24, s25, s26, s27⟩ := hSu
    go_simp
    try with_reducible rfl
  try simp only [Act.put, List.getElem_toArray, List.getElem_cons_succ, List.getElem_cons_zero, List.setIfInBounds_toArray, List.set_cons_zero, List.set_cons_succ]
  refine wpAnyH_take (i := 4) (v := ?vv5) rfl (by kernel_rfl) (by kernel_rfl) (by kernel_rfl) (fun _ _ _ h => h) (Or.inl ⟨by rfl, ?hy5⟩) (by assumption) ?rest5
  case hy5 =>
    intro u hSu
    obtain ⟨⟨⟨s0, s1, s2, s3, s4, s5, s6, s7, s8, s9, s10, s11, s12⟩, s13, s14, s15, s16, s17, s18, s19, s20, s21, s22⟩, s23, s24, s25, s26, s27⟩ := hSu
    go_simp
    try with_reducible rfl
  try simp only [Act.put, List.getElem_toArray, List.getElem_cons_succ, List.getElem_cons_zero, List.setIfInBounds_toArray, List.set_cons_zero, List.set_cons_succ]
  refine wpAnyH_take (i := 5) (v := ?vv6) rfl (by kernel_rfl) (by kernel_rfl) (by kernel_rfl) (fun _ _ _ h => h) (Or.inl ⟨by rfl, ?hy6⟩) (by assumption) ?rest6
  case hy6 =>
    intro u hSu
    obtain ⟨⟨⟨s0, s1, s2, s3, s4, s5, s6, s7, s8, s9, s10, s11, s12⟩, s13, s14, s15, s16, s17, s18, s19, s20, s21, s22⟩, s23, s24, s25, s26, s27⟩ := hSu
    go_simp
    try with_reducible rfl
  try simp only [Act.put, List.getElem_toArray, List.getElem_cons_succ, List.getElem_cons_zero, List.setIfInBounds_toArray, List.set_cons_zero, List.set_cons_succ]
  refine wpAnyH_take (i := 6) (v := ?vv7) rfl (by kernel_rfl) (by kernel_rfl) (by kernel_rfl) (fun _ _ _ h => h) (Or.inl ⟨by rfl, ?hy7⟩) (by assumption) ?rest7
  case hy7 =>
    intro u hSu
    obtain ⟨⟨⟨s0, s1, s2, s3, s4, s5, s6, s7, s8, s9, s10, s11, s12⟩, s13, s14, s15, s16, s17, s18, s19, s20, s21, s22⟩, s23, s24, s25, s26, s27⟩ := hSu
    go_simp
    try with_reducible rfl
  try simp only [Act.put, List.getElem_toArray, List.getElem_cons_succ, List.getElem_cons_zero, List.setIfInBounds_toArray, List.set_cons_zero, List.set_cons_succ]
  refine wpAnyH_take (i := 7) (v := ?vv8) rfl (by kernel_rfl) (by kernel_rfl) (by kernel_rfl) (fun _ _ _ h => h) (Or.inl ⟨by rfl, ?hy8⟩) (by assumption) ?rest8
  case hy8 =>
    intro u hSu
    obtain ⟨⟨⟨s0, s1, s2, s3, s4, s5, s6, s7, s8, s9, s10, s11, s12⟩, s13, s14, s15, s16, s17, s18, s19, s20, s21, s22⟩, s23, s24, s25, s26, s27⟩ := hSu
    go_simp
    try with_reducible rfl
  try simp only [Act.put, List.getElem_toArray, List.getElem_cons_succ, List.getElem_cons_zero, List.setIfInBounds_toArray, List.set_cons_zero, List.set_cons_succ]
  refine wpAnyH_take (i := 8) (v := ?vv9) rfl (by kernel_rfl) (by kernel_rfl) (by kernel_rfl) (fun _ _ _ h => h) (Or.inl ⟨by rfl, ?hy9⟩) (by assumption) ?rest9
  case hy9 =>
    intro u hSu
    obtain ⟨⟨⟨s0, s1, s2, s3, s4, s5, s6, s7, s8, s9, s10, s11, s12⟩, s13, s14, s15, s16, s17, s18, s19, s20, s21, s22⟩, s23, s24, s25, s26, s27⟩ := hSu
    go_simp
    try with_reducible rfl
  try simp only [Act.put, List.getElem_toArray, List.getElem_cons_succ, List.getElem_cons_zero, List.setIfInBounds_toArray, List.set_cons_zero, List.set_cons_succ]
  refine wpAnyH_take (i := 13) (v := ?vv10) rfl (by kernel_rfl) (by kernel_rfl) (by kernel_rfl) (fun _ _ _ h => h) (Or.inl ⟨by rfl, ?hy10⟩) (by assumption) ?rest10
  case hy10 =>
    intro u hSu
    obtain ⟨⟨⟨s0, s1, s2, s3, s4, s5, s6, s7, s8, s9, s10, s11, s12⟩, s13, s14, s15, s16, s17, s18, s19, s20, s21, s22⟩, s23, s24, s25, s26, s27⟩ := hSu
    go_simp
    try with_reducible rfl
  try simp only [Act.put, List.getElem_toArray, List.getElem_cons_succ, List.getElem_cons_zero, List.setIfInBounds_toArray, List.set_cons_zero, List.set_cons_succ]
  refine wpAnyH_take (i := 14) (v := ?vv11) rfl (by kernel_rfl) (by kernel_rfl) (by kernel_rfl) (fun _ _ _ h => h) (Or.inl ⟨by rfl, ?hy11⟩) (by assumption) ?rest11
  case hy11 =>
    intro u hSu
    obtain ⟨⟨⟨s0, s1, s2, s3, s4, s5, s6, s7, s8, s9, s10, s11, s12⟩, s13, s14, s15, s16, s17, s18, s19, s20, s21, s22⟩, s23, s24, s25, s26, s27⟩ := hSu
    go_simp
    try with_reducible rfl
  try simp only [Act.put, List.getElem_toArray, List.getElem_cons_succ, List.getElem_cons_zero, List.setIfInBounds_toArray, List.set_cons_zero, List.set_cons_succ]
  refine wpAnyH_ready (rs := [9]) (by kernel_rfl) (by simp) ?_
  refine AllReadyH.cons rfl (fun K hK => ?_) AllReadyH.nil
  (go_simp; go_at_call 35; (with_reducible refine (CY.out _ _ _).mono ?_); rintro e w7 ⟨rfl, hb7⟩; have HG7' := Lib.hid (HGd.out.belowS hb7); have S7 := ra_end hb7 SX)
  refine hK.out _ _ ?hS12 (fun hHeld => ?rst12)
  case hS12 => exact S7
  clear hK K
  try simp only [Act.put, List.getElem_toArray, List.getElem_cons_succ, List.getElem_cons_zero, List.setIfInBounds_toArray, List.set_cons_zero, List.set_cons_succ]
  refine wpAnyH_ready (rs := [10]) (by kernel_rfl) (by simp) ?_
  refine AllReadyH.cons rfl (fun K hK => ?_) AllReadyH.nil
  (go_simp; go_at_call 43; (with_reducible refine (CR.out _).mono ?_); rintro e w8 ⟨rfl, rfl⟩)
  refine hK.out _ _ ?hS13 (fun hHeld => ?rst13)
  case hS13 => exact S7
  clear hK K
  try simp only [Act.put, List.getElem_toArray, List.getElem_cons_succ, List.getElem_cons_zero, List.setIfInBounds_toArray, List.set_cons_zero, List.set_cons_succ]
  refine wpAnyH_ready (rs := [11]) (by kernel_rfl) (by simp) ?_
  refine AllReadyH.cons rfl (fun K hK => ?_) AllReadyH.nil
  (go_simp; go_at_call 38; (with_reducible refine (CP9.out _ _ _ _).mono ?_); rintro e w9 ⟨rfl, hb9⟩; have HG9' := Lib.hid (HG7'.out.belowS hb9); have S9 := ra_end hb9 S7)
  refine hK.out _ _ ?hS14 (fun hHeld => ?rst14)
  case hS14 => exact S9
  clear hK K
  try simp only [Act.put, List.getElem_toArray, List.getElem_cons_succ, List.getElem_cons_zero, List.setIfInBounds_toArray, List.set_cons_zero, List.set_cons_succ]
  refine wpAnyH_ready (rs := [12]) (by kernel_rfl) (by simp) ?_
  refine AllReadyH.cons rfl (fun K hK => ?_) AllReadyH.nil
  (go_simp; go_at_call 37; (with_reducible refine (CN9.out _ _ _ _).mono ?_); rintro e w10 ⟨rfl, hb10⟩; have HG10' := Lib.hid (HG9'.out.belowS hb10); have S10 := ra_end hb10 S9)
  refine hK.out _ _ ?hS15 (fun hHeld => ?rst15)
  case hS15 => exact S10
  clear hK K
  try simp only [Act.put, List.getElem_toArray, List.getElem_cons_succ, List.getElem_cons_zero, List.setIfInBounds_toArray, List.set_cons_zero, List.set_cons_succ]
  obtain ⟨z1, x1, s1⟩ := HG10'.out.E.h
  have EE1 := Lib.hid HG10'.out.E
  refine wpAnyH_ready (rs := [15]) (by kernel_rfl) (by simp) ?_
  refine AllReadyH.cons rfl (fun K hK => ?_) AllReadyH.nil
  refine ws_H rfl rfl x1 s1 rfl rfl ?_
  refine hK.out _ _ ?hS16 (fun hHeld => ?rst16)
  case hS16 => exact ra_H hbi S10 ..
  clear hK K
  try simp only [Act.put, List.getElem_toArray, List.getElem_cons_succ, List.getElem_cons_zero, List.setIfInBounds_toArray, List.set_cons_zero, List.set_cons_succ]
  obtain ⟨⟨z2, x2, s2⟩, z3, x3, s3⟩ := EE1.out.m1 (up pc) (putR R dd RV 0) (putR R dd RV 1) (putR R dd RV 2) (putR R dd RV 3) (putR R dd RV 4) (putR R dd RV 5) (putR R dd RV 6) (putR R dd RV 7) a' n c' 0 ep home
  have T1 := ra_H hbi S10 (up pc) (putR R dd RV 0) (putR R dd RV 1) (putR R dd RV 2) (putR R dd RV 3) (putR R dd RV 4) (putR R dd RV 5) (putR R dd RV 6) (putR R dd RV 7) a' n c' 0 ep home
  generalize hW1 : putH w10 (w.heap.size + 1 + 1) (up pc) (putR R dd RV 0) (putR R dd RV 1) (putR R dd RV 2) (putR R dd RV 3) (putR R dd RV 4) (putR R dd RV 5) (putR R dd RV 6) (putR R dd RV 7) a' n c' 0 ep home = V1 at *
  have hV1 := Lib.hid hW1
  clear hW1
  refine wpAnyH_ready (rs := [16]) (by kernel_rfl) (by simp) ?_
  refine AllReadyH.cons rfl (fun K hK => ?_) AllReadyH.nil
  refine ws_B (G := M.gt) (gr := gr) (N := M.pg.length) (C := C) (gw := gw) (m := M.ws.length) (d := d) rfl rfl x2 s2 rfl rfl ?_
  refine hK.out _ _ ?hS17 (fun hHeld => ?rst17)
  case hS17 => exact ra_B hbi T1 ..
  clear hK K
  try simp only [Act.put, List.getElem_toArray, List.getElem_cons_succ, List.getElem_cons_zero, List.setIfInBounds_toArray, List.set_cons_zero, List.set_cons_succ]
  have T2 := ra_B hbi T1 M.gt gr M.pg.length C gw M.ws.length d
  replace x3 := x3.fr (putB_fr V1 (w.heap.size + 1 + 1 + 1) M.gt gr M.pg.length C gw M.ws.length d) (by omega)
  generalize hW2 : putB V1 (w.heap.size + 1 + 1 + 1) M.gt gr M.pg.length C gw M.ws.length d = V2 at *
  have hV2 := Lib.hid hW2
  clear hW2
  refine wpAnyH_ready (rs := [17]) (by kernel_rfl) (by simp) ?_
  refine AllReadyH.cons rfl (fun K hK => ?_) AllReadyH.nil
  refine ws_M rfl rfl x3 s3 rfl rfl ?_
  refine hK.out _ _ ?hS18 (fun hHeld => ?rst18)
  case hS18 => exact ra_N hbi T2 ..
  clear hK K
  try simp only [Act.put, List.getElem_toArray, List.getElem_cons_succ, List.getElem_cons_zero, List.setIfInBounds_toArray, List.set_cons_zero, List.set_cons_succ]
  generalize hW3 : putN V2 (w.heap.size + 1 + 1 + 1 + 1) false false 0 0 = V3 at *
  have hV3 := Lib.hid hW3
  clear hW3
  refine wpAnyH_done (by kernel_rfl) ?_ _
  repeat (first | (with_reducible refine q_te ?_) | (with_reducible refine q_tr ?_) | (with_reducible refine q_br ?_) | (with_reducible refine q_be ?_) | (with_reducible refine q_bn rfl ?_) | go_values | go_skip | go_guarded | go_step | go_upon | go_back | (go_ite <;> go_prune <;> (try go_simp)))
  have j3 := hV3.out
  subst j3
  have j2 := hV2.out
  subst j2
  have j1 := hV1.out
  subst j1
  obtain ⟨yy1, yy2, yy3⟩ := HG10'.out.E.wholes (up pc) (putR R dd RV 0) (putR R dd RV 1) (putR R dd RV 2) (putR R dd RV 3) (putR R dd RV 4) (putR R dd RV 5) (putR R dd RV 6) (putR R dd RV 7) a' n c' 0 ep home M.gt gr M.pg.length C gw M.ws.length d false false 0 0
  have Y1 := hart_cells yy1
  have Y2 := box_cells yy2
  have Y3 := note_cells yy3
  refine bodyPost_ret (v := .tuple #[hV (up pc) (putR R dd RV) a' n c' 0 ep home, rV M.gt gr M.pg.length C gw M.ws.length d, nV false false 0 0]) (by simp [results, Tryz.results9, go_sem, Y1, Y2, Y3]) rfl ?_
  exact HG10'.out.fin (r := setR ⟨pc, R, l, 0, ep, home⟩ M dd RV) rfl HG10'.out.rm (Or.inl rfl)
theorem rop_19 {G : Nat → Prop} {w : World} {gr C gw d : Nat} {M : Mm} {a : Option Addr} {n c : Nat} {pc : Int} {R : Nat → Int} {l : List Int} {ep home : Int} (rm : Rm w gr C gw d M) (hr : Reads G w (.slice a n c) (wcs l)) (hn : n * 4 ≤ 140737488355328) (xe fw fo : Int) (dd x y m : Int) (hd : 0 ≤ dd ∧ dd ≤ 7) (hx : 0 ≤ x ∧ x ≤ 7) (hy : 0 ≤ y ∧ y ≤ 7) (hm : -1048576 ≤ m ∧ m ≤ 1048575) (CF : ∀ u, Below w.heap.size w u → Calls Tryz.prog 32 #[rV M.gt gr M.pg.length C gw M.ws.length d, .int .u32 pc, .int .u64 ep] u fun e w' => e = .returned (.tuple #[.int .u32 fw, .int .u16 fo, .bool true]) ∧ Below u.heap.size u w') (CD : ∀ u, Calls Tryz.prog 34 #[.int .u32 fw] u fun e w' => e = .returned (.tuple #[.agg #[.int .u8 19, .int .u8 dd, .int .u8 x, .int .u8 y, .int .i32 m], .int .i64 0]) ∧ Below u.heap.size u w') (tg : Int) (tb : Bool) (CT : ∀ u, Calls Tryz.prog 36 #[.int .u32 pc, .agg #[.int .u8 19, .int .u8 dd, .int .u8 x, .int .u8 y, .int .i32 m]] u fun e w' => e = .returned (.tuple #[.int .u32 tg, .bool tb]) ∧ Below u.heap.size u w') : Calls Tryz.prog 9 #[hV pc R a n c 0 ep home, rV M.gt gr M.pg.length C gw M.ws.length d, .int .u64 xe] w (RDid (turnR ⟨pc, R, l, 0, ep, home⟩ M (getR R x)) gr C gw w) := by
  have hnmx := hr.len
  have CP := Lib.hid (refCopy_any (((((hr.alloc (.cells (hCs pc R a n c 0 ep home) 30)).alloc (.cells (rCs M.gt gr M.pg.length C gw M.ws.length d) 36)).alloc (.cells hZ 30)).alloc (.cells zCs 36)).alloc (.cells nZ 44)) hn pc R 0 ep home)
  have EN := Lib.hid (fun (w1 : World) (a' : Option Addr) (c' : Nat) (s : Sk w1 (w5 w (hCs pc R a n c 0 ep home) (rCs M.gt gr M.pg.length C gw M.ws.length d)).heap.size a' n c' l) (b : Below (w5 w (hCs pc R a n c 0 ep home) (rCs M.gt gr M.pg.length C gw M.ws.length d)).heap.size (w5 w (hCs pc R a n c 0 ep home) (rCs M.gt gr M.pg.length C gw M.ws.length d)) w1) => rstep_rg (h := ⟨pc, R, l, 0, ep, home⟩) rm hr hn s b)
  have BX := Lib.hid (w5_facts w (hCs pc R a n c 0 ep home) (rCs M.gt gr M.pg.length C gw M.ws.length d)).2.2.1
  simp only at EN
  have CFH := Lib.hid CF
  have CDH := Lib.hid CD
  have CTH := Lib.hid CT
  have CX := Lib.hid (fun u a' c' => refR_any pc R a' n c' 0 ep home x hx u)
  have CD0 := Lib.hid (fun u a' c' => refR_any pc R a' n c' 0 ep home dd hd u)
  clear CF CD CT rm hr hn hnmx
  generalize hA1 : getR R dd = Dv at *
  generalize hA2 : getR R x = Xv at *
  clear hA1 hA2
  obtain ⟨hm0, hm1⟩ := hm
  go_enter Tryz.func9, Tryz.ntmps9
  go_upto_region 2 with (go_at_call 7; (with_reducible refine CP.out.mono ?_); rintro e w1 ⟨a', c', rfl, sk, hb⟩; have HY := Lib.hid (EN.out _ _ _ sk hb); have B1' := BX.out.belowS hb; have q1 := B1'.lt; obtain ⟨⟨v0, v1, v2, v3, v4, v5, v6, v7, v8, v9, v10, v11, v12, e0, e1, e2, e3, e4, e5, e6, e7, e8, e9, e10, e11, e12⟩, f0, f1, f2, f3, f4, f5, f6, f7, f8, f9, f10, f11, f12⟩ := hart_open B1' rfl; clear sk hb B1')
  rw [putH_eq]
  have HY2 := HY.out
  clear HY EN CP BX q1 e0 e1 e2 e3 e4 e5 e6 e7 e8 e9 e10 e11 e12 f0 f1 f2 f3 f4 f5 f6 f7 f8 f9 f10 f11 f12
  generalize putH w1 w.heap.size pc (R 0) (R 1) (R 2) (R 3) (R 4) (R 5) (R 6) (R 7) a' n c' 0 ep home = u at *
  have HG := Lib.hid HY2
  clear HY2
  obtain ⟨c0, c1, c2, c3, c4, c5, c6, c7, c8, c9, c10, c11, c12⟩ := hart_cells HG.out.X
  obtain ⟨m0, m1, m2, m3, m4, m5, m6, m7, m8, m9⟩ := box_cells HG.out.Y
  have q0 := HG.out.X.lt
  have q1 := HG.out.Y.lt
  go_upto_region 10 with (first | (go_at_call 32; (with_reducible refine (CFH.out _ HG.out.B).mono ?_); rintro e w2 ⟨rfl, hb2⟩; have HB2 := Lib.hid hb2; clear hb2) | (go_at_call 34; (with_reducible refine (CDH.out _).mono ?_); rintro e w3 ⟨rfl, hb3⟩; have HB3 := Lib.hid (below_of HB2.out hb3); clear hb3))
  have HG3 := Lib.hid (HG.out.belowS (HB3.out.alloc HB3.out.size (.cells #[.int .u8 19, .int .u8 dd, .int .u8 x, .int .u8 y, .int .i32 m] 76)))
  have I3 := ic_of (Whole.new w3 76 #[.int .u8 19, .int .u8 dd, .int .u8 x, .int .u8 y, .int .i32 m])
  have hbi : w.heap.size + 1 + 1 + 1 + 1 < w3.heap.size := Nat.lt_of_lt_of_le HG.out.lt HB3.out.size
  clear c0 c1 c2 c3 c4 c5 c6 c7 c8 c9 c10 c11 c12 m0 m1 m2 m3 m4 m5 m6 m7 m8 m9 q0 q1 HB2 HB3 HG
  generalize w3.alloc (.cells #[.int .u8 19, .int .u8 dd, .int .u8 x, .int .u8 y, .int .i32 m] 76) = W at *
  generalize w3.heap.size = bi at *
  have K0 : RA w.heap.size bi pc (R 0) (R 1) (R 2) (R 3) (R 4) (R 5) (R 6) (R 7) a' n c' 0 ep home M.gt gr M.pg.length C gw M.ws.length d 19 dd x y m W.drew := ra_end (Below.refl _ _).drew ⟨HG3.out.rs, I3⟩
  have hbr : Below W.heap.size W W.drew := (Below.refl _ _).drew
  clear I3
  go_region_held3 (fun u => RA w.heap.size bi pc (R 0) (R 1) (R 2) (R 3) (R 4) (R 5) (R 6) (R 7) a' n c' 0 ep home M.gt gr M.pg.length C gw M.ws.length d 19 dd x y m u)
    (first | with_reducible exact K0 | with_reducible exact K1 | with_reducible exact K2)
    (first | (go_at_call 35; (with_reducible refine (CX.out _ _ _).mono ?_); rintro e w4 ⟨rfl, hb4⟩; have hB4 := below_of hbr hb4; have K1 := ra_end hb4 K0) | (go_at_call 35; (with_reducible refine (CD0.out _ _ _).mono ?_); rintro e w5' ⟨rfl, hb5⟩; have hB5 := below_of hB4 hb5; have K2 := ra_end hb5 K1))
  rename_i hHeld
  clear hHeld
  rw [show IntKind.u32.wrap m = m % 4294967296 from IntKind.wrap_u32 m]
  have HG5 := Lib.hid (HG3.out.belowS hB5)
  have KK := Lib.hid K2
  clear K0 K1 hbr hb4 hb5 hB4 hB5 CX CD0 HG3
  obtain ⟨⟨⟨c0, c1, c2, c3, c4, c5, c6, c7, c8, c9, c10, c11, c12⟩, m0, m1, m2, m3, m4, m5, m6, m7, m8, m9⟩, i0, i1, i2, i3, i4⟩ := K2
  go_upto_region 54 with (first | (go_at_call 36; (with_reducible refine (CTH.out _).mono ?_); rintro e w6 ⟨rfl, hb6⟩; have HG6 := Lib.hid (HG5.out.belowS hb6); have K6 := Lib.hid (ra_end hb6 KK.out); clear hb6 HG5 KK; obtain ⟨⟨⟨c0, c1, c2, c3, c4, c5, c6, c7, c8, c9, c10, c11, c12⟩, m0, m1, m2, m3, m4, m5, m6, m7, m8, m9⟩, i0, i1, i2, i3, i4⟩ := K6.out))
  have qf := HG6.out.X.frozen 0
  go_upto_region 55 with fail
  have HGt := Lib.hid (HG6.out.turn Xv)
  have Kt : RA w.heap.size bi Xv (R 0) (R 1) (R 2) (R 3) (R 4) (R 5) (R 6) (R 7) a' n c' 0 ep home M.gt gr M.pg.length C gw M.ws.length d 19 dd x y m (w6.setCell ⟨w.heap.size, 0, none⟩ (.int .u32 Xv)) := ⟨HGt.out.rs, ic_fr ((Fr.refl (fun i => i = w.heap.size) _).set (p := ⟨w.heap.size, 0, none⟩) (Or.inl rfl) _) K6.out.2 (by omega)⟩
  clear c0 c1 c2 c3 c4 c5 c6 c7 c8 c9 c10 c11 c12 m0 m1 m2 m3 m4 m5 m6 m7 m8 m9 i0 i1 i2 i3 i4 HG6 K6
  generalize w6.setCell ⟨w.heap.size, 0, none⟩ (.int .u32 Xv) = V at *
  have SX : RA w.heap.size bi Xv (R 0) (R 1) (R 2) (R 3) (R 4) (R 5) (R 6) (R 7) a' n c' 0 ep home M.gt gr M.pg.length C gw M.ws.length d 19 dd x y m V.drew := ra_end (Below.refl _ _).drew Kt
  have HGd := Lib.hid HGt.out.drew
  refine wp_region_held_drew (S := fun u => RA w.heap.size bi Xv (R 0) (R 1) (R 2) (R 3) (R 4) (R 5) (R 6) (R 7) a' n c' 0 ep home M.gt gr M.pg.length C gw M.ws.length d 19 dd x y m u) (by kernel_rfl) SX (fun hHeld => ?_)
  refine wpAnyH_take (i := 0) (v := ?vv1) rfl (by kernel_rfl) (by kernel_rfl) (by kernel_rfl) (fun _ _ _ h => h) (Or.inl ⟨by rfl, ?hy1⟩) (by assumption) ?rest1
  case hy1 =>
    intro u hSu
    obtain ⟨⟨⟨s0, s1, s2, s3, s4, s5, s6, s7, s8, s9, s10, s11, s12⟩, s13, s14, s15, s16, s17, s18, s19, s20, s21, s22⟩, s23, s24, s25, s26, s27⟩ := hSu
    go_simp
    try with_reducible rfl
  try simp only [Act.put, List.getElem_toArray, List.getElem_cons_succ, List.getElem_cons_zero, List.setIfInBounds_toArray, List.set_cons_zero, List.set_cons_succ]
  refine wpAnyH_take (i := 1) (v := ?vv2) rfl (by kernel_rfl) (by kernel_rfl) (by kernel_rfl) (fun _ _ _ h => h) (Or.inl ⟨by rfl, ?hy2⟩) (by assumption) ?rest2
  case hy2 =>
    intro u hSu
    obtain ⟨⟨⟨s0, s1, s2, s3, s4, s5, s6, s7, s8, s9, s10, s11, s12⟩, s13, s14, s15, s16, s17, s18, s19, s20, s21, s22⟩, s23, s24, s25, s26, s27⟩ := hSu
    go_simp
    try with_reducible rfl
  try simp only [Act.put, List.getElem_toArray, List.getElem_cons_succ, List.getElem_cons_zero, List.setIfInBounds_toArray, List.set_cons_zero, List.set_cons_succ]
  refine wpAnyH_take (i := 2) (v := ?vv3) rfl (by kernel_rfl) (by kernel_rfl) (by kernel_rfl) (fun _ _ _ h => h) (Or.inl ⟨by rfl, ?hy3⟩) (by assumption) ?rest3
  case hy3 =>
    intro u hSu
    obtain ⟨⟨⟨s0, s1, s2, s3, s4, s5, s6, s7, s8, s9, s10, s11, s12⟩, s13, s14, s15, s16, s17, s18, s19, s20, s21, s22⟩, s23, s24, s25, s26, s27⟩ := hSu
    go_simp
    try with_reducible rfl
  try simp only [Act.put, List.getElem_toArray, List.getElem_cons_succ, List.getElem_cons_zero, List.setIfInBounds_toArray, List.set_cons_zero, List.set_cons_succ]
  obtain ⟨z1, x1, s1⟩ := HGd.out.E.h
  have EE1 := Lib.hid HGd.out.E
  refine wpAnyH_ready (rs := [3]) (by kernel_rfl) (by simp) ?_
  refine AllReadyH.cons rfl (fun K hK => ?_) AllReadyH.nil
  refine ws_H rfl rfl x1 s1 rfl rfl ?_
  refine hK.out _ _ ?hS4 (fun hHeld => ?rst4)
  case hS4 => exact ra_H hbi SX ..
  clear hK K
  try simp only [Act.put, List.getElem_toArray, List.getElem_cons_succ, List.getElem_cons_zero, List.setIfInBounds_toArray, List.set_cons_zero, List.set_cons_succ]
  obtain ⟨⟨z2, x2, s2⟩, z3, x3, s3⟩ := EE1.out.m1 Xv (R 0) (R 1) (R 2) (R 3) (R 4) (R 5) (R 6) (R 7) a' n c' 0 ep home
  have T1 := ra_H hbi SX Xv (R 0) (R 1) (R 2) (R 3) (R 4) (R 5) (R 6) (R 7) a' n c' 0 ep home
  generalize hW1 : putH V.drew (w.heap.size + 1 + 1) Xv (R 0) (R 1) (R 2) (R 3) (R 4) (R 5) (R 6) (R 7) a' n c' 0 ep home = V1 at *
  have hV1 := Lib.hid hW1
  clear hW1
  refine wpAnyH_ready (rs := [4]) (by kernel_rfl) (by simp) ?_
  refine AllReadyH.cons rfl (fun K hK => ?_) AllReadyH.nil
  refine ws_B (G := M.gt) (gr := gr) (N := M.pg.length) (C := C) (gw := gw) (m := M.ws.length) (d := d) rfl rfl x2 s2 rfl rfl ?_
  refine hK.out _ _ ?hS5 (fun hHeld => ?rst5)
  case hS5 => exact ra_B hbi T1 ..
  clear hK K
  try simp only [Act.put, List.getElem_toArray, List.getElem_cons_succ, List.getElem_cons_zero, List.setIfInBounds_toArray, List.set_cons_zero, List.set_cons_succ]
  have T2 := ra_B hbi T1 M.gt gr M.pg.length C gw M.ws.length d
  replace x3 := x3.fr (putB_fr V1 (w.heap.size + 1 + 1 + 1) M.gt gr M.pg.length C gw M.ws.length d) (by omega)
  generalize hW2 : putB V1 (w.heap.size + 1 + 1 + 1) M.gt gr M.pg.length C gw M.ws.length d = V2 at *
  have hV2 := Lib.hid hW2
  clear hW2
  refine wpAnyH_ready (rs := [5]) (by kernel_rfl) (by simp) ?_
  refine AllReadyH.cons rfl (fun K hK => ?_) AllReadyH.nil
  refine ws_M rfl rfl x3 s3 rfl rfl ?_
  refine hK.out _ _ ?hS6 (fun hHeld => ?rst6)
  case hS6 => exact ra_N hbi T2 ..
  clear hK K
  try simp only [Act.put, List.getElem_toArray, List.getElem_cons_succ, List.getElem_cons_zero, List.setIfInBounds_toArray, List.set_cons_zero, List.set_cons_succ]
  generalize hW3 : putN V2 (w.heap.size + 1 + 1 + 1 + 1) false false 0 0 = V3 at *
  have hV3 := Lib.hid hW3
  clear hW3
  refine wpAnyH_done (by kernel_rfl) ?_ _
  repeat (first | (with_reducible refine q_te ?_) | (with_reducible refine q_tr ?_) | (with_reducible refine q_br ?_) | (with_reducible refine q_be ?_) | (with_reducible refine q_bn rfl ?_) | go_values | go_skip | go_guarded | go_step | go_upon | go_back | (go_ite <;> go_prune <;> (try go_simp)))
  have j3 := hV3.out
  subst j3
  have j2 := hV2.out
  subst j2
  have j1 := hV1.out
  subst j1
  obtain ⟨yy1, yy2, yy3⟩ := HGd.out.E.wholes Xv (R 0) (R 1) (R 2) (R 3) (R 4) (R 5) (R 6) (R 7) a' n c' 0 ep home M.gt gr M.pg.length C gw M.ws.length d false false 0 0
  have Y1 := hart_cells yy1
  have Y2 := box_cells yy2
  have Y3 := note_cells yy3
  refine bodyPost_ret (v := .tuple #[hV Xv R a' n c' 0 ep home, rV M.gt gr M.pg.length C gw M.ws.length d, nV false false 0 0]) (by simp [results, Tryz.results9, go_sem, Y1, Y2, Y3]) rfl ?_
  exact HGd.out.fin (r := turnR ⟨pc, R, l, 0, ep, home⟩ M Xv) rfl HGd.out.rm (Or.inl rfl)
theorem rop_14 {G : Nat → Prop} {w : World} {gr C gw d : Nat} {M : Mm} {a : Option Addr} {n c : Nat} {pc : Int} {R : Nat → Int} {l : List Int} {ep home : Int} (rm : Rm w gr C gw d M) (hr : Reads G w (.slice a n c) (wcs l)) (hn : n * 4 ≤ 140737488355328) (xe fw fo : Int) (dd x y m : Int) (hd : 0 ≤ dd ∧ dd ≤ 7) (hx : 0 ≤ x ∧ x ≤ 7) (hy : 0 ≤ y ∧ y ≤ 7) (hm : -1048576 ≤ m ∧ m ≤ 1048575) (CF : ∀ u, Below w.heap.size w u → Calls Tryz.prog 32 #[rV M.gt gr M.pg.length C gw M.ws.length d, .int .u32 pc, .int .u64 ep] u fun e w' => e = .returned (.tuple #[.int .u32 fw, .int .u16 fo, .bool true]) ∧ Below u.heap.size u w') (CD : ∀ u, Calls Tryz.prog 34 #[.int .u32 fw] u fun e w' => e = .returned (.tuple #[.agg #[.int .u8 14, .int .u8 dd, .int .u8 x, .int .u8 y, .int .i32 m], .int .i64 0]) ∧ Below u.heap.size u w') (tg : Int) (tb : Bool) (CT : ∀ u, Calls Tryz.prog 36 #[.int .u32 pc, .agg #[.int .u8 14, .int .u8 dd, .int .u8 x, .int .u8 y, .int .i32 m]] u fun e w' => e = .returned (.tuple #[.int .u32 tg, .bool tb]) ∧ Below u.heap.size u w') : Calls Tryz.prog 9 #[hV pc R a n c 0 ep home, rV M.gt gr M.pg.length C gw M.ws.length d, .int .u64 xe] w (RDid (turnR ⟨pc, R, l, 0, ep, home⟩ M tg) gr C gw w) := by
  have hnmx := hr.len
  have CP := Lib.hid (refCopy_any (((((hr.alloc (.cells (hCs pc R a n c 0 ep home) 30)).alloc (.cells (rCs M.gt gr M.pg.length C gw M.ws.length d) 36)).alloc (.cells hZ 30)).alloc (.cells zCs 36)).alloc (.cells nZ 44)) hn pc R 0 ep home)
  have EN := Lib.hid (fun (w1 : World) (a' : Option Addr) (c' : Nat) (s : Sk w1 (w5 w (hCs pc R a n c 0 ep home) (rCs M.gt gr M.pg.length C gw M.ws.length d)).heap.size a' n c' l) (b : Below (w5 w (hCs pc R a n c 0 ep home) (rCs M.gt gr M.pg.length C gw M.ws.length d)).heap.size (w5 w (hCs pc R a n c 0 ep home) (rCs M.gt gr M.pg.length C gw M.ws.length d)) w1) => rstep_rg (h := ⟨pc, R, l, 0, ep, home⟩) rm hr hn s b)
  have BX := Lib.hid (w5_facts w (hCs pc R a n c 0 ep home) (rCs M.gt gr M.pg.length C gw M.ws.length d)).2.2.1
  simp only at EN
  have CFH := Lib.hid CF
  have CDH := Lib.hid CD
  have CTH := Lib.hid CT
  have CX := Lib.hid (fun u a' c' => refR_any pc R a' n c' 0 ep home x hx u)
  have CD0 := Lib.hid (fun u a' c' => refR_any pc R a' n c' 0 ep home dd hd u)
  clear CF CD CT rm hr hn hnmx
  generalize hA1 : getR R dd = Dv at *
  generalize hA2 : getR R x = Xv at *
  clear hA1 hA2
  obtain ⟨hm0, hm1⟩ := hm
  go_enter Tryz.func9, Tryz.ntmps9
  go_upto_region 2 with (go_at_call 7; (with_reducible refine CP.out.mono ?_); rintro e w1 ⟨a', c', rfl, sk, hb⟩; have HY := Lib.hid (EN.out _ _ _ sk hb); have B1' := BX.out.belowS hb; have q1 := B1'.lt; obtain ⟨⟨v0, v1, v2, v3, v4, v5, v6, v7, v8, v9, v10, v11, v12, e0, e1, e2, e3, e4, e5, e6, e7, e8, e9, e10, e11, e12⟩, f0, f1, f2, f3, f4, f5, f6, f7, f8, f9, f10, f11, f12⟩ := hart_open B1' rfl; clear sk hb B1')
  rw [putH_eq]
  have HY2 := HY.out
  clear HY EN CP BX q1 e0 e1 e2 e3 e4 e5 e6 e7 e8 e9 e10 e11 e12 f0 f1 f2 f3 f4 f5 f6 f7 f8 f9 f10 f11 f12
  generalize putH w1 w.heap.size pc (R 0) (R 1) (R 2) (R 3) (R 4) (R 5) (R 6) (R 7) a' n c' 0 ep home = u at *
  have HG := Lib.hid HY2
  clear HY2
  obtain ⟨c0, c1, c2, c3, c4, c5, c6, c7, c8, c9, c10, c11, c12⟩ := hart_cells HG.out.X
  obtain ⟨m0, m1, m2, m3, m4, m5, m6, m7, m8, m9⟩ := box_cells HG.out.Y
  have q0 := HG.out.X.lt
  have q1 := HG.out.Y.lt
  go_upto_region 10 with (first | (go_at_call 32; (with_reducible refine (CFH.out _ HG.out.B).mono ?_); rintro e w2 ⟨rfl, hb2⟩; have HB2 := Lib.hid hb2; clear hb2) | (go_at_call 34; (with_reducible refine (CDH.out _).mono ?_); rintro e w3 ⟨rfl, hb3⟩; have HB3 := Lib.hid (below_of HB2.out hb3); clear hb3))
  have HG3 := Lib.hid (HG.out.belowS (HB3.out.alloc HB3.out.size (.cells #[.int .u8 14, .int .u8 dd, .int .u8 x, .int .u8 y, .int .i32 m] 76)))
  have I3 := ic_of (Whole.new w3 76 #[.int .u8 14, .int .u8 dd, .int .u8 x, .int .u8 y, .int .i32 m])
  have hbi : w.heap.size + 1 + 1 + 1 + 1 < w3.heap.size := Nat.lt_of_lt_of_le HG.out.lt HB3.out.size
  clear c0 c1 c2 c3 c4 c5 c6 c7 c8 c9 c10 c11 c12 m0 m1 m2 m3 m4 m5 m6 m7 m8 m9 q0 q1 HB2 HB3 HG
  generalize w3.alloc (.cells #[.int .u8 14, .int .u8 dd, .int .u8 x, .int .u8 y, .int .i32 m] 76) = W at *
  generalize w3.heap.size = bi at *
  have K0 : RA w.heap.size bi pc (R 0) (R 1) (R 2) (R 3) (R 4) (R 5) (R 6) (R 7) a' n c' 0 ep home M.gt gr M.pg.length C gw M.ws.length d 14 dd x y m W.drew := ra_end (Below.refl _ _).drew ⟨HG3.out.rs, I3⟩
  have hbr : Below W.heap.size W W.drew := (Below.refl _ _).drew
  clear I3
  go_region_held3 (fun u => RA w.heap.size bi pc (R 0) (R 1) (R 2) (R 3) (R 4) (R 5) (R 6) (R 7) a' n c' 0 ep home M.gt gr M.pg.length C gw M.ws.length d 14 dd x y m u)
    (first | with_reducible exact K0 | with_reducible exact K1 | with_reducible exact K2)
    (first | (go_at_call 35; (with_reducible refine (CX.out _ _ _).mono ?_); rintro e w4 ⟨rfl, hb4⟩; have hB4 := below_of hbr hb4; have K1 := ra_end hb4 K0) | (go_at_call 35; (with_reducible refine (CD0.out _ _ _).mono ?_); rintro e w5' ⟨rfl, hb5⟩; have hB5 := below_of hB4 hb5; have K2 := ra_end hb5 K1))
  rename_i hHeld
  clear hHeld
  rw [show IntKind.u32.wrap m = m % 4294967296 from IntKind.wrap_u32 m]
  have HG5 := Lib.hid (HG3.out.belowS hB5)
  have KK := Lib.hid K2
  clear K0 K1 hbr hb4 hb5 hB4 hB5 CX CD0 HG3
  obtain ⟨⟨⟨c0, c1, c2, c3, c4, c5, c6, c7, c8, c9, c10, c11, c12⟩, m0, m1, m2, m3, m4, m5, m6, m7, m8, m9⟩, i0, i1, i2, i3, i4⟩ := K2
  go_upto_region 38 with (first | (go_at_call 36; (with_reducible refine (CTH.out _).mono ?_); rintro e w6 ⟨rfl, hb6⟩; have HG6 := Lib.hid (HG5.out.belowS hb6); have K6 := Lib.hid (ra_end hb6 KK.out); clear hb6 HG5 KK; obtain ⟨⟨⟨c0, c1, c2, c3, c4, c5, c6, c7, c8, c9, c10, c11, c12⟩, m0, m1, m2, m3, m4, m5, m6, m7, m8, m9⟩, i0, i1, i2, i3, i4⟩ := K6.out))
  have qf := HG6.out.X.frozen 0
  go_upto_region 39 with fail
  have HGt := Lib.hid (HG6.out.turn tg)
  have Kt : RA w.heap.size bi tg (R 0) (R 1) (R 2) (R 3) (R 4) (R 5) (R 6) (R 7) a' n c' 0 ep home M.gt gr M.pg.length C gw M.ws.length d 14 dd x y m (w6.setCell ⟨w.heap.size, 0, none⟩ (.int .u32 tg)) := ⟨HGt.out.rs, ic_fr ((Fr.refl (fun i => i = w.heap.size) _).set (p := ⟨w.heap.size, 0, none⟩) (Or.inl rfl) _) K6.out.2 (by omega)⟩
  clear c0 c1 c2 c3 c4 c5 c6 c7 c8 c9 c10 c11 c12 m0 m1 m2 m3 m4 m5 m6 m7 m8 m9 i0 i1 i2 i3 i4 HG6 K6
  generalize w6.setCell ⟨w.heap.size, 0, none⟩ (.int .u32 tg) = V at *
  have SX : RA w.heap.size bi tg (R 0) (R 1) (R 2) (R 3) (R 4) (R 5) (R 6) (R 7) a' n c' 0 ep home M.gt gr M.pg.length C gw M.ws.length d 14 dd x y m V.drew := ra_end (Below.refl _ _).drew Kt
  have HGd := Lib.hid HGt.out.drew
  refine wp_region_held_drew (S := fun u => RA w.heap.size bi tg (R 0) (R 1) (R 2) (R 3) (R 4) (R 5) (R 6) (R 7) a' n c' 0 ep home M.gt gr M.pg.length C gw M.ws.length d 14 dd x y m u) (by kernel_rfl) SX (fun hHeld => ?_)
  refine wpAnyH_take (i := 0) (v := ?vv1) rfl (by kernel_rfl) (by kernel_rfl) (by kernel_rfl) (fun _ _ _ h => h) (Or.inl ⟨by rfl, ?hy1⟩) (by assumption) ?rest1
  case hy1 =>
    intro u hSu
    obtain ⟨⟨⟨s0, s1, s2, s3, s4, s5, s6, s7, s8, s9, s10, s11, s12⟩, s13, s14, s15, s16, s17, s18, s19, s20, s21, s22⟩, s23, s24, s25, s26, s27⟩ := hSu
    go_simp
    try with_reducible rfl
  try simp only [Act.put, List.getElem_toArray, List.getElem_cons_succ, List.getElem_cons_zero, List.setIfInBounds_toArray, List.set_cons_zero, List.set_cons_succ]
  refine wpAnyH_take (i := 1) (v := ?vv2) rfl (by kernel_rfl) (by kernel_rfl) (by kernel_rfl) (fun _ _ _ h => h) (Or.inl ⟨by rfl, ?hy2⟩) (by assumption) ?rest2
  case hy2 =>
    intro u hSu
    obtain ⟨⟨⟨s0, s1, s2, s3, s4, s5, s6, s7, s8, s9, s10, s11, s12⟩, s13, s14, s15, s16, s17, s18, s19, s20, s21, s22⟩, s23, s24, s25, s26, s27⟩ := hSu
    go_simp
    try with_reducible rfl
  try simp only [Act.put, List.getElem_toArray, List.getElem_cons_succ, List.getElem_cons_zero, List.setIfInBounds_toArray, List.set_cons_zero, List.set_cons_succ]
  refine wpAnyH_take (i := 2) (v := ?vv3) rfl (by kernel_rfl) (by kernel_rfl) (by kernel_rfl) (fun _ _ _ h => h) (Or.inl ⟨by rfl, ?hy3⟩) (by assumption) ?rest3
  case hy3 =>
    intro u hSu
    obtain ⟨⟨⟨s0, s1, s2, s3, s4, s5, s6, s7, s8, s9, s10, s11, s12⟩, s13, s14, s15, s16, s17, s18, s19, s20, s21, s22⟩, s23, s24, s25, s26, s27⟩ := hSu
    go_simp
    try with_reducible rfl
  try simp only [Act.put, List.getElem_toArray, List.getElem_cons_succ, List.getElem_cons_zero, List.setIfInBounds_toArray, List.set_cons_zero, List.set_cons_succ]
  obtain ⟨z1, x1, s1⟩ := HGd.out.E.h
  have EE1 := Lib.hid HGd.out.E
  refine wpAnyH_ready (rs := [3]) (by kernel_rfl) (by simp) ?_
  refine AllReadyH.cons rfl (fun K hK => ?_) AllReadyH.nil
  refine ws_H rfl rfl x1 s1 rfl rfl ?_
  refine hK.out _ _ ?hS4 (fun hHeld => ?rst4)
  case hS4 => exact ra_H hbi SX ..
  clear hK K
  try simp only [Act.put, List.getElem_toArray, List.getElem_cons_succ, List.getElem_cons_zero, List.setIfInBounds_toArray, List.set_cons_zero, List.set_cons_succ]
  obtain ⟨⟨z2, x2, s2⟩, z3, x3, s3⟩ := EE1.out.m1 tg (R 0) (R 1) (R 2) (R 3) (R 4) (R 5) (R 6) (R 7) a' n c' 0 ep home
  have T1 := ra_H hbi SX tg (R 0) (R 1) (R 2) (R 3) (R 4) (R 5) (R 6) (R 7) a' n c' 0 ep home
  generalize hW1 : putH V.drew (w.heap.size + 1 + 1) tg (R 0) (R 1) (R 2) (R 3) (R 4) (R 5) (R 6) (R 7) a' n c' 0 ep home = V1 at *
  have hV1 := Lib.hid hW1
  clear hW1
  refine wpAnyH_ready (rs := [4]) (by kernel_rfl) (by simp) ?_
  refine AllReadyH.cons rfl (fun K hK => ?_) AllReadyH.nil
  refine ws_B (G := M.gt) (gr := gr) (N := M.pg.length) (C := C) (gw := gw) (m := M.ws.length) (d := d) rfl rfl x2 s2 rfl rfl ?_
  refine hK.out _ _ ?hS5 (fun hHeld => ?rst5)
  case hS5 => exact ra_B hbi T1 ..
  clear hK K
  try simp only [Act.put, List.getElem_toArray, List.getElem_cons_succ, List.getElem_cons_zero, List.setIfInBounds_toArray, List.set_cons_zero, List.set_cons_succ]
  have T2 := ra_B hbi T1 M.gt gr M.pg.length C gw M.ws.length d
  replace x3 := x3.fr (putB_fr V1 (w.heap.size + 1 + 1 + 1) M.gt gr M.pg.length C gw M.ws.length d) (by omega)
  generalize hW2 : putB V1 (w.heap.size + 1 + 1 + 1) M.gt gr M.pg.length C gw M.ws.length d = V2 at *
  have hV2 := Lib.hid hW2
  clear hW2
  refine wpAnyH_ready (rs := [5]) (by kernel_rfl) (by simp) ?_
  refine AllReadyH.cons rfl (fun K hK => ?_) AllReadyH.nil
  refine ws_M rfl rfl x3 s3 rfl rfl ?_
  refine hK.out _ _ ?hS6 (fun hHeld => ?rst6)
  case hS6 => exact ra_N hbi T2 ..
  clear hK K
  try simp only [Act.put, List.getElem_toArray, List.getElem_cons_succ, List.getElem_cons_zero, List.setIfInBounds_toArray, List.set_cons_zero, List.set_cons_succ]
  generalize hW3 : putN V2 (w.heap.size + 1 + 1 + 1 + 1) false false 0 0 = V3 at *
  have hV3 := Lib.hid hW3
  clear hW3
  refine wpAnyH_done (by kernel_rfl) ?_ _
  repeat (first | (with_reducible refine q_te ?_) | (with_reducible refine q_tr ?_) | (with_reducible refine q_br ?_) | (with_reducible refine q_be ?_) | (with_reducible refine q_bn rfl ?_) | go_values | go_skip | go_guarded | go_step | go_upon | go_back | (go_ite <;> go_prune <;> (try go_simp)))
  have j3 := hV3.out
  subst j3
  have j2 := hV2.out
  subst j2
  have j1 := hV1.out
  subst j1
  obtain ⟨yy1, yy2, yy3⟩ := HGd.out.E.wholes tg (R 0) (R 1) (R 2) (R 3) (R 4) (R 5) (R 6) (R 7) a' n c' 0 ep home M.gt gr M.pg.length C gw M.ws.length d false false 0 0
  have Y1 := hart_cells yy1
  have Y2 := box_cells yy2
  have Y3 := note_cells yy3
  refine bodyPost_ret (v := .tuple #[hV tg R a' n c' 0 ep home, rV M.gt gr M.pg.length C gw M.ws.length d, nV false false 0 0]) (by simp [results, Tryz.results9, go_sem, Y1, Y2, Y3]) rfl ?_
  exact HGd.out.fin (r := turnR ⟨pc, R, l, 0, ep, home⟩ M tg) rfl HGd.out.rm (Or.inl rfl)
end Go.Proofs.YtihcellcdkhadaaGreat.HF
