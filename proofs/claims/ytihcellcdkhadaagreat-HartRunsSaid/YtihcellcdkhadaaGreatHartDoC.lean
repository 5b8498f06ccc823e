/-
  Instructions: what a hart's do makes of them. Nothing here is a statement of the seed.
-/
import Derived.Test.YtihcellcdkhadaaGreatHartDo
set_option linter.unusedSimpArgs false
set_option linter.unusedVariables false
namespace Go.Proofs.YtihcellcdkhadaaGreat.HF
open Go.RowKit PM PR PF MM MR MF HM HR
set_option maxHeartbeats 2000000
set_option maxRecDepth 10000
theorem hi_fr {S : Nat → Prop} {b : Nat} {pc : Int} {R : Nat → Int} {a : Option Addr} {n c : Nat} {why ep home o d x y m : Int} {w u : World} (k : Fr S w u) (h : HI b pc R a n c why ep home o d x y m w) (h1 : ¬ S b) (h2 : ¬ S (b + 1)) : HI b pc R a n c why ep home o d x y m u := by
  have k0 := k.block b (World.block_lt_of_cell? w _ h.1) h1
  have k1 := k.block (b + 1) (World.block_lt_of_cell? w _ h.2.2.2.2.2.2.2.2.2.2.2.2.2.1) h2
  have c0 : ∀ i, u.cell? ⟨b, i, none⟩ = w.cell? ⟨b, i, none⟩ := fun i => World.cell?_of_block (w := w) (a := ⟨b, i, none⟩) k0
  have c1 : ∀ i, u.cell? ⟨b + 1, i, none⟩ = w.cell? ⟨b + 1, i, none⟩ := fun i => World.cell?_of_block (w := w) (a := ⟨b + 1, i, none⟩) k1
  obtain ⟨h0, h1, h2, h3, h4, h5, h6, h7, h8, h9, h10, h11, h12, i0, i1, i2, i3, i4⟩ := h
  exact ⟨(c0 _).trans h0, (c0 _).trans h1, (c0 _).trans h2, (c0 _).trans h3, (c0 _).trans h4, (c0 _).trans h5, (c0 _).trans h6, (c0 _).trans h7, (c0 _).trans h8, (c0 _).trans h9, (c0 _).trans h10, (c0 _).trans h11, (c0 _).trans h12, (c1 _).trans i0, (c1 _).trans i1, (c1 _).trans i2, (c1 _).trans i3, (c1 _).trans i4⟩
theorem hi_putH {b b' : Nat} {pc : Int} {R : Nat → Int} {a : Option Addr} {n c : Nat} {why ep home o d x y m : Int} {w : World} {q0 q1 q2 q3 q4 q5 q6 q7 q8 : Int} {qa : Option Addr} {qn qc : Nat} {q9 q10 q11 : Int} (h1 : b ≠ b') (h2 : b + 1 ≠ b') (h : HI b pc R a n c why ep home o d x y m w) : HI b pc R a n c why ep home o d x y m (putH w b' q0 q1 q2 q3 q4 q5 q6 q7 q8 qa qn qc q9 q10 q11) := hi_fr (putH_fr w b' ..) h h1 h2
theorem hi_putN {b b' : Nat} {pc : Int} {R : Nat → Int} {a : Option Addr} {n c : Nat} {why ep home o d x y m : Int} {w : World} {sf st : Bool} {q0 q1 : Int} (h1 : b ≠ b') (h2 : b + 1 ≠ b') (h : HI b pc R a n c why ep home o d x y m w) : HI b pc R a n c why ep home o d x y m (putN w b' sf st q0 q1) := hi_fr (putN_fr w b' ..) h h1 h2
theorem do_10 {w : World} {B p t g gw : Nat} {M : Mm} {r : Res} {pc : Int} {R : Nat → Int} {a : Option Addr} {n c : Nat} {why ep home : Int} (pm : Pm w p t g gw M) (kOwn : ∀ k, (Value.slice a n c).ownBlock = some k → k < w.heap.size) (own xe d x y m : Int) (hd : 0 ≤ d ∧ d ≤ 7) (hx : 0 ≤ x ∧ x ≤ 7) (hy : 0 ≤ y ∧ y ≤ 7) (hm : -1048576 ≤ m ∧ m ≤ 1048575)
    (C : ∀ u, Below w.heap.size w u → Calls Tryz.prog 75 #[hV pc R a n c why ep home, .int .u8 d, .int .u32 (if wrap32 (getR R x) < wrap32 (getR R y) then 1 else 0)] u (Does B p t g gw a n c r u)) :
    Calls Tryz.prog 31 #[hV pc R a n c why ep home, .agg #[.int .u8 10, .int .u8 d, .int .u8 x, .int .u8 y, .int .i32 m], .pointer (some ⟨p, 0, none⟩), .int .u16 own, .int .u64 xe] w (Does B p t g gw a n c r w) := by
  have hlt := pm.lt
  obtain ⟨hb0, hs0, B1, B2, _, _⟩ := w4_facts w (hCs pc R a n c why ep home) #[.int .u8 10, .int .u8 d, .int .u8 x, .int .u8 y, .int .i32 m]
  have CD := Lib.hid (fun u => get_any pc R a n c why ep home d hd u)
  have CX := Lib.hid (fun u => get_any pc R a n c why ep home x hx u)
  have CY := Lib.hid (fun u => get_any pc R a n c why ep home y hy u)
  have CC := Lib.hid C
  have KI := Lib.hid (hi_of B1 B2)
  have HB0 := Lib.hid hb0
  have HS0 := Lib.hid hs0
  have MID := Lib.hid (fun u w5 => @do_mid w u w5 B p t g gw (hCs pc R a n c why ep home) #[.int .u8 10, .int .u8 d, .int .u8 x, .int .u8 y, .int .i32 m] a a n c n c r hlt kOwn)
  obtain ⟨hm0, hm1⟩ := hm
  clear C pm B1 B2 hb0 hs0
  generalize hA : getR R d = Dv at *
  generalize hA2 : getR R x = Xv at *
  generalize hA3 : getR R y = Yv at *
  clear hA hA2 hA3
  go_enter Tryz.func31, Tryz.ntmps31
  go_wp2_with fail
  have hw4 : w4 w (hCs pc R a n c why ep home) #[.int .u8 10, .int .u8 d, .int .u8 x, .int .u8 y, .int .i32 m] = (((w.alloc (.cells (hCs pc R a n c why ep home) 30)).alloc (.cells #[.int .u8 10, .int .u8 d, .int .u8 x, .int .u8 y, .int .i32 m] 76)).alloc (.cells hZ 30)).alloc (.cells nZ 41) := rfl
  rw [← hw4]
  have KI2 := KI.out
  have hs := HS0.out
  clear hw4
  generalize w4 w (hCs pc R a n c why ep home) #[.int .u8 10, .int .u8 d, .int .u8 x, .int .u8 y, .int .i32 m] = W at *
  have K0 : HI w.heap.size pc R a n c why ep home 10 d x y m W.drew := KI2
  have hbr : Below W.heap.size W W.drew := (Below.refl _ _).drew
  have hW1 : w.heap.size + 1 < W.heap.size := by omega
  go_region_held3 (fun u => HI w.heap.size pc R a n c why ep home 10 d x y m u)
    (first | with_reducible exact K0 | with_reducible exact K1 | with_reducible exact K2 | with_reducible exact K3)
    (first | (go_at_call 74; (with_reducible refine (CD.out _).mono ?_); rintro e w1 ⟨rfl, hb1⟩; have hB1 := below_of hbr hb1; have K1 := hi_go KI2 hW1 hB1) | (go_at_call 74; (with_reducible refine (CX.out _).mono ?_); rintro e w2 ⟨rfl, hb2⟩; have hB2 := below_of hB1 hb2; have K2 := hi_go KI2 hW1 hB2) | (go_at_call 74; (with_reducible refine (CY.out _).mono ?_); rintro e w3 ⟨rfl, hb3⟩; have hB3 := below_of hB2 hb3; have K3 := hi_go KI2 hW1 hB3))
  rename_i hHeld
  clear hHeld
  rw [show IntKind.u32.wrap m = m % 4294967296 from IntKind.wrap_u32 m]
  have HB3 := Lib.hid hB3
  have HBU := Lib.hid (below_of HB0.out hB3)
  have hI0 : 0 ≤ m % 4294967296 := by omega
  have hI1 : m % 4294967296 ≤ 4294967295 := by omega
  generalize m % 4294967296 = I at *
  clear K0 K1 K2 hB1 hB2 hb1 hb2 hb3 hbr KI KI2 CD CX CY HB0 HS0 hB3
  have K3k := K3
  obtain ⟨c0, c1, c2, c3, c4, c5, c6, c7, c8, c9, c10, c11, c12, i0, i1, i2, i3, i4⟩ := K3
  repeat (first | (with_reducible refine q_te ?_) | (with_reducible refine q_tr ?_) | (with_reducible refine q_br ?_) | (with_reducible refine q_be ?_) | (with_reducible refine q_bn rfl ?_) | go_values | go_skip | go_guarded | go_step | go_upon | go_back | (go_ite <;> go_prune <;> (try go_simp)))
  have CB := Lib.hid (fun u => below_any Xv Yv u)
  generalize (if wrap32 Xv < wrap32 Yv then (1 : Int) else 0) = V at *
  have HBD := HBU.out.drew
  have HBD2 := HB3.out.drew
  have K3d : HI w.heap.size pc R a n c why ep home 10 d x y m w3.drew := K3k
  have KEEP : Hid (∀ w5, Fr (fun i => MS p g gw i ∨ (Value.slice a n c).ownBlock = some i) w3.drew w5 → HI w.heap.size pc R a n c why ep home 10 d x y m w5) := Lib.hid fun w5 hf => hi_fr hf K3d (by rintro ((e | e | e) | e); omega; omega; omega; have := kOwn _ e; omega) (by rintro ((e | e | e) | e); omega; omega; omega; have := kOwn _ e; omega)
  clear c0 c1 c2 c3 c4 c5 c6 c7 c8 c9 c10 c11 c12 i0 i1 i2 i3 i4
  refine wp_region_held_drew (S := fun u => HI w.heap.size pc R a n c why ep home 10 d x y m u) (by kernel_rfl) K3d (fun hHeld => ?_)
  refine wpAnyH_take (i := 0) (v := ?ltvv0) rfl (by kernel_rfl) (by kernel_rfl) (by kernel_rfl) (fun _ _ _ h => h) (Or.inl ⟨by rfl, ?lthy0⟩) (by assumption) ?ltrest0
  case lthy0 =>
    intro u hSu
    obtain ⟨s0, s1, s2, s3, s4, s5, s6, s7, s8, s9, s10, s11, s12, s13, s14, s15, s16, s17⟩ := hSu
    go_simp
    try with_reducible rfl
  try simp only [Act.put, List.getElem_toArray, List.getElem_cons_succ, List.getElem_cons_zero, List.setIfInBounds_toArray, List.set_cons_zero, List.set_cons_succ]
  refine wpAnyH_take (i := 1) (v := ?ltvv1) rfl (by kernel_rfl) (by kernel_rfl) (by kernel_rfl) (fun _ _ _ h => h) (Or.inl ⟨by rfl, ?lthy1⟩) (by assumption) ?ltrest1
  case lthy1 =>
    intro u hSu
    obtain ⟨s0, s1, s2, s3, s4, s5, s6, s7, s8, s9, s10, s11, s12, s13, s14, s15, s16, s17⟩ := hSu
    go_simp
    try with_reducible rfl
  try simp only [Act.put, List.getElem_toArray, List.getElem_cons_succ, List.getElem_cons_zero, List.setIfInBounds_toArray, List.set_cons_zero, List.set_cons_succ]
  refine wpAnyH_take (i := 2) (v := ?ltvv2) rfl (by kernel_rfl) (by kernel_rfl) (by kernel_rfl) (fun _ _ _ h => h) (Or.inl ⟨by rfl, ?lthy2⟩) (by assumption) ?ltrest2
  case lthy2 =>
    intro u hSu
    obtain ⟨s0, s1, s2, s3, s4, s5, s6, s7, s8, s9, s10, s11, s12, s13, s14, s15, s16, s17⟩ := hSu
    go_simp
    try with_reducible rfl
  try simp only [Act.put, List.getElem_toArray, List.getElem_cons_succ, List.getElem_cons_zero, List.setIfInBounds_toArray, List.set_cons_zero, List.set_cons_succ]
  refine wpAnyH_take (i := 3) (v := ?ltvv3) rfl (by kernel_rfl) (by kernel_rfl) (by kernel_rfl) (fun _ _ _ h => h) (Or.inl ⟨by rfl, ?lthy3⟩) (by assumption) ?ltrest3
  case lthy3 =>
    intro u hSu
    obtain ⟨s0, s1, s2, s3, s4, s5, s6, s7, s8, s9, s10, s11, s12, s13, s14, s15, s16, s17⟩ := hSu
    go_simp
    try with_reducible rfl
  try simp only [Act.put, List.getElem_toArray, List.getElem_cons_succ, List.getElem_cons_zero, List.setIfInBounds_toArray, List.set_cons_zero, List.set_cons_succ]
  refine wpAnyH_take (i := 4) (v := ?ltvv4) rfl (by kernel_rfl) (by kernel_rfl) (by kernel_rfl) (fun _ _ _ h => h) (Or.inl ⟨by rfl, ?lthy4⟩) (by assumption) ?ltrest4
  case lthy4 =>
    intro u hSu
    obtain ⟨s0, s1, s2, s3, s4, s5, s6, s7, s8, s9, s10, s11, s12, s13, s14, s15, s16, s17⟩ := hSu
    go_simp
    try with_reducible rfl
  try simp only [Act.put, List.getElem_toArray, List.getElem_cons_succ, List.getElem_cons_zero, List.setIfInBounds_toArray, List.set_cons_zero, List.set_cons_succ]
  refine wpAnyH_ready (rs := [5]) (by kernel_rfl) (by simp) ?_
  refine AllReadyH.cons rfl (fun K hK => ?_) AllReadyH.nil
  (go_simp; go_at_call 76; (with_reducible refine (CB.out _).mono ?_); rintro e w4 ⟨rfl, rfl⟩)
  refine hK.out _ _ ?lthS5 (fun hHeld => ?ltrest5)
  case lthS5 => first | with_reducible exact K3d | with_reducible exact K5 | (rw [putH_eq, putN_eq]; (with_reducible refine hi_putN ?_ ?_ (hi_putH ?_ ?_ K5)) <;> omega) | (rw [putH_eq]; (with_reducible refine hi_putH ?_ ?_ K5) <;> omega)
  clear hK K
  try simp only [Act.put, List.getElem_toArray, List.getElem_cons_succ, List.getElem_cons_zero, List.setIfInBounds_toArray, List.set_cons_zero, List.set_cons_succ]
  refine wpAnyH_ready (rs := [6]) (by kernel_rfl) (by simp) ?_
  refine AllReadyH.cons rfl (fun K hK => ?_) AllReadyH.nil
  (go_simp; go_at_call 75; (with_reducible refine (CC.out _ HBD).mono ?_); rintro e w5 ⟨a', n', c', rfl, sk', pm', hf⟩; obtain ⟨E1, hF⟩ := MID.out _ _ HBD2 hf; have K5 := KEEP.out _ hf; have E := Lib.hid E1; have HX := Lib.hid (And.intro sk' (And.intro pm' hF)); clear sk' pm' hF hf E1; obtain ⟨l1, l2, ⟨⟨v0, v1, v2, v3, v4, v5, v6, v7, v8, v9, v10, v11, v12, e0, e1, e2, e3, e4, e5, e6, e7, e8, e9, e10, e11, e12⟩, f0, f1, f2, f3, f4, f5, f6, f7, f8, f9, f10, f11, f12⟩, ⟨⟨z0, z1, z2, z3, g0, g1, g2, g3⟩, i0, i1, i2, i3⟩⟩ := E.out.open_)
  refine hK.out _ _ ?lthS6 (fun hHeld => ?ltrest6)
  case lthS6 => first | with_reducible exact K3d | with_reducible exact K5 | (rw [putH_eq, putN_eq]; (with_reducible refine hi_putN ?_ ?_ (hi_putH ?_ ?_ K5)) <;> omega) | (rw [putH_eq]; (with_reducible refine hi_putH ?_ ?_ K5) <;> omega)
  clear hK K
  try simp only [Act.put, List.getElem_toArray, List.getElem_cons_succ, List.getElem_cons_zero, List.setIfInBounds_toArray, List.set_cons_zero, List.set_cons_succ]
  refine wpAnyH_take (i := 7) (v := ?ltvv7) rfl (by kernel_rfl) (by kernel_rfl) (by kernel_rfl) (fun _ _ _ h => h) (Or.inl ⟨by rfl, ?lthy7⟩) (by assumption) ?ltrest7
  case lthy7 =>
    intro u hSu
    obtain ⟨s0, s1, s2, s3, s4, s5, s6, s7, s8, s9, s10, s11, s12, s13, s14, s15, s16, s17⟩ := hSu
    go_simp
    try with_reducible rfl
  try simp only [Act.put, List.getElem_toArray, List.getElem_cons_succ, List.getElem_cons_zero, List.setIfInBounds_toArray, List.set_cons_zero, List.set_cons_succ]
  refine wpAnyH_take (i := 8) (v := ?ltvv8) rfl (by kernel_rfl) (by kernel_rfl) (by kernel_rfl) (fun _ _ _ h => h) (Or.inl ⟨by rfl, ?lthy8⟩) (by assumption) ?ltrest8
  case lthy8 =>
    intro u hSu
    obtain ⟨s0, s1, s2, s3, s4, s5, s6, s7, s8, s9, s10, s11, s12, s13, s14, s15, s16, s17⟩ := hSu
    go_simp
    try with_reducible rfl
  try simp only [Act.put, List.getElem_toArray, List.getElem_cons_succ, List.getElem_cons_zero, List.setIfInBounds_toArray, List.set_cons_zero, List.set_cons_succ]
  refine wpAnyH_ready (rs := [9]) (by kernel_rfl) (by simp) ?_
  refine AllReadyH.cons rfl (fun K hK => ?_) AllReadyH.nil
  go_simp
  refine hK.out _ _ ?lthS9 (fun hHeld => ?ltrest9)
  case lthS9 => first | with_reducible exact K3d | with_reducible exact K5 | (rw [putH_eq, putN_eq]; (with_reducible refine hi_putN ?_ ?_ (hi_putH ?_ ?_ K5)) <;> omega) | (rw [putH_eq]; (with_reducible refine hi_putH ?_ ?_ K5) <;> omega)
  clear hK K
  try simp only [Act.put, List.getElem_toArray, List.getElem_cons_succ, List.getElem_cons_zero, List.setIfInBounds_toArray, List.set_cons_zero, List.set_cons_succ]
  refine wpAnyH_ready (rs := [10]) (by kernel_rfl) (by simp) ?_
  refine AllReadyH.cons rfl (fun K hK => ?_) AllReadyH.nil
  go_simp
  refine hK.out _ _ ?lthS10 (fun hHeld => ?ltrest10)
  case lthS10 => first | with_reducible exact K3d | with_reducible exact K5 | (rw [putH_eq, putN_eq]; (with_reducible refine hi_putN ?_ ?_ (hi_putH ?_ ?_ K5)) <;> omega) | (rw [putH_eq]; (with_reducible refine hi_putH ?_ ?_ K5) <;> omega)
  clear hK K
  try simp only [Act.put, List.getElem_toArray, List.getElem_cons_succ, List.getElem_cons_zero, List.setIfInBounds_toArray, List.set_cons_zero, List.set_cons_succ]
  refine wpAnyH_done (by kernel_rfl) ?_ _
  repeat (first | (with_reducible refine q_te ?_) | (with_reducible refine q_tr ?_) | (with_reducible refine q_br ?_) | (with_reducible refine q_be ?_) | (with_reducible refine q_bn rfl ?_) | go_values | go_skip | go_guarded | go_step | go_upon | go_back | (go_ite <;> go_prune <;> (try go_simp)))
  rw [putH_eq, putN_eq]
  refine bodyPost_ret (v := .tuple #[hV r.h.pc r.h.r a' n' c' r.h.why r.h.ep r.h.home, nV r.sf r.st r.nt r.nx]) (by simp [results, Tryz.results31, go_sem, E.out.cells]) rfl ?_
  obtain ⟨y1, y2, y3⟩ := HX.out
  exact does_end y1 y2 E.out (by omega) hlt y3 (fun i hi => Or.inl hi)
theorem do_11 {w : World} {B p t g gw : Nat} {M : Mm} {r : Res} {pc : Int} {R : Nat → Int} {a : Option Addr} {n c : Nat} {why ep home : Int} (pm : Pm w p t g gw M) (kOwn : ∀ k, (Value.slice a n c).ownBlock = some k → k < w.heap.size) (own xe d x y m : Int) (hd : 0 ≤ d ∧ d ≤ 7) (hx : 0 ≤ x ∧ x ≤ 7) (hy : 0 ≤ y ∧ y ≤ 7) (hm : -1048576 ≤ m ∧ m ≤ 1048575)
    (C : ∀ u, Below w.heap.size w u → Calls Tryz.prog 75 #[hV pc R a n c why ep home, .int .u8 d, .int .u32 (((getR R x + m % 4294967296) % 4294967296))] u (Does B p t g gw a n c r u)) :
    Calls Tryz.prog 31 #[hV pc R a n c why ep home, .agg #[.int .u8 11, .int .u8 d, .int .u8 x, .int .u8 y, .int .i32 m], .pointer (some ⟨p, 0, none⟩), .int .u16 own, .int .u64 xe] w (Does B p t g gw a n c r w) := by
  have hlt := pm.lt
  obtain ⟨hb0, hs0, B1, B2, _, _⟩ := w4_facts w (hCs pc R a n c why ep home) #[.int .u8 11, .int .u8 d, .int .u8 x, .int .u8 y, .int .i32 m]
  have CD := Lib.hid (fun u => get_any pc R a n c why ep home d hd u)
  have CX := Lib.hid (fun u => get_any pc R a n c why ep home x hx u)
  have CY := Lib.hid (fun u => get_any pc R a n c why ep home y hy u)
  have CC := Lib.hid C
  have KI := Lib.hid (hi_of B1 B2)
  have HB0 := Lib.hid hb0
  have HS0 := Lib.hid hs0
  have MID := Lib.hid (fun u w5 => @do_mid w u w5 B p t g gw (hCs pc R a n c why ep home) #[.int .u8 11, .int .u8 d, .int .u8 x, .int .u8 y, .int .i32 m] a a n c n c r hlt kOwn)
  obtain ⟨hm0, hm1⟩ := hm
  clear C pm B1 B2 hb0 hs0
  generalize hA : getR R d = Dv at *
  generalize hA2 : getR R x = Xv at *
  generalize hA3 : getR R y = Yv at *
  clear hA hA2 hA3
  go_enter Tryz.func31, Tryz.ntmps31
  go_wp2_with fail
  have hw4 : w4 w (hCs pc R a n c why ep home) #[.int .u8 11, .int .u8 d, .int .u8 x, .int .u8 y, .int .i32 m] = (((w.alloc (.cells (hCs pc R a n c why ep home) 30)).alloc (.cells #[.int .u8 11, .int .u8 d, .int .u8 x, .int .u8 y, .int .i32 m] 76)).alloc (.cells hZ 30)).alloc (.cells nZ 41) := rfl
  rw [← hw4]
  have KI2 := KI.out
  have hs := HS0.out
  clear hw4
  generalize w4 w (hCs pc R a n c why ep home) #[.int .u8 11, .int .u8 d, .int .u8 x, .int .u8 y, .int .i32 m] = W at *
  have K0 : HI w.heap.size pc R a n c why ep home 11 d x y m W.drew := KI2
  have hbr : Below W.heap.size W W.drew := (Below.refl _ _).drew
  have hW1 : w.heap.size + 1 < W.heap.size := by omega
  go_region_held3 (fun u => HI w.heap.size pc R a n c why ep home 11 d x y m u)
    (first | with_reducible exact K0 | with_reducible exact K1 | with_reducible exact K2 | with_reducible exact K3)
    (first | (go_at_call 74; (with_reducible refine (CD.out _).mono ?_); rintro e w1 ⟨rfl, hb1⟩; have hB1 := below_of hbr hb1; have K1 := hi_go KI2 hW1 hB1) | (go_at_call 74; (with_reducible refine (CX.out _).mono ?_); rintro e w2 ⟨rfl, hb2⟩; have hB2 := below_of hB1 hb2; have K2 := hi_go KI2 hW1 hB2) | (go_at_call 74; (with_reducible refine (CY.out _).mono ?_); rintro e w3 ⟨rfl, hb3⟩; have hB3 := below_of hB2 hb3; have K3 := hi_go KI2 hW1 hB3))
  rename_i hHeld
  clear hHeld
  rw [show IntKind.u32.wrap m = m % 4294967296 from IntKind.wrap_u32 m]
  have HB3 := Lib.hid hB3
  have HBU := Lib.hid (below_of HB0.out hB3)
  have hI0 : 0 ≤ m % 4294967296 := by omega
  have hI1 : m % 4294967296 ≤ 4294967295 := by omega
  generalize m % 4294967296 = I at *
  clear K0 K1 K2 hB1 hB2 hb1 hb2 hb3 hbr KI KI2 CD CX CY HB0 HS0 hB3
  obtain ⟨c0, c1, c2, c3, c4, c5, c6, c7, c8, c9, c10, c11, c12, i0, i1, i2, i3, i4⟩ := K3
  repeat (first | (with_reducible refine q_te ?_) | (with_reducible refine q_tr ?_) | (with_reducible refine q_br ?_) | (with_reducible refine q_be ?_) | (with_reducible refine q_bn rfl ?_) | (go_at_call 75; (with_reducible refine (CC.out _ HBU.out).mono ?_); rintro e w5 ⟨a', n', c', rfl, sk', pm', hf⟩; obtain ⟨E1, hF⟩ := MID.out _ _ HB3.out hf; have E := Lib.hid E1; have HX := Lib.hid (And.intro sk' (And.intro pm' hF)); clear E1 sk' pm' hF hf; obtain ⟨l1, l2, ⟨⟨v0, v1, v2, v3, v4, v5, v6, v7, v8, v9, v10, v11, v12, e0, e1, e2, e3, e4, e5, e6, e7, e8, e9, e10, e11, e12⟩, f0, f1, f2, f3, f4, f5, f6, f7, f8, f9, f10, f11, f12⟩, ⟨⟨z0, z1, z2, z3, g0, g1, g2, g3⟩, i0, i1, i2, i3⟩⟩ := E.out.open_; simp only []) | go_values | go_skip | go_guarded | go_step | go_upon | go_back | (go_ite <;> go_prune <;> (try go_simp)))
  rw [putH_eq, putN_eq]
  refine bodyPost_ret (v := .tuple #[hV r.h.pc r.h.r a' n' c' r.h.why r.h.ep r.h.home, nV r.sf r.st r.nt r.nx]) (by simp [results, Tryz.results31, go_sem, E.out.cells]) rfl ?_
  obtain ⟨y1, y2, y3⟩ := HX.out
  exact does_end y1 y2 E.out (by omega) hlt y3 (fun i hi => Or.inl hi)
theorem do_12 {w : World} {B p t g gw : Nat} {M : Mm} {r : Res} {pc : Int} {R : Nat → Int} {a : Option Addr} {n c : Nat} {why ep home : Int} (pm : Pm w p t g gw M) (kOwn : ∀ k, (Value.slice a n c).ownBlock = some k → k < w.heap.size) (own xe d x y m : Int) (hd : 0 ≤ d ∧ d ≤ 7) (hx : 0 ≤ x ∧ x ≤ 7) (hy : 0 ≤ y ∧ y ≤ 7) (hm : -1048576 ≤ m ∧ m ≤ 1048575)
    (C : ∀ u, Below w.heap.size w u → Calls Tryz.prog 77 #[hV pc R a n c why ep home, .pointer (some ⟨p, 0, none⟩), .int .u8 d, .int .u32 ((getR R x + m % 4294967296) % 4294967296)] u (Does B p t g gw a n c r u)) :
    Calls Tryz.prog 31 #[hV pc R a n c why ep home, .agg #[.int .u8 12, .int .u8 d, .int .u8 x, .int .u8 y, .int .i32 m], .pointer (some ⟨p, 0, none⟩), .int .u16 own, .int .u64 xe] w (Does B p t g gw a n c r w) := by
  have hlt := pm.lt
  obtain ⟨hb0, hs0, B1, B2, _, _⟩ := w4_facts w (hCs pc R a n c why ep home) #[.int .u8 12, .int .u8 d, .int .u8 x, .int .u8 y, .int .i32 m]
  have CD := Lib.hid (fun u => get_any pc R a n c why ep home d hd u)
  have CX := Lib.hid (fun u => get_any pc R a n c why ep home x hx u)
  have CY := Lib.hid (fun u => get_any pc R a n c why ep home y hy u)
  have CC := Lib.hid C
  have KI := Lib.hid (hi_of B1 B2)
  have HB0 := Lib.hid hb0
  have HS0 := Lib.hid hs0
  have MID := Lib.hid (fun u w5 => @do_mid w u w5 B p t g gw (hCs pc R a n c why ep home) #[.int .u8 12, .int .u8 d, .int .u8 x, .int .u8 y, .int .i32 m] a a n c n c r hlt kOwn)
  obtain ⟨hm0, hm1⟩ := hm
  clear C pm B1 B2 hb0 hs0
  generalize hA : getR R d = Dv at *
  generalize hA2 : getR R x = Xv at *
  generalize hA3 : getR R y = Yv at *
  clear hA hA2 hA3
  go_enter Tryz.func31, Tryz.ntmps31
  go_wp2_with fail
  have hw4 : w4 w (hCs pc R a n c why ep home) #[.int .u8 12, .int .u8 d, .int .u8 x, .int .u8 y, .int .i32 m] = (((w.alloc (.cells (hCs pc R a n c why ep home) 30)).alloc (.cells #[.int .u8 12, .int .u8 d, .int .u8 x, .int .u8 y, .int .i32 m] 76)).alloc (.cells hZ 30)).alloc (.cells nZ 41) := rfl
  rw [← hw4]
  have KI2 := KI.out
  have hs := HS0.out
  clear hw4
  generalize w4 w (hCs pc R a n c why ep home) #[.int .u8 12, .int .u8 d, .int .u8 x, .int .u8 y, .int .i32 m] = W at *
  have K0 : HI w.heap.size pc R a n c why ep home 12 d x y m W.drew := KI2
  have hbr : Below W.heap.size W W.drew := (Below.refl _ _).drew
  have hW1 : w.heap.size + 1 < W.heap.size := by omega
  go_region_held3 (fun u => HI w.heap.size pc R a n c why ep home 12 d x y m u)
    (first | with_reducible exact K0 | with_reducible exact K1 | with_reducible exact K2 | with_reducible exact K3)
    (first | (go_at_call 74; (with_reducible refine (CD.out _).mono ?_); rintro e w1 ⟨rfl, hb1⟩; have hB1 := below_of hbr hb1; have K1 := hi_go KI2 hW1 hB1) | (go_at_call 74; (with_reducible refine (CX.out _).mono ?_); rintro e w2 ⟨rfl, hb2⟩; have hB2 := below_of hB1 hb2; have K2 := hi_go KI2 hW1 hB2) | (go_at_call 74; (with_reducible refine (CY.out _).mono ?_); rintro e w3 ⟨rfl, hb3⟩; have hB3 := below_of hB2 hb3; have K3 := hi_go KI2 hW1 hB3))
  rename_i hHeld
  clear hHeld
  rw [show IntKind.u32.wrap m = m % 4294967296 from IntKind.wrap_u32 m]
  have HB3 := Lib.hid hB3
  have HBU := Lib.hid (below_of HB0.out hB3)
  have hI0 : 0 ≤ m % 4294967296 := by omega
  have hI1 : m % 4294967296 ≤ 4294967295 := by omega
  generalize m % 4294967296 = I at *
  clear K0 K1 K2 hB1 hB2 hb1 hb2 hb3 hbr KI KI2 CD CX CY HB0 HS0 hB3
  obtain ⟨c0, c1, c2, c3, c4, c5, c6, c7, c8, c9, c10, c11, c12, i0, i1, i2, i3, i4⟩ := K3
  repeat (first | (with_reducible refine q_te ?_) | (with_reducible refine q_tr ?_) | (with_reducible refine q_br ?_) | (with_reducible refine q_be ?_) | (with_reducible refine q_bn rfl ?_) | (go_at_call 77; (with_reducible refine (CC.out _ HBU.out).mono ?_); rintro e w5 ⟨a', n', c', rfl, sk', pm', hf⟩; obtain ⟨E1, hF⟩ := MID.out _ _ HB3.out hf; have E := Lib.hid E1; have HX := Lib.hid (And.intro sk' (And.intro pm' hF)); clear E1 sk' pm' hF hf; obtain ⟨l1, l2, ⟨⟨v0, v1, v2, v3, v4, v5, v6, v7, v8, v9, v10, v11, v12, e0, e1, e2, e3, e4, e5, e6, e7, e8, e9, e10, e11, e12⟩, f0, f1, f2, f3, f4, f5, f6, f7, f8, f9, f10, f11, f12⟩, ⟨⟨z0, z1, z2, z3, g0, g1, g2, g3⟩, i0, i1, i2, i3⟩⟩ := E.out.open_; simp only []) | go_values | go_skip | go_guarded | go_step | go_upon | go_back | (go_ite <;> go_prune <;> (try go_simp)))
  rw [putH_eq, putN_eq]
  refine bodyPost_ret (v := .tuple #[hV r.h.pc r.h.r a' n' c' r.h.why r.h.ep r.h.home, nV r.sf r.st r.nt r.nx]) (by simp [results, Tryz.results31, go_sem, E.out.cells]) rfl ?_
  obtain ⟨y1, y2, y3⟩ := HX.out
  exact does_end y1 y2 E.out (by omega) hlt y3 (fun i hi => Or.inl hi)
theorem do_13 {w : World} {B p t g gw : Nat} {M : Mm} {r : Res} {pc : Int} {R : Nat → Int} {a : Option Addr} {n c : Nat} {why ep home : Int} (pm : Pm w p t g gw M) (kOwn : ∀ k, (Value.slice a n c).ownBlock = some k → k < w.heap.size) (own xe d x y m : Int) (hd : 0 ≤ d ∧ d ≤ 7) (hx : 0 ≤ x ∧ x ≤ 7) (hy : 0 ≤ y ∧ y ≤ 7) (hm : -1048576 ≤ m ∧ m ≤ 1048575)
    (C : ∀ u, Below w.heap.size w u → Calls Tryz.prog 78 #[hV pc R a n c why ep home, .pointer (some ⟨p, 0, none⟩), .int .u16 own, .int .u32 ((getR R x + m % 4294967296) % 4294967296), .int .u32 (getR R d)] u (Does B p t g gw a n c r u)) :
    Calls Tryz.prog 31 #[hV pc R a n c why ep home, .agg #[.int .u8 13, .int .u8 d, .int .u8 x, .int .u8 y, .int .i32 m], .pointer (some ⟨p, 0, none⟩), .int .u16 own, .int .u64 xe] w (Does B p t g gw a n c r w) := by
  have hlt := pm.lt
  obtain ⟨hb0, hs0, B1, B2, _, _⟩ := w4_facts w (hCs pc R a n c why ep home) #[.int .u8 13, .int .u8 d, .int .u8 x, .int .u8 y, .int .i32 m]
  have CD := Lib.hid (fun u => get_any pc R a n c why ep home d hd u)
  have CX := Lib.hid (fun u => get_any pc R a n c why ep home x hx u)
  have CY := Lib.hid (fun u => get_any pc R a n c why ep home y hy u)
  have CC := Lib.hid C
  have KI := Lib.hid (hi_of B1 B2)
  have HB0 := Lib.hid hb0
  have HS0 := Lib.hid hs0
  have MID := Lib.hid (fun u w5 => @do_mid w u w5 B p t g gw (hCs pc R a n c why ep home) #[.int .u8 13, .int .u8 d, .int .u8 x, .int .u8 y, .int .i32 m] a a n c n c r hlt kOwn)
  obtain ⟨hm0, hm1⟩ := hm
  clear C pm B1 B2 hb0 hs0
  generalize hA : getR R d = Dv at *
  generalize hA2 : getR R x = Xv at *
  generalize hA3 : getR R y = Yv at *
  clear hA hA2 hA3
  go_enter Tryz.func31, Tryz.ntmps31
  go_wp2_with fail
  have hw4 : w4 w (hCs pc R a n c why ep home) #[.int .u8 13, .int .u8 d, .int .u8 x, .int .u8 y, .int .i32 m] = (((w.alloc (.cells (hCs pc R a n c why ep home) 30)).alloc (.cells #[.int .u8 13, .int .u8 d, .int .u8 x, .int .u8 y, .int .i32 m] 76)).alloc (.cells hZ 30)).alloc (.cells nZ 41) := rfl
  rw [← hw4]
  have KI2 := KI.out
  have hs := HS0.out
  clear hw4
  generalize w4 w (hCs pc R a n c why ep home) #[.int .u8 13, .int .u8 d, .int .u8 x, .int .u8 y, .int .i32 m] = W at *
  have K0 : HI w.heap.size pc R a n c why ep home 13 d x y m W.drew := KI2
  have hbr : Below W.heap.size W W.drew := (Below.refl _ _).drew
  have hW1 : w.heap.size + 1 < W.heap.size := by omega
  go_region_held3 (fun u => HI w.heap.size pc R a n c why ep home 13 d x y m u)
    (first | with_reducible exact K0 | with_reducible exact K1 | with_reducible exact K2 | with_reducible exact K3)
    (first | (go_at_call 74; (with_reducible refine (CD.out _).mono ?_); rintro e w1 ⟨rfl, hb1⟩; have hB1 := below_of hbr hb1; have K1 := hi_go KI2 hW1 hB1) | (go_at_call 74; (with_reducible refine (CX.out _).mono ?_); rintro e w2 ⟨rfl, hb2⟩; have hB2 := below_of hB1 hb2; have K2 := hi_go KI2 hW1 hB2) | (go_at_call 74; (with_reducible refine (CY.out _).mono ?_); rintro e w3 ⟨rfl, hb3⟩; have hB3 := below_of hB2 hb3; have K3 := hi_go KI2 hW1 hB3))
  rename_i hHeld
  clear hHeld
  rw [show IntKind.u32.wrap m = m % 4294967296 from IntKind.wrap_u32 m]
  have HB3 := Lib.hid hB3
  have HBU := Lib.hid (below_of HB0.out hB3)
  have hI0 : 0 ≤ m % 4294967296 := by omega
  have hI1 : m % 4294967296 ≤ 4294967295 := by omega
  generalize m % 4294967296 = I at *
  clear K0 K1 K2 hB1 hB2 hb1 hb2 hb3 hbr KI KI2 CD CX CY HB0 HS0 hB3
  obtain ⟨c0, c1, c2, c3, c4, c5, c6, c7, c8, c9, c10, c11, c12, i0, i1, i2, i3, i4⟩ := K3
  repeat (first | (with_reducible refine q_te ?_) | (with_reducible refine q_tr ?_) | (with_reducible refine q_br ?_) | (with_reducible refine q_be ?_) | (with_reducible refine q_bn rfl ?_) | (go_at_call 78; (with_reducible refine (CC.out _ HBU.out).mono ?_); rintro e w5 ⟨a', n', c', rfl, sk', pm', hf⟩; obtain ⟨E1, hF⟩ := MID.out _ _ HB3.out hf; have E := Lib.hid E1; have HX := Lib.hid (And.intro sk' (And.intro pm' hF)); clear E1 sk' pm' hF hf; obtain ⟨l1, l2, ⟨⟨v0, v1, v2, v3, v4, v5, v6, v7, v8, v9, v10, v11, v12, e0, e1, e2, e3, e4, e5, e6, e7, e8, e9, e10, e11, e12⟩, f0, f1, f2, f3, f4, f5, f6, f7, f8, f9, f10, f11, f12⟩, ⟨⟨z0, z1, z2, z3, g0, g1, g2, g3⟩, i0, i1, i2, i3⟩⟩ := E.out.open_; simp only []) | go_values | go_skip | go_guarded | go_step | go_upon | go_back | (go_ite <;> go_prune <;> (try go_simp)))
  rw [putH_eq, putN_eq]
  refine bodyPost_ret (v := .tuple #[hV r.h.pc r.h.r a' n' c' r.h.why r.h.ep r.h.home, nV r.sf r.st r.nt r.nx]) (by simp [results, Tryz.results31, go_sem, E.out.cells]) rfl ?_
  obtain ⟨y1, y2, y3⟩ := HX.out
  exact does_end y1 y2 E.out (by omega) hlt y3 (fun i hi => Or.inl hi)
end Go.Proofs.YtihcellcdkhadaaGreat.HF
