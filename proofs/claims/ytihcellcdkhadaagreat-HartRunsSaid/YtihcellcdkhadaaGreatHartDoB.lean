/-
  Instructions: what a hart's do makes of them. Nothing here is a statement of the seed.
-/
import Derived.Test.YtihcellcdkhadaaGreatHartDo
set_option linter.unusedSimpArgs false
set_option linter.unusedVariables false
namespace Go.Proofs.YtihcellcdkhadaaGreat.HF
open Go.RowKit PM PR PF MM MR MF HM HR
set_option maxHeartbeats 2000000
set_option maxRecDepth 10000
theorem do_5 {w : World} {B p t g gw : Nat} {M : Mm} {r : Res} {pc : Int} {R : Nat → Int} {a : Option Addr} {n c : Nat} {why ep home : Int} (pm : Pm w p t g gw M) (kOwn : ∀ k, (Value.slice a n c).ownBlock = some k → k < w.heap.size) (own xe d x y m : Int) (hd : 0 ≤ d ∧ d ≤ 7) (hx : 0 ≤ x ∧ x ≤ 7) (hy : 0 ≤ y ∧ y ≤ 7) (hm : -1048576 ≤ m ∧ m ≤ 1048575)
    (C : ∀ u, Below w.heap.size w u → Calls Tryz.prog 75 #[hV pc R a n c why ep home, .int .u8 d, .int .u32 (bits .and .u32 (getR R x) (getR R y))] u (Does B p t g gw a n c r u)) :
    Calls Tryz.prog 31 #[hV pc R a n c why ep home, .agg #[.int .u8 5, .int .u8 d, .int .u8 x, .int .u8 y, .int .i32 m], .pointer (some ⟨p, 0, none⟩), .int .u16 own, .int .u64 xe] w (Does B p t g gw a n c r w) := by
  have hlt := pm.lt
  obtain ⟨hb0, hs0, B1, B2, _, _⟩ := w4_facts w (hCs pc R a n c why ep home) #[.int .u8 5, .int .u8 d, .int .u8 x, .int .u8 y, .int .i32 m]
  have CD := Lib.hid (fun u => get_any pc R a n c why ep home d hd u)
  have CX := Lib.hid (fun u => get_any pc R a n c why ep home x hx u)
  have CY := Lib.hid (fun u => get_any pc R a n c why ep home y hy u)
  have CC := Lib.hid C
  have KI := Lib.hid (hi_of B1 B2)
  have HB0 := Lib.hid hb0
  have HS0 := Lib.hid hs0
  have MID := Lib.hid (fun u w5 => @do_mid w u w5 B p t g gw (hCs pc R a n c why ep home) #[.int .u8 5, .int .u8 d, .int .u8 x, .int .u8 y, .int .i32 m] a a n c n c r hlt kOwn)
  obtain ⟨hm0, hm1⟩ := hm
  clear C pm B1 B2 hb0 hs0
  generalize hA : getR R d = Dv at *
  generalize hA2 : getR R x = Xv at *
  generalize hA3 : getR R y = Yv at *
  clear hA hA2 hA3
  go_enter Tryz.func31, Tryz.ntmps31
  go_wp2_with fail
  have hw4 : w4 w (hCs pc R a n c why ep home) #[.int .u8 5, .int .u8 d, .int .u8 x, .int .u8 y, .int .i32 m] = (((w.alloc (.cells (hCs pc R a n c why ep home) 30)).alloc (.cells #[.int .u8 5, .int .u8 d, .int .u8 x, .int .u8 y, .int .i32 m] 76)).alloc (.cells hZ 30)).alloc (.cells nZ 41) := rfl
  rw [← hw4]
  have KI2 := KI.out
  have hs := HS0.out
  clear hw4
  generalize w4 w (hCs pc R a n c why ep home) #[.int .u8 5, .int .u8 d, .int .u8 x, .int .u8 y, .int .i32 m] = W at *
  have K0 : HI w.heap.size pc R a n c why ep home 5 d x y m W.drew := KI2
  have hbr : Below W.heap.size W W.drew := (Below.refl _ _).drew
  have hW1 : w.heap.size + 1 < W.heap.size := by omega
  go_region_held3 (fun u => HI w.heap.size pc R a n c why ep home 5 d x y m u)
    (first | with_reducible exact K0 | with_reducible exact K1 | with_reducible exact K2 | with_reducible exact K3)
    (first | (go_at_call 74; (with_reducible refine (CD.out _).mono ?_); rintro e w1 ⟨rfl, hb1⟩; have hB1 := below_of hbr hb1; have K1 := hi_go KI2 hW1 hB1) | (go_at_call 74; (with_reducible refine (CX.out _).mono ?_); rintro e w2 ⟨rfl, hb2⟩; have hB2 := below_of hB1 hb2; have K2 := hi_go KI2 hW1 hB2) | (go_at_call 74; (with_reducible refine (CY.out _).mono ?_); rintro e w3 ⟨rfl, hb3⟩; have hB3 := below_of hB2 hb3; have K3 := hi_go KI2 hW1 hB3))
  rename_i hHeld
  clear hHeld
  rw [show IntKind.u32.wrap m = m % 4294967296 from IntKind.wrap_u32 m]
  have HB3 := Lib.hid hB3
  have HBU := Lib.hid (below_of HB0.out hB3)
  have hI0 : 0 ≤ m % 4294967296 := by omega
  have hI1 : m % 4294967296 ≤ 4294967295 := by omega
  generalize m % 4294967296 = I at *
  clear K0 K1 K2 hB1 hB2 hb1 hb2 hb3 hbr KI KI2 CD CX CY HB0 HS0 hB3
  obtain ⟨c0, c1, c2, c3, c4, c5, c6, c7, c8, c9, c10, c11, c12, i0, i1, i2, i3, i4⟩ := K3
  repeat (first | (with_reducible refine q_te ?_) | (with_reducible refine q_tr ?_) | (with_reducible refine q_br ?_) | (with_reducible refine q_be ?_) | (with_reducible refine q_bn rfl ?_) | (go_at_call 75; (with_reducible refine (CC.out _ HBU.out).mono ?_); rintro e w5 ⟨a', n', c', rfl, sk', pm', hf⟩; obtain ⟨E1, hF⟩ := MID.out _ _ HB3.out hf; have E := Lib.hid E1; have HX := Lib.hid (And.intro sk' (And.intro pm' hF)); clear E1 sk' pm' hF hf; obtain ⟨l1, l2, ⟨⟨v0, v1, v2, v3, v4, v5, v6, v7, v8, v9, v10, v11, v12, e0, e1, e2, e3, e4, e5, e6, e7, e8, e9, e10, e11, e12⟩, f0, f1, f2, f3, f4, f5, f6, f7, f8, f9, f10, f11, f12⟩, ⟨⟨z0, z1, z2, z3, g0, g1, g2, g3⟩, i0, i1, i2, i3⟩⟩ := E.out.open_; simp only []) | go_values | go_skip | go_guarded | go_step | go_upon | go_back | (go_ite <;> go_prune <;> (try go_simp)))
  rw [putH_eq, putN_eq]
  refine bodyPost_ret (v := .tuple #[hV r.h.pc r.h.r a' n' c' r.h.why r.h.ep r.h.home, nV r.sf r.st r.nt r.nx]) (by simp [results, Tryz.results31, go_sem, E.out.cells]) rfl ?_
  obtain ⟨y1, y2, y3⟩ := HX.out
  exact does_end y1 y2 E.out (by omega) hlt y3 (fun i hi => Or.inl hi)
theorem do_6 {w : World} {B p t g gw : Nat} {M : Mm} {r : Res} {pc : Int} {R : Nat → Int} {a : Option Addr} {n c : Nat} {why ep home : Int} (pm : Pm w p t g gw M) (kOwn : ∀ k, (Value.slice a n c).ownBlock = some k → k < w.heap.size) (own xe d x y m : Int) (hd : 0 ≤ d ∧ d ≤ 7) (hx : 0 ≤ x ∧ x ≤ 7) (hy : 0 ≤ y ∧ y ≤ 7) (hm : -1048576 ≤ m ∧ m ≤ 1048575)
    (C : ∀ u, Below w.heap.size w u → Calls Tryz.prog 75 #[hV pc R a n c why ep home, .int .u8 d, .int .u32 (bits .or .u32 (getR R x) (getR R y))] u (Does B p t g gw a n c r u)) :
    Calls Tryz.prog 31 #[hV pc R a n c why ep home, .agg #[.int .u8 6, .int .u8 d, .int .u8 x, .int .u8 y, .int .i32 m], .pointer (some ⟨p, 0, none⟩), .int .u16 own, .int .u64 xe] w (Does B p t g gw a n c r w) := by
  have hlt := pm.lt
  obtain ⟨hb0, hs0, B1, B2, _, _⟩ := w4_facts w (hCs pc R a n c why ep home) #[.int .u8 6, .int .u8 d, .int .u8 x, .int .u8 y, .int .i32 m]
  have CD := Lib.hid (fun u => get_any pc R a n c why ep home d hd u)
  have CX := Lib.hid (fun u => get_any pc R a n c why ep home x hx u)
  have CY := Lib.hid (fun u => get_any pc R a n c why ep home y hy u)
  have CC := Lib.hid C
  have KI := Lib.hid (hi_of B1 B2)
  have HB0 := Lib.hid hb0
  have HS0 := Lib.hid hs0
  have MID := Lib.hid (fun u w5 => @do_mid w u w5 B p t g gw (hCs pc R a n c why ep home) #[.int .u8 6, .int .u8 d, .int .u8 x, .int .u8 y, .int .i32 m] a a n c n c r hlt kOwn)
  obtain ⟨hm0, hm1⟩ := hm
  clear C pm B1 B2 hb0 hs0
  generalize hA : getR R d = Dv at *
  generalize hA2 : getR R x = Xv at *
  generalize hA3 : getR R y = Yv at *
  clear hA hA2 hA3
  go_enter Tryz.func31, Tryz.ntmps31
  go_wp2_with fail
  have hw4 : w4 w (hCs pc R a n c why ep home) #[.int .u8 6, .int .u8 d, .int .u8 x, .int .u8 y, .int .i32 m] = (((w.alloc (.cells (hCs pc R a n c why ep home) 30)).alloc (.cells #[.int .u8 6, .int .u8 d, .int .u8 x, .int .u8 y, .int .i32 m] 76)).alloc (.cells hZ 30)).alloc (.cells nZ 41) := rfl
  rw [← hw4]
  have KI2 := KI.out
  have hs := HS0.out
  clear hw4
  generalize w4 w (hCs pc R a n c why ep home) #[.int .u8 6, .int .u8 d, .int .u8 x, .int .u8 y, .int .i32 m] = W at *
  have K0 : HI w.heap.size pc R a n c why ep home 6 d x y m W.drew := KI2
  have hbr : Below W.heap.size W W.drew := (Below.refl _ _).drew
  have hW1 : w.heap.size + 1 < W.heap.size := by omega
  go_region_held3 (fun u => HI w.heap.size pc R a n c why ep home 6 d x y m u)
    (first | with_reducible exact K0 | with_reducible exact K1 | with_reducible exact K2 | with_reducible exact K3)
    (first | (go_at_call 74; (with_reducible refine (CD.out _).mono ?_); rintro e w1 ⟨rfl, hb1⟩; have hB1 := below_of hbr hb1; have K1 := hi_go KI2 hW1 hB1) | (go_at_call 74; (with_reducible refine (CX.out _).mono ?_); rintro e w2 ⟨rfl, hb2⟩; have hB2 := below_of hB1 hb2; have K2 := hi_go KI2 hW1 hB2) | (go_at_call 74; (with_reducible refine (CY.out _).mono ?_); rintro e w3 ⟨rfl, hb3⟩; have hB3 := below_of hB2 hb3; have K3 := hi_go KI2 hW1 hB3))
  rename_i hHeld
  clear hHeld
  rw [show IntKind.u32.wrap m = m % 4294967296 from IntKind.wrap_u32 m]
  have HB3 := Lib.hid hB3
  have HBU := Lib.hid (below_of HB0.out hB3)
  have hI0 : 0 ≤ m % 4294967296 := by omega
  have hI1 : m % 4294967296 ≤ 4294967295 := by omega
  generalize m % 4294967296 = I at *
  clear K0 K1 K2 hB1 hB2 hb1 hb2 hb3 hbr KI KI2 CD CX CY HB0 HS0 hB3
  obtain ⟨c0, c1, c2, c3, c4, c5, c6, c7, c8, c9, c10, c11, c12, i0, i1, i2, i3, i4⟩ := K3
  repeat (first | (with_reducible refine q_te ?_) | (with_reducible refine q_tr ?_) | (with_reducible refine q_br ?_) | (with_reducible refine q_be ?_) | (with_reducible refine q_bn rfl ?_) | (go_at_call 75; (with_reducible refine (CC.out _ HBU.out).mono ?_); rintro e w5 ⟨a', n', c', rfl, sk', pm', hf⟩; obtain ⟨E1, hF⟩ := MID.out _ _ HB3.out hf; have E := Lib.hid E1; have HX := Lib.hid (And.intro sk' (And.intro pm' hF)); clear E1 sk' pm' hF hf; obtain ⟨l1, l2, ⟨⟨v0, v1, v2, v3, v4, v5, v6, v7, v8, v9, v10, v11, v12, e0, e1, e2, e3, e4, e5, e6, e7, e8, e9, e10, e11, e12⟩, f0, f1, f2, f3, f4, f5, f6, f7, f8, f9, f10, f11, f12⟩, ⟨⟨z0, z1, z2, z3, g0, g1, g2, g3⟩, i0, i1, i2, i3⟩⟩ := E.out.open_; simp only []) | go_values | go_skip | go_guarded | go_step | go_upon | go_back | (go_ite <;> go_prune <;> (try go_simp)))
  rw [putH_eq, putN_eq]
  refine bodyPost_ret (v := .tuple #[hV r.h.pc r.h.r a' n' c' r.h.why r.h.ep r.h.home, nV r.sf r.st r.nt r.nx]) (by simp [results, Tryz.results31, go_sem, E.out.cells]) rfl ?_
  obtain ⟨y1, y2, y3⟩ := HX.out
  exact does_end y1 y2 E.out (by omega) hlt y3 (fun i hi => Or.inl hi)
theorem do_7 {w : World} {B p t g gw : Nat} {M : Mm} {r : Res} {pc : Int} {R : Nat → Int} {a : Option Addr} {n c : Nat} {why ep home : Int} (pm : Pm w p t g gw M) (kOwn : ∀ k, (Value.slice a n c).ownBlock = some k → k < w.heap.size) (own xe d x y m : Int) (hd : 0 ≤ d ∧ d ≤ 7) (hx : 0 ≤ x ∧ x ≤ 7) (hy : 0 ≤ y ∧ y ≤ 7) (hm : -1048576 ≤ m ∧ m ≤ 1048575)
    (C : ∀ u, Below w.heap.size w u → Calls Tryz.prog 75 #[hV pc R a n c why ep home, .int .u8 d, .int .u32 (bits .xor .u32 (getR R x) (getR R y))] u (Does B p t g gw a n c r u)) :
    Calls Tryz.prog 31 #[hV pc R a n c why ep home, .agg #[.int .u8 7, .int .u8 d, .int .u8 x, .int .u8 y, .int .i32 m], .pointer (some ⟨p, 0, none⟩), .int .u16 own, .int .u64 xe] w (Does B p t g gw a n c r w) := by
  have hlt := pm.lt
  obtain ⟨hb0, hs0, B1, B2, _, _⟩ := w4_facts w (hCs pc R a n c why ep home) #[.int .u8 7, .int .u8 d, .int .u8 x, .int .u8 y, .int .i32 m]
  have CD := Lib.hid (fun u => get_any pc R a n c why ep home d hd u)
  have CX := Lib.hid (fun u => get_any pc R a n c why ep home x hx u)
  have CY := Lib.hid (fun u => get_any pc R a n c why ep home y hy u)
  have CC := Lib.hid C
  have KI := Lib.hid (hi_of B1 B2)
  have HB0 := Lib.hid hb0
  have HS0 := Lib.hid hs0
  have MID := Lib.hid (fun u w5 => @do_mid w u w5 B p t g gw (hCs pc R a n c why ep home) #[.int .u8 7, .int .u8 d, .int .u8 x, .int .u8 y, .int .i32 m] a a n c n c r hlt kOwn)
  obtain ⟨hm0, hm1⟩ := hm
  clear C pm B1 B2 hb0 hs0
  generalize hA : getR R d = Dv at *
  generalize hA2 : getR R x = Xv at *
  generalize hA3 : getR R y = Yv at *
  clear hA hA2 hA3
  go_enter Tryz.func31, Tryz.ntmps31
  go_wp2_with fail
  have hw4 : w4 w (hCs pc R a n c why ep home) #[.int .u8 7, .int .u8 d, .int .u8 x, .int .u8 y, .int .i32 m] = (((w.alloc (.cells (hCs pc R a n c why ep home) 30)).alloc (.cells #[.int .u8 7, .int .u8 d, .int .u8 x, .int .u8 y, .int .i32 m] 76)).alloc (.cells hZ 30)).alloc (.cells nZ 41) := rfl
  rw [← hw4]
  have KI2 := KI.out
  have hs := HS0.out
  clear hw4
  generalize w4 w (hCs pc R a n c why ep home) #[.int .u8 7, .int .u8 d, .int .u8 x, .int .u8 y, .int .i32 m] = W at *
  have K0 : HI w.heap.size pc R a n c why ep home 7 d x y m W.drew := KI2
  have hbr : Below W.heap.size W W.drew := (Below.refl _ _).drew
  have hW1 : w.heap.size + 1 < W.heap.size := by omega
  go_region_held3 (fun u => HI w.heap.size pc R a n c why ep home 7 d x y m u)
    (first | with_reducible exact K0 | with_reducible exact K1 | with_reducible exact K2 | with_reducible exact K3)
    (first | (go_at_call 74; (with_reducible refine (CD.out _).mono ?_); rintro e w1 ⟨rfl, hb1⟩; have hB1 := below_of hbr hb1; have K1 := hi_go KI2 hW1 hB1) | (go_at_call 74; (with_reducible refine (CX.out _).mono ?_); rintro e w2 ⟨rfl, hb2⟩; have hB2 := below_of hB1 hb2; have K2 := hi_go KI2 hW1 hB2) | (go_at_call 74; (with_reducible refine (CY.out _).mono ?_); rintro e w3 ⟨rfl, hb3⟩; have hB3 := below_of hB2 hb3; have K3 := hi_go KI2 hW1 hB3))
  rename_i hHeld
  clear hHeld
  rw [show IntKind.u32.wrap m = m % 4294967296 from IntKind.wrap_u32 m]
  have HB3 := Lib.hid hB3
  have HBU := Lib.hid (below_of HB0.out hB3)
  have hI0 : 0 ≤ m % 4294967296 := by omega
  have hI1 : m % 4294967296 ≤ 4294967295 := by omega
  generalize m % 4294967296 = I at *
  clear K0 K1 K2 hB1 hB2 hb1 hb2 hb3 hbr KI KI2 CD CX CY HB0 HS0 hB3
  obtain ⟨c0, c1, c2, c3, c4, c5, c6, c7, c8, c9, c10, c11, c12, i0, i1, i2, i3, i4⟩ := K3
  repeat (first | (with_reducible refine q_te ?_) | (with_reducible refine q_tr ?_) | (with_reducible refine q_br ?_) | (with_reducible refine q_be ?_) | (with_reducible refine q_bn rfl ?_) | (go_at_call 75; (with_reducible refine (CC.out _ HBU.out).mono ?_); rintro e w5 ⟨a', n', c', rfl, sk', pm', hf⟩; obtain ⟨E1, hF⟩ := MID.out _ _ HB3.out hf; have E := Lib.hid E1; have HX := Lib.hid (And.intro sk' (And.intro pm' hF)); clear E1 sk' pm' hF hf; obtain ⟨l1, l2, ⟨⟨v0, v1, v2, v3, v4, v5, v6, v7, v8, v9, v10, v11, v12, e0, e1, e2, e3, e4, e5, e6, e7, e8, e9, e10, e11, e12⟩, f0, f1, f2, f3, f4, f5, f6, f7, f8, f9, f10, f11, f12⟩, ⟨⟨z0, z1, z2, z3, g0, g1, g2, g3⟩, i0, i1, i2, i3⟩⟩ := E.out.open_; simp only []) | go_values | go_skip | go_guarded | go_step | go_upon | go_back | (go_ite <;> go_prune <;> (try go_simp)))
  rw [putH_eq, putN_eq]
  refine bodyPost_ret (v := .tuple #[hV r.h.pc r.h.r a' n' c' r.h.why r.h.ep r.h.home, nV r.sf r.st r.nt r.nx]) (by simp [results, Tryz.results31, go_sem, E.out.cells]) rfl ?_
  obtain ⟨y1, y2, y3⟩ := HX.out
  exact does_end y1 y2 E.out (by omega) hlt y3 (fun i hi => Or.inl hi)
theorem and31 (Y : Int) (hY : B32 Y) : bits .and .u32 Y 31 = Y % 32 := by
  obtain ⟨h0, h1⟩ := hY
  rw [u32_and Y 31 h0 (by omega) (by omega) (by omega)]
  have e : Y.toNat &&& (31 : Int).toNat = Y.toNat % 2 ^ 5 := Nat.and_two_pow_sub_one_eq_mod Y.toNat 5
  rw [e]
  omega
theorem shl_run (X Y : Int) (hY : B32 Y) (u : World) : (Op.shift .shl .u32 X .u32 (bits .and .u32 Y 31)).run Tryz.prog u = .ok (.int .u32 (X * 2 ^ (Y % 32).toNat % 4294967296)) u := by
  rw [and31 Y hY]
  unfold Op.shift
  rw [if_neg (by omega)]
  have e : min (Y % 32).toNat IntKind.u32.bits = (Y % 32).toNat := by simp [IntKind.bits]; omega
  simp only [e, IntKind.wrap_u32]
  rfl
theorem shr_run (X Y : Int) (hY : B32 Y) (u : World) : (Op.shift .shr .u32 X .u32 (bits .and .u32 Y 31)).run Tryz.prog u = .ok (.int .u32 (X / 2 ^ (Y % 32).toNat)) u := by
  rw [and31 Y hY]
  unfold Op.shift
  rw [if_neg (by omega)]
  have e : min (Y % 32).toNat IntKind.u32.bits = (Y % 32).toNat := by simp [IntKind.bits]; omega
  have hp : (0 : Int) ≤ 2 ^ (Y % 32).toNat := Int.le_of_lt (Int.pow_pos (by omega))
  simp only [e, Int.fdiv_eq_ediv_of_nonneg _ hp]
  rfl
theorem do_8 {w : World} {B p t g gw : Nat} {M : Mm} {r : Res} {pc : Int} {R : Nat → Int} {a : Option Addr} {n c : Nat} {why ep home : Int} (pm : Pm w p t g gw M) (kOwn : ∀ k, (Value.slice a n c).ownBlock = some k → k < w.heap.size) (own xe d x y m : Int) (hd : 0 ≤ d ∧ d ≤ 7) (hx : 0 ≤ x ∧ x ≤ 7) (hy : 0 ≤ y ∧ y ≤ 7) (hm : -1048576 ≤ m ∧ m ≤ 1048575) (hY : B32 (getR R y))
    (C : ∀ u, Below w.heap.size w u → Calls Tryz.prog 75 #[hV pc R a n c why ep home, .int .u8 d, .int .u32 ((getR R x) * 2 ^ ((getR R y) % 32).toNat % 4294967296)] u (Does B p t g gw a n c r u)) :
    Calls Tryz.prog 31 #[hV pc R a n c why ep home, .agg #[.int .u8 8, .int .u8 d, .int .u8 x, .int .u8 y, .int .i32 m], .pointer (some ⟨p, 0, none⟩), .int .u16 own, .int .u64 xe] w (Does B p t g gw a n c r w) := by
  have hlt := pm.lt
  obtain ⟨hb0, hs0, B1, B2, _, _⟩ := w4_facts w (hCs pc R a n c why ep home) #[.int .u8 8, .int .u8 d, .int .u8 x, .int .u8 y, .int .i32 m]
  have CD := Lib.hid (fun u => get_any pc R a n c why ep home d hd u)
  have CX := Lib.hid (fun u => get_any pc R a n c why ep home x hx u)
  have CY := Lib.hid (fun u => get_any pc R a n c why ep home y hy u)
  have CC := Lib.hid C
  have KI := Lib.hid (hi_of B1 B2)
  have HB0 := Lib.hid hb0
  have HS0 := Lib.hid hs0
  have MID := Lib.hid (fun u w5 => @do_mid w u w5 B p t g gw (hCs pc R a n c why ep home) #[.int .u8 8, .int .u8 d, .int .u8 x, .int .u8 y, .int .i32 m] a a n c n c r hlt kOwn)
  obtain ⟨hm0, hm1⟩ := hm
  clear C pm B1 B2 hb0 hs0
  generalize hA : getR R d = Dv at *
  generalize hA2 : getR R x = Xv at *
  generalize hA3 : getR R y = Yv at *
  clear hA hA2 hA3
  go_enter Tryz.func31, Tryz.ntmps31
  go_wp2_with fail
  have hw4 : w4 w (hCs pc R a n c why ep home) #[.int .u8 8, .int .u8 d, .int .u8 x, .int .u8 y, .int .i32 m] = (((w.alloc (.cells (hCs pc R a n c why ep home) 30)).alloc (.cells #[.int .u8 8, .int .u8 d, .int .u8 x, .int .u8 y, .int .i32 m] 76)).alloc (.cells hZ 30)).alloc (.cells nZ 41) := rfl
  rw [← hw4]
  have KI2 := KI.out
  have hs := HS0.out
  clear hw4
  generalize w4 w (hCs pc R a n c why ep home) #[.int .u8 8, .int .u8 d, .int .u8 x, .int .u8 y, .int .i32 m] = W at *
  have K0 : HI w.heap.size pc R a n c why ep home 8 d x y m W.drew := KI2
  have hbr : Below W.heap.size W W.drew := (Below.refl _ _).drew
  have hW1 : w.heap.size + 1 < W.heap.size := by omega
  go_region_held3 (fun u => HI w.heap.size pc R a n c why ep home 8 d x y m u)
    (first | with_reducible exact K0 | with_reducible exact K1 | with_reducible exact K2 | with_reducible exact K3)
    (first | (go_at_call 74; (with_reducible refine (CD.out _).mono ?_); rintro e w1 ⟨rfl, hb1⟩; have hB1 := below_of hbr hb1; have K1 := hi_go KI2 hW1 hB1) | (go_at_call 74; (with_reducible refine (CX.out _).mono ?_); rintro e w2 ⟨rfl, hb2⟩; have hB2 := below_of hB1 hb2; have K2 := hi_go KI2 hW1 hB2) | (go_at_call 74; (with_reducible refine (CY.out _).mono ?_); rintro e w3 ⟨rfl, hb3⟩; have hB3 := below_of hB2 hb3; have K3 := hi_go KI2 hW1 hB3))
  rename_i hHeld
  clear hHeld
  rw [show IntKind.u32.wrap m = m % 4294967296 from IntKind.wrap_u32 m]
  have HB3 := Lib.hid hB3
  have HBU := Lib.hid (below_of HB0.out hB3)
  have hI0 : 0 ≤ m % 4294967296 := by omega
  have hI1 : m % 4294967296 ≤ 4294967295 := by omega
  generalize m % 4294967296 = I at *
  clear K0 K1 K2 hB1 hB2 hb1 hb2 hb3 hbr KI KI2 CD CX CY HB0 HS0 hB3
  obtain ⟨c0, c1, c2, c3, c4, c5, c6, c7, c8, c9, c10, c11, c12, i0, i1, i2, i3, i4⟩ := K3
  have hsh := fun u => shl_run Xv Yv hY u
  repeat (first | (with_reducible refine q_te ?_) | (with_reducible refine q_tr ?_) | (with_reducible refine q_br ?_) | (with_reducible refine q_be ?_) | (with_reducible refine q_bn rfl ?_) | (go_at_call 75; (with_reducible refine (CC.out _ HBU.out).mono ?_); rintro e w5 ⟨a', n', c', rfl, sk', pm', hf⟩; obtain ⟨E1, hF⟩ := MID.out _ _ HB3.out hf; have E := Lib.hid E1; have HX := Lib.hid (And.intro sk' (And.intro pm' hF)); clear E1 sk' pm' hF hf; obtain ⟨l1, l2, ⟨⟨v0, v1, v2, v3, v4, v5, v6, v7, v8, v9, v10, v11, v12, e0, e1, e2, e3, e4, e5, e6, e7, e8, e9, e10, e11, e12⟩, f0, f1, f2, f3, f4, f5, f6, f7, f8, f9, f10, f11, f12⟩, ⟨⟨z0, z1, z2, z3, g0, g1, g2, g3⟩, i0, i1, i2, i3⟩⟩ := E.out.open_; simp only []) | go_values | go_skip | go_guarded | go_step | go_upon | go_back | (go_ite <;> go_prune <;> (try go_simp)))
  rw [putH_eq, putN_eq]
  refine bodyPost_ret (v := .tuple #[hV r.h.pc r.h.r a' n' c' r.h.why r.h.ep r.h.home, nV r.sf r.st r.nt r.nx]) (by simp [results, Tryz.results31, go_sem, E.out.cells]) rfl ?_
  obtain ⟨y1, y2, y3⟩ := HX.out
  exact does_end y1 y2 E.out (by omega) hlt y3 (fun i hi => Or.inl hi)
theorem do_9 {w : World} {B p t g gw : Nat} {M : Mm} {r : Res} {pc : Int} {R : Nat → Int} {a : Option Addr} {n c : Nat} {why ep home : Int} (pm : Pm w p t g gw M) (kOwn : ∀ k, (Value.slice a n c).ownBlock = some k → k < w.heap.size) (own xe d x y m : Int) (hd : 0 ≤ d ∧ d ≤ 7) (hx : 0 ≤ x ∧ x ≤ 7) (hy : 0 ≤ y ∧ y ≤ 7) (hm : -1048576 ≤ m ∧ m ≤ 1048575) (hY : B32 (getR R y))
    (C : ∀ u, Below w.heap.size w u → Calls Tryz.prog 75 #[hV pc R a n c why ep home, .int .u8 d, .int .u32 ((getR R x) / 2 ^ ((getR R y) % 32).toNat)] u (Does B p t g gw a n c r u)) :
    Calls Tryz.prog 31 #[hV pc R a n c why ep home, .agg #[.int .u8 9, .int .u8 d, .int .u8 x, .int .u8 y, .int .i32 m], .pointer (some ⟨p, 0, none⟩), .int .u16 own, .int .u64 xe] w (Does B p t g gw a n c r w) := by
  have hlt := pm.lt
  obtain ⟨hb0, hs0, B1, B2, _, _⟩ := w4_facts w (hCs pc R a n c why ep home) #[.int .u8 9, .int .u8 d, .int .u8 x, .int .u8 y, .int .i32 m]
  have CD := Lib.hid (fun u => get_any pc R a n c why ep home d hd u)
  have CX := Lib.hid (fun u => get_any pc R a n c why ep home x hx u)
  have CY := Lib.hid (fun u => get_any pc R a n c why ep home y hy u)
  have CC := Lib.hid C
  have KI := Lib.hid (hi_of B1 B2)
  have HB0 := Lib.hid hb0
  have HS0 := Lib.hid hs0
  have MID := Lib.hid (fun u w5 => @do_mid w u w5 B p t g gw (hCs pc R a n c why ep home) #[.int .u8 9, .int .u8 d, .int .u8 x, .int .u8 y, .int .i32 m] a a n c n c r hlt kOwn)
  obtain ⟨hm0, hm1⟩ := hm
  clear C pm B1 B2 hb0 hs0
  generalize hA : getR R d = Dv at *
  generalize hA2 : getR R x = Xv at *
  generalize hA3 : getR R y = Yv at *
  clear hA hA2 hA3
  go_enter Tryz.func31, Tryz.ntmps31
  go_wp2_with fail
  have hw4 : w4 w (hCs pc R a n c why ep home) #[.int .u8 9, .int .u8 d, .int .u8 x, .int .u8 y, .int .i32 m] = (((w.alloc (.cells (hCs pc R a n c why ep home) 30)).alloc (.cells #[.int .u8 9, .int .u8 d, .int .u8 x, .int .u8 y, .int .i32 m] 76)).alloc (.cells hZ 30)).alloc (.cells nZ 41) := rfl
  rw [← hw4]
  have KI2 := KI.out
  have hs := HS0.out
  clear hw4
  generalize w4 w (hCs pc R a n c why ep home) #[.int .u8 9, .int .u8 d, .int .u8 x, .int .u8 y, .int .i32 m] = W at *
  have K0 : HI w.heap.size pc R a n c why ep home 9 d x y m W.drew := KI2
  have hbr : Below W.heap.size W W.drew := (Below.refl _ _).drew
  have hW1 : w.heap.size + 1 < W.heap.size := by omega
  go_region_held3 (fun u => HI w.heap.size pc R a n c why ep home 9 d x y m u)
    (first | with_reducible exact K0 | with_reducible exact K1 | with_reducible exact K2 | with_reducible exact K3)
    (first | (go_at_call 74; (with_reducible refine (CD.out _).mono ?_); rintro e w1 ⟨rfl, hb1⟩; have hB1 := below_of hbr hb1; have K1 := hi_go KI2 hW1 hB1) | (go_at_call 74; (with_reducible refine (CX.out _).mono ?_); rintro e w2 ⟨rfl, hb2⟩; have hB2 := below_of hB1 hb2; have K2 := hi_go KI2 hW1 hB2) | (go_at_call 74; (with_reducible refine (CY.out _).mono ?_); rintro e w3 ⟨rfl, hb3⟩; have hB3 := below_of hB2 hb3; have K3 := hi_go KI2 hW1 hB3))
  rename_i hHeld
  clear hHeld
  rw [show IntKind.u32.wrap m = m % 4294967296 from IntKind.wrap_u32 m]
  have HB3 := Lib.hid hB3
  have HBU := Lib.hid (below_of HB0.out hB3)
  have hI0 : 0 ≤ m % 4294967296 := by omega
  have hI1 : m % 4294967296 ≤ 4294967295 := by omega
  generalize m % 4294967296 = I at *
  clear K0 K1 K2 hB1 hB2 hb1 hb2 hb3 hbr KI KI2 CD CX CY HB0 HS0 hB3
  obtain ⟨c0, c1, c2, c3, c4, c5, c6, c7, c8, c9, c10, c11, c12, i0, i1, i2, i3, i4⟩ := K3
  have hsh := fun u => shr_run Xv Yv hY u
  repeat (first | (with_reducible refine q_te ?_) | (with_reducible refine q_tr ?_) | (with_reducible refine q_br ?_) | (with_reducible refine q_be ?_) | (with_reducible refine q_bn rfl ?_) | (go_at_call 75; (with_reducible refine (CC.out _ HBU.out).mono ?_); rintro e w5 ⟨a', n', c', rfl, sk', pm', hf⟩; obtain ⟨E1, hF⟩ := MID.out _ _ HB3.out hf; have E := Lib.hid E1; have HX := Lib.hid (And.intro sk' (And.intro pm' hF)); clear E1 sk' pm' hF hf; obtain ⟨l1, l2, ⟨⟨v0, v1, v2, v3, v4, v5, v6, v7, v8, v9, v10, v11, v12, e0, e1, e2, e3, e4, e5, e6, e7, e8, e9, e10, e11, e12⟩, f0, f1, f2, f3, f4, f5, f6, f7, f8, f9, f10, f11, f12⟩, ⟨⟨z0, z1, z2, z3, g0, g1, g2, g3⟩, i0, i1, i2, i3⟩⟩ := E.out.open_; simp only []) | go_values | go_skip | go_guarded | go_step | go_upon | go_back | (go_ite <;> go_prune <;> (try go_simp)))
  rw [putH_eq, putN_eq]
  refine bodyPost_ret (v := .tuple #[hV r.h.pc r.h.r a' n' c' r.h.why r.h.ep r.h.home, nV r.sf r.st r.nt r.nx]) (by simp [results, Tryz.results31, go_sem, E.out.cells]) rfl ?_
  obtain ⟨y1, y2, y3⟩ := HX.out
  exact does_end y1 y2 E.out (by omega) hlt y3 (fun i hi => Or.inl hi)
end Go.Proofs.YtihcellcdkhadaaGreat.HF
