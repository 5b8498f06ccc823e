/-
  Loads, branches, stores, calls. Nothing here is a statement of the seed.
-/
import Derived.Test.YtihcellcdkhadaaGreatHartFn2
import Derived.Test.YtihcellcdkhadaaGreatHartPut
set_option linter.unusedSimpArgs false
set_option linter.unusedVariables false
namespace Go.Proofs.YtihcellcdkhadaaGreat.HF
open Go.RowKit PM PR PF MM MR MF HM HR
set_option maxHeartbeats 2000000
set_option maxRecDepth 10000
theorem w3_box {w w1 : World} {cs : Array Value} (hb : Below (w3 w cs).heap.size (w3 w cs) w1) : Whole w1 w.heap.size 30 cs := (w3_facts w cs).2.2.1.belowS hb
theorem hload_any {w : World} {p t g gw : Nat} {M : Mm} (h : Pm w p t g gw M) (pc : Int) (R : Nat → Int) (a : Option Addr) (n c : Nat) (why ep home : Int) (d x : Int) (hd : 0 ≤ d ∧ d ≤ 7) (hx : B32 x) : Calls Tryz.prog 77 #[hV pc R a n c why ep home, .pointer (some ⟨p, 0, none⟩), .int .u8 d, .int .u32 x] w fun e w' =>
    e = .returned (.tuple (if loadB M x ep then #[hV (up pc) (putR R d (loadW M x ep)) a n c why ep home, nV false false 0 0] else #[hV pc R a n c 4 ep home, nV false false 0 0])) ∧ Below w.heap.size w w' := by
  have CL := Lib.hid (fun u (hb : Below w.heap.size w u) => load_any (h.belowS hb) x ep hx)
  have hb3 := Lib.hid (w3_facts w (hCs pc R a n c why ep home)).1
  clear h hx
  generalize loadW M x ep = L at *
  generalize loadB M x ep = lb at *
  cases lb
  · rw [if_neg (by decide)]
    have C := Lib.hid (fun u => stop_any pc R a n c why ep home 4 u)
    go_enter Tryz.func77, Tryz.ntmps77
    go_wp2_with (first | (go_at_call 106; (with_reducible refine (CL.out _ hb3.out).mono ?_); rintro e wa ⟨rfl, hba⟩; have HBA := Lib.hid hba; obtain ⟨c0, c1, c2, c3, c4, c5, c6, c7, c8, c9, c10, c11, c12⟩ := hart_cells (w3_box hba); clear hba) | (go_at_call 29; (with_reducible refine (C.out _).mono ?_); rintro e w1 ⟨rfl, hb⟩; have E := Lib.hid (w3_ends (below_of HBA.out hb)).1; have B := Lib.hid (w3_ends (below_of HBA.out hb)).2; clear hb; obtain ⟨l1, l2, ⟨⟨v0, v1, v2, v3, v4, v5, v6, v7, v8, v9, v10, v11, v12, e0, e1, e2, e3, e4, e5, e6, e7, e8, e9, e10, e11, e12⟩, f0, f1, f2, f3, f4, f5, f6, f7, f8, f9, f10, f11, f12⟩, ⟨⟨z0, z1, z2, z3, g0, g1, g2, g3⟩, i0, i1, i2, i3⟩⟩ := E.out.open_))
    rw [putH_eq, putN_eq]
    refine bodyPost_ret (v := .tuple #[hV pc R a n c 4 ep home, nV false false 0 0]) (by simp [results, Tryz.results77, go_sem, E.out.cells, up]) rfl ⟨rfl, ends_low B.out (by omega) ..⟩
  · rw [if_pos rfl]
    have C := Lib.hid (fun u => put_any pc R a n c why ep home d L hd u)
    go_enter Tryz.func77, Tryz.ntmps77
    go_wp2_with (first | (go_at_call 106; (with_reducible refine (CL.out _ hb3.out).mono ?_); rintro e wa ⟨rfl, hba⟩; have HBA := Lib.hid hba; obtain ⟨c0, c1, c2, c3, c4, c5, c6, c7, c8, c9, c10, c11, c12⟩ := hart_cells (w3_box hba); clear hba) | (go_at_call 75; (with_reducible refine (C.out _).mono ?_); rintro e w1 ⟨rfl, hb⟩; have E := Lib.hid (w3_ends (below_of HBA.out hb)).1; have B := Lib.hid (w3_ends (below_of HBA.out hb)).2; clear hb; obtain ⟨l1, l2, ⟨⟨v0, v1, v2, v3, v4, v5, v6, v7, v8, v9, v10, v11, v12, e0, e1, e2, e3, e4, e5, e6, e7, e8, e9, e10, e11, e12⟩, f0, f1, f2, f3, f4, f5, f6, f7, f8, f9, f10, f11, f12⟩, ⟨⟨z0, z1, z2, z3, g0, g1, g2, g3⟩, i0, i1, i2, i3⟩⟩ := E.out.open_))
    rw [putH_eq, putN_eq]
    refine bodyPost_ret (v := .tuple #[hV (up pc) (putR R d L) a n c why ep home, nV false false 0 0]) (by simp [results, Tryz.results77, go_sem, E.out.cells, up]) rfl ⟨rfl, ends_low B.out (by omega) ..⟩
/-- the world of a branch -/
abbrev w4 (w : World) (cs i : Array Value) : World := (((w.alloc (.cells cs 30)).alloc (.cells i 76)).alloc (.cells hZ 30)).alloc (.cells nZ 41)
theorem w4_facts (w : World) (cs i : Array Value) : Below w.heap.size w (w4 w cs i) ∧ (w4 w cs i).heap.size = w.heap.size + 1 + 1 + 1 + 1 ∧ Whole (w4 w cs i) w.heap.size 30 cs ∧ Whole (w4 w cs i) (w.heap.size + 1) 76 i ∧ Whole (w4 w cs i) (w.heap.size + 1 + 1) 30 hZ ∧ Whole (w4 w cs i) (w.heap.size + 1 + 1 + 1) 41 nZ := by
  refine ⟨(bl3 w _ _ _).alloc (by simp; omega) _, by simp, (((Whole.new w _ _).alloc _).alloc _).alloc _, ?_, ?_, ?_⟩
  · have := ((Whole.new (w.alloc (.cells cs 30)) 76 i).alloc (.cells hZ 30)).alloc (.cells nZ 41)
    simpa using this
  · have := (Whole.new ((w.alloc (.cells cs 30)).alloc (.cells i 76)) 30 hZ).alloc (.cells nZ 41)
    simpa using this
  · have := Whole.new (((w.alloc (.cells cs 30)).alloc (.cells i 76)).alloc (.cells hZ 30)) 41 nZ
    simpa using this
theorem w4_ends {w w1 : World} {cs i : Array Value} (hb : Below (w4 w cs i).heap.size (w4 w cs i) w1) : Ends w1 (w.heap.size + 1 + 1) ∧ Below w.heap.size w w1 := by
  obtain ⟨hb0, hs0, B1, B2, B3, B4⟩ := w4_facts w cs i
  exact ⟨⟨⟨_, B3.belowS hb, rfl⟩, ⟨_, B4.belowS hb, rfl⟩⟩, below_of hb0 hb⟩
theorem w4_box {w w1 : World} {cs i : Array Value} (hb : Below (w4 w cs i).heap.size (w4 w cs i) w1) : Whole w1 w.heap.size 30 cs := (w4_facts w cs i).2.2.1.belowS hb
theorem branch_any (pc : Int) (R : Nat → Int) (a : Option Addr) (n c : Nat) (why ep home : Int) (o d a' b m T : Int) (tk : Bool) (CT : Says Tryz.prog 108 #[.int .u32 pc, .agg #[.int .u8 o, .int .u8 d, .int .u8 a', .int .u8 b, .int .i32 m]] (.tuple #[.int .u32 T, .bool true])) :
    Says Tryz.prog 79 #[hV pc R a n c why ep home, .agg #[.int .u8 o, .int .u8 d, .int .u8 a', .int .u8 b, .int .i32 m], .bool tk] (.tuple #[hV (if tk then T else up pc) R a n c why ep home, nV false false 0 0]) := by
  intro w
  have CT := Lib.hid CT
  cases tk
  · rw [if_neg (by decide)]
    have C := Lib.hid (fun u => turn_any pc R a n c why ep home ((pc + 1) % 4294967296) u)
    go_enter Tryz.func79, Tryz.ntmps79
    go_wp2_with (first | (go_at_call 108; (with_reducible refine (CT.out.at _).mono ?_); rintro e wa ⟨rfl, hba⟩; have HBA := Lib.hid hba; obtain ⟨c0, c1, c2, c3, c4, c5, c6, c7, c8, c9, c10, c11, c12⟩ := hart_cells (w4_box hba); clear hba) | (go_at_call 83; (with_reducible refine (C.out _).mono ?_); rintro e w1 ⟨rfl, hb⟩; have E := Lib.hid (w4_ends (below_of HBA.out hb)).1; have B := Lib.hid (w4_ends (below_of HBA.out hb)).2; clear hb; obtain ⟨l1, l2, ⟨⟨v0, v1, v2, v3, v4, v5, v6, v7, v8, v9, v10, v11, v12, e0, e1, e2, e3, e4, e5, e6, e7, e8, e9, e10, e11, e12⟩, f0, f1, f2, f3, f4, f5, f6, f7, f8, f9, f10, f11, f12⟩, ⟨⟨z0, z1, z2, z3, g0, g1, g2, g3⟩, i0, i1, i2, i3⟩⟩ := E.out.open_))
    rw [putH_eq, putN_eq]
    refine bodyPost_ret (v := .tuple #[hV (up pc) R a n c why ep home, nV false false 0 0]) (by simp [results, Tryz.results79, go_sem, E.out.cells, up]) rfl ⟨rfl, ends_low B.out (by omega) ..⟩
  · rw [if_pos rfl]
    have C := Lib.hid (fun u => turn_any pc R a n c why ep home T u)
    go_enter Tryz.func79, Tryz.ntmps79
    go_wp2_with (first | (go_at_call 108; (with_reducible refine (CT.out.at _).mono ?_); rintro e wa ⟨rfl, hba⟩; have HBA := Lib.hid hba; obtain ⟨c0, c1, c2, c3, c4, c5, c6, c7, c8, c9, c10, c11, c12⟩ := hart_cells (w4_box hba); clear hba) | (go_at_call 83; (with_reducible refine (C.out _).mono ?_); rintro e w1 ⟨rfl, hb⟩; have E := Lib.hid (w4_ends (below_of HBA.out hb)).1; have B := Lib.hid (w4_ends (below_of HBA.out hb)).2; clear hb; obtain ⟨l1, l2, ⟨⟨v0, v1, v2, v3, v4, v5, v6, v7, v8, v9, v10, v11, v12, e0, e1, e2, e3, e4, e5, e6, e7, e8, e9, e10, e11, e12⟩, f0, f1, f2, f3, f4, f5, f6, f7, f8, f9, f10, f11, f12⟩, ⟨⟨z0, z1, z2, z3, g0, g1, g2, g3⟩, i0, i1, i2, i3⟩⟩ := E.out.open_))
    rw [putH_eq, putN_eq]
    refine bodyPost_ret (v := .tuple #[hV T R a n c why ep home, nV false false 0 0]) (by simp [results, Tryz.results79, go_sem, E.out.cells, up]) rfl ⟨rfl, ends_low B.out (by omega) ..⟩
end Go.Proofs.YtihcellcdkhadaaGreat.HF
