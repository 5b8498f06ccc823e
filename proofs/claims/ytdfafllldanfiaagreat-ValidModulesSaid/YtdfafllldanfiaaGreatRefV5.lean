/-
  The reference of layer 11: a module's fault, and where. Nothing here is a statement of the seed.
-/
import Derived.Test.YtdfafllldanfiaaGreatRefV2
import Derived.Test.YtdfafllldanfiaaGreatRefV3
import Derived.Test.YtdfafllldanfiaaGreatRefV4
import Derived.Test.YtdfafllldanfiaaGreatObjChk
set_option linter.unusedSimpArgs false
set_option linter.unusedVariables false
namespace Go.Proofs.YtdfafllldanfiaaGreat.VR
open Go.RowKit WM NR OM OR VM
set_option maxHeartbeats 4000000
set_option maxRecDepth 10000
/-- a module's box, on the way -/
structure MJ (w : World) (cs : Array Value) (u : World) : Prop where
  X : Whole u w.heap.size 26 cs
  B : Below w.heap.size w u
  sz : w.heap.size + 1 ≤ u.heap.size
theorem MJ.belowS {w u u' : World} {cs : Array Value} (h : MJ w cs u) (hb : Below u.heap.size u u') : MJ w cs u' := ⟨h.X.belowS hb, h.B.trans (hb.mono h.B.size), Nat.le_trans h.sz hb.size⟩
theorem MJ.new (w : World) (cs : Array Value) : MJ w cs (w.alloc (.cells cs 26)) := ⟨Whole.new w _ _, below_new w _, by simp⟩
section
variable {w : World} {ea : Option Addr} {en ec : Nat} {ia : Option Addr} {im ic : Nat} {ca : Option Addr} {cn cc : Nat} {da : Option Addr} {dn dc : Nat} {ra : Option Addr} {rn rc : Nat} {m : Md}
theorem refMod_any (h : RdM (· < w.heap.size) w ea en ec ia im ic ca cn cc da dn dc ra rn rc m) (hf : FineM m) :
    Calls Tryz.prog 8 #[mV (bs m.name) ea en ec ia im ic ca cn cc da dn dc ra rn rc] w fun e w' => e = .returned (.tuple #[.int .i64 (vld m).1, .int .i64 (vld m).2]) ∧ Below w.heap.size w w' := by
  obtain ⟨l1, l2, l3, l4, l5⟩ := h.lens
  have J0 := Lib.hid (MJ.new w (mCs (bs m.name) ea en ec ia im ic ca cn cc da dn dc ra rn rc))
  have P1 := Lib.hid (fun (u : World) (hb : Below w.heap.size w u) => refObjChk_any (h.go hb hb.size))
  obtain ⟨V, hV⟩ : ∃ V, V = vld m := ⟨_, rfl⟩
  rw [← hV]
  unfold vld at hV
  rw [l1, l3, l5] at hV
  by_cases z1 : chkM m ≠ 0
  · rw [if_pos z1] at hV
    subst hV
    have z1' : ((chkM m : Nat) : Int) ≠ 0 := by omega
    clear h hf l1 l2 l3 l4 l5 z1
    generalize ((chkM m : Nat) : Int) = p1 at *
    generalize bs m.name = x at *
    have z1'' : (p1 != 0) = true := by simpa using z1'
    go_enter Tryz.func8, Tryz.ntmps8
    go_upto_region 1 with fail
    generalize w.alloc (.cells (mCs x ea en ec ia im ic ca cn cc da dn dc ra rn rc) 26) = W0 at *
    obtain ⟨c0, c1, c2, c3, c4, c5⟩ := mod_cells J0.out.X
    have c6 := J0.out.X.lt
    have JJ := J0
    clear J0
    go_wp2_with (first | (go_at_call 13; (with_reducible refine (P1.out _ JJ.out.B).mono ?_); rintro e w1 ⟨rfl, hb⟩; have JJ := Lib.hid (JJ.out.belowS hb); obtain ⟨c0, c1, c2, c3, c4, c5⟩ := mod_cells JJ.out.X; have c6 := JJ.out.X.lt; clear hb))
    exact bodyPost_ret (v := .tuple #[.int .i64 1, .int .i64 0]) (by simp [results, Tryz.results8, go_sem]) rfl ⟨rfl, JJ.out.B⟩
  rw [if_neg z1] at hV
  have hc : chkM m = 0 := by omega
  rw [hc] at P1
  clear z1
  have P2 := Lib.hid (fun (u : World) (hb : Below w.heap.size w u) => refNames_any (h.go hb hb.size) hc)
  by_cases z2 : 0 ≤ nameF m
  · rw [if_pos z2] at hV
    subst hV
    clear h hf l1 l2 l3 l4 l5 hc
    generalize nameF m = p2 at *
    generalize bs m.name = x at *
    go_enter Tryz.func8, Tryz.ntmps8
    go_upto_region 1 with fail
    generalize w.alloc (.cells (mCs x ea en ec ia im ic ca cn cc da dn dc ra rn rc) 26) = W0 at *
    obtain ⟨c0, c1, c2, c3, c4, c5⟩ := mod_cells J0.out.X
    have c6 := J0.out.X.lt
    have JJ := J0
    clear J0
    go_wp2_with (first | (go_at_call 13; (with_reducible refine (P1.out _ JJ.out.B).mono ?_); rintro e w1 ⟨rfl, hb⟩; have JJ := Lib.hid (JJ.out.belowS hb); obtain ⟨c0, c1, c2, c3, c4, c5⟩ := mod_cells JJ.out.X; have c6 := JJ.out.X.lt; clear hb) | (go_at_call 14; (with_reducible refine (P2.out _ JJ.out.B).mono ?_); rintro e w1 ⟨rfl, hb⟩; have JJ := Lib.hid (JJ.out.belowS hb); obtain ⟨c0, c1, c2, c3, c4, c5⟩ := mod_cells JJ.out.X; have c6 := JJ.out.X.lt; clear hb))
    exact bodyPost_ret (v := .tuple #[.int .i64 2, .int .i64 p2]) (by simp [results, Tryz.results8, go_sem]) rfl ⟨rfl, JJ.out.B⟩
  rw [if_neg z2] at hV
  obtain ⟨p2, hp2⟩ : ∃ p, p = nameF m := ⟨_, rfl⟩
  rw [← hp2] at P2 z2
  clear hp2
  have P3 := Lib.hid (fun (u : World) (hb : Below w.heap.size w u) => refTwice_any (h.go hb hb.size) hc)
  by_cases z3 : 0 ≤ twiceF m
  · rw [if_pos z3] at hV
    subst hV
    clear h hf l1 l2 l3 l4 l5 hc
    generalize twiceF m = p3 at *
    generalize bs m.name = x at *
    go_enter Tryz.func8, Tryz.ntmps8
    go_upto_region 1 with fail
    generalize w.alloc (.cells (mCs x ea en ec ia im ic ca cn cc da dn dc ra rn rc) 26) = W0 at *
    obtain ⟨c0, c1, c2, c3, c4, c5⟩ := mod_cells J0.out.X
    have c6 := J0.out.X.lt
    have JJ := J0
    clear J0
    go_wp2_with (first | (go_at_call 13; (with_reducible refine (P1.out _ JJ.out.B).mono ?_); rintro e w1 ⟨rfl, hb⟩; have JJ := Lib.hid (JJ.out.belowS hb); obtain ⟨c0, c1, c2, c3, c4, c5⟩ := mod_cells JJ.out.X; have c6 := JJ.out.X.lt; clear hb) | (go_at_call 14; (with_reducible refine (P2.out _ JJ.out.B).mono ?_); rintro e w1 ⟨rfl, hb⟩; have JJ := Lib.hid (JJ.out.belowS hb); obtain ⟨c0, c1, c2, c3, c4, c5⟩ := mod_cells JJ.out.X; have c6 := JJ.out.X.lt; clear hb) | (go_at_call 15; (with_reducible refine (P3.out _ JJ.out.B).mono ?_); rintro e w1 ⟨rfl, hb⟩; have JJ := Lib.hid (JJ.out.belowS hb); obtain ⟨c0, c1, c2, c3, c4, c5⟩ := mod_cells JJ.out.X; have c6 := JJ.out.X.lt; clear hb))
    exact bodyPost_ret (v := .tuple #[.int .i64 3, .int .i64 p3]) (by simp [results, Tryz.results8, go_sem]) rfl ⟨rfl, JJ.out.B⟩
  rw [if_neg z3] at hV
  obtain ⟨p3, hp3⟩ : ∃ p, p = twiceF m := ⟨_, rfl⟩
  rw [← hp3] at P3 z3
  clear hp3
  by_cases z4 : cn = 0 ∨ cn < en
  · rw [if_pos z4] at hV
    subst hV
    by_cases z0 : cn = 0
    · subst z0
      clear h hf l1 l2 l3 l4 l5 hc z4
      generalize bs m.name = x at *
      go_enter Tryz.func8, Tryz.ntmps8
      go_upto_region 1 with fail
      generalize w.alloc (.cells (mCs x ea en ec ia im ic ca 0 cc da dn dc ra rn rc) 26) = W0 at *
      obtain ⟨c0, c1, c2, c3, c4, c5⟩ := mod_cells J0.out.X
      have c6 := J0.out.X.lt
      have JJ := J0
      clear J0
      go_wp2_with (first | (go_at_call 13; (with_reducible refine (P1.out _ JJ.out.B).mono ?_); rintro e w1 ⟨rfl, hb⟩; have JJ := Lib.hid (JJ.out.belowS hb); obtain ⟨c0, c1, c2, c3, c4, c5⟩ := mod_cells JJ.out.X; have c6 := JJ.out.X.lt; clear hb) | (go_at_call 14; (with_reducible refine (P2.out _ JJ.out.B).mono ?_); rintro e w1 ⟨rfl, hb⟩; have JJ := Lib.hid (JJ.out.belowS hb); obtain ⟨c0, c1, c2, c3, c4, c5⟩ := mod_cells JJ.out.X; have c6 := JJ.out.X.lt; clear hb) | (go_at_call 15; (with_reducible refine (P3.out _ JJ.out.B).mono ?_); rintro e w1 ⟨rfl, hb⟩; have JJ := Lib.hid (JJ.out.belowS hb); obtain ⟨c0, c1, c2, c3, c4, c5⟩ := mod_cells JJ.out.X; have c6 := JJ.out.X.lt; clear hb))
      exact bodyPost_ret (v := .tuple #[.int .i64 4, .int .i64 0]) (by simp [results, Tryz.results8, go_sem]) rfl ⟨rfl, JJ.out.B⟩
    · have z4' : (cn : Int) < en := by omega
      have z0' : ((cn : Int) == 0) = false := by simpa using z0
      clear h hf l1 l2 l3 l4 l5 hc z4
      generalize bs m.name = x at *
      go_enter Tryz.func8, Tryz.ntmps8
      go_upto_region 1 with fail
      generalize w.alloc (.cells (mCs x ea en ec ia im ic ca cn cc da dn dc ra rn rc) 26) = W0 at *
      obtain ⟨c0, c1, c2, c3, c4, c5⟩ := mod_cells J0.out.X
      have c6 := J0.out.X.lt
      have JJ := J0
      clear J0
      go_wp2_with (first | (go_at_call 13; (with_reducible refine (P1.out _ JJ.out.B).mono ?_); rintro e w1 ⟨rfl, hb⟩; have JJ := Lib.hid (JJ.out.belowS hb); obtain ⟨c0, c1, c2, c3, c4, c5⟩ := mod_cells JJ.out.X; have c6 := JJ.out.X.lt; clear hb) | (go_at_call 14; (with_reducible refine (P2.out _ JJ.out.B).mono ?_); rintro e w1 ⟨rfl, hb⟩; have JJ := Lib.hid (JJ.out.belowS hb); obtain ⟨c0, c1, c2, c3, c4, c5⟩ := mod_cells JJ.out.X; have c6 := JJ.out.X.lt; clear hb) | (go_at_call 15; (with_reducible refine (P3.out _ JJ.out.B).mono ?_); rintro e w1 ⟨rfl, hb⟩; have JJ := Lib.hid (JJ.out.belowS hb); obtain ⟨c0, c1, c2, c3, c4, c5⟩ := mod_cells JJ.out.X; have c6 := JJ.out.X.lt; clear hb))
      exact bodyPost_ret (v := .tuple #[.int .i64 4, .int .i64 0]) (by simp [results, Tryz.results8, go_sem]) rfl ⟨rfl, JJ.out.B⟩
  rw [if_neg z4] at hV
  have z4' : ¬ (cn : Int) < en := by omega
  have z0 : ¬ cn = 0 := by omega
  have z0' : ((cn : Int) == 0) = false := by simpa using z0
  have z4'' : decide ((cn : Int) < en) = false := decide_eq_false z4'
  clear z4 z0
  have P5 := Lib.hid (fun (u : World) (hb : Below w.heap.size w u) => refWords_any (h.go hb hb.size) hc hf)
  by_cases z5 : 0 ≤ ff (wordB m) cn
  · rw [if_pos z5] at hV
    subst hV
    clear h hf l1 l2 l3 l4 l5 hc
    generalize ff (wordB m) cn = p5 at *
    generalize bs m.name = x at *
    go_enter Tryz.func8, Tryz.ntmps8
    go_upto_region 1 with fail
    generalize w.alloc (.cells (mCs x ea en ec ia im ic ca cn cc da dn dc ra rn rc) 26) = W0 at *
    obtain ⟨c0, c1, c2, c3, c4, c5⟩ := mod_cells J0.out.X
    have c6 := J0.out.X.lt
    have JJ := J0
    clear J0
    go_wp2_with (first | (go_at_call 13; (with_reducible refine (P1.out _ JJ.out.B).mono ?_); rintro e w1 ⟨rfl, hb⟩; have JJ := Lib.hid (JJ.out.belowS hb); obtain ⟨c0, c1, c2, c3, c4, c5⟩ := mod_cells JJ.out.X; have c6 := JJ.out.X.lt; clear hb) | (go_at_call 14; (with_reducible refine (P2.out _ JJ.out.B).mono ?_); rintro e w1 ⟨rfl, hb⟩; have JJ := Lib.hid (JJ.out.belowS hb); obtain ⟨c0, c1, c2, c3, c4, c5⟩ := mod_cells JJ.out.X; have c6 := JJ.out.X.lt; clear hb) | (go_at_call 15; (with_reducible refine (P3.out _ JJ.out.B).mono ?_); rintro e w1 ⟨rfl, hb⟩; have JJ := Lib.hid (JJ.out.belowS hb); obtain ⟨c0, c1, c2, c3, c4, c5⟩ := mod_cells JJ.out.X; have c6 := JJ.out.X.lt; clear hb) | (go_at_call 16; (with_reducible refine (P5.out _ JJ.out.B).mono ?_); rintro e w1 ⟨rfl, hb⟩; have JJ := Lib.hid (JJ.out.belowS hb); obtain ⟨c0, c1, c2, c3, c4, c5⟩ := mod_cells JJ.out.X; have c6 := JJ.out.X.lt; clear hb))
    exact bodyPost_ret (v := .tuple #[.int .i64 5, .int .i64 p5]) (by simp [results, Tryz.results8, go_sem]) rfl ⟨rfl, JJ.out.B⟩
  rw [if_neg z5] at hV
  obtain ⟨p5, hp5⟩ : ∃ p, p = ff (wordB m) cn := ⟨_, rfl⟩
  rw [← hp5] at P5 z5
  clear hp5
  have P6 := Lib.hid (fun (u : World) (hb : Below w.heap.size w u) => refPlaces_any (h.go hb hb.size) hc hf)
  by_cases z6 : 0 ≤ ff (placeB m) rn
  · rw [if_pos z6] at hV
    subst hV
    clear h hf l1 l2 l3 l4 l5 hc
    generalize ff (placeB m) rn = p6 at *
    generalize bs m.name = x at *
    go_enter Tryz.func8, Tryz.ntmps8
    go_upto_region 1 with fail
    generalize w.alloc (.cells (mCs x ea en ec ia im ic ca cn cc da dn dc ra rn rc) 26) = W0 at *
    obtain ⟨c0, c1, c2, c3, c4, c5⟩ := mod_cells J0.out.X
    have c6 := J0.out.X.lt
    have JJ := J0
    clear J0
    go_wp2_with (first | (go_at_call 13; (with_reducible refine (P1.out _ JJ.out.B).mono ?_); rintro e w1 ⟨rfl, hb⟩; have JJ := Lib.hid (JJ.out.belowS hb); obtain ⟨c0, c1, c2, c3, c4, c5⟩ := mod_cells JJ.out.X; have c6 := JJ.out.X.lt; clear hb) | (go_at_call 14; (with_reducible refine (P2.out _ JJ.out.B).mono ?_); rintro e w1 ⟨rfl, hb⟩; have JJ := Lib.hid (JJ.out.belowS hb); obtain ⟨c0, c1, c2, c3, c4, c5⟩ := mod_cells JJ.out.X; have c6 := JJ.out.X.lt; clear hb) | (go_at_call 15; (with_reducible refine (P3.out _ JJ.out.B).mono ?_); rintro e w1 ⟨rfl, hb⟩; have JJ := Lib.hid (JJ.out.belowS hb); obtain ⟨c0, c1, c2, c3, c4, c5⟩ := mod_cells JJ.out.X; have c6 := JJ.out.X.lt; clear hb) | (go_at_call 16; (with_reducible refine (P5.out _ JJ.out.B).mono ?_); rintro e w1 ⟨rfl, hb⟩; have JJ := Lib.hid (JJ.out.belowS hb); obtain ⟨c0, c1, c2, c3, c4, c5⟩ := mod_cells JJ.out.X; have c6 := JJ.out.X.lt; clear hb) | (go_at_call 17; (with_reducible refine (P6.out _ JJ.out.B).mono ?_); rintro e w1 ⟨rfl, hb⟩; have JJ := Lib.hid (JJ.out.belowS hb); obtain ⟨c0, c1, c2, c3, c4, c5⟩ := mod_cells JJ.out.X; have c6 := JJ.out.X.lt; clear hb))
    exact bodyPost_ret (v := .tuple #[.int .i64 6, .int .i64 p6]) (by simp [results, Tryz.results8, go_sem]) rfl ⟨rfl, JJ.out.B⟩
  rw [if_neg z6] at hV
  have hpl : ∀ k, k < m.rels.length → placeB m k = false := by rw [l5]; exact ff_neg.1 z6
  obtain ⟨p6, hp6⟩ : ∃ p, p = ff (placeB m) rn := ⟨_, rfl⟩
  rw [← hp6] at P6 z6
  clear hp6
  have P7 := Lib.hid (fun (u : World) (hb : Below w.heap.size w u) => refKinds_any (h.go hb hb.size) hc hf hpl)
  clear hpl
  by_cases z7 : 0 ≤ ff (kindB m) rn
  · rw [if_pos z7] at hV
    subst hV
    clear h hf l1 l2 l3 l4 l5 hc
    generalize ff (kindB m) rn = p7 at *
    generalize bs m.name = x at *
    go_enter Tryz.func8, Tryz.ntmps8
    go_upto_region 1 with fail
    generalize w.alloc (.cells (mCs x ea en ec ia im ic ca cn cc da dn dc ra rn rc) 26) = W0 at *
    obtain ⟨c0, c1, c2, c3, c4, c5⟩ := mod_cells J0.out.X
    have c6 := J0.out.X.lt
    have JJ := J0
    clear J0
    go_wp2_with (first | (go_at_call 13; (with_reducible refine (P1.out _ JJ.out.B).mono ?_); rintro e w1 ⟨rfl, hb⟩; have JJ := Lib.hid (JJ.out.belowS hb); obtain ⟨c0, c1, c2, c3, c4, c5⟩ := mod_cells JJ.out.X; have c6 := JJ.out.X.lt; clear hb) | (go_at_call 14; (with_reducible refine (P2.out _ JJ.out.B).mono ?_); rintro e w1 ⟨rfl, hb⟩; have JJ := Lib.hid (JJ.out.belowS hb); obtain ⟨c0, c1, c2, c3, c4, c5⟩ := mod_cells JJ.out.X; have c6 := JJ.out.X.lt; clear hb) | (go_at_call 15; (with_reducible refine (P3.out _ JJ.out.B).mono ?_); rintro e w1 ⟨rfl, hb⟩; have JJ := Lib.hid (JJ.out.belowS hb); obtain ⟨c0, c1, c2, c3, c4, c5⟩ := mod_cells JJ.out.X; have c6 := JJ.out.X.lt; clear hb) | (go_at_call 16; (with_reducible refine (P5.out _ JJ.out.B).mono ?_); rintro e w1 ⟨rfl, hb⟩; have JJ := Lib.hid (JJ.out.belowS hb); obtain ⟨c0, c1, c2, c3, c4, c5⟩ := mod_cells JJ.out.X; have c6 := JJ.out.X.lt; clear hb) | (go_at_call 17; (with_reducible refine (P6.out _ JJ.out.B).mono ?_); rintro e w1 ⟨rfl, hb⟩; have JJ := Lib.hid (JJ.out.belowS hb); obtain ⟨c0, c1, c2, c3, c4, c5⟩ := mod_cells JJ.out.X; have c6 := JJ.out.X.lt; clear hb) | (go_at_call 18; (with_reducible refine (P7.out _ JJ.out.B).mono ?_); rintro e w1 ⟨rfl, hb⟩; have JJ := Lib.hid (JJ.out.belowS hb); obtain ⟨c0, c1, c2, c3, c4, c5⟩ := mod_cells JJ.out.X; have c6 := JJ.out.X.lt; clear hb))
    exact bodyPost_ret (v := .tuple #[.int .i64 7, .int .i64 p7]) (by simp [results, Tryz.results8, go_sem]) rfl ⟨rfl, JJ.out.B⟩
  rw [if_neg z7] at hV
  obtain ⟨p7, hp7⟩ : ∃ p, p = ff (kindB m) rn := ⟨_, rfl⟩
  rw [← hp7] at P7 z7
  clear hp7
  have P8 := Lib.hid (fun (u : World) (hb : Below w.heap.size w u) => refWhich_any (h.go hb hb.size) hc hf)
  by_cases z8 : 0 ≤ ff (whichB m) rn
  · rw [if_pos z8] at hV
    subst hV
    clear h hf l1 l2 l3 l4 l5 hc
    generalize ff (whichB m) rn = p8 at *
    generalize bs m.name = x at *
    go_enter Tryz.func8, Tryz.ntmps8
    go_upto_region 1 with fail
    generalize w.alloc (.cells (mCs x ea en ec ia im ic ca cn cc da dn dc ra rn rc) 26) = W0 at *
    obtain ⟨c0, c1, c2, c3, c4, c5⟩ := mod_cells J0.out.X
    have c6 := J0.out.X.lt
    have JJ := J0
    clear J0
    go_wp2_with (first | (go_at_call 13; (with_reducible refine (P1.out _ JJ.out.B).mono ?_); rintro e w1 ⟨rfl, hb⟩; have JJ := Lib.hid (JJ.out.belowS hb); obtain ⟨c0, c1, c2, c3, c4, c5⟩ := mod_cells JJ.out.X; have c6 := JJ.out.X.lt; clear hb) | (go_at_call 14; (with_reducible refine (P2.out _ JJ.out.B).mono ?_); rintro e w1 ⟨rfl, hb⟩; have JJ := Lib.hid (JJ.out.belowS hb); obtain ⟨c0, c1, c2, c3, c4, c5⟩ := mod_cells JJ.out.X; have c6 := JJ.out.X.lt; clear hb) | (go_at_call 15; (with_reducible refine (P3.out _ JJ.out.B).mono ?_); rintro e w1 ⟨rfl, hb⟩; have JJ := Lib.hid (JJ.out.belowS hb); obtain ⟨c0, c1, c2, c3, c4, c5⟩ := mod_cells JJ.out.X; have c6 := JJ.out.X.lt; clear hb) | (go_at_call 16; (with_reducible refine (P5.out _ JJ.out.B).mono ?_); rintro e w1 ⟨rfl, hb⟩; have JJ := Lib.hid (JJ.out.belowS hb); obtain ⟨c0, c1, c2, c3, c4, c5⟩ := mod_cells JJ.out.X; have c6 := JJ.out.X.lt; clear hb) | (go_at_call 17; (with_reducible refine (P6.out _ JJ.out.B).mono ?_); rintro e w1 ⟨rfl, hb⟩; have JJ := Lib.hid (JJ.out.belowS hb); obtain ⟨c0, c1, c2, c3, c4, c5⟩ := mod_cells JJ.out.X; have c6 := JJ.out.X.lt; clear hb) | (go_at_call 18; (with_reducible refine (P7.out _ JJ.out.B).mono ?_); rintro e w1 ⟨rfl, hb⟩; have JJ := Lib.hid (JJ.out.belowS hb); obtain ⟨c0, c1, c2, c3, c4, c5⟩ := mod_cells JJ.out.X; have c6 := JJ.out.X.lt; clear hb) | (go_at_call 19; (with_reducible refine (P8.out _ JJ.out.B).mono ?_); rintro e w1 ⟨rfl, hb⟩; have JJ := Lib.hid (JJ.out.belowS hb); obtain ⟨c0, c1, c2, c3, c4, c5⟩ := mod_cells JJ.out.X; have c6 := JJ.out.X.lt; clear hb))
    exact bodyPost_ret (v := .tuple #[.int .i64 8, .int .i64 p8]) (by simp [results, Tryz.results8, go_sem]) rfl ⟨rfl, JJ.out.B⟩
  rw [if_neg z8] at hV
  obtain ⟨p8, hp8⟩ : ∃ p, p = ff (whichB m) rn := ⟨_, rfl⟩
  rw [← hp8] at P8 z8
  clear hp8
  have P9 := Lib.hid (fun (u : World) (hb : Below w.heap.size w u) => refLoose_any (h.go hb hb.size) hc hf)
  by_cases z9 : 0 ≤ ff (looseB m) cn
  · rw [if_pos z9] at hV
    subst hV
    clear h hf l1 l2 l3 l4 l5 hc
    generalize ff (looseB m) cn = p9 at *
    generalize bs m.name = x at *
    go_enter Tryz.func8, Tryz.ntmps8
    go_upto_region 1 with fail
    generalize w.alloc (.cells (mCs x ea en ec ia im ic ca cn cc da dn dc ra rn rc) 26) = W0 at *
    obtain ⟨c0, c1, c2, c3, c4, c5⟩ := mod_cells J0.out.X
    have c6 := J0.out.X.lt
    have JJ := J0
    clear J0
    go_wp2_with (first | (go_at_call 13; (with_reducible refine (P1.out _ JJ.out.B).mono ?_); rintro e w1 ⟨rfl, hb⟩; have JJ := Lib.hid (JJ.out.belowS hb); obtain ⟨c0, c1, c2, c3, c4, c5⟩ := mod_cells JJ.out.X; have c6 := JJ.out.X.lt; clear hb) | (go_at_call 14; (with_reducible refine (P2.out _ JJ.out.B).mono ?_); rintro e w1 ⟨rfl, hb⟩; have JJ := Lib.hid (JJ.out.belowS hb); obtain ⟨c0, c1, c2, c3, c4, c5⟩ := mod_cells JJ.out.X; have c6 := JJ.out.X.lt; clear hb) | (go_at_call 15; (with_reducible refine (P3.out _ JJ.out.B).mono ?_); rintro e w1 ⟨rfl, hb⟩; have JJ := Lib.hid (JJ.out.belowS hb); obtain ⟨c0, c1, c2, c3, c4, c5⟩ := mod_cells JJ.out.X; have c6 := JJ.out.X.lt; clear hb) | (go_at_call 16; (with_reducible refine (P5.out _ JJ.out.B).mono ?_); rintro e w1 ⟨rfl, hb⟩; have JJ := Lib.hid (JJ.out.belowS hb); obtain ⟨c0, c1, c2, c3, c4, c5⟩ := mod_cells JJ.out.X; have c6 := JJ.out.X.lt; clear hb) | (go_at_call 17; (with_reducible refine (P6.out _ JJ.out.B).mono ?_); rintro e w1 ⟨rfl, hb⟩; have JJ := Lib.hid (JJ.out.belowS hb); obtain ⟨c0, c1, c2, c3, c4, c5⟩ := mod_cells JJ.out.X; have c6 := JJ.out.X.lt; clear hb) | (go_at_call 18; (with_reducible refine (P7.out _ JJ.out.B).mono ?_); rintro e w1 ⟨rfl, hb⟩; have JJ := Lib.hid (JJ.out.belowS hb); obtain ⟨c0, c1, c2, c3, c4, c5⟩ := mod_cells JJ.out.X; have c6 := JJ.out.X.lt; clear hb) | (go_at_call 19; (with_reducible refine (P8.out _ JJ.out.B).mono ?_); rintro e w1 ⟨rfl, hb⟩; have JJ := Lib.hid (JJ.out.belowS hb); obtain ⟨c0, c1, c2, c3, c4, c5⟩ := mod_cells JJ.out.X; have c6 := JJ.out.X.lt; clear hb) | (go_at_call 20; (with_reducible refine (P9.out _ JJ.out.B).mono ?_); rintro e w1 ⟨rfl, hb⟩; have JJ := Lib.hid (JJ.out.belowS hb); obtain ⟨c0, c1, c2, c3, c4, c5⟩ := mod_cells JJ.out.X; have c6 := JJ.out.X.lt; clear hb))
    exact bodyPost_ret (v := .tuple #[.int .i64 9, .int .i64 p9]) (by simp [results, Tryz.results8, go_sem]) rfl ⟨rfl, JJ.out.B⟩
  rw [if_neg z9] at hV
  obtain ⟨p9, hp9⟩ : ∃ p, p = ff (looseB m) cn := ⟨_, rfl⟩
  rw [← hp9] at P9 z9
  clear hp9
  subst hV
  clear h hf l1 l2 l3 l4 l5 hc
  generalize bs m.name = x at *
  go_enter Tryz.func8, Tryz.ntmps8
  go_upto_region 1 with fail
  generalize w.alloc (.cells (mCs x ea en ec ia im ic ca cn cc da dn dc ra rn rc) 26) = W0 at *
  obtain ⟨c0, c1, c2, c3, c4, c5⟩ := mod_cells J0.out.X
  have c6 := J0.out.X.lt
  have JJ := J0
  clear J0
  go_wp2_with (first | (go_at_call 13; (with_reducible refine (P1.out _ JJ.out.B).mono ?_); rintro e w1 ⟨rfl, hb⟩; have JJ := Lib.hid (JJ.out.belowS hb); obtain ⟨c0, c1, c2, c3, c4, c5⟩ := mod_cells JJ.out.X; have c6 := JJ.out.X.lt; clear hb) | (go_at_call 14; (with_reducible refine (P2.out _ JJ.out.B).mono ?_); rintro e w1 ⟨rfl, hb⟩; have JJ := Lib.hid (JJ.out.belowS hb); obtain ⟨c0, c1, c2, c3, c4, c5⟩ := mod_cells JJ.out.X; have c6 := JJ.out.X.lt; clear hb) | (go_at_call 15; (with_reducible refine (P3.out _ JJ.out.B).mono ?_); rintro e w1 ⟨rfl, hb⟩; have JJ := Lib.hid (JJ.out.belowS hb); obtain ⟨c0, c1, c2, c3, c4, c5⟩ := mod_cells JJ.out.X; have c6 := JJ.out.X.lt; clear hb) | (go_at_call 16; (with_reducible refine (P5.out _ JJ.out.B).mono ?_); rintro e w1 ⟨rfl, hb⟩; have JJ := Lib.hid (JJ.out.belowS hb); obtain ⟨c0, c1, c2, c3, c4, c5⟩ := mod_cells JJ.out.X; have c6 := JJ.out.X.lt; clear hb) | (go_at_call 17; (with_reducible refine (P6.out _ JJ.out.B).mono ?_); rintro e w1 ⟨rfl, hb⟩; have JJ := Lib.hid (JJ.out.belowS hb); obtain ⟨c0, c1, c2, c3, c4, c5⟩ := mod_cells JJ.out.X; have c6 := JJ.out.X.lt; clear hb) | (go_at_call 18; (with_reducible refine (P7.out _ JJ.out.B).mono ?_); rintro e w1 ⟨rfl, hb⟩; have JJ := Lib.hid (JJ.out.belowS hb); obtain ⟨c0, c1, c2, c3, c4, c5⟩ := mod_cells JJ.out.X; have c6 := JJ.out.X.lt; clear hb) | (go_at_call 19; (with_reducible refine (P8.out _ JJ.out.B).mono ?_); rintro e w1 ⟨rfl, hb⟩; have JJ := Lib.hid (JJ.out.belowS hb); obtain ⟨c0, c1, c2, c3, c4, c5⟩ := mod_cells JJ.out.X; have c6 := JJ.out.X.lt; clear hb) | (go_at_call 20; (with_reducible refine (P9.out _ JJ.out.B).mono ?_); rintro e w1 ⟨rfl, hb⟩; have JJ := Lib.hid (JJ.out.belowS hb); obtain ⟨c0, c1, c2, c3, c4, c5⟩ := mod_cells JJ.out.X; have c6 := JJ.out.X.lt; clear hb))
  exact bodyPost_ret (v := .tuple #[.int .i64 0, .int .i64 0]) (by simp [results, Tryz.results8, go_sem]) rfl ⟨rfl, JJ.out.B⟩
theorem refVChk_any (h : RdM (· < w.heap.size) w ea en ec ia im ic ca cn cc da dn dc ra rn rc m) (hf : FineM m) :
    Calls Tryz.prog 10 #[mV (bs m.name) ea en ec ia im ic ca cn cc da dn dc ra rn rc] w fun e w' => e = .returned (.int .i64 (chkV m)) ∧ Below w.heap.size w w' := by
  have b0 := below_new w (.cells (mCs (bs m.name) ea en ec ia im ic ca cn cc da dn dc ra rn rc) 26)
  have HB := Lib.hid b0
  have HX := Lib.hid (Whole.new w 26 (mCs (bs m.name) ea en ec ia im ic ca cn cc da dn dc ra rn rc))
  have C := Lib.hid (refMod_any (h.go b0 b0.size) hf)
  clear h b0 hf
  unfold chkV
  generalize (vld m).1 = p at *
  generalize (vld m).2 = q at *
  generalize bs m.name = x at *
  by_cases hp : p = 0
  · subst hp
    go_enter Tryz.func10, Tryz.ntmps10
    obtain ⟨c0, c1, c2, c3, c4, c5⟩ := mod_cells HX.out
    go_wp2_with (go_at_call 8; (with_reducible refine C.out.mono ?_); rintro e w1 ⟨rfl, hb1⟩)
    go_ret
    exact ⟨rfl, HB.out.trans (hb1.mono HB.out.size)⟩
  · rw [if_neg hp]
    go_enter Tryz.func10, Tryz.ntmps10
    obtain ⟨c0, c1, c2, c3, c4, c5⟩ := mod_cells HX.out
    go_wp2_with (go_at_call 8; (with_reducible refine C.out.mono ?_); rintro e w1 ⟨rfl, hb1⟩)
    go_ret
    exact ⟨rfl, HB.out.trans (hb1.mono HB.out.size)⟩
end
end Go.Proofs.YtdfafllldanfiaaGreat.VR
