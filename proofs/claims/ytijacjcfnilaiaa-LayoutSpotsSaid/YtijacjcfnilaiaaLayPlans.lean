/-
  The walks of LayoutPlans, LayoutPlaces, LayoutSpots, over what the program's and the reference's functions tell. Nothing here is a statement of the seed.
-/
import Derived.Test.YtijacjcfnilaiaaLayAwk
import Derived.Test.YtijacjcfnilaiaaObjSizeR
import Derived.Deep.RegionHeld3
import Derived.Deep.CutRange
set_option linter.unusedSimpArgs false
set_option linter.unusedVariables false
namespace Go.Proofs.Ytijacjcfnilaiaa.YR
open Go.RowKit WM NR OM OR YM
/-- a module's box and a plan's, on the way -/
structure LJ (w : World) (cs : Array Value) (c d : Int) (u : World) : Prop where
  X : Whole u w.heap.size 26 cs
  Y : Whole u (w.heap.size + 1) 28 #[.int .i64 c, .int .i64 d]
  B : Below w.heap.size w u
theorem LJ.belowS {w u u' : World} {cs : Array Value} {c d : Int} (h : LJ w cs c d u) (hb : Below u.heap.size u u') : LJ w cs c d u' := ⟨h.X.belowS hb, h.Y.belowS hb, h.B.trans (hb.mono h.B.size)⟩
theorem LJ.new (w : World) (cs : Array Value) (c d : Int) : LJ w cs c d ((w.alloc (.cells cs 26)).alloc (.cells #[.int .i64 c, .int .i64 d] 28)) := by
  have b0 := below_new w (.cells cs 26)
  have b1 := below_new (w.alloc (.cells cs 26)) (.cells #[.int .i64 c, .int .i64 d] 28)
  have s0 : (w.alloc (.cells cs 26)).heap.size = w.heap.size + 1 := by simp
  have y := Whole.new (w.alloc (.cells cs 26)) 28 #[.int .i64 c, .int .i64 d]
  rw [s0] at y
  exact ⟨(Whole.new w _ _).belowS b1, y, b0.trans (b1.mono b0.size)⟩
/-- a plan's box, on the way -/
structure QJ (w : World) (c d : Int) (u : World) : Prop where
  Y : Whole u w.heap.size 28 #[.int .i64 c, .int .i64 d]
  B : Below w.heap.size w u
theorem QJ.belowS {w u u' : World} {c d : Int} (h : QJ w c d u) (hb : Below u.heap.size u u') : QJ w c d u' := ⟨h.Y.belowS hb, h.B.trans (hb.mono h.B.size)⟩
theorem QJ.new (w : World) (c d : Int) : QJ w c d (w.alloc (.cells #[.int .i64 c, .int .i64 d] 28)) := ⟨Whole.new w _ _, below_new w _⟩
/-- a module's box, on the way -/
structure SJ (w : World) (cs : Array Value) (u : World) : Prop where
  X : Whole u w.heap.size 26 cs
  B : Below w.heap.size w u
theorem SJ.belowS {w u u' : World} {cs : Array Value} (h : SJ w cs u) (hb : Below u.heap.size u u') : SJ w cs u' := ⟨h.X.belowS hb, h.B.trans (hb.mono h.B.size)⟩
theorem SJ.new (w : World) (cs : Array Value) : SJ w cs (w.alloc (.cells cs 26)) := ⟨Whole.new w _ _, below_new w _⟩
abbrev PC (b : Nat) (x y : Value) (u : World) : Prop := u.cell? ⟨b, 0, none⟩ = some x ∧ u.cell? ⟨b, 1, none⟩ = some y
end Go.Proofs.Ytijacjcfnilaiaa.YR
namespace Go.Proofs.Ytijacjcfnilaiaa.WK
open Go.RowKit WM NR OM OR YM YR
set_option maxHeartbeats 4000000
set_option maxRecDepth 10000
section
variable {w : World} {ea : Option Addr} {en ec : Nat} {ia : Option Addr} {im ic : Nat} {ca : Option Addr} {cn cc : Nat} {da : Option Addr} {dn dc : Nat} {ra : Option Addr} {rn rc : Nat} {m : Md}
theorem LayoutPlans_walk (h : RdM (· < w.heap.size) w ea en ec ia im ic ca cn cc da dn dc ra rn rc m) (hl : cn * 4 ≤ 140737488355328 ∧ dn * 4 ≤ 140737488355328) (c d : Int) (hc : -9223372036854775808 ≤ c ∧ c ≤ 9223372036854775807) (hd : -9223372036854775808 ≤ d ∧ d ≤ 9223372036854775807) :
    Calls Try.prog 3 #[mV (bs m.name) ea en ec ia im ic ca cn cc da dn dc ra rn rc, planV c d] w fun e w' => e = .returned (.bool true) ∧ Below w.heap.size w w' := by
  have JJ := Lib.hid (LJ.new w (mCs (bs m.name) ea en ec ia im ic ca cn cc da dn dc ra rn rc) c d)
  have C1 := Lib.hid (fun (u : World) (hb : Below w.heap.size w u) => of_any (h.go hb hb.size) hl)
  have C2 := Lib.hid (fun (u : World) (hb : Below w.heap.size w u) => refOf_any (h.go hb hb.size))
  have C3 := Lib.hid (pages_any c d hc hd)
  have C4 := Lib.hid (refPgP_any c d hc hd)
  have C5 := Lib.hid (words_any c d hc hd)
  have C6 := Lib.hid (refWords_any c d hc hd)
  have AW := Lib.hid awake_any
  clear h hl hc hd
  generalize bs m.name = x at *
  generalize ((pgs cn : Nat) : Int) = p1 at *
  generalize ((pgs dn : Nat) : Int) = p2 at *
  generalize 16 * pgP c d = p3 at *
  generalize pgP c d = p4 at *
  go_enter Try.func3, Try.ntmps3
  go_upto_region 1 with fail
  generalize (w.alloc (.cells (mCs x ea en ec ia im ic ca cn cc da dn dc ra rn rc) 26)).alloc (.cells #[.int .i64 c, .int .i64 d] 28) = W at *
  have JJ := Lib.hid (JJ.out.belowS (Below.refl _ _).drew)
  have KK := And.intro (mod_cells JJ.out.X) (two_cells JJ.out.Y)
  go_region_held3 (fun u => MC w.heap.size x ea en ec ia im ic ca cn cc da dn dc ra rn rc u ∧ PC (w.heap.size + 1) (.int .i64 c) (.int .i64 d) u)
    (first | with_reducible exact KK)
    (first | (go_at_call 9; (with_reducible refine (C1.out _ JJ.out.B).mono ?_); rintro e w9 ⟨rfl, hb⟩; have JJ := Lib.hid (JJ.out.belowS hb); have KK := And.intro (mod_cells JJ.out.X) (two_cells JJ.out.Y); clear hb) | (go_at_call 10; (with_reducible refine (C2.out _ JJ.out.B).mono ?_); rintro e w9 ⟨rfl, hb⟩; have JJ := Lib.hid (JJ.out.belowS hb); have KK := And.intro (mod_cells JJ.out.X) (two_cells JJ.out.Y); clear hb) | (go_at_call 11; (with_reducible refine (C3.out _).mono ?_); rintro e w9 ⟨rfl, hb⟩; have JJ := Lib.hid (JJ.out.belowS hb); have KK := And.intro (mod_cells JJ.out.X) (two_cells JJ.out.Y); clear hb) | (go_at_call 12; (with_reducible refine (C4.out _).mono ?_); rintro e w9 ⟨rfl, hb⟩; have JJ := Lib.hid (JJ.out.belowS hb); have KK := And.intro (mod_cells JJ.out.X) (two_cells JJ.out.Y); clear hb) | (go_at_call 13; (with_reducible refine (C5.out _).mono ?_); rintro e w9 ⟨rfl, hb⟩; have JJ := Lib.hid (JJ.out.belowS hb); have KK := And.intro (mod_cells JJ.out.X) (two_cells JJ.out.Y); clear hb) | (go_at_call 14; (with_reducible refine (C6.out _).mono ?_); rintro e w9 ⟨rfl, hb⟩; have JJ := Lib.hid (JJ.out.belowS hb); have KK := And.intro (mod_cells JJ.out.X) (two_cells JJ.out.Y); clear hb) | (go_at_call 15; (with_reducible refine (AW.out _).mono ?_); rintro e w9 ⟨rfl, hb⟩; have JJ := Lib.hid (JJ.out.belowS hb); have KK := And.intro (mod_cells JJ.out.X) (two_cells JJ.out.Y); clear hb))
  all_goals
    rename_i hHeld
    clear hHeld
    go_wp2_with fail
    go_ret
    exact ⟨rfl, JJ.out.B⟩
theorem LayoutPlaces_walk (c d f : Int) (hc : -9223372036854775808 ≤ c ∧ c ≤ 9223372036854775807) (hd : -9223372036854775808 ≤ d ∧ d ≤ 9223372036854775807) (hf : -9223372036854775808 ≤ f ∧ f ≤ 9223372036854775807) (w : World) :
    Calls Try.prog 4 #[planV c d, .int .i64 f] w fun e w' => e = .returned (.bool true) ∧ Below w.heap.size w w' := by
  have J0 := Lib.hid (QJ.new w c d)
  have C1 := Lib.hid (at_any c d f hc hd hf)
  have C2 := Lib.hid (refAt_any c d f hc hd hf)
  have AW := Lib.hid awake_any
  clear hc hd hf
  unfold resAt at C1 C2
  generalize (atP c d f).1 = A at *
  generalize (atP c d f).2.1 = B at *
  generalize (atP c d f).2.2 = E at *
  go_enter Try.func4, Try.ntmps4
  go_upto_region 1 with fail
  generalize w.alloc (.cells #[.int .i64 c, .int .i64 d] 28) = W at *
  obtain ⟨c0, c1⟩ := two_cells J0.out.Y
  have c6 := J0.out.Y.lt
  go_upto_region 2 with (go_at_call 16; (with_reducible refine (C1.out _).mono ?_); rintro e w1 ⟨rfl, hb⟩; have J1 := Lib.hid (J0.out.belowS hb); clear hb)
  have b4 := below_new w1 (.cells #[.int .u32 A, .int .u32 B] 38)
  have PP := Lib.hid (Whole.new w1 38 #[.int .u32 A, .int .u32 B])
  have J2 := Lib.hid (J1.out.belowS b4)
  clear b4 J1 J0 c0 c1 c6
  generalize w1.alloc (.cells #[.int .u32 A, .int .u32 B] 38) = W2 at *
  obtain ⟨c0, c1⟩ := two_cells J2.out.Y
  have c6 := J2.out.Y.lt
  go_upto_region 3 with (go_at_call 17; (with_reducible refine (C2.out _).mono ?_); rintro e w3 ⟨rfl, hb⟩; have J3 := Lib.hid (J2.out.belowS hb); have PP := Lib.hid (PP.out.belowS hb); clear hb)
  have b5 := below_new w3 (.cells #[.int .u32 A, .int .u32 B] 42)
  have RR := Whole.new w3 42 #[.int .u32 A, .int .u32 B]
  have J4 := Lib.hid (J3.out.belowS b5)
  have P4 := PP.out.belowS b5
  clear b5 J3 J2 PP c0 c1 c6
  generalize w3.alloc (.cells #[.int .u32 A, .int .u32 B] 42) = W4 at *
  obtain ⟨d0, d1⟩ := two_cells P4
  have d6 := P4.lt
  obtain ⟨e0, e1⟩ := two_cells RR
  have e6 := RR.lt
  clear P4 RR
  go_wp2_with (go_at_call 15; (with_reducible refine (AW.out _).mono ?_); rintro e w9 ⟨rfl, hb⟩; have J5 := Lib.hid (J4.out.belowS hb); clear hb)
  go_ret
  exact ⟨rfl, J5.out.B⟩
theorem LayoutSpots_walk (h : RdM (· < w.heap.size) w ea en ec ia im ic ca cn cc da dn dc ra rn rc m) (hl : cn * 4 ≤ 140737488355328 ∧ dn * 4 ≤ 140737488355328) (i : Int) (hi : -9223372036854775808 ≤ i ∧ i ≤ 9223372036854775807) :
    Calls Try.prog 5 #[mV (bs m.name) ea en ec ia im ic ca cn cc da dn dc ra rn rc, .int .i64 i] w fun e w' => e = .returned (.bool true) ∧ Below w.heap.size w w' := by
  have JJ := Lib.hid (SJ.new w (mCs (bs m.name) ea en ec ia im ic ca cn cc da dn dc ra rn rc))
  have C1 := Lib.hid (fun (u : World) (hb : Below w.heap.size w u) => spot_any (h.go hb hb.size) hl i hi)
  have C2 := Lib.hid (fun (u : World) (hb : Below w.heap.size w u) => refSpot_any (h.go hb hb.size) hl i hi)
  have C3 := Lib.hid (fun (u : World) (hb : Below w.heap.size w u) => raw_any (h.go hb hb.size) hl i hi)
  have C4 := Lib.hid (fun (u : World) (hb : Below w.heap.size w u) => refRaw_any (h.go hb hb.size) hl i hi)
  have AW := Lib.hid awake_any
  clear h hl hi
  generalize bs m.name = x at *
  generalize (spV cn dn i).1 = p1 at *
  generalize (spV cn dn i).2.1 = p2 at *
  generalize (spV cn dn i).2.2 = p3 at *
  generalize ((rawV m.code m.data i : Nat) : Int) = p4 at *
  go_enter Try.func5, Try.ntmps5
  go_upto_region 1 with fail
  generalize w.alloc (.cells (mCs x ea en ec ia im ic ca cn cc da dn dc ra rn rc) 26) = W at *
  obtain ⟨c0, c1, c2, c3, c4, c5⟩ := mod_cells JJ.out.X
  have c6 := JJ.out.X.lt
  go_upto_region 3 with (first | (go_at_call 18; (with_reducible refine (C1.out _ JJ.out.B).mono ?_); rintro e w1 ⟨rfl, hb⟩; have JJ := Lib.hid (JJ.out.belowS hb); obtain ⟨c0, c1, c2, c3, c4, c5⟩ := mod_cells JJ.out.X; have c6 := JJ.out.X.lt; clear hb) | (go_at_call 19; (with_reducible refine (C2.out _ JJ.out.B).mono ?_); rintro e w2 ⟨rfl, hb⟩; have JJ := Lib.hid (JJ.out.belowS hb); clear hb))
  clear c0 c1 c2 c3 c4 c5 c6
  have JJ := Lib.hid (JJ.out.belowS (Below.refl _ _).drew)
  have KK := mod_cells JJ.out.X
  go_region_held3 (fun u => MC w.heap.size x ea en ec ia im ic ca cn cc da dn dc ra rn rc u)
    (first | with_reducible exact KK)
    (first | (go_at_call 20; (with_reducible refine (C3.out _ JJ.out.B).mono ?_); rintro e w9 ⟨rfl, hb⟩; have JJ := Lib.hid (JJ.out.belowS hb); have KK := mod_cells JJ.out.X; clear hb) | (go_at_call 21; (with_reducible refine (C4.out _ JJ.out.B).mono ?_); rintro e w9 ⟨rfl, hb⟩; have JJ := Lib.hid (JJ.out.belowS hb); have KK := mod_cells JJ.out.X; clear hb) | (go_at_call 15; (with_reducible refine (AW.out _).mono ?_); rintro e w9 ⟨rfl, hb⟩; have JJ := Lib.hid (JJ.out.belowS hb); have KK := mod_cells JJ.out.X; clear hb))
  all_goals
    rename_i hHeld
    clear hHeld
    go_wp2_with fail
    go_ret
    exact ⟨rfl, JJ.out.B⟩
end
end Go.Proofs.Ytijacjcfnilaiaa.WK
