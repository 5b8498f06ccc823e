/-
  The law LinkWords, walked. Nothing here is a statement of the seed.
-/
import Derived.Test.YtajidaicojekdaaLinkAwk
import Derived.Test.YtajidaicojekdaaObjSizeR
set_option linter.unusedSimpArgs false
set_option linter.unusedVariables false
namespace Go.Proofs.Ytajidaicojekdaa.WK
open Go.RowKit WM NR OM OR VM YM YR RM RF KM KF
set_option maxHeartbeats 4000000
set_option maxRecDepth 10000
/-- a place and slots as a value -/
abbrev whV (c d : Int) (v : Value) : Value := .agg #[.int .u32 c, .int .u32 d, v]
theorem wh_cells {w : World} {b : Nat} {t : TypeId} {x y z : Value} (h : Whole w b t #[x, y, z]) : w.cell? ⟨b, 0, none⟩ = some x ∧ w.cell? ⟨b, 1, none⟩ = some y ∧ w.cell? ⟨b, 2, none⟩ = some z ∧ b < w.heap.size := ⟨h.cell 0, h.cell 1, h.cell 2, h.lt⟩
section
variable {w : World} {ea : Option Addr} {en ec : Nat} {ia : Option Addr} {im ic : Nat} {ca : Option Addr} {cn cc : Nat} {da : Option Addr} {dn dc : Nat} {ra : Option Addr} {rn rc : Nat} {m : Md}
theorem LinkWords_walk (h : RdM (· < w.heap.size) w ea en ec ia im ic ca cn cc da dn dc ra rn rc m) (hf : FineM m) (c d : Int) (hc : 0 ≤ c ∧ c ≤ 4294967295) (hd : 0 ≤ d ∧ d ≤ 4294967295)
    (l : List Nat) (v : Value) (R : Slots w v l) (hw : ∀ x ∈ l, x < 4294967296) (i : Int) (hi : -9223372036854775808 ≤ i ∧ i ≤ 9223372036854775807) :
    Calls Try.prog 4 #[mV (bs m.name) ea en ec ia im ic ca cn cc da dn dc ra rn rc, whV c d v, .int .i64 i] w fun e w' => e = .returned (.bool true) ∧ Below w.heap.size w w' := by
  obtain ⟨l1, l2, l3, l4, l5⟩ := h.lens
  have J0 := Lib.hid (LJ.new w (mCs (bs m.name) ea en ec ia im ic ca cn cc da dn dc ra rn rc) #[.int .u32 c, .int .u32 d, v] 50)
  have CS := Lib.hid (fun (u : World) (hb : Below w.heap.size w u) => size_any (h.go hb hb.size))
  have AW := Lib.hid awk16
  by_cases hs : szF en [im, cn, dn, rn] ≤ 2000
  · obtain ⟨_, _, z3, z4, _⟩ := szF_five hs
    have C1 := Lib.hid (fun (u : World) (hb : Below w.heap.size w u) => KP.word_any (h.go hb hb.size) hf (by omega) c d hc hd l v (R.below hb) hw i hi)
    have C2 := Lib.hid (fun (u : World) (hb : Below w.heap.size w u) => refWord_any (h.go hb hb.size) hf (by omega) c d hc hd l v (R.below hb) hw i hi)
    have hs' : ¬ (2000 : Int) < (szF en [im, cn, dn, rn] : Nat) := by omega
    obtain ⟨av, nv, cv, rfl⟩ := R.reads.form
    clear h hf R hw hc hd hi l1 l2 l3 l4 l5 z3 z4 hs
    generalize ((szF en [im, cn, dn, rn] : Nat) : Int) = S at *
    generalize bs m.name = x at *
    generalize wrdW m c d l i = X at *
    generalize wrdE m c d l i = E at *
    go_enter Try.func4, Try.ntmps4
    go_upto_region 1 with fail
    generalize (w.alloc (.cells (mCs x ea en ec ia im ic ca cn cc da dn dc ra rn rc) 45)).alloc (.cells #[.int .u32 c, .int .u32 d, .slice av nv cv] 50) = W at *
    have JJ := J0
    clear J0
    obtain ⟨c0, c1, c2, c3, c4, c5⟩ := mod_cells JJ.out.X
    have c6 := JJ.out.X.lt
    obtain ⟨p0, p1, p2, p6⟩ := wh_cells JJ.out.Y
    go_wp2_with (first | (go_at_call 16; (with_reducible refine (CS.out _ JJ.out.B).mono ?_); rintro e w9 ⟨rfl, hb⟩; have JJ := Lib.hid (JJ.out.belowS hb); obtain ⟨c0, c1, c2, c3, c4, c5⟩ := mod_cells JJ.out.X; have c6 := JJ.out.X.lt; obtain ⟨p0, p1, p2, p6⟩ := wh_cells JJ.out.Y; clear hb) | (go_at_call 17; (with_reducible refine (C1.out _ JJ.out.B).mono ?_); rintro e w9 ⟨rfl, hb⟩; have JJ := Lib.hid (JJ.out.belowS hb); obtain ⟨c0, c1, c2, c3, c4, c5⟩ := mod_cells JJ.out.X; have c6 := JJ.out.X.lt; obtain ⟨p0, p1, p2, p6⟩ := wh_cells JJ.out.Y; clear hb) | (go_at_call 18; (with_reducible refine (C2.out _ JJ.out.B).mono ?_); rintro e w9 ⟨rfl, hb⟩; have JJ := Lib.hid (JJ.out.belowS hb); obtain ⟨c0, c1, c2, c3, c4, c5⟩ := mod_cells JJ.out.X; have c6 := JJ.out.X.lt; obtain ⟨p0, p1, p2, p6⟩ := wh_cells JJ.out.Y; clear hb) | (go_at_call 9; (with_reducible refine (AW.out.at _).mono ?_); rintro e w8 ⟨rfl, hb8⟩))
    go_ret
    exact ⟨rfl, JJ.out.B.trans (hb8.mono JJ.out.B.size)⟩
  · have hs' : (2000 : Int) < (szF en [im, cn, dn, rn] : Nat) := by omega
    obtain ⟨av, nv, cv, rfl⟩ := R.reads.form
    clear h hf R hw hc hd hi l1 l2 l3 l4 l5 hs
    generalize ((szF en [im, cn, dn, rn] : Nat) : Int) = S at *
    generalize bs m.name = x at *
    go_enter Try.func4, Try.ntmps4
    go_upto_region 1 with fail
    generalize (w.alloc (.cells (mCs x ea en ec ia im ic ca cn cc da dn dc ra rn rc) 45)).alloc (.cells #[.int .u32 c, .int .u32 d, .slice av nv cv] 50) = W at *
    have JJ := J0
    clear J0
    obtain ⟨c0, c1, c2, c3, c4, c5⟩ := mod_cells JJ.out.X
    have c6 := JJ.out.X.lt
    obtain ⟨p0, p1, p2, p6⟩ := wh_cells JJ.out.Y
    go_wp2_with (first | (go_at_call 16; (with_reducible refine (CS.out _ JJ.out.B).mono ?_); rintro e w9 ⟨rfl, hb⟩; have JJ := Lib.hid (JJ.out.belowS hb); obtain ⟨c0, c1, c2, c3, c4, c5⟩ := mod_cells JJ.out.X; have c6 := JJ.out.X.lt; obtain ⟨p0, p1, p2, p6⟩ := wh_cells JJ.out.Y; clear hb) | (go_at_call 9; (with_reducible refine (AW.out.at _).mono ?_); rintro e w8 ⟨rfl, hb8⟩))
    go_ret
    exact ⟨rfl, JJ.out.B.trans (hb8.mono JJ.out.B.size)⟩
end
end Go.Proofs.Ytajidaicojekdaa.WK
