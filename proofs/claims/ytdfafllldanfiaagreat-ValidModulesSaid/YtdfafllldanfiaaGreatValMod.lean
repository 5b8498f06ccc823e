/-
  What is wrong with a module, and where, is told as the document says: the walk of ValidModules. Nothing here is a statement of the seed.
-/
import Derived.Test.YtdfafllldanfiaaGreatRefV5
import Derived.Test.YtdfafllldanfiaaGreatValAwk
import Derived.Test.YtdfafllldanfiaaGreatObjSizeR
import Derived.Test.YtdfafllldanfiaaGreatObjCopyO
import Derived.Test.YtdfafllldanfiaaGreatObjSameM
set_option linter.unusedSimpArgs false
set_option linter.unusedVariables false
namespace Go.Proofs.YtdfafllldanfiaaGreat.VR
open Go.RowKit WM NR OM OR VM
set_option maxHeartbeats 4000000
set_option maxRecDepth 10000
theorem vld_bd (m : Md) : 0 ≤ (vld m).1 ∧ (vld m).1 ≤ 9 := by
  unfold vld
  repeat' split
  all_goals (constructor <;> simp)
theorem own_rd {w : World} {B : Nat} {ea : Option Addr} {en ec : Nat} {ia : Option Addr} {im ic : Nat} {ca : Option Addr} {cn cc : Nat} {da : Option Addr} {dn dc : Nat} {ra : Option Addr} {rn rc : Nat} {m : Md} (h : Own5 B m w ea en ec ia im ic ca cn cc da dn dc ra rn rc) : RdM (· < w.heap.size) w ea en ec ia im ic ca cn cc da dn dc ra rn rc m := by
  have l1 : ∀ {v : Value} {xs : List Value} {G : Nat → Prop}, Reads G w v xs → Reads (· < w.heap.size) w v xs := fun k => k.there.mono fun _ hg => hg.2
  refine ⟨l1 h.reads.ex, l1 h.reads.im, l1 h.reads.cd, l1 h.reads.dt, ?_⟩
  obtain ⟨a, cap, e, h1, h2, h3, h4⟩ := h.reads.rl
  refine ⟨a, cap, e, h1, h2, h3, ?_⟩
  rcases h4 with h4 | ⟨g, off, ea, hg, hc⟩
  · exact Or.inl h4
  · by_cases h0 : m.rels = []
    · exact Or.inl h0
    · refine Or.inr ⟨g, off, ea, ?_, hc⟩
      have : 0 < m.rels.length := List.length_pos_iff.2 h0
      exact World.block_lt_of_cell? w _ (hc 0 this).1
end Go.Proofs.YtdfafllldanfiaaGreat.VR
namespace Go.Proofs.YtdfafllldanfiaaGreat.WK
open Go.RowKit WM NR OM OR VM VR
set_option maxHeartbeats 4000000
set_option maxRecDepth 10000
section
variable {w : World} {ea : Option Addr} {en ec : Nat} {ia : Option Addr} {im ic : Nat} {ca : Option Addr} {cn cc : Nat} {da : Option Addr} {dn dc : Nat} {ra : Option Addr} {rn rc : Nat} {m : Md}
theorem ValidModules_walk (h : RdM (· < w.heap.size) w ea en ec ia im ic ca cn cc da dn dc ra rn rc m) (hf : FineM m) :
    Calls Tryz.prog 3 #[mV (bs m.name) ea en ec ia im ic ca cn cc da dn dc ra rn rc] w fun e w' => e = .returned (.bool true) ∧ Below w.heap.size w w' := by
  have J0 := Lib.hid (MJ.new w (mCs (bs m.name) ea en ec ia im ic ca cn cc da dn dc ra rn rc))
  have S1 := Lib.hid (fun (u : World) (hb : Below w.heap.size w u) => size_any (h.go hb hb.size))
  have AW := Lib.hid (fun (u : World) => awake_any u)
  by_cases z1 : szF en [im, cn, dn, rn] ≤ 2000
  case neg =>
    have z1' : (2000 : Int) < (szF en [im, cn, dn, rn] : Nat) := by omega
    clear z1 h hf
    generalize bs m.name = x at *
    generalize ((szF en [im, cn, dn, rn] : Nat) : Int) = s1 at *
    go_enter Tryz.func3, Tryz.ntmps3
    go_upto_region 1 with fail
    generalize w.alloc (.cells (mCs x ea en ec ia im ic ca cn cc da dn dc ra rn rc) 26) = W0 at *
    obtain ⟨c0, c1, c2, c3, c4, c5⟩ := mod_cells J0.out.X
    have c6 := J0.out.X.lt
    go_wp2_with (first | (go_at_call 4; (with_reducible refine (S1.out _ J0.out.B).mono ?_); rintro e w1 ⟨rfl, hb⟩; have J1 := Lib.hid (J0.out.belowS hb); clear hb) | (go_at_call 5; (with_reducible refine (AW.out _).mono ?_); rintro e w2 ⟨rfl, hb⟩; have J2 := Lib.hid (J1.out.belowS hb); clear hb))
    go_ret
    exact ⟨rfl, J2.out.B⟩
  have z1' : ((szF en [im, cn, dn, rn] : Nat) : Int) ≤ 2000 := by omega
  have hz5 := szF_five z1
  clear z1
  have CP := Lib.hid (fun (u : World) (hb : Below w.heap.size w u) => refCopyO_any (h.go hb hb.size) ⟨by omega, by omega, by omega, by omega, by omega⟩)
  have M2 := Lib.hid (fun (u : World) (hb : Below w.heap.size w u) => refMod_any (h.go hb hb.size) hf)
  have K2 := Lib.hid (fun (u : World) (hb : Below w.heap.size w u) => refVChk_any (h.go hb hb.size) hf)
  obtain ⟨V, hV⟩ : ∃ V, V = vld m := ⟨_, rfl⟩
  have CM : Hid (∀ (u : World) (ea : Option Addr) (en ec : Nat) (ia : Option Addr) (im ic : Nat) (ca : Option Addr) (cn cc : Nat) (da : Option Addr) (dn dc : Nat) (ra : Option Addr) (rn rc : Nat), RdM (· < u.heap.size) u ea en ec ia im ic ca cn cc da dn dc ra rn rc m → Calls Tryz.prog 7 #[mV (bs m.name) ea en ec ia im ic ca cn cc da dn dc ra rn rc] u fun e w' => e = .returned (.tuple #[.int .u8 V.1, .int .i64 V.2]) ∧ Below u.heap.size u w') := Lib.hid fun u _ _ _ _ _ _ _ _ _ _ _ _ _ _ _ hR => by
    rw [hV]
    exact module_any hR hf
  have CK : Hid (∀ (u : World) (ea : Option Addr) (en ec : Nat) (ia : Option Addr) (im ic : Nat) (ca : Option Addr) (cn cc : Nat) (da : Option Addr) (dn dc : Nat) (ra : Option Addr) (rn rc : Nat), RdM (· < u.heap.size) u ea en ec ia im ic ca cn cc da dn dc ra rn rc m → Calls Tryz.prog 9 #[mV (bs m.name) ea en ec ia im ic ca cn cc da dn dc ra rn rc] u fun e w' => e = .returned (.int .i64 (chkV m)) ∧ Below u.heap.size u w') := Lib.hid fun u _ _ _ _ _ _ _ _ _ _ _ _ _ _ _ hR => vcheck_any hR hf
  have CS : Hid (∀ (u : World) (ea2 : Option Addr) (en2 ec2 : Nat) (ia2 : Option Addr) (im2 ic2 : Nat) (ca2 : Option Addr) (cn2 cc2 : Nat) (da2 : Option Addr) (dn2 dc2 : Nat) (ra2 : Option Addr) (rn2 rc2 : Nat), RdM (· < u.heap.size) u ea2 en2 ec2 ia2 im2 ic2 ca2 cn2 cc2 da2 dn2 dc2 ra2 rn2 rc2 m → Below w.heap.size w u → Calls Tryz.prog 11 #[mV (bs m.name) ea2 en2 ec2 ia2 im2 ic2 ca2 cn2 cc2 da2 dn2 dc2 ra2 rn2 rc2, mV (bs m.name) ea en ec ia im ic ca cn cc da dn dc ra rn rc] u fun e w' => e = .returned (.bool true) ∧ Below u.heap.size u w') := Lib.hid fun u _ _ _ _ _ _ _ _ _ _ _ _ _ _ _ hR hb => by
    have := refSame_any hR (h.go hb hb.size)
    rw [decide_eq_true rfl] at this
    exact this
  have hbd : 0 ≤ V.1 ∧ V.1 ≤ 9 := by rw [hV]; exact vld_bd m
  rw [← hV] at M2
  clear hV hz5 h hf
  obtain ⟨V1, V2⟩ := V
  have hwr : IntKind.i64.wrap V1 = V1 := by rw [IntKind.wrap_i64]; simp only at hbd; omega
  clear hbd
  generalize chkV m = q at *
  generalize bs m.name = x at *
  generalize ((szF en [im, cn, dn, rn] : Nat) : Int) = s1 at *
  go_enter Tryz.func3, Tryz.ntmps3
  go_upto_region 1 with fail
  generalize w.alloc (.cells (mCs x ea en ec ia im ic ca cn cc da dn dc ra rn rc) 26) = W0 at *
  obtain ⟨c0, c1, c2, c3, c4, c5⟩ := mod_cells J0.out.X
  have c6 := J0.out.X.lt
  go_upto_region 3 with (go_at_call 4; (with_reducible refine (S1.out _ J0.out.B).mono ?_); rintro e w1 ⟨rfl, hb⟩; have J1 := Lib.hid (J0.out.belowS hb); clear hb)
  clear c0 c1 c2 c3 c4 c5 c6 J0 S1
  obtain ⟨c0, c1, c2, c3, c4, c5⟩ := mod_cells J1.out.X
  have c6 := J1.out.X.lt
  go_upto_region 4 with (go_at_call 6; (with_reducible refine (CP.out _ J1.out.B).mono ?_); rintro e w3 ⟨ea2, en2, ec2, ia2, im2, ic2, ca2, cn2, cc2, da2, dn2, dc2, ra2, rn2, rc2, rfl, hO, hb⟩; have OD := Lib.hid hO; have J3 := Lib.hid (J1.out.belowS hb); clear hb hO)
  have b4 := below_new w3 (.cells (mCs x ea2 en2 ec2 ia2 im2 ic2 ca2 cn2 cc2 da2 dn2 dc2 ra2 rn2 rc2) 26)
  have XX := Lib.hid (Whole.new w3 26 (mCs x ea2 en2 ec2 ia2 im2 ic2 ca2 cn2 cc2 da2 dn2 dc2 ra2 rn2 rc2))
  have OO := Lib.hid (OD.out.own.belowS b4)
  have JJ := Lib.hid (J3.out.belowS b4)
  clear b4 OD J3 J1 CP c0 c1 c2 c3 c4 c5 c6
  generalize w3.alloc (.cells (mCs x ea2 en2 ec2 ia2 im2 ic2 ca2 cn2 cc2 da2 dn2 dc2 ra2 rn2 rc2) 26) = W4 at *
  obtain ⟨c0, c1, c2, c3, c4, c5⟩ := mod_cells JJ.out.X
  have c6 := JJ.out.X.lt
  obtain ⟨d0, d1, d2, d3, d4, d5⟩ := mod_cells XX.out
  have d6 := XX.out.lt
  go_upto_region 6 with (first | (go_at_call 7; (with_reducible refine (CM.out _ _ _ _ _ _ _ _ _ _ _ _ _ _ _ _ (own_rd OO.out)).mono ?_); rintro e w6 ⟨rfl, hb⟩; have JJ := Lib.hid (JJ.out.belowS hb); have XX := Lib.hid (XX.out.belowS hb); have OO := Lib.hid (OO.out.belowS hb); obtain ⟨c0, c1, c2, c3, c4, c5⟩ := mod_cells JJ.out.X; have c6 := JJ.out.X.lt; clear hb) | (go_at_call 8; (with_reducible refine (M2.out _ JJ.out.B).mono ?_); rintro e w7 ⟨rfl, hb⟩; have JJ := Lib.hid (JJ.out.belowS hb); have XX := Lib.hid (XX.out.belowS hb); have OO := Lib.hid (OO.out.belowS hb); clear hb))
  clear CM M2
  clear c0 c1 c2 c3 c4 c5 c6 d0 d1 d2 d3 d4 d5 d6
  have bd : Below w7.heap.size w7 w7.drew := (Below.refl _ _).drew
  have JJ := Lib.hid (JJ.out.belowS bd)
  have XX := Lib.hid (XX.out.belowS bd)
  have OO := Lib.hid (OO.out.belowS bd)
  have KK := And.intro (mod_cells JJ.out.X) (mod_cells XX.out)
  clear bd
  go_region_held3 (fun u => MC w.heap.size x ea en ec ia im ic ca cn cc da dn dc ra rn rc u ∧ MC w3.heap.size x ea2 en2 ec2 ia2 im2 ic2 ca2 cn2 cc2 da2 dn2 dc2 ra2 rn2 rc2 u)
    (first | with_reducible exact KK)
    (first | (go_at_call 9; (with_reducible refine (CK.out _ _ _ _ _ _ _ _ _ _ _ _ _ _ _ _ (own_rd OO.out)).mono ?_); rintro e w9 ⟨rfl, hb⟩; have JJ := Lib.hid (JJ.out.belowS hb); have XX := Lib.hid (XX.out.belowS hb); have OO := Lib.hid (OO.out.belowS hb); have KK := And.intro (mod_cells JJ.out.X) (mod_cells XX.out); clear hb) | (go_at_call 10; (with_reducible refine (K2.out _ JJ.out.B).mono ?_); rintro e w9 ⟨rfl, hb⟩; have JJ := Lib.hid (JJ.out.belowS hb); have XX := Lib.hid (XX.out.belowS hb); have OO := Lib.hid (OO.out.belowS hb); have KK := And.intro (mod_cells JJ.out.X) (mod_cells XX.out); clear hb) | (go_at_call 11; (with_reducible refine (CS.out _ _ _ _ _ _ _ _ _ _ _ _ _ _ _ _ (own_rd OO.out) JJ.out.B).mono ?_); rintro e w9 ⟨rfl, hb⟩; have JJ := Lib.hid (JJ.out.belowS hb); have XX := Lib.hid (XX.out.belowS hb); have OO := Lib.hid (OO.out.belowS hb); have KK := And.intro (mod_cells JJ.out.X) (mod_cells XX.out); clear hb) | (go_at_call 5; (with_reducible refine (AW.out _).mono ?_); rintro e w9 ⟨rfl, hb⟩; have JJ := Lib.hid (JJ.out.belowS hb); have XX := Lib.hid (XX.out.belowS hb); have OO := Lib.hid (OO.out.belowS hb); have KK := And.intro (mod_cells JJ.out.X) (mod_cells XX.out); clear hb))
  all_goals
    rename_i hHeld
    clear hHeld
    go_wp2_with fail
    go_ret
    exact ⟨rfl, JJ.out.B⟩
end
end Go.Proofs.YtdfafllldanfiaaGreat.WK
