/-
  The law LinkImages, walked. Nothing here is a statement of the seed.
-/
import Derived.Test.YtajidaicojekdaaLinkWrd
import Derived.Test.YtajidaicojekdaaObjC
import Derived.Test.YtajidaicojekdaaObjSameM
set_option linter.unusedSimpArgs false
set_option linter.unusedVariables false
namespace Go.Proofs.Ytajidaicojekdaa.KF
open Go.RowKit WM NR OM OR VM YM YR RM RF KM
/-- the words of an image, or none -/
def LL (m : Md) (c d : Int) (l : List Nat) : List Nat := if imgE m c d l = 0 then imgL m c d l else []
theorem IsImg.row {B : Nat} {w : World} {q : Value} {m : Md} {c d : Int} {l : List Nat} (h : IsImg B w q m c d l) : w.ownsRow B 46 1 q (LL m c d l).length (u32s (LL m c d l)) := by
  unfold LL
  by_cases e : imgE m c d l = 0
  · rw [if_pos e, imgL_len]
    exact h.yes e
  · rw [if_neg e, h.no e]
    exact World.ownsRow_nil _ _ _ _
theorem reads_lt {G : Nat → Prop} {w : World} {v : Value} {xs : List Value} (h : Reads G w v xs) : Reads (· < w.heap.size) w v xs := h.there.mono fun _ hg => hg.2
theorem rels_lt {G : Nat → Prop} {w : World} {v : Value} {l : List Rl} (h : ReadsR G w v l) : ReadsR (· < w.heap.size) w v l := by
  obtain ⟨a, cap, e, h1, h2, h3, h4⟩ := h
  refine ⟨a, cap, e, h1, h2, h3, ?_⟩
  by_cases h0 : l = []
  · exact Or.inl h0
  rcases h4 with h4 | ⟨g, off, ea, hg, hc⟩
  · exact Or.inl h4
  · refine Or.inr ⟨g, off, ea, ?_, hc⟩
    have hp : 0 < l.length := List.length_pos_iff.2 h0
    have hz := (hc 0 hp).1
    exact World.block_lt_of_cell? w _ hz
theorem rdm_lt {G : Nat → Prop} {u : World} {ea : Option Addr} {en ec : Nat} {ia : Option Addr} {im ic : Nat} {ca : Option Addr} {cn cc : Nat} {da : Option Addr} {dn dc : Nat} {ra : Option Addr} {rn rc : Nat} {m : Md} (h : RdM G u ea en ec ia im ic ca cn cc da dn dc ra rn rc m) :
    RdM (· < u.heap.size) u ea en ec ia im ic ca cn cc da dn dc ra rn rc m := ⟨reads_lt h.ex, reads_lt h.im, reads_lt h.cd, reads_lt h.dt, rels_lt h.rl⟩
end Go.Proofs.Ytajidaicojekdaa.KF
namespace Go.Proofs.Ytajidaicojekdaa.WK
open Go.RowKit WM NR OM OR VM YM YR RM RF KM KF
set_option maxHeartbeats 4000000
set_option maxRecDepth 10000
section
variable {w : World} {ea : Option Addr} {en ec : Nat} {ia : Option Addr} {im ic : Nat} {ca : Option Addr} {cn cc : Nat} {da : Option Addr} {dn dc : Nat} {ra : Option Addr} {rn rc : Nat} {m : Md}
theorem LinkImages_walk (h : RdM (· < w.heap.size) w ea en ec ia im ic ca cn cc da dn dc ra rn rc m) (hf : FineM m) (c d : Int) (hc : 0 ≤ c ∧ c ≤ 4294967295) (hd : 0 ≤ d ∧ d ≤ 4294967295)
    (l : List Nat) (v : Value) (R : Slots w v l) (hw : ∀ x ∈ l, x < 4294967296) :
    Calls Try.prog 5 #[mV (bs m.name) ea en ec ia im ic ca cn cc da dn dc ra rn rc, plV c d, v] w fun e w' => e = .returned (.bool true) ∧ Below w.heap.size w w' := by
  obtain ⟨l1, l2, l3, l4, l5⟩ := h.lens
  have J0 := Lib.hid (LJ.new w (mCs (bs m.name) ea en ec ia im ic ca cn cc da dn dc ra rn rc) #[.int .u32 c, .int .u32 d] 48)
  have CS := Lib.hid (fun (u : World) (hb : Below w.heap.size w u) => size_any (h.go hb hb.size))
  have AW := Lib.hid awk16
  by_cases hs : szF en [im, cn, dn, rn] ≤ 2000
  · obtain ⟨z1, z2, z3, z4, z5⟩ := szF_five hs
    have CC := Lib.hid (fun (u : World) (hb : Below w.heap.size w u) => refCopyO_any (h.go hb hb.size) (by omega))
    have C1 := Lib.hid (fun (u : World) (hb : Below w.heap.size w u) (ea2 : Option Addr) (en2 ec2 : Nat) (ia2 : Option Addr) (im2 ic2 : Nat) (ca2 : Option Addr) (cn2 cc2 : Nat) (da2 : Option Addr) (dn2 dc2 : Nat) (ra2 : Option Addr) (rn2 rc2 : Nat) (h2 : RdM (· < u.heap.size) u ea2 en2 ec2 ia2 im2 ic2 ca2 cn2 cc2 da2 dn2 dc2 ra2 rn2 rc2 m) =>
      KP.image_any h2 hf (by obtain ⟨_, _, y3, y4, _⟩ := h2.lens; omega) c d hc hd l v (R.below hb) hw)
    have C2 := Lib.hid (fun (u : World) (hb : Below w.heap.size w u) => refImage_any (h.go hb hb.size) hf (by omega) c d hc hd l v (R.below hb) hw)
    have CE := Lib.hid (fun (u : World) (hb : Below w.heap.size w u) (ea2 : Option Addr) (en2 ec2 : Nat) (ia2 : Option Addr) (im2 ic2 : Nat) (ca2 : Option Addr) (cn2 cc2 : Nat) (da2 : Option Addr) (dn2 dc2 : Nat) (ra2 : Option Addr) (rn2 rc2 : Nat) (h2 : RdM (· < u.heap.size) u ea2 en2 ec2 ia2 im2 ic2 ca2 cn2 cc2 da2 dn2 dc2 ra2 rn2 rc2 m) => by
      have := refSame_any h2 (h.go hb hb.size)
      rw [decide_eq_true rfl] at this
      exact this)
    have hs' : ¬ (2000 : Int) < (szF en [im, cn, dn, rn] : Nat) := by omega
    obtain ⟨av, nv, cv, rfl⟩ := R.reads.form
    have hn : (LL m c d l).length ≤ 640 := by
      unfold LL
      split
      · rw [imgL_len]
        rename_i he
        unfold imgE at he
        by_cases hg : lngB m = true
        · rw [if_pos hg] at he; omega
        · exact (nW_pages (by simpa using hg)).2
      · simp
    have HI := Lib.hid (fun (B : Nat) (u : World) (q : Value) (hi : IsImg B u q m c d l) => hi.row)
    generalize LL m c d l = L at *
    clear h hf R hw hc hd l1 l2 l3 l4 l5 z1 z2 z3 z4 z5 hs
    generalize ((szF en [im, cn, dn, rn] : Nat) : Int) = S at *
    obtain ⟨E, hE⟩ : ∃ E, imgE m c d l = E := ⟨_, rfl⟩
    rw [hE] at C1 C2
    generalize bs m.name = x at *
    go_enter Try.func5, Try.ntmps5
    go_upto_region 1 with fail
    generalize (w.alloc (.cells (mCs x ea en ec ia im ic ca cn cc da dn dc ra rn rc) 45)).alloc (.cells #[.int .u32 c, .int .u32 d] 48) = W at *
    have JJ := J0
    clear J0
    obtain ⟨c0, c1, c2, c3, c4, c5⟩ := mod_cells JJ.out.X
    have c6 := JJ.out.X.lt
    obtain ⟨p0, p1⟩ := pl_cells JJ.out.Y
    have p6 := JJ.out.Y.lt
    go_upto_region 3 with (first | (go_at_call 16; (with_reducible refine (CS.out _ JJ.out.B).mono ?_); rintro e w9 ⟨rfl, hb⟩; have JJ := Lib.hid (JJ.out.belowS hb); obtain ⟨c0, c1, c2, c3, c4, c5⟩ := mod_cells JJ.out.X; have c6 := JJ.out.X.lt; obtain ⟨p0, p1⟩ := pl_cells JJ.out.Y; have p6 := JJ.out.Y.lt; clear hb))
    go_upto_region 4 with (go_at_call 19; (with_reducible refine (CC.out _ JJ.out.B).mono ?_); rintro e w2 ⟨ea2, en2, ec2, ia2, im2, ic2, ca2, cn2, cc2, da2, dn2, dc2, ra2, rn2, rc2, rfl, hO, hb⟩; have JJ := Lib.hid (JJ.out.belowS hb); have HO := Lib.hid (rdm_lt hO.own.reads); clear hO hb)
    have hX2 := Whole.new w2 45 (mCs x ea2 en2 ec2 ia2 im2 ic2 ca2 cn2 cc2 da2 dn2 dc2 ra2 rn2 rc2)
    have hb23 := below_new w2 (.cells (mCs x ea2 en2 ec2 ia2 im2 ic2 ca2 cn2 cc2 da2 dn2 dc2 ra2 rn2 rc2) 45)
    have JJ := Lib.hid (JJ.out.belowS hb23)
    have HO3 := Lib.hid (HO.out.go hb23 hb23.size)
    have HX2 := Lib.hid hX2
    clear hX2 hb23 HO c0 c1 c2 c3 c4 c5 c6 p0 p1 p6
    generalize w2.alloc (.cells (mCs x ea2 en2 ec2 ia2 im2 ic2 ca2 cn2 cc2 da2 dn2 dc2 ra2 rn2 rc2) 45) = w3 at *
    obtain ⟨c0, c1, c2, c3, c4, c5⟩ := mod_cells HX2.out
    have c6 := HX2.out.lt
    obtain ⟨p0, p1⟩ := pl_cells JJ.out.Y
    have p6 := JJ.out.Y.lt
    go_upto_region 5 with (go_at_call 20; (with_reducible refine (C1.out _ JJ.out.B ea2 en2 ec2 ia2 im2 ic2 ca2 cn2 cc2 da2 dn2 dc2 ra2 rn2 rc2 HO3.out).mono ?_); rintro e w4 ⟨q1, rfl, hi1, hb⟩; have HR1 := Lib.hid (HI.out _ _ _ hi1); have J4 := Lib.hid (JJ.out.belowS hb); have K4 := Lib.hid hb; clear hi1 hb)
    clear c0 c1 c2 c3 c4 c5 c6 p0 p1 p6
    obtain ⟨c0, c1, c2, c3, c4, c5⟩ := mod_cells J4.out.X
    have c6 := J4.out.X.lt
    obtain ⟨p0, p1⟩ := pl_cells J4.out.Y
    have p6 := J4.out.Y.lt
    go_upto_region 6 with (go_at_call 21; (with_reducible refine (C2.out _ J4.out.B).mono ?_); rintro e w5 ⟨q2, rfl, hi2, hb⟩; have HR2 := Lib.hid (HI.out _ _ _ hi2); have HR5 := Lib.hid (owns_below HR1.out hb); have K5 := Lib.hid (K4.out.trans (hb.mono K4.out.size)); clear hi2 hb)
    clear c0 c1 c2 c3 c4 c5 c6 p0 p1 p6
    obtain ⟨a1, k1, rfl⟩ := owns_form HR5.out
    obtain ⟨a2, k2, rfl⟩ := owns_form HR2.out
    have CQ : Calls Try.prog 15 #[.slice a1 L.length k1, .slice a2 L.length k2] w5 fun e w' => e = .returned (.bool true) ∧ Below w5.heap.size w5 w' := by
      have := sameWords_any (reads_lt (Reads.of_owns HR5.out)) (reads_lt (Reads.of_owns HR2.out))
      rw [decide_eq_true rfl] at this
      exact this
    have HCQ := Lib.hid CQ
    clear CQ
    go_upto_region 7 with (go_at_call 15; (with_reducible refine HCQ.out.mono ?_); rintro e w6 ⟨rfl, hb⟩; have HR6 := Lib.hid (owns_below HR5.out hb); have K6 := Lib.hid (K5.out.trans (hb.mono K5.out.size)); clear hb)
    have HZ0 := Lib.hid (fun (j : Nat) (hj : j < L.length) => (⟨_, u32s_at L j hj⟩ : ∃ z : Int, (u32s L)[j]? = some (.int .u32 z)))
    clear HI C1 C2 CC CS
    generalize u32s L = xs0 at *
    generalize L.length = N at *
    go_wp2_with fail
    go_loopw [13] (fun i' wr => ∃ (k : Nat) (xs : List Value), k ≤ N ∧ i' = .int .i64 (k : Int) ∧ wr.ownsRow w3.heap.size 46 1 (.slice a1 N k1) N xs ∧ Hid (∀ j, j < N → ∃ z : Int, xs[j]? = some (.int .u32 z)) ∧ Below w3.heap.size w3 wr) (fun i' _ => N - (intOf i').toNat)
    case atStart => exact ⟨0, xs0, by omega, rfl, HR6.out, HZ0, K6.out⟩
    case round =>
      obtain ⟨k, xs, hk, rfl, hown, hz, hbl⟩ := hrel
      by_cases hlt : k < N
      · have hlt' : (k : Int) < N := by omega
        obtain ⟨z, hzk⟩ := hz.out k hlt
        obtain ⟨hxl, hform⟩ := hown
        rcases hform with ⟨_, hN0⟩ | ⟨g, cap, cur, hsl, hbg, hrow, hnc, hcm, hcs, htk⟩
        · exfalso; omega
        simp only [Value.slice.injEq, true_and] at hsl
        obtain ⟨rfl, rfl⟩ := hsl
        have hown : wr.ownsRow w3.heap.size 46 1 (.slice (some ⟨g, 0, none⟩) N k1) N xs := ⟨hxl, Or.inr ⟨g, k1, cur, rfl, hbg, hrow, hnc, hcm, hcs, htk⟩⟩
        have e0 := hown.cellAt k (by omega)
        rw [hzk] at e0
        have e1 := hown.frozenAt k
        have hst := Lib.hid (fun u => hown.stored k u)
        have hbs := Lib.hid (fun u => hbl.setCell (p := ⟨g, k, none⟩) hbg u)
        have hnc' : (N : Int) ≤ k1 := by omega
        have hz2 := Lib.hid (fun (y : Int) => (show ∀ j, j < N → ∃ z : Int, (xs.set k (.int .u32 y))[j]? = some (.int .u32 z) from fun j hj => by
          by_cases e : k = j
          · subst e
            exact ⟨y, by rw [List.getElem?_set_self (by omega)]⟩
          · rw [List.getElem?_set_ne e]
            exact hz.out j hj))
        have hgl := Lib.hid ((Array.getElem?_eq_some_iff.1 hrow).1)
        clear hz hzk hxl hrow hnc hcm hcs htk hown hbl hbg
        go_wp2_with fail
        go_roundw
        case rel => exact ⟨k + 1, _, by omega, by go_num, (hst.out _).1, Lib.hid (hz2.out _), hbs.out _⟩
        case measure => simp [intOf]; omega
      · have hlt' : ¬ (k : Int) < N := by omega
        have JK := Lib.hid (JJ.out.belowS hbl)
        have HXK := Lib.hid (HX2.out.belowS hbl)
        have HOK := Lib.hid (HO3.out.go hbl hbl.size)
        clear hz hown
        obtain ⟨c0, c1, c2, c3, c4, c5⟩ := mod_cells JK.out.X
        have c6 := JK.out.X.lt
        obtain ⟨b0, b1, b2, b3, b4, b5⟩ := mod_cells HXK.out
        have b6 := HXK.out.lt
        go_wp2_with (first | (go_at_call 22; (with_reducible refine (CE.out _ JK.out.B ea2 en2 ec2 ia2 im2 ic2 ca2 cn2 cc2 da2 dn2 dc2 ra2 rn2 rc2 HOK.out).mono ?_); rintro e w7 ⟨rfl, hb7⟩) | (go_at_call 9; (with_reducible refine (AW.out.at _).mono ?_); rintro e w8 ⟨rfl, hb8⟩))
        go_ret
        exact ⟨rfl, (JK.out.B.trans (hb7.mono JK.out.B.size)).trans (hb8.mono (JK.out.B.trans (hb7.mono JK.out.B.size)).size)⟩
  · have hs' : (2000 : Int) < (szF en [im, cn, dn, rn] : Nat) := by omega
    clear h hf R hw hc hd l1 l2 l3 l4 l5 hs
    generalize ((szF en [im, cn, dn, rn] : Nat) : Int) = S at *
    generalize bs m.name = x at *
    go_enter Try.func5, Try.ntmps5
    go_upto_region 1 with fail
    generalize (w.alloc (.cells (mCs x ea en ec ia im ic ca cn cc da dn dc ra rn rc) 45)).alloc (.cells #[.int .u32 c, .int .u32 d] 48) = W at *
    have JJ := J0
    clear J0
    obtain ⟨c0, c1, c2, c3, c4, c5⟩ := mod_cells JJ.out.X
    have c6 := JJ.out.X.lt
    obtain ⟨p0, p1⟩ := pl_cells JJ.out.Y
    have p6 := JJ.out.Y.lt
    go_wp2_with (first | (go_at_call 16; (with_reducible refine (CS.out _ JJ.out.B).mono ?_); rintro e w9 ⟨rfl, hb⟩; have JJ := Lib.hid (JJ.out.belowS hb); obtain ⟨c0, c1, c2, c3, c4, c5⟩ := mod_cells JJ.out.X; have c6 := JJ.out.X.lt; obtain ⟨p0, p1⟩ := pl_cells JJ.out.Y; have p6 := JJ.out.Y.lt; clear hb) | (go_at_call 9; (with_reducible refine (AW.out.at _).mono ?_); rintro e w8 ⟨rfl, hb8⟩))
    go_ret
    exact ⟨rfl, JJ.out.B.trans (hb8.mono JJ.out.B.size)⟩
end
end Go.Proofs.Ytajidaicojekdaa.WK
