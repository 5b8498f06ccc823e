/-
  Do both have the same pages? Nothing here is a statement of the seed.
-/
import Derived.Test.YthpdpocglfafaaaPageRef5
set_option linter.unusedSimpArgs false
set_option linter.unusedVariables false
namespace Go.Proofs.Ythpdpocglfafaaa.PF
open Go.RowKit PM PR

theorem ne_dec (z : Int) : (z != 0) = decide (z ≠ 0) := by
  by_cases h : z = 0
  · subst h; rfl
  · rw [decide_eq_true h]; simpa using h
theorem free_of {w : World} {B n : Nat} {v : Value} {l : List Pg} (hn : l.length = n) (hf : FineL l) (h : w.ownsRow B 4 1 v l.length (freeL l)) :
    ∃ a cp, v = .slice a n cp ∧ (n ≠ 0 → ∃ gv, a = some ⟨gv, 0, none⟩ ∧ n ≤ cp ∧ cp ≤ maxLen ∧ B ≤ gv ∧ gv < w.heap.size ∧ ∀ j, j < n → w.cell? ⟨gv, j, none⟩ = some (.bool (usedB (l.getD j zero)))) := by
  subst hn
  have h' := h
  rcases h.2 with ⟨rfl, h0⟩ | ⟨gv, cp, cur, rfl, hB, hh, hcp, hcm, _, _⟩
  · exact ⟨none, 0, by rw [h0], fun h => absurd h0 h⟩
  · refine ⟨_, cp, rfl, fun _ => ⟨gv, rfl, hcp, hcm, hB, Whole.lt (t := 4) (cs := cur) hh, fun j hj => ?_⟩⟩
    have := h'.cells (g := gv) rfl j (.bool ((l.getD j zero).st != 0)) (by unfold freeL; rw [List.getElem?_map, List.getElem?_eq_getElem hj, getD_in hj]; rfl)
    rw [Addr.add_mid, Nat.zero_add] at this
    rw [this, (hf j hj).used]
    rw [ne_dec]
/-- what the reference tells, wherever it lies -/
def Vs (w : World) (a : Option Addr) (gu n cp : Nat) (l : List Pg) : Prop := n ≠ 0 → ∃ gv, a = some ⟨gv, 0, none⟩ ∧ n ≤ cp ∧ cp ≤ maxLen ∧ gv ≠ gu ∧ gv < w.heap.size ∧ ∀ j, j < n → w.cell? ⟨gv, j, none⟩ = some (.bool (usedB (l.getD j zero)))
theorem Vs.belowS {w w' : World} {a : Option Addr} {gu n cp : Nat} {l : List Pg} (h : Vs w a gu n cp l) (hb : Below w.heap.size w w') : Vs w' a gu n cp l := fun hn => by
  obtain ⟨gv, h1, h2, h3, h4, h5, h6⟩ := h hn
  exact ⟨gv, h1, h2, h3, h4, Nat.lt_of_lt_of_le h5 hb.size, fun j hj => (hb.cell (p := ⟨gv, j, none⟩) h5).trans (h6 j hj)⟩
def Us (w : World) (gu n k : Nat) (l : List Pg) : Prop := ∃ cs, Whole w gu 4 cs ∧ ∀ j, k ≤ j → j < n → cs[j]? = some (.bool (usedB (l.getD j zero)))
theorem Us.belowS {w w' : World} {gu n k : Nat} {l : List Pg} (h : Us w gu n k l) (hb : Below w.heap.size w w') : Us w' gu n k l := h.elim fun cs h => ⟨cs, h.1.belowS hb, h.2⟩
theorem us_of {w : World} {gu : Nat} {l : List Pg} (h : Whole w gu 4 (usedL l).toArray) : Us w gu l.length 0 l := ⟨_, h, fun j _ hj => by rw [List.getElem?_toArray]; unfold usedL; rw [List.getElem?_map, List.getElem?_eq_getElem hj, getD_in hj]; rfl⟩
set_option maxHeartbeats 8000000 in
theorem same_any {p g gr c : Nat} {l : List Pg} {w : World} (h : Tb w p g l) (hr : Row w gr l) (hlc : l.length ≤ c) (hcm : c ≤ maxLen) (hf : FineL l) :
    Calls Try.prog 12 #[.pointer (some ⟨p, 0, none⟩), .agg #[.slice (some ⟨gr, 0, none⟩) l.length c]] w fun e w' => e = .returned (.bool true) ∧ Below w.heap.size w w' := by
  have h256 := h.1
  have hb0 := below_new w (.cells #[.slice (some ⟨gr, 0, none⟩) l.length c] 28)
  have hT0 := Whole.new w 28 #[.slice (some ⟨gr, 0, none⟩) l.length c]
  have CU := Lib.hid (fun u (hu : Below (w.alloc (.cells #[.slice (some ⟨gr, 0, none⟩) l.length c] 28)).heap.size (w.alloc (.cells #[.slice (some ⟨gr, 0, none⟩) l.length c] 28)) u) => used_tb ((h.belowS hb0).belowS hu))
  have CL := Lib.hid (fun u (hu : Below (w.alloc (.cells #[.slice (some ⟨gr, 0, none⟩) l.length c] 28)).heap.size (w.alloc (.cells #[.slice (some ⟨gr, 0, none⟩) l.length c] 28)) u) => len_tb ((h.belowS hb0).belowS hu))
  have CG := Lib.hid (fun u (hu : Below (w.alloc (.cells #[.slice (some ⟨gr, 0, none⟩) l.length c] 28)).heap.size (w.alloc (.cells #[.slice (some ⟨gr, 0, none⟩) l.length c] 28)) u) i => get_tb ((h.belowS hb0).belowS hu) i)
  have CV := Lib.hid (fun u (hu : Below (w.alloc (.cells #[.slice (some ⟨gr, 0, none⟩) l.length c] 28)).heap.size (w.alloc (.cells #[.slice (some ⟨gr, 0, none⟩) l.length c] 28)) u) => refUsed_any (c := c) ((hr.belowS hb0).belowS hu) h256 hlc hcm)
  have CR := Lib.hid (fun u (hu : Below (w.alloc (.cells #[.slice (some ⟨gr, 0, none⟩) l.length c] 28)).heap.size (w.alloc (.cells #[.slice (some ⟨gr, 0, none⟩) l.length c] 28)) u) i => refGet_any (c := c) ((hr.belowS hb0).belowS hu) h256 i)
  have HF := Lib.hid hf
  clear h hr hf
  generalize hn : l.length = n at *
  have HN := Lib.hid hn
  clear hn
  go_enter Try.func12, Try.ntmps12
  go_wp2_with fail
  generalize hW : w.alloc (.cells #[.slice (some ⟨gr, 0, none⟩) n c] 28) = W at *
  have hWs : W.heap.size = w.heap.size + 1 := by subst hW; simp
  have HWS := Lib.hid hWs
  clear hW hWs
  have tlt := hT0.lt
  have hbd : Below W.heap.size W W.drew := (Below.refl _ _).drew
  have hT1 := hT0.cell 0
  simp only [List.getElem?_toArray, List.getElem?_cons_zero] at hT1
  have hcd : W.drew.cell? ⟨w.heap.size, 0, none⟩ = some (.slice (some ⟨gr, 0, none⟩) n c) := hT1
  go_region_held3 (fun u => u.cell? ⟨w.heap.size, 0, none⟩ = some (.slice (some ⟨gr, 0, none⟩) n c) ∧ Below W.heap.size W u)
    (first | with_reducible exact ⟨eB2, hB2⟩ | with_reducible exact ⟨eA, hA⟩ | with_reducible exact ⟨hcd, hbd⟩)
    (first | (go_at_call 23; (with_reducible refine (CU.out _ hbd).mono ?_); rintro e wA ⟨gu, rfl, hU, hgu, hbA⟩; have hA : Below W.heap.size W wA := hbd.trans hbA; have eA := (hA.cell (p := ⟨w.heap.size, 0, none⟩) tlt).trans hT1; have HU := Lib.hid hU; have hul := hU.lt; clear hU hbA) | (go_at_call 28; (with_reducible refine (CV.out _ hA).mono ?_); rintro e wB ⟨v, rfl, hV, hbB⟩; obtain ⟨a1, cp, rfl, hids⟩ := free_of HN.out HF.out hV; have hB2 : Below W.heap.size W wB := below_of hA hbB; have eB2 := (hB2.cell (p := ⟨w.heap.size, 0, none⟩) tlt).trans hT1; have HUU := Lib.hid ((us_of HU.out).belowS hbB); rw [HN.out] at HUU; have HVV : Hid (Vs wB a1 gu n cp l) := Lib.hid (fun hn => by obtain ⟨gv, h1, h2, h3, h4, h5, h6⟩ := hids hn; exact ⟨gv, h1, h2, h3, by omega, h5, h6⟩); clear hV hids hbB))
  rename_i hHeld
  clear hHeld eA
  rw [HN.out]
  have hgw : w.heap.size ≤ gu := by have := hgu; simp at this; have := HWS.out; omega
  clear hgu hA hul HU
  go_wp2_with fail
  have hbd2 : Below W.heap.size W wB.drew := hB2.drew
  have hcd2 : wB.drew.cell? ⟨w.heap.size, 0, none⟩ = some (.slice (some ⟨gr, 0, none⟩) n c) := eB2
  go_region_held3 (fun u => u.cell? ⟨w.heap.size, 0, none⟩ = some (.slice (some ⟨gr, 0, none⟩) n c) ∧ Below W.heap.size W u)
    (first | with_reducible exact ⟨hcd2, hbd2⟩)
    (first | (go_at_call 21; (with_reducible refine (CL.out _ hbd2).mono ?_); rintro e wC ⟨rfl, rfl⟩))
  rename_i hHeld
  clear hHeld
  go_wp2_with fail
  have HUD : Hid (Us wB.drew gu n 0 l) := HUU
  have HVD : Hid (Vs wB.drew a1 gu n cp l) := HVV
  clear HUU HVV hcd2 hB2 eB2 CL CU CV hcd hbd
  generalize wB.drew = wD at *
  go_loopw [7] (fun i wr => ∃ j : Int, -1 ≤ j ∧ j ≤ (n : Int) + 1 ∧ i = .int .i64 j ∧ Below W.heap.size W wr ∧ Hid (Us wr gu n 0 l) ∧ Hid (Vs wr a1 gu n cp l)) (fun i _ => ((n : Int) + 1 - intOf i).toNat)
  case atStart => exact ⟨-1, by omega, by omega, rfl, hbd2, HUD, HVD⟩
  case round =>
    obtain ⟨j, hj1, hj2, rfl, hb, hU, hV⟩ := hrel
    have hT := (hb.cell (p := ⟨w.heap.size, 0, none⟩) tlt).trans hT1
    have hn1 : (n : Int) ≤ 256 := by omega
    by_cases hlt : j ≤ (n : Int)
    · have hbd3 : Below W.heap.size W wr.drew := hb.drew
      have hTd : wr.drew.cell? ⟨w.heap.size, 0, none⟩ = some (.slice (some ⟨gr, 0, none⟩) n c) := hT
      have CA := Lib.hid (fun u hu => CG.out u hu j)
      have CB := Lib.hid (fun u hu => CR.out u hu j)
      generalize gP l j = q at *
      obtain ⟨st, ex, wr', ow, ep⟩ := q
      change Hid (∀ u, Below W.heap.size W u → Calls _ _ _ u fun e w' => e = .returned (pgV st ex wr' ow ep) ∧ _) at CA
      change Hid (∀ u, Below W.heap.size W u → Calls _ _ _ u fun e w' => e = .returned (pgV st ex wr' ow ep) ∧ _) at CB
      go_wp2_with fail
      go_region_held3 (fun u => u.cell? ⟨w.heap.size, 0, none⟩ = some (.slice (some ⟨gr, 0, none⟩) n c) ∧ Below W.heap.size W u)
        (first | with_reducible exact ⟨eF, hF⟩ | with_reducible exact ⟨eE, hE⟩ | with_reducible exact ⟨hTd, hbd3⟩)
        (first | (go_at_call 22; (with_reducible refine (CA.out _ hbd3).mono ?_); rintro e wE ⟨rfl, hbE⟩; have hE : Below W.heap.size W wE := below_of hbd3 hbE; have eE := (hE.cell (p := ⟨w.heap.size, 0, none⟩) tlt).trans hT1) | (go_at_call 29; (with_reducible refine (CB.out _ hE).mono ?_); rintro e wF ⟨rfl, hbF⟩; have hF : Below W.heap.size W wF := below_of hE hbF; have eF := (hF.cell (p := ⟨w.heap.size, 0, none⟩) tlt).trans hT1))
      rename_i hHeld
      clear hHeld
      have hwF : Below wr.heap.size wr wF := ((Below.refl wr.heap.size wr).drew.trans hbE).trans (hbF.mono hbE.size)
      have hUF := Lib.hid (hU.out.belowS hwF)
      have hVF := Lib.hid (hV.out.belowS hwF)
      clear eE eF hTd hT
      go_wp2_with fail
      go_roundw
      case rel => exact ⟨j + 1, by omega, by omega, rfl, hF, hUF, hVF⟩
      case measure => simp [intOf]; omega
    · have hj3 : (n : Int) < j := by omega
      go_wp2_with fail
      have hbw : Below w.heap.size w wr := hb0.trans (hb.mono hb0.size)
      clear hT CG CR hT1 HUD HVD hbd2
      go_loopw [8] (fun i wr => ∃ k : Nat, k ≤ n ∧ i = .int .i64 (k : Int) ∧ Below w.heap.size w wr ∧ Hid (Us wr gu n k l) ∧ Hid (Vs wr a1 gu n cp l)) (fun i _ => n - (intOf i).toNat)
      case atStart => exact ⟨0, by omega, rfl, hbw, hU, hV⟩
      case round =>
        obtain ⟨k, hk, rfl, hbk, hUk, hVk⟩ := hrel
        by_cases hkn : k < n
        · have hk1 : (k : Int) < n := by omega
          have hk0 : (0 : Int) ≤ k := by omega
          obtain ⟨gv, rfl, hcp1, hcp2, hne, hgv, hcv⟩ := hVk.out (by omega)
          obtain ⟨cs, hB, hcs⟩ := hUk.out
          have e1 := hcv k hkn
          have e2 := (hB.cell k).trans (hcs k (Nat.le_refl _) hkn)
          have f2 := hB.frozen k
          generalize usedB (l.getD k zero) = q at *
          have hUn : Hid (Us (wr.setCell ⟨gu, k, none⟩ (.bool !q)) gu n (k + 1) l) := Lib.hid ⟨_, hB.set_ k _, fun j hj1 hj2 => by
            rw [Array.getElem?_setIfInBounds_ne (by omega)]
            exact hcs j (by omega) hj2⟩
          have hVn : Hid (Vs (wr.setCell ⟨gu, k, none⟩ (.bool !q)) (some ⟨gv, 0, none⟩) gu n cp l) := Lib.hid (fun hn => by
            obtain ⟨gv2, h1, h2, h3, h4, h5, h6⟩ := hVk.out hn
            refine ⟨gv2, h1, h2, h3, h4, by simpa using h5, fun j hj => ?_⟩
            rw [World.cell?_setCell_other _ _ _ _ (fun e => h4 (congrArg Addr.block e).symm)]
            exact h6 j hj)
          have hBn := Lib.hid (hbk.setCell (p := ⟨gu, k, none⟩) hgw (.bool !q))
          clear hcv hcs hB
          unfold maxLen at hcp2
          go_wp2_with fail
          go_region_held3 (fun u => u.cell? ⟨gu, k, none⟩ = some (.bool q) ∧ u.cell? ⟨gv, k, none⟩ = some (.bool q))
            (first | exact ⟨e2, e1⟩)
            (fail)
          rename_i hHeld
          clear hHeld
          go_wp2_with fail
          go_roundw
          case rel => exact ⟨k + 1, by omega, by go_num, hBn.out.drew, hUn, hVn⟩
          case measure => simp [intOf]; omega
        · obtain rfl : k = n := by omega
          go_wp2_with fail
          go_ret
          exact ⟨rfl, hbk⟩
end Go.Proofs.Ythpdpocglfafaaa.PF
