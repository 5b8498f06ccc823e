/-
  The reference of layer 14: Add. Nothing here is a statement of the seed.
-/
import Derived.Test.YtijcojidfallkaaGraphRem
set_option linter.unusedSimpArgs false
set_option linter.unusedVariables false
namespace Go.Proofs.Ytijcojidfallkaa.GF
open Go.RowKit WM NR OM OR GM GR
set_option maxHeartbeats 4000000
set_option maxRecDepth 10000
theorem IsGK.mono {G G' : Nat → Prop} {g : List Nd} {k : Int} {w u : World} {e : Ending} (h : IsGK G' g k w e u) (hG : ∀ b, G' b → G b ∨ w.heap.size ≤ b) : IsGK G g k w e u := by
  obtain ⟨la, ln, lc, l', he, hR, hg, hb⟩ := h
  exact ⟨la, ln, lc, l', he, hR.mono fun b hb => ⟨hb.1.elim (hG b) Or.inr, hb.2⟩, hg, hb⟩
/-- a graph with a new node, told with blocks that are old or behind B -/
theorem refWith_new {G : Nat → Prop} {w u : World} {la : Option Addr} {ln lc : Nat} {l : List Nr} (h0 : RdG G w la ln lc l) (hG : ∀ g, G g → g < w.heap.size) (hbd : ln ≤ 100000) (s : List UInt8) {D : List (List UInt8)} {B : Nat} {a : Option Addr} {c : Nat} (hb : Below w.heap.size w u) (hr : Reads (fun b => B ≤ b ∧ b < u.heap.size) u (.slice a D.length c) (strs D)) :
    Calls Try.prog 47 #[gV la ln lc, .agg #[.string (bs s), .slice a D.length c]] u (IsG (fun b => (G b ∨ B ≤ b) ∧ b < u.heap.size) (withM (ndL l) ⟨s, D⟩) u) :=
  refWith_any (w := u) (G := fun b => (G b ∨ B ≤ b) ∧ b < u.heap.size) ((h0.keep fun g hg _ => hb.block g (hG g hg)).mono fun g hg => ⟨Or.inl hg, Nat.lt_of_lt_of_le (hG g hg) hb.size⟩) (fun g hg => hg.2) hbd ⟨s, a, D.length, c, D⟩ (hr.mono fun g hg => ⟨Or.inr hg.1, hg.2⟩)
theorem refAdd_any {w : World} {la : Option Addr} {ln lc : Nat} {l : List Nr} {G : Nat → Prop} (h0 : RdG G w la ln lc l) (hG : ∀ g, G g → g < w.heap.size) (hbd : ln ≤ 100000) (s : List UInt8) {a : Option Addr} {n c : Nat} {ds : List (List UInt8)} (hd : Reads (· < w.heap.size) w (.slice a n c) (strs ds)) (hn : n ≤ 100000) :
    Calls Try.prog 27 #[gV la ln lc, .string (bs s), .slice a n c] w (IsGK G (addM (ndL l) s ds).1 (addM (ndL l) s ds).2 w) := by
  have h := h0.mono hG
  have b0 := below_new w (.cells (gC la ln lc) 29)
  have b1 := below_new (w.alloc (.cells (gC la ln lc) 29)) (.cells #[.slice none 0 0] 29)
  have hX := (Whole.new w 29 (gC la ln lc)).belowS b1
  have hB := b0.trans (b1.mono b0.size)
  have hY := Whole.new (w.alloc (.cells (gC la ln lc) 29)) 29 #[.slice none 0 0]
  have s0 : (w.alloc (.cells (gC la ln lc) 29)).heap.size = w.heap.size + 1 := by simp
  rw [s0] at hY
  have HX := Lib.hid hX
  have HY := Lib.hid hY
  have HB := Lib.hid hB
  have hdu := fun (u : World) (hb : Below w.heap.size w u) => (hd.below hb).mono fun g hg => Nat.lt_of_lt_of_le hg hb.size
  have C1 := Lib.hid (fun (u : World) (hb : Below w.heap.size w u) => refHas_any (h.go hb hb.size) s)
  have C2 := Lib.hid (fun (u : World) (hb : Below w.heap.size w u) => refAll_any (h.go hb hb.size) (hdu u hb))
  have C4 := Lib.hid (fun (u : World) (hb : Below w.heap.size w u) => refSet_any (hdu u hb) hn)
  have C5 := Lib.hid (fun (u : World) (hb : Below w.heap.size w u) (B : Nat) (a : Option Addr) (c : Nat) hr => refWith_new (D := setM ds) (B := B) (a := a) (c := c) h0 hG hbd s hb hr)
  have HS := Lib.hid (fun (u : World) (k : Int) (hb : Below w.heap.size w u) => isGK_same h0 hG (k := k) hb)
  have HG := Lib.hid hG
  clear s0 b0 b1 h h0 hG hX hY hB hdu hd hbd hn
  unfold addM
  cases hh : hasM (ndL l) s with
  | true =>
    rw [if_pos rfl]
    rw [hh] at C1
    simp only
    clear C2 C4 C5 hh
    generalize bs s = x at *
    go_enter Try.func27, Try.ntmps27
    go_upto_region 1 with fail
    generalize (w.alloc (.cells (gC la ln lc) 29)).alloc (.cells #[.slice none 0 0] 29) = W at *
    have c0 := HX.out.cell 0
    have c6 := HX.out.lt
    go_wp2_with (go_at_call 31; (with_reducible refine (C1.out _ HB.out).mono ?_); rintro e w1 ⟨rfl, hb⟩; have HX1 := Lib.hid (HX.out.belowS hb); have HY1 := Lib.hid (HY.out.belowS hb); have HB1 := Lib.hid (HB.out.trans (hb.mono HB.out.size)); clear c0 c6; have c0 := HX1.out.cell 0; have c6 := HX1.out.lt; have d0 := HY1.out.cell 0; have d6 := HY1.out.lt; have f0 := HY1.out.frozen 0; clear hb)
    have z0 := (HY1.out.set_ 0 (.slice la ln lc)).cell 0
    exact bodyPost_ret (v := .tuple #[gV la ln lc, .int .i64 9]) (by simp [results, Try.results27, go_sem, z0]) rfl (HS.out _ 9 (HB1.out.setCell (by simp) _))
  | false =>
    rw [if_neg (by simp)]
    rw [hh] at C1
    cases ha : allM (ndL l) ds with
    | false =>
      rw [if_pos rfl]
      rw [ha] at C2
      simp only
      clear C4 C5 hh ha
      generalize bs s = x at *
      go_enter Try.func27, Try.ntmps27
      go_upto_region 1 with fail
      generalize (w.alloc (.cells (gC la ln lc) 29)).alloc (.cells #[.slice none 0 0] 29) = W at *
      have c0 := HX.out.cell 0
      have c6 := HX.out.lt
      go_wp2_with (first
        | (go_at_call 31; (with_reducible refine (C1.out _ HB.out).mono ?_); rintro e w0 ⟨rfl, hb⟩; have HX0 := Lib.hid (HX.out.belowS hb); have HY0 := Lib.hid (HY.out.belowS hb); have HB0 := Lib.hid (HB.out.trans (hb.mono HB.out.size)); clear c0 c6; have c0 := HX0.out.cell 0; have c6 := HX0.out.lt; clear hb)
        | (go_at_call 46; (with_reducible refine (C2.out _ HB0.out).mono ?_); rintro e w1 ⟨rfl, hb⟩; have HX1 := Lib.hid (HX0.out.belowS hb); have HY1 := Lib.hid (HY0.out.belowS hb); have HB1 := Lib.hid (HB0.out.trans (hb.mono HB0.out.size)); clear c0 c6; have c0 := HX1.out.cell 0; have c6 := HX1.out.lt; have d0 := HY1.out.cell 0; have d6 := HY1.out.lt; have f0 := HY1.out.frozen 0; clear hb))
      have z0 := (HY1.out.set_ 0 (.slice la ln lc)).cell 0
      exact bodyPost_ret (v := .tuple #[gV la ln lc, .int .i64 8]) (by simp [results, Try.results27, go_sem, z0]) rfl (HS.out _ 8 (HB1.out.setCell (by simp) _))
    | true =>
      rw [if_neg (by simp)]
      rw [ha] at C2
      simp only
      clear hh ha HS
      generalize withM (ndL l) ⟨s, setM ds⟩ = O at *
      generalize setM ds = D at *
      generalize bs s = x at *
      go_enter Try.func27, Try.ntmps27
      go_upto_region 1 with fail
      generalize (w.alloc (.cells (gC la ln lc) 29)).alloc (.cells #[.slice none 0 0] 29) = W at *
      have c0 := HX.out.cell 0
      have c6 := HX.out.lt
      go_upto_region 5 with (first
        | (go_at_call 31; (with_reducible refine (C1.out _ HB.out).mono ?_); rintro e w0 ⟨rfl, hb⟩; have HX0 := Lib.hid (HX.out.belowS hb); have HY0 := Lib.hid (HY.out.belowS hb); have HB0 := Lib.hid (HB.out.trans (hb.mono HB.out.size)); clear c0 c6; have c0 := HX0.out.cell 0; have c6 := HX0.out.lt; clear hb)
        | (go_at_call 46; (with_reducible refine (C2.out _ HB0.out).mono ?_); rintro e w1 ⟨rfl, hb⟩; have HX1 := Lib.hid (HX0.out.belowS hb); have HY1 := Lib.hid (HY0.out.belowS hb); have HB1 := Lib.hid (HB0.out.trans (hb.mono HB0.out.size)); clear c0 c6 hb))
      have hW : Below w1.heap.size w1 w1.drew := (Below.refl _ _).drew
      have HBd := Lib.hid (HB1.out.trans (hW.mono HB1.out.size))
      have K0 : w1.drew.cell? ⟨w.heap.size, 0, none⟩ = some (.slice la ln lc) := (HX1.out.belowS hW).cell 0
      have hwl := HY1.out.lt
      go_region_held3 (fun u => u.cell? ⟨w.heap.size, 0, none⟩ = some (.slice la ln lc))
        (first | with_reducible exact K0 | with_reducible exact K1 | with_reducible exact K2 | with_reducible exact K3)
        (first
          | (go_at_call 23; (with_reducible refine (C4.out _ HBd.out).mono ?_); rintro e w2 ⟨sa, sc, rfl, hr, hb2⟩; have hB2 := below_of hW hb2; have K1 : w2.cell? ⟨w.heap.size, 0, none⟩ = some (.slice la ln lc) := (HX1.out.belowS hB2).cell 0; have HB2 := Lib.hid (HB1.out.trans (hB2.mono HB1.out.size)); have C6 := Lib.hid (C5.out _ HB2.out _ _ _ hr))
          | (go_at_call 47; (with_reducible refine C6.out.mono ?_); rintro e w3 ⟨la', ln', lc', l', rfl, hR, hg, hb3⟩; have HY2 := Lib.hid ((HY1.out.belowS hB2).belowS hb3); have HX2 := Lib.hid ((HX1.out.belowS hB2).belowS hb3); have K2 : w3.cell? ⟨w.heap.size, 0, none⟩ = some (.slice la ln lc) := HX2.out.cell 0; have K3 : (w3.setCell ⟨w.heap.size + 1, 0, none⟩ (.slice la' ln' lc')).cell? ⟨w.heap.size, 0, none⟩ = some (.slice la ln lc) := (Whole.far HX2.out (p := ⟨w.heap.size + 1, 0, none⟩) (show w.heap.size ≠ w.heap.size + 1 by omega) _).cell 0; have d0 := HY2.out.cell 0; have d6 := HY2.out.lt; have f0 := HY2.out.frozen 0; have HR := Lib.hid (And.intro hR (And.intro hg hb3)); clear hR hg hb3))
      rename_i hHeld
      clear hHeld
      have z0 := (HY2.out.set_ 0 (.slice la' ln' lc')).cell 0
      go_wp2_with fail
      have R := isGK_laid HB2.out HR.out.1 HR.out.2.1 HR.out.2.2 (p := w.heap.size + 1) (by omega) (HY1.out.belowS hB2).lt (fun h => by
        rcases h.1 with h | h
        · have := HG.out _ h; omega
        · have h2 : w1.heap.size ≤ w.heap.size + 1 := h
          omega) (.slice la' ln' lc') 0
      exact bodyPost_ret (v := .tuple #[gV la' ln' lc', .int .i64 0]) (by simp [results, Try.results27, go_sem, z0]) rfl (R.mono fun b hb => hb.1.imp id (fun h => Nat.le_trans HB1.out.size h))
end Go.Proofs.Ytijcojidfallkaa.GF
