/-
  The reference of layer 14: Remove. Nothing here is a statement of the seed.
-/
import Derived.Test.YtijcojidfallkaaGraphWith
set_option linter.unusedSimpArgs false
set_option linter.unusedVariables false
namespace Go.Proofs.Ytijcojidfallkaa.GF
open Go.RowKit WM NR OM OR GM GR
set_option maxHeartbeats 4000000
set_option maxRecDepth 10000
/-- a graph and a code come back: its blocks are the old one's, or new -/
def IsGK (G : Nat → Prop) (g : List Nd) (k : Int) (w : World) : Ending → World → Prop := fun e u => ∃ la ln lc l', e = .returned (.tuple #[gV la ln lc, .int .i64 k]) ∧ RdG (fun b => (G b ∨ w.heap.size ≤ b) ∧ b < u.heap.size) u la ln lc l' ∧ ndL l' = g ∧ Below w.heap.size w u
theorem isGK_same {G : Nat → Prop} {w u : World} {la : Option Addr} {ln lc : Nat} {l : List Nr} (h : RdG G w la ln lc l) (hG : ∀ g, G g → g < w.heap.size) {k : Int} (hb : Below w.heap.size w u) : IsGK G (ndL l) k w (.returned (.tuple #[gV la ln lc, .int .i64 k])) u :=
  ⟨_, _, _, _, rfl, (h.keep fun g hg _ => hb.block g (hG g hg)).mono fun g hg => ⟨Or.inl hg, Nat.lt_of_lt_of_le (hG g hg) hb.size⟩, rfl, hb⟩
/-- a graph that a call told, laid into a result's box of this call's own -/
theorem isGK_laid {G : Nat → Prop} {w u u' : World} {g : List Nd} {la : Option Addr} {ln lc : Nat} {l' : List Nr} (hwu : Below w.heap.size w u) (hR : RdG (fun b => (G b ∨ u.heap.size ≤ b) ∧ b < u'.heap.size) u' la ln lc l') (hg : ndL l' = g) (hB : Below u.heap.size u u') {p : Nat} (hp : w.heap.size ≤ p) (hpu : p < u.heap.size) (hpG : ¬ G p) (v : Value) (k : Int) :
    IsGK G g k w (.returned (.tuple #[gV la ln lc, .int .i64 k])) (u'.setCell ⟨p, 0, none⟩ v) := by
  refine ⟨_, _, _, _, rfl, ?_, hg, (hwu.trans (hB.mono hwu.size)).setCell hp _⟩
  refine (hR.keep (w' := u'.setCell ⟨p, 0, none⟩ v) fun b hb _ => Below.heap_setCell _ _ _ _ (fun e => ?_)).mono fun b hb => ⟨hb.1.imp id (fun h => Nat.le_trans hwu.size h), by simpa using hb.2⟩
  subst e
  rcases hb.1 with h | h
  · exact hpG h
  · exact absurd hpu (by omega)
theorem refRem_any {w : World} {la : Option Addr} {ln lc : Nat} {l : List Nr} {G : Nat → Prop} (h0 : RdG G w la ln lc l) (hG : ∀ g, G g → g < w.heap.size) (hbd : ln ≤ 100000) (s : List UInt8) :
    Calls Try.prog 25 #[gV la ln lc, .string (bs s)] w (IsGK G (removeM (ndL l) s).1 (removeM (ndL l) s).2 w) := by
  have h := h0.mono hG
  obtain ⟨lm, q2, _⟩ := h.len
  have b0 := below_new w (.cells (gC la ln lc) 29)
  have b1 := below_new (w.alloc (.cells (gC la ln lc) 29)) (.cells #[.slice none 0 0] 29)
  have hX := (Whole.new w 29 (gC la ln lc)).belowS b1
  have hB := b0.trans (b1.mono b0.size)
  have hY := Whole.new (w.alloc (.cells (gC la ln lc) 29)) 29 #[.slice none 0 0]
  have s0 : (w.alloc (.cells (gC la ln lc) 29)).heap.size = w.heap.size + 1 := by simp
  rw [s0] at hY
  have HX := Lib.hid hX
  have HY := Lib.hid hY
  have HB := Lib.hid hB
  have C1 := Lib.hid (fun (u : World) (hb : Below w.heap.size w u) => refHas_any (h.go hb hb.size) s)
  have C2 := Lib.hid (fun (u : World) (hb : Below w.heap.size w u) => refDpt_any (h.go hb hb.size) (by omega) s)
  have C3 := Lib.hid (fun (u : World) (hb : Below w.heap.size w u) => refOut_any (w := u) (h0.keep fun g hg _ => hb.block g (hG g hg)) (fun g hg => Nat.lt_of_lt_of_le (hG g hg) hb.size) hbd s)
  have HS := Lib.hid (fun (u : World) (k : Int) (hb : Below w.heap.size w u) => isGK_same h0 hG (k := k) hb)
  have HG := Lib.hid hG
  have hdl := dpt_len l s
  clear s0 b0 b1 h h0 hG hX hY hB
  unfold removeM
  cases hh : hasM (ndL l) s with
  | false =>
    rw [if_pos rfl]
    rw [hh] at C1
    simp only
    clear C2 C3 hh hdl
    generalize bs s = x at *
    go_enter Try.func25, Try.ntmps25
    go_upto_region 1 with fail
    generalize (w.alloc (.cells (gC la ln lc) 29)).alloc (.cells #[.slice none 0 0] 29) = W at *
    have c0 := HX.out.cell 0
    have c6 := HX.out.lt
    go_wp2_with (go_at_call 31; (with_reducible refine (C1.out _ HB.out).mono ?_); rintro e w1 ⟨rfl, hb⟩; have HX1 := Lib.hid (HX.out.belowS hb); have HY1 := Lib.hid (HY.out.belowS hb); have HB1 := Lib.hid (HB.out.trans (hb.mono HB.out.size)); clear c0 c6; have c0 := HX1.out.cell 0; have c6 := HX1.out.lt; have d0 := HY1.out.cell 0; have d6 := HY1.out.lt; have f0 := HY1.out.frozen 0; clear hb)
    have z0 := (HY1.out.set_ 0 (.slice la ln lc)).cell 0
    exact bodyPost_ret (v := .tuple #[gV la ln lc, .int .i64 8]) (by simp [results, Try.results25, go_sem, z0]) rfl (HS.out _ 8 (HB1.out.setCell (by simp) _))
  | true =>
    rw [if_neg (by simp)]
    rw [hh] at C1
    generalize dptM (ndL l) s = D at *
    by_cases hp : D = []
    · rw [if_neg (by simpa using hp)]
      simp only
      subst hp
      clear hh hdl HS
      generalize outM (ndL l) s = O at *
      generalize bs s = x at *
      go_enter Try.func25, Try.ntmps25
      go_upto_region 1 with fail
      generalize (w.alloc (.cells (gC la ln lc) 29)).alloc (.cells #[.slice none 0 0] 29) = W at *
      have c0 := HX.out.cell 0
      have c6 := HX.out.lt
      go_wp2_with (first
        | (go_at_call 31; (with_reducible refine (C1.out _ HB.out).mono ?_); rintro e w0 ⟨rfl, hb⟩; have HX0 := Lib.hid (HX.out.belowS hb); have HY0 := Lib.hid (HY.out.belowS hb); have HB0 := Lib.hid (HB.out.trans (hb.mono HB.out.size)); clear c0 c6; have c0 := HX0.out.cell 0; have c6 := HX0.out.lt; clear hb)
        | (go_at_call 30; (with_reducible refine (C2.out _ HB0.out).mono ?_); rintro e w1 ⟨da, dc, rfl, _, hb⟩; have HX1 := Lib.hid (HX0.out.belowS hb); have HY1 := Lib.hid (HY0.out.belowS hb); have HB1 := Lib.hid (HB0.out.trans (hb.mono HB0.out.size)); clear c0 c6; have c0 := HX1.out.cell 0; have c6 := HX1.out.lt; clear hb)
        | (go_at_call 45; (with_reducible refine (C3.out _ HB1.out).mono ?_); rintro e w2 ⟨la', ln', lc', l', rfl, hR, hg, hb⟩; have HX2 := Lib.hid (HX1.out.belowS hb); have HY2 := Lib.hid (HY1.out.belowS hb); have HR := Lib.hid (And.intro hR (And.intro hg hb)); have d0 := HY2.out.cell 0; have d6 := HY2.out.lt; have f0 := HY2.out.frozen 0; clear hb hR hg))
      have z0 := (HY2.out.set_ 0 (.slice la' ln' lc')).cell 0
      exact bodyPost_ret (v := .tuple #[gV la' ln' lc', .int .i64 0]) (by simp [results, Try.results25, go_sem, z0]) rfl (isGK_laid HB1.out HR.out.1 HR.out.2.1 HR.out.2.2 (by omega) HY1.out.lt (fun h => by have := HG.out _ h; omega) _ _)
    · rw [if_pos (by simpa using hp)]
      simp only
      have hpos : (0 : Int) < (D.length : Int) := by have := List.length_pos_iff.2 hp; omega
      clear hh hp C3
      have hdb : (D.length : Int) ≤ 9223372036854775807 := by omega
      generalize bs s = x at *
      go_enter Try.func25, Try.ntmps25
      go_upto_region 1 with fail
      generalize (w.alloc (.cells (gC la ln lc) 29)).alloc (.cells #[.slice none 0 0] 29) = W at *
      have c0 := HX.out.cell 0
      have c6 := HX.out.lt
      go_wp2_with (first
        | (go_at_call 31; (with_reducible refine (C1.out _ HB.out).mono ?_); rintro e w0 ⟨rfl, hb⟩; have HX0 := Lib.hid (HX.out.belowS hb); have HY0 := Lib.hid (HY.out.belowS hb); have HB0 := Lib.hid (HB.out.trans (hb.mono HB.out.size)); clear c0 c6; have c0 := HX0.out.cell 0; have c6 := HX0.out.lt; clear hb)
        | (go_at_call 30; (with_reducible refine (C2.out _ HB0.out).mono ?_); rintro e w1 ⟨da, dc, rfl, _, hb⟩; have HX1 := Lib.hid (HX0.out.belowS hb); have HY1 := Lib.hid (HY0.out.belowS hb); have HB1 := Lib.hid (HB0.out.trans (hb.mono HB0.out.size)); clear c0 c6; have c0 := HX1.out.cell 0; have c6 := HX1.out.lt; have d0 := HY1.out.cell 0; have d6 := HY1.out.lt; have f0 := HY1.out.frozen 0; clear hb))
      have z0 := (HY1.out.set_ 0 (.slice la ln lc)).cell 0
      exact bodyPost_ret (v := .tuple #[gV la ln lc, .int .i64 26]) (by simp [results, Try.results25, go_sem, z0]) rfl (HS.out _ 26 (HB1.out.setCell (by simp) _))
end Go.Proofs.Ytijcojidfallkaa.GF
