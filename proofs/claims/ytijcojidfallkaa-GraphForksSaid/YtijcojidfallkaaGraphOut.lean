/-
  The reference of layer 14: all nodes but one. Nothing here is a statement of the seed.
-/
import Derived.Test.YtijcojidfallkaaGraphSet
set_option linter.unusedSimpArgs false
set_option linter.unusedVariables false
namespace Go.Proofs.Ytijcojidfallkaa.GF
open Go.RowKit WM NR OM OR GM GR
set_option maxHeartbeats 4000000
set_option maxRecDepth 10000
/-- a graph comes back: its blocks are the old one's, or new -/
def IsG (G : Nat → Prop) (g : List Nd) (w : World) : Ending → World → Prop := fun e u => ∃ la ln lc l', e = .returned (gV la ln lc) ∧ RdG (fun b => (G b ∨ w.heap.size ≤ b) ∧ b < u.heap.size) u la ln lc l' ∧ ndL l' = g ∧ Below w.heap.size w u
theorem grown_set (w : World) (p : Nat) (i : Nat) (u : Value) : w.grownBy (w.setCell ⟨p, i, none⟩ u) (some p) :=
  ⟨rfl, rfl, rfl, by simp, fun g hg hr => Below.heap_setCell _ _ _ _ (fun e => hr (by rw [e]))⟩
theorem own_set {w : World} {B : Nat} {e : TypeId} {size n : Nat} {v : Value} {xs : List Value} (h : w.ownsRow B e size v n xs) {p i : Nat} (hp : p < B) (u : Value) : (w.setCell ⟨p, i, none⟩ u).ownsRow B e size v n xs :=
  h.kept (grown_set w p i u) (by
    cases hv : v.ownBlock with
    | none => exact Or.inl rfl
    | some g =>
      refine Or.inr fun hh => ?_
      have h1 := (h.lt g hv).1
      have h2 := Option.some.inj hh
      omega)
/-- on the way of a new graph: the old one's box, the result's, the new one's with its row -/
structure WJ (w : World) (p : Nat) (cs ds : Array Value) (v : Value) (n : Nat) (D : List Nr) (u : World) : Prop where
  X : Whole u w.heap.size 29 cs
  Y : Whole u (w.heap.size + 1) 29 ds
  Z : Whole u p 29 #[v]
  E : u.ownsRow (p + 1) 78 2 v n (nC D)
  B : Below w.heap.size w u
  hp : w.heap.size + 2 ≤ p
section
variable {w u u' : World} {p : Nat} {cs ds : Array Value} {v : Value} {n : Nat} {D : List Nr}
theorem WJ.belowS (h : WJ w p cs ds v n D u) (hb : Below u.heap.size u u') : WJ w p cs ds v n D u' :=
  ⟨h.X.belowS hb, h.Y.belowS hb, h.Z.belowS hb, owns_below h.E hb, h.B.trans (hb.mono h.B.size), h.hp⟩
theorem WJ.put (h : WJ w p cs ds v n D u) {v7 : Value} {x : Nr} (ho : u'.ownsRow (p + 1) 78 2 v7 (n + 1) (nC (D ++ [x]))) (hg : u.grownBy u' v.ownBlock) : WJ w p cs ds v7 (n + 1) (D ++ [x]) (u'.setCell ⟨p, 0, none⟩ v7) ∧ Whole u' p 29 #[v] := by
  have hp := h.hp
  have r : ∀ g, v.ownBlock = some g → p + 1 ≤ g := fun g hg => (owns_lt h.E hg).1
  have k1 := whole_kept h.X hg fun g hg => by have := r g hg; omega
  have k2 := whole_kept h.Y hg fun g hg => by have := r g hg; omega
  have k3 := whole_kept h.Z hg fun g hg => by have := r g hg; omega
  have kB := below_grown h.B h.B.size h.E (by omega) hg
  exact ⟨⟨Whole.far k1 (p := ⟨p, 0, none⟩) (show w.heap.size ≠ p by omega) _, Whole.far k2 (p := ⟨p, 0, none⟩) (show w.heap.size + 1 ≠ p by omega) _, Whole.set_ k3 0 v7, own_set ho (by omega) _, kB.setCell (by simp; omega) _, hp⟩, k3⟩
end
theorem filter_yes {α : Type} (l : List α) (d : α) (f : α → Bool) (k : Nat) (h : k < l.length) (hf : f (l.getD k d) = true) : (l.take (k + 1)).filter f = (l.take k).filter f ++ [l.getD k d] := by rw [take_succ_getD l d k h, List.filter_append]; simp only [List.filter_cons, hf, if_true, List.filter_nil]
theorem filter_no {α : Type} (l : List α) (d : α) (f : α → Bool) (k : Nat) (h : k < l.length) (hf : f (l.getD k d) = false) : (l.take (k + 1)).filter f = (l.take k).filter f := by rw [take_succ_getD l d k h, List.filter_append]; simp only [List.filter_cons, hf, Bool.false_eq_true, if_false, List.filter_nil, List.append_nil]
theorem out_nd (l : List Nr) (s : List UInt8) : ndL (l.filter (fun x => decide (x.nm ≠ s))) = outM (ndL l) s := by
  unfold outM ndL
  rw [List.filter_map]
  rfl
theorem out_post {G : Nat → Prop} {w u : World} {p : Nat} {cs ds : Array Value} {la : Option Addr} {ln lc : Nat} {l : List Nr} {s : List UInt8} {a1 : Option Addr} {n c1 : Nat} (h0 : RdG G w la ln lc l) (hG : ∀ g, G g → g < w.heap.size) (h : WJ w p cs ds (.slice a1 n c1) n (l.filter (fun x => decide (x.nm ≠ s))) u) :
    IsG G (outM (ndL l) s) w (.returned (gV a1 n c1)) (u.setCell ⟨w.heap.size + 1, 0, none⟩ (.slice a1 n c1)) := by
  have hp := h.hp
  have hE := own_set (i := 0) h.E (show w.heap.size + 1 < p + 1 by omega) (.slice a1 n c1)
  have hb : Below w.heap.size w (u.setCell ⟨w.heap.size + 1, 0, none⟩ (.slice a1 n c1)) := h.B.setCell (by simp) _
  refine ⟨_, _, _, _, rfl, ⟨?_, fun x hx => ?_⟩, out_nd l s, hb⟩
  · have hl : (l.filter (fun x => decide (x.nm ≠ s))).length = n := by have := h.E.1; rw [nC_len] at this; omega
    rw [← hl] at hE ⊢
    exact (ReadsN.of_owns hE).mono fun g hg => ⟨Or.inr (by omega), (owns_lt hE hg.2).2⟩
  · exact ((h0.ok x ((List.mem_filter.1 hx).1)).keep fun g hg _ => hb.block g (hG g hg)).mono fun g hg => ⟨Or.inl hg, Nat.lt_of_lt_of_le (hG g hg) hb.size⟩
section
variable {w : World} {la : Option Addr} {ln lc : Nat} {l : List Nr}
theorem refOut_any {G : Nat → Prop} (h0 : RdG G w la ln lc l) (hG : ∀ g, G g → g < w.heap.size) (hbd : ln ≤ 100000) (s : List UInt8) :
    Calls Try.prog 45 #[gV la ln lc, .string (bs s)] w (IsG G (outM (ndL l) s) w) := by
  have h := h0.mono hG
  obtain ⟨lm, q2, _⟩ := h.len
  have hn1 : (ln : Int) ≤ 9223372036854775807 := by omega
  have q2 : (ln : Int) ≤ lc := by omega
  have b0 := below_new w (.cells (gC la ln lc) 29)
  have b1 := below_new (w.alloc (.cells (gC la ln lc) 29)) (.cells #[.slice none 0 0] 29)
  have hX := (Whole.new w 29 (gC la ln lc)).belowS b1
  have hB := b0.trans (b1.mono b0.size)
  have hY := Whole.new (w.alloc (.cells (gC la ln lc) 29)) 29 #[.slice none 0 0]
  have s0 : (w.alloc (.cells (gC la ln lc) 29)).heap.size = w.heap.size + 1 := by simp
  rw [s0] at hY
  have HP := Lib.hid (fun (u : World) (p : Nat) (a1 : Option Addr) (n c1 : Nat) (hj : WJ w p (gC la ln lc) #[.slice none 0 0] (.slice a1 n c1) n (l.filter (fun x => decide (x.nm ≠ s))) u) => out_post h0 hG hj)
  have HT := Lib.hid h
  have HF : Hid (∀ y : List UInt8, y ≠ s → ((bs y).toList == (bs s).toList) = false) := Lib.hid (fun y hy => by rw [bs_toList, bs_toList]; simpa using hy)
  have exx : ((bs s).toList == (bs s).toList) = true := by simp
  clear s0 b0 b1 h h0 hG
  go_enter Try.func45, Try.ntmps45
  go_upto_region 1 with fail
  generalize (w.alloc (.cells (gC la ln lc) 29)).alloc (.cells #[.slice none 0 0] 29) = w1 at *
  go_upto_region 2 with fail
  have bn := below_new w1 (.cells #[.slice none 0 0] 29)
  have J1 := Lib.hid (show WJ w w1.heap.size (gC la ln lc) #[.slice none 0 0] (.slice none 0 0) 0 [] (w1.alloc (.cells #[.slice none 0 0] 29)) from ⟨hX.belowS bn, hY.belowS bn, Whole.new _ _ _, owns_nil _ _ _ _, hB.trans (bn.mono hB.size), hY.lt⟩)
  clear bn hX hY hB
  generalize w1.alloc (.cells #[.slice none 0 0] 29) = W1 at *
  generalize w1.heap.size = p at *
  go_wp2_with fail
  go_loopw [6] (fun i wr => ∃ k : Nat, k ≤ ln ∧ i = .int .i64 (k : Int) ∧ ∃ v n, Hid (WJ w p (gC la ln lc) #[.slice none 0 0] v n ((l.take k).filter (fun x => decide (x.nm ≠ s))) wr)) (fun i _ => ln - (intOf i).toNat)
  case atStart => exact ⟨0, by omega, rfl, _, _, J1⟩
  case round =>
    obtain ⟨k, hk, rfl, v, n, J⟩ := hrel
    have c0 : wr.cell? ⟨w.heap.size, 0, none⟩ = some (.slice la ln lc) := J.out.X.cell 0
    have c6 := J.out.X.lt
    have z0 : wr.cell? ⟨p, 0, none⟩ = some v := J.out.Z.cell 0
    have z6 := J.out.Z.lt
    by_cases hlt : k < ln
    · have hlt' : (k : Int) < ln := by omega
      have kl : k < l.length := by rw [lm]; exact hlt
      obtain ⟨g, off, rfl, q1, e1, e2⟩ := HT.out.at J.out.B hlt
      by_cases e : (l.getD k r0).nm = s
      · have J2 : Hid (WJ w p _ _ v n ((l.take (k + 1)).filter (fun x => decide (x.nm ≠ s))) wr) := Lib.hid (by rw [filter_no l r0 _ k kl (by rw [e]; simp)]; exact J.out)
        rw [e] at e1
        clear e J kl HF e2 HP
        generalize bs s = x at *
        go_wp2_with fail
        go_roundw
        case rel => exact ⟨k + 1, by omega, by go_num, v, n, J2⟩
        case measure => simp [intOf]; omega
      · have ef := filter_yes l r0 (fun x => decide (x.nm ≠ s)) k kl (by simpa using e)
        have exy := HF.out _ e
        obtain ⟨y, hy⟩ : ∃ y, y = l.getD k r0 := ⟨_, rfl⟩
        rw [← hy] at e1 e2 ef exy
        have RE : Hid (∀ u, Below w.heap.size w u → u.cell? ⟨g, off + k * 2, none⟩ = some (.string (bs y.nm)) ∧ u.cell? ⟨g, off + k * 2 + 1, none⟩ = some (.slice y.da y.dn y.dc)) := Lib.hid (fun u hu => by
          obtain ⟨g', off', e2, _, e3⟩ := HT.out.at hu hlt
          simp only [Option.some.injEq, Addr.mk.injEq, and_true] at e2
          obtain ⟨rfl, rfl⟩ := e2
          rw [← hy] at e3
          exact e3)
        have hnl : n ≤ 100000 := by
          have h1 := J.out.E.1
          rw [nC_len] at h1
          have h2 := List.length_filter_le (fun x : Nr => decide (x.nm ≠ s)) (l.take k)
          rw [List.length_take] at h2
          omega
        clear e hy kl HP
        go_upto_region 6 with fail
        have b6 : Below wr.heap.size wr ((wr.alloc (.cells #[.string (bs y.nm), .slice y.da y.dn y.dc] 78)).drew) := (below_new wr _).drew
        have J6 := J.out.belowS b6
        have S6 := J6.Z.lt
        obtain ⟨v7, u7, hr7, ho7, hg7⟩ := app_nd (ty := 27) (u := (wr.alloc (.cells #[.string (bs y.nm), .slice y.da y.dn y.dc] 78)).drew) (B := p + 1) (by omega) J6.E ((one_nd wr y 78).keep (fun g _ _ => rfl)) (by omega)
        obtain ⟨a7, c7, rfl, _⟩ := owns_le ho7
        obtain ⟨J8, k3⟩ := J6.put ho7 hg7
        have hJp := J6.hp
        have X7 := whole_kept J6.X hg7 (fun g hg => by have := (owns_lt J6.E hg).1; omega)
        have B7 := below_grown J6.B J6.B.size J6.E (by omega) hg7
        have KF : ∀ u, Whole u w.heap.size 29 (gC (some ⟨g, off, none⟩) ln lc) → Below w.heap.size w u → u.cell? ⟨w.heap.size, 0, none⟩ = some (.slice (some ⟨g, off, none⟩) ln lc) ∧ u.cell? ⟨g, off + k * 2, none⟩ = some (.string (bs y.nm)) ∧ u.cell? ⟨g, off + k * 2 + 1, none⟩ = some (.slice y.da y.dn y.dc) := fun u hX hB => ⟨hX.cell 0, RE.out u hB⟩
        have K0 := KF wr.drew J.out.X J.out.B.drew
        have K6 := KF _ J6.X J6.B
        have K7 := KF _ X7 B7
        have K8 := KF _ J8.X J8.B
        rw [← ef] at J8
        have HJ8 := Lib.hid J8
        have y0 : ((wr.alloc (.cells #[.string (bs y.nm), .slice y.da y.dn y.dc] 78)).drew).cell? ⟨p, 0, none⟩ = some v := J6.Z.cell 0
        have y1 : wr.drew.cell? ⟨p, 0, none⟩ = some v := z0
        have x0 := k3.cell 0
        have x6 := k3.lt
        have xf := k3.frozen 0
        clear KF J8 k3 X7 B7 J6 b6 ef RE J HF
        refine wp_region_held_drew (S := (fun u => u.cell? ⟨w.heap.size, 0, none⟩ = some (.slice (some ⟨g, off, none⟩) ln lc) ∧ u.cell? ⟨g, off + k * 2, none⟩ = some (.string (bs y.nm)) ∧ u.cell? ⟨g, off + k * 2 + 1, none⟩ = some (.slice y.da y.dn y.dc))) (by kernel_rfl) K0 (fun hHeld => ?_)
        refine wpAnyH_take (i := 0) (v := ?qvv0) rfl (by kernel_rfl) (by kernel_rfl) (by kernel_rfl) (fun _ _ _ h => h) (Or.inl ⟨by rfl, ?qhy0⟩) (by assumption) ?qrest0
        case qhy0 =>
          intro u hSu
          obtain ⟨s0, s1, s2⟩ := hSu
          go_simp
          try with_reducible rfl
        try simp only [Act.put, List.getElem_toArray, List.getElem_cons_succ, List.getElem_cons_zero, List.setIfInBounds_toArray, List.set_cons_zero, List.set_cons_succ]
        refine wpAnyH_take (i := 2) (v := ?qvv2) rfl (by kernel_rfl) (by kernel_rfl) (by kernel_rfl) (fun _ _ _ h => h) (Or.inl ⟨by rfl, ?qhy2⟩) (by assumption) ?qrest2
        case qhy2 =>
          intro u hSu
          obtain ⟨s0, s1, s2⟩ := hSu
          go_simp
          try with_reducible rfl
        try simp only [Act.put, List.getElem_toArray, List.getElem_cons_succ, List.getElem_cons_zero, List.setIfInBounds_toArray, List.set_cons_zero, List.set_cons_succ]
        refine wpAnyH_take (i := 3) (v := ?qvv3) rfl (by kernel_rfl) (by kernel_rfl) (by kernel_rfl) (fun _ _ _ h => h) (Or.inl ⟨by rfl, ?qhy3⟩) (by assumption) ?qrest3
        case qhy3 =>
          intro u hSu
          obtain ⟨s0, s1, s2⟩ := hSu
          go_simp
          try with_reducible rfl
        try simp only [Act.put, List.getElem_toArray, List.getElem_cons_succ, List.getElem_cons_zero, List.setIfInBounds_toArray, List.set_cons_zero, List.set_cons_succ]
        refine wpAnyH_take (i := 4) (v := ?qvv4) rfl (by kernel_rfl) (by kernel_rfl) (by kernel_rfl) (fun _ _ _ h => h) (Or.inl ⟨by rfl, ?qhy4⟩) (by assumption) ?qrest4
        case qhy4 =>
          intro u hSu
          obtain ⟨s0, s1, s2⟩ := hSu
          go_simp
          try with_reducible rfl
        try simp only [Act.put, List.getElem_toArray, List.getElem_cons_succ, List.getElem_cons_zero, List.setIfInBounds_toArray, List.set_cons_zero, List.set_cons_succ]
        refine wpAnyH_take (i := 5) (v := ?qvv5) rfl (by kernel_rfl) (by kernel_rfl) (by kernel_rfl) (fun _ _ _ h => h) (Or.inl ⟨by rfl, ?qhy5⟩) (by assumption) ?qrest5
        case qhy5 =>
          intro u hSu
          obtain ⟨s0, s1, s2⟩ := hSu
          go_simp
          try with_reducible rfl
        try simp only [Act.put, List.getElem_toArray, List.getElem_cons_succ, List.getElem_cons_zero, List.setIfInBounds_toArray, List.set_cons_zero, List.set_cons_succ]
        refine wpAnyH_take (i := 6) (v := ?qvv6) rfl (by kernel_rfl) (by kernel_rfl) (by kernel_rfl) (fun _ _ _ h => h) (Or.inl ⟨by rfl, ?qhy6⟩) (by assumption) ?qrest6
        case qhy6 =>
          intro u hSu
          obtain ⟨s0, s1, s2⟩ := hSu
          go_simp
          try with_reducible rfl
        try simp only [Act.put, List.getElem_toArray, List.getElem_cons_succ, List.getElem_cons_zero, List.setIfInBounds_toArray, List.set_cons_zero, List.set_cons_succ]
        refine wpAnyH_ready (rs := [1, 7]) (by kernel_rfl) (by simp) ?_
        refine AllReadyH.cons rfl ?_ (AllReadyH.cons rfl ?_ AllReadyH.nil)
        · intro K hK
          go_simp
          refine hK.out _ _ K0 (fun hHeld => ?_)
          clear hK K
          try simp only [Act.put, List.getElem_toArray, List.getElem_cons_succ, List.getElem_cons_zero, List.setIfInBounds_toArray, List.set_cons_zero, List.set_cons_succ]
          refine wpAnyH_ready (rs := [7]) (by kernel_rfl) (by simp) ?_
          refine AllReadyH.cons rfl (fun K hK => ?_) AllReadyH.nil
          go_simp
          refine hK.out _ _ K6 (fun hHeld => ?_)
          clear hK K
          try simp only [Act.put, List.getElem_toArray, List.getElem_cons_succ, List.getElem_cons_zero, List.setIfInBounds_toArray, List.set_cons_zero, List.set_cons_succ]
          refine wpAnyH_ready (rs := [8]) (by kernel_rfl) (by simp) ?_
          refine AllReadyH.cons rfl (fun K hK => ?_) AllReadyH.nil
          refine Lib.wp_append_run _ _ _ _ _ rfl v (.slice (some ⟨wr.heap.size, 0, none⟩) 1 1) rfl rfl _ _ hr7 ?_
          refine hK.out _ _ K7 (fun hHeld => ?_)
          clear hK K
          try simp only [Act.put, List.getElem_toArray, List.getElem_cons_succ, List.getElem_cons_zero, List.setIfInBounds_toArray, List.set_cons_zero, List.set_cons_succ]
          refine wpAnyH_take (i := 9) (v := ?qavv9) rfl (by kernel_rfl) (by kernel_rfl) (by kernel_rfl) (fun _ _ _ h => h) (Or.inl ⟨by rfl, ?qahy9⟩) (by assumption) ?qarest9
          case qahy9 =>
            intro u hSu
            obtain ⟨s0, s1, s2⟩ := hSu
            go_simp
            try with_reducible rfl
          try simp only [Act.put, List.getElem_toArray, List.getElem_cons_succ, List.getElem_cons_zero, List.setIfInBounds_toArray, List.set_cons_zero, List.set_cons_succ]
          refine wpAnyH_ready (rs := [10]) (by kernel_rfl) (by simp) ?_
          refine AllReadyH.cons rfl (fun K hK => ?_) AllReadyH.nil
          go_simp
          refine hK.out _ _ K8 (fun hHeld => ?_)
          clear hK K
          try simp only [Act.put, List.getElem_toArray, List.getElem_cons_succ, List.getElem_cons_zero, List.setIfInBounds_toArray, List.set_cons_zero, List.set_cons_succ]
          refine wpAnyH_done (by kernel_rfl) ?_ _
          clear K0 K6 K7 K8 hr7 hHeld
          go_wp2_with fail
          go_roundw
          case rel => exact ⟨k + 1, by omega, by go_num, _, _, HJ8⟩
          case measure => simp [intOf]; omega
        · intro K hK
          go_simp
          refine hK.out _ _ K6 (fun hHeld => ?_)
          clear hK K
          try simp only [Act.put, List.getElem_toArray, List.getElem_cons_succ, List.getElem_cons_zero, List.setIfInBounds_toArray, List.set_cons_zero, List.set_cons_succ]
          refine wpAnyH_ready (rs := [1]) (by kernel_rfl) (by simp) ?_
          refine AllReadyH.cons rfl (fun K hK => ?_) AllReadyH.nil
          go_simp
          refine hK.out _ _ K6 (fun hHeld => ?_)
          clear hK K
          try simp only [Act.put, List.getElem_toArray, List.getElem_cons_succ, List.getElem_cons_zero, List.setIfInBounds_toArray, List.set_cons_zero, List.set_cons_succ]
          refine wpAnyH_ready (rs := [8]) (by kernel_rfl) (by simp) ?_
          refine AllReadyH.cons rfl (fun K hK => ?_) AllReadyH.nil
          refine Lib.wp_append_run _ _ _ _ _ rfl v (.slice (some ⟨wr.heap.size, 0, none⟩) 1 1) rfl rfl _ _ hr7 ?_
          refine hK.out _ _ K7 (fun hHeld => ?_)
          clear hK K
          try simp only [Act.put, List.getElem_toArray, List.getElem_cons_succ, List.getElem_cons_zero, List.setIfInBounds_toArray, List.set_cons_zero, List.set_cons_succ]
          refine wpAnyH_take (i := 9) (v := ?qbvv9) rfl (by kernel_rfl) (by kernel_rfl) (by kernel_rfl) (fun _ _ _ h => h) (Or.inl ⟨by rfl, ?qbhy9⟩) (by assumption) ?qbrest9
          case qbhy9 =>
            intro u hSu
            obtain ⟨s0, s1, s2⟩ := hSu
            go_simp
            try with_reducible rfl
          try simp only [Act.put, List.getElem_toArray, List.getElem_cons_succ, List.getElem_cons_zero, List.setIfInBounds_toArray, List.set_cons_zero, List.set_cons_succ]
          refine wpAnyH_ready (rs := [10]) (by kernel_rfl) (by simp) ?_
          refine AllReadyH.cons rfl (fun K hK => ?_) AllReadyH.nil
          go_simp
          refine hK.out _ _ K8 (fun hHeld => ?_)
          clear hK K
          try simp only [Act.put, List.getElem_toArray, List.getElem_cons_succ, List.getElem_cons_zero, List.setIfInBounds_toArray, List.set_cons_zero, List.set_cons_succ]
          refine wpAnyH_done (by kernel_rfl) ?_ _
          clear K0 K6 K7 K8 hr7 hHeld
          go_wp2_with fail
          go_roundw
          case rel => exact ⟨k + 1, by omega, by go_num, _, _, HJ8⟩
          case measure => simp [intOf]; omega
    · obtain rfl : k = ln := by omega
      have hj := J.out
      rw [List.take_of_length_le (by rw [lm]; exact Nat.le_refl _)] at hj
      obtain ⟨a1, c1, hv⟩ := own_form hj.E
      subst hv
      have R := Lib.hid (HP.out _ _ _ _ _ hj)
      have d0 := hj.Y.lt
      have d1 := hj.Y.frozen 0
      have d2 := hj.Y.cell 0
      have hz := (hj.Y.set_ 0 (.slice a1 n c1)).cell 0
      clear J HP hj
      go_wp2_with fail
      exact bodyPost_ret (v := gV a1 n c1) (by simp [results, Try.results45, go_sem, hz]) rfl R.out
end
end Go.Proofs.Ytijcojidfallkaa.GF
