/-
  The reference of layer 13: a module removed. Nothing here is a statement of the seed.
-/
import Derived.Test.YtleggfofgpiabaaGreatSymRef2
import Derived.Test.YtleggfofgpiabaaGreatSymApp
set_option linter.unusedSimpArgs false
set_option linter.unusedVariables false
namespace Go.Proofs.YtleggfofgpiabaaGreat.SF
open Go.RowKit WM NR OM OR SM SR
set_option maxHeartbeats 4000000
set_option maxRecDepth 10000
/-- a table and a code come back -/
def IsT (G : Nat → Prop) (t : Tb) (k : Int) (w : World) : Ending → World → Prop := fun e w' => ∃ ma mn mc la ln lc, e = .returned (.tuple #[tbV ma mn mc la ln lc, .int .i64 k]) ∧ RdT (fun g => (G g ∨ w.heap.size ≤ g) ∧ g < w'.heap.size) w' ma mn mc la ln lc t ∧ Below w.heap.size w w'
theorem owns_whole {u : World} {B : Nat} {e : TypeId} {size n : Nat} {v : Value} {xs : List Value} (h : u.ownsRow B e size v n xs) {g : Nat} (hg : v.ownBlock = some g) : ∃ cur, Whole u g e cur := by
  rcases h.2 with ⟨rfl, _⟩ | ⟨g', cap, cur, rfl, hb, hh, _⟩
  · simp [Value.ownBlock] at hg
  · simp [Value.ownBlock] at hg
    subst hg
    exact ⟨cur, hh⟩
theorem owns_ne {u : World} {B B' : Nat} {e e' : TypeId} {size size' n n' : Nat} {v v' : Value} {xs xs' : List Value} (h : u.ownsRow B e size v n xs) (h' : u.ownsRow B' e' size' v' n' xs') (hne : e ≠ e') : ∀ g, v.ownBlock = some g → v'.ownBlock ≠ some g := fun g hg hg' => by
  obtain ⟨c, hc⟩ := owns_whole h hg
  obtain ⟨c', hc'⟩ := owns_whole h' hg'
  exact Whole.ne_ hc hc' hne rfl
theorem owns_off {u u' : World} {B : Nat} {e : TypeId} {size n : Nat} {v : Value} {xs : List Value} {r : Option Nat} (h : u.ownsRow B e size v n xs) (hg : u.grownBy u' r) (hne : ∀ g, v.ownBlock = some g → r ≠ some g) : u'.ownsRow B e size v n xs := by
  refine ⟨h.1, ?_⟩
  rcases h.2 with h0 | ⟨g, cap, cur, rfl, hb, hh, h3, h4, h5, h6⟩
  · exact Or.inl h0
  · exact Or.inr ⟨g, cap, cur, rfl, hb, by rw [hg.block g (Array.getElem?_eq_some_iff.1 hh).1 (fun e => hne g rfl e.symm)]; exact hh, h3, h4, h5, h6⟩
theorem owns_set {u : World} {B b i : Nat} {e : TypeId} {size n : Nat} {v : Value} {xs : List Value} (h : u.ownsRow B e size v n xs) (hb : b < B) (y : Value) : (u.setCell ⟨b, i, none⟩ y).ownsRow B e size v n xs := by
  refine ⟨h.1, ?_⟩
  rcases h.2 with h0 | ⟨g, cap, cur, rfl, hg, hh, h3, h4, h5, h6⟩
  · exact Or.inl h0
  · refine Or.inr ⟨g, cap, cur, rfl, hg, ?_, h3, h4, h5, h6⟩
    rw [Below.heap_setCell _ _ _ _ (show g ≠ b by omega)]
    exact hh
/-- on the way of a new table: the old one's box, the result's, the new one's with its rows -/
structure XJ (w : World) (p : Nat) (cs ds : Array Value) (v : Value) (n : Nat) (l : List (List UInt8)) (v' : Value) (n' : Nat) (l' : List En) (u : World) : Prop where
  X : Whole u w.heap.size 30 cs
  Y : Whole u (w.heap.size + 1) 30 ds
  Z : Whole u p 30 #[v, v']
  O : u.ownsRow (p + 1) 9 1 v n (strs l)
  E : u.ownsRow (p + 1) 61 5 v' n' (eC l')
  B : Below w.heap.size w u
  hp : w.heap.size + 2 ≤ p
section
variable {w u u' : World} {p : Nat} {cs ds : Array Value} {v : Value} {n : Nat} {l : List (List UInt8)} {v' : Value} {n' : Nat} {l' : List En}
theorem XJ.belowS (h : XJ w p cs ds v n l v' n' l' u) (hb : Below u.heap.size u u') : XJ w p cs ds v n l v' n' l' u' :=
  ⟨h.X.belowS hb, h.Y.belowS hb, h.Z.belowS hb, owns_below h.O hb, owns_below h.E hb, h.B.trans (hb.mono h.B.size), h.hp⟩
/-- one text more -/
theorem XJ.str (h : XJ w p cs ds v n l v' n' l' u) {v7 : Value} {s : List UInt8} (ho : u'.ownsRow (p + 1) 9 1 v7 (n + 1) (strs (l ++ [s]))) (hg : u.grownBy u' v.ownBlock) : XJ w p cs ds v7 (n + 1) (l ++ [s]) v' n' l' (u'.setCell ⟨p, 0, none⟩ v7) ∧ Whole u' p 30 #[v, v'] := by
  have hp := h.hp
  have r : ∀ g, v.ownBlock = some g → p + 1 ≤ g := fun g hg => (owns_lt h.O hg).1
  have k1 := whole_kept h.X hg fun g hg => by have := r g hg; omega
  have k2 := whole_kept h.Y hg fun g hg => by have := r g hg; omega
  have k3 := whole_kept h.Z hg fun g hg => by have := r g hg; omega
  have kE := owns_off h.E hg (owns_ne h.E h.O (by decide))
  have kB := below_grown h.B h.B.size h.O (by omega) hg
  exact ⟨⟨Whole.far k1 (p := ⟨p, 0, none⟩) (show w.heap.size ≠ p by omega) _, Whole.far k2 (p := ⟨p, 0, none⟩) (show w.heap.size + 1 ≠ p by omega) _, Whole.set_ k3 0 v7, owns_set ho (by omega) _, owns_set kE (by omega) _, kB.setCell (by simp; omega) _, hp⟩, k3⟩
/-- one entry more -/
theorem XJ.ent (h : XJ w p cs ds v n l v' n' l' u) {v7 : Value} {s : En} (ho : u'.ownsRow (p + 1) 61 5 v7 (n' + 1) (eC (l' ++ [s]))) (hg : u.grownBy u' v'.ownBlock) : XJ w p cs ds v n l v7 (n' + 1) (l' ++ [s]) (u'.setCell ⟨p, 1, none⟩ v7) ∧ Whole u' p 30 #[v, v'] := by
  have hp := h.hp
  have r : ∀ g, v'.ownBlock = some g → p + 1 ≤ g := fun g hg => (owns_lt h.E hg).1
  have k1 := whole_kept h.X hg fun g hg => by have := r g hg; omega
  have k2 := whole_kept h.Y hg fun g hg => by have := r g hg; omega
  have k3 := whole_kept h.Z hg fun g hg => by have := r g hg; omega
  have kO := owns_off h.O hg (owns_ne h.O h.E (by decide))
  have kB := below_grown h.B h.B.size h.E (by omega) hg
  exact ⟨⟨Whole.far k1 (p := ⟨p, 1, none⟩) (show w.heap.size ≠ p by omega) _, Whole.far k2 (p := ⟨p, 1, none⟩) (show w.heap.size + 1 ≠ p by omega) _, Whole.set_ k3 1 v7, owns_set kO (by omega) _, owns_set ho (by omega) _, kB.setCell (by simp; omega) _, hp⟩, k3⟩
end
theorem filter_yes {α : Type} (l : List α) (d : α) (f : α → Bool) (k : Nat) (h : k < l.length) (hf : f (l.getD k d) = true) : (l.take (k + 1)).filter f = (l.take k).filter f ++ [l.getD k d] := by rw [take_succ_getD l d k h, List.filter_append]; simp only [List.filter_cons, hf, if_true, List.filter_nil]
theorem filter_no {α : Type} (l : List α) (d : α) (f : α → Bool) (k : Nat) (h : k < l.length) (hf : f (l.getD k d) = false) : (l.take (k + 1)).filter f = (l.take k).filter f := by rw [take_succ_getD l d k h, List.filter_append]; simp only [List.filter_cons, hf, Bool.false_eq_true, if_false, List.filter_nil, List.append_nil]
theorem rem_post {G : Nat → Prop} {w u : World} {p : Nat} {cs ds : Array Value} {a1 : Option Addr} {n c1 : Nat} {l : List (List UInt8)} {a2 : Option Addr} {n' c2 : Nat} {l' : List En} (h : XJ w p cs ds (.slice a1 n c1) n l (.slice a2 n' c2) n' l' u) :
    IsT G ⟨l, l'⟩ 0 w (.returned (.tuple #[tbV a1 n c1 a2 n' c2, .int .i64 0])) ((u.setCell ⟨w.heap.size + 1, 0, none⟩ (.slice a1 n c1)).setCell ⟨w.heap.size + 1, 1, none⟩ (.slice a2 n' c2)) := by
  have hp := h.hp
  have hO := owns_set (b := w.heap.size + 1) (i := 1) (owns_set (b := w.heap.size + 1) (i := 0) h.O (by omega) (.slice a1 n c1)) (by omega) (.slice a2 n' c2)
  have hE := owns_set (b := w.heap.size + 1) (i := 1) (owns_set (b := w.heap.size + 1) (i := 0) h.E (by omega) (.slice a1 n c1)) (by omega) (.slice a2 n' c2)
  refine ⟨_, _, _, _, _, _, rfl, ⟨?_, ?_⟩, (h.B.setCell (by simp) _).setCell (by simp) _⟩
  · exact (Reads.of_owns hO).mono fun g hg => ⟨Or.inr (by omega), (owns_lt hO hg.2).2⟩
  · have hl : l'.length = n' := by have := h.E.1; rw [eC_len] at this; omega
    subst hl
    exact (ReadsE.of_owns hE).mono fun g hg => ⟨Or.inr (by omega), (owns_lt hE hg.2).2⟩
section
variable {w : World} {ma : Option Addr} {mn mc : Nat} {la : Option Addr} {ln lc : Nat} {t : Tb}
/-- a table told as it came -/
theorem ist_same {G : Nat → Prop} (h : RdT G w ma mn mc la ln lc t ∧ ∀ g, G g → g < w.heap.size) {u : World} {k : Int} (hb : Below w.heap.size w u) : IsT G t k w (.returned (.tuple #[tbV ma mn mc la ln lc, .int .i64 k])) u := ⟨_, _, _, _, _, _, rfl, (h.1.keep fun g hg _ => hb.block g (h.2 g hg)).mono fun g hg => ⟨Or.inl hg, Nat.lt_of_lt_of_le (h.2 g hg) hb.size⟩, hb⟩
theorem refRemove_any {G : Nat → Prop} (h0 : RdT G w ma mn mc la ln lc t) (hG : ∀ g, G g → g < w.heap.size) (hr : ∀ e ∈ t.L, 0 ≤ e.refs ∧ e.refs ≤ 8) (hbd : mn ≤ 100000 ∧ ln ≤ 100000) (s : List UInt8) :
    Calls Tryz.prog 23 #[tbV ma mn mc la ln lc, .string (bs s)] w (IsT G (removeM t s).1 (removeM t s).2 w) := by
  have h := h0.mono hG
  have HT0 := Lib.hid (And.intro h0 hG)
  obtain ⟨lm, ll, _, _⟩ := h.lens
  obtain ⟨hb1, hb2⟩ := hbd
  have hn1 : (mn : Int) ≤ 9223372036854775807 := by omega
  have hn2 : (ln : Int) ≤ 9223372036854775807 := by omega
  have b0 := below_new w (.cells (tbC ma mn mc la ln lc) 30)
  have b1 := below_new (w.alloc (.cells (tbC ma mn mc la ln lc) 30)) (.cells #[.slice none 0 0, .slice none 0 0] 30)
  have HX := Lib.hid ((Whole.new w 30 (tbC ma mn mc la ln lc)).belowS b1)
  have HB := Lib.hid (b0.trans (b1.mono b0.size))
  have HY := Whole.new (w.alloc (.cells (tbC ma mn mc la ln lc) 30)) 30 #[.slice none 0 0, .slice none 0 0]
  have s0 : (w.alloc (.cells (tbC ma mn mc la ln lc) 30)).heap.size = w.heap.size + 1 := by simp
  rw [s0] at HY
  have HY := Lib.hid HY
  have C1 := Lib.hid (fun (u : World) (hb : Below w.heap.size w u) => refHas_any (h.go hb hb.size) s)
  have C2 := Lib.hid (fun (u : World) (hb : Below w.heap.size w u) => refRefs_any (h.go hb hb.size) hr (by omega) s)
  have HT := Lib.hid h
  clear s0 b0 b1 h hr h0 hG
  unfold removeM
  cases hh : hasM t s with
  | false =>
    rw [if_pos rfl]
    rw [hh] at C1
    simp only
    clear C2 hh lm ll hb1 hb2
    generalize bs s = x at *
    go_enter Tryz.func23, Tryz.ntmps23
    go_upto_region 1 with fail
    generalize (w.alloc (.cells (tbC ma mn mc la ln lc) 30)).alloc (.cells #[.slice none 0 0, .slice none 0 0] 30) = W at *
    obtain ⟨c0, c1⟩ := two_cells HX.out
    have c6 := HX.out.lt
    go_wp2_with (go_at_call 27; (with_reducible refine (C1.out _ HB.out).mono ?_); rintro e w1 ⟨rfl, hb⟩; have HX1 := Lib.hid (HX.out.belowS hb); have HY1 := Lib.hid (HY.out.belowS hb); have HB1 := Lib.hid (HB.out.trans (hb.mono HB.out.size)); clear c0 c1 c6; obtain ⟨c0, c1⟩ := two_cells HX1.out; have c6 := HX1.out.lt; obtain ⟨d0, d1⟩ := two_cells HY1.out; have d6 := HY1.out.lt; have f0 := HY1.out.frozen 0; have f1 := HY1.out.frozen 1; clear hb)
    have HZ := (HY1.out.set_ 0 (.slice ma mn mc)).set_ 1 (.slice la ln lc)
    obtain ⟨z0, z1⟩ := two_cells HZ
    exact bodyPost_ret (v := .tuple #[tbV ma mn mc la ln lc, .int .i64 8]) (by simp [results, Tryz.results23, go_sem, z0, z1]) rfl (ist_same HT0.out ((HB1.out.setCell (by simp) _).setCell (by simp) _))
  | true =>
    rw [if_neg (by simp)]
    rw [hh] at C1
    by_cases hp : 0 < refsM t.L s
    · rw [if_pos hp]
      simp only
      clear hh lm ll hb1 hb2
      generalize refsM t.L s = R at *
      generalize bs s = x at *
      go_enter Tryz.func23, Tryz.ntmps23
      go_upto_region 1 with fail
      generalize (w.alloc (.cells (tbC ma mn mc la ln lc) 30)).alloc (.cells #[.slice none 0 0, .slice none 0 0] 30) = W at *
      obtain ⟨c0, c1⟩ := two_cells HX.out
      have c6 := HX.out.lt
      go_wp2_with (first | (go_at_call 27; (with_reducible refine (C1.out _ HB.out).mono ?_); rintro e w0 ⟨rfl, hb⟩; have HX0 := Lib.hid (HX.out.belowS hb); have HY0 := Lib.hid (HY.out.belowS hb); have HB0 := Lib.hid (HB.out.trans (hb.mono HB.out.size)); clear c0 c1 c6; obtain ⟨c0, c1⟩ := two_cells HX0.out; have c6 := HX0.out.lt; clear hb) | (go_at_call 26; (with_reducible refine (C2.out _ HB0.out).mono ?_); rintro e w1 ⟨rfl, hb⟩; have HX1 := Lib.hid (HX0.out.belowS hb); have HY1 := Lib.hid (HY0.out.belowS hb); have HB1 := Lib.hid (HB0.out.trans (hb.mono HB0.out.size)); clear c0 c1 c6; obtain ⟨c0, c1⟩ := two_cells HX1.out; have c6 := HX1.out.lt; obtain ⟨d0, d1⟩ := two_cells HY1.out; have d6 := HY1.out.lt; have f0 := HY1.out.frozen 0; have f1 := HY1.out.frozen 1; clear hb))
      have HZ := (HY1.out.set_ 0 (.slice ma mn mc)).set_ 1 (.slice la ln lc)
      obtain ⟨z0, z1⟩ := two_cells HZ
      exact bodyPost_ret (v := .tuple #[tbV ma mn mc la ln lc, .int .i64 26]) (by simp [results, Tryz.results23, go_sem, z0, z1]) rfl (ist_same HT0.out ((HB1.out.setCell (by simp) _).setCell (by simp) _))
    · rw [if_neg hp]
      simp only
      clear hh
      have hp' : ¬ (0 : Int) < refsM t.L s := hp
      clear hp
      generalize refsM t.L s = R at *
      have HF : Hid (∀ y : List UInt8, y ≠ s → ((bs y).toList == (bs s).toList) = false) := Lib.hid (fun y hy => by rw [bs_toList, bs_toList]; simpa using hy)
      have exx : ((bs s).toList == (bs s).toList) = true := by simp
      go_enter Tryz.func23, Tryz.ntmps23
      go_upto_region 1 with fail
      generalize (w.alloc (.cells (tbC ma mn mc la ln lc) 30)).alloc (.cells #[.slice none 0 0, .slice none 0 0] 30) = W at *
      obtain ⟨c0, c1⟩ := two_cells HX.out
      have c6 := HX.out.lt
      go_upto_region 5 with (first | (go_at_call 27; (with_reducible refine (C1.out _ HB.out).mono ?_); rintro e w0 ⟨rfl, hb⟩; have HX0 := Lib.hid (HX.out.belowS hb); have HY0 := Lib.hid (HY.out.belowS hb); have HB0 := Lib.hid (HB.out.trans (hb.mono HB.out.size)); clear c0 c1 c6; obtain ⟨c0, c1⟩ := two_cells HX0.out; have c6 := HX0.out.lt; clear hb) | (go_at_call 26; (with_reducible refine (C2.out _ HB0.out).mono ?_); rintro e w1 ⟨rfl, hb⟩; have HX1 := Lib.hid (HX0.out.belowS hb); have HY1 := Lib.hid (HY0.out.belowS hb); have HB1 := Lib.hid (HB0.out.trans (hb.mono HB0.out.size)); clear hb))
      go_upto_region 6 with fail
      have bn := below_new w1 (.cells #[.slice none 0 0, .slice none 0 0] 30)
      have J1 := Lib.hid (show XJ w w1.heap.size (tbC ma mn mc la ln lc) #[.slice none 0 0, .slice none 0 0] (.slice none 0 0) 0 [] (.slice none 0 0) 0 [] (w1.alloc (.cells #[.slice none 0 0, .slice none 0 0] 30)) from ⟨HX1.out.belowS bn, HY1.out.belowS bn, Whole.new _ _ _, owns_nil _ _ _ _, owns_nil _ _ _ _, HB1.out.trans (bn.mono HB1.out.size), HY1.out.lt⟩)
      clear bn c0 c1 c6 HX1 HY1 HB1 HX0 HY0 HB0 HX HY HB C1 C2 hp'
      generalize w1.alloc (.cells #[.slice none 0 0, .slice none 0 0] 30) = W1 at *
      generalize w1.heap.size = p at *
      go_wp2_with fail
      go_loopw [7] (fun i wr => ∃ k : Nat, k ≤ mn ∧ i = .int .i64 (k : Int) ∧ ∃ v n, Hid (XJ w p (tbC ma mn mc la ln lc) #[.slice none 0 0, .slice none 0 0] v n ((t.mods.take k).filter (fun x => decide (x ≠ s))) (.slice none 0 0) 0 [] wr)) (fun i _ => mn - (intOf i).toNat)
      case atStart => exact ⟨0, by omega, rfl, _, _, J1⟩
      case round =>
        obtain ⟨k, hk, rfl, v, n, J⟩ := hrel
        obtain ⟨c0, c1⟩ := two_cells J.out.X
        have c6 := J.out.X.lt
        obtain ⟨z0, z1⟩ := two_cells J.out.Z
        have z6 := J.out.Z.lt
        by_cases hlt : k < mn
        · have hlt' : (k : Int) < mn := by omega
          have kl : k < t.mods.length := by rw [lm]; exact hlt
          obtain ⟨g, off, rfl, q1, e1⟩ := reads_at HT.out.md J.out.B hlt
          rw [strs_at kl] at e1
          have q2 : (mn : Int) ≤ mc := by omega
          by_cases e : t.mods.getD k [] = s
          · have J2 : Hid (XJ w p _ _ v n ((t.mods.take (k + 1)).filter (fun x => decide (x ≠ s))) _ _ _ wr) := Lib.hid (by rw [filter_no t.mods [] _ k kl (by rw [e]; simp)]; exact J.out)
            rw [e] at e1
            clear e J kl HF
            generalize bs s = x at *
            go_wp2_with fail
            go_roundw
            case rel => exact ⟨k + 1, by omega, by go_num, v, n, J2⟩
            case measure => simp [intOf]; omega
          · have ef := filter_yes t.mods [] (fun x => decide (x ≠ s)) k kl (by simpa using e)
            have exy := HF.out _ e
            obtain ⟨y, hy⟩ : ∃ y, y = t.mods.getD k [] := ⟨_, rfl⟩
            rw [← hy] at e1 ef exy
            have RE : Hid (∀ u, Below w.heap.size w u → u.cell? ⟨g, off + k, none⟩ = some (.string (bs y))) := Lib.hid (fun u hu => by
              obtain ⟨g', off', e2, _, e3⟩ := reads_at HT.out.md hu hlt
              simp only [Option.some.injEq, Addr.mk.injEq, and_true] at e2
              obtain ⟨rfl, rfl⟩ := e2
              rw [strs_at kl, ← hy] at e3
              exact e3)
            have hnl : n ≤ 100000 := by
              have h1 := J.out.O.1
              rw [strs_len, Nat.mul_one] at h1
              have h2 := List.length_filter_le (fun x => decide (x ≠ s)) (t.mods.take k)
              rw [List.length_take] at h2
              omega
            clear e hy kl
            go_upto_region 10 with fail
            have b6 : Below wr.heap.size wr ((wr.alloc (.cells #[.string (bs y)] 9)).drew) := (below_new wr _).drew
            have J6 := J.out.belowS b6
            have S6 := J6.Z.lt
            obtain ⟨v7, u7, hr7, ho7, hg7⟩ := app_str (ty := 27) (u := (wr.alloc (.cells #[.string (bs y)] 9)).drew) (B := p + 1) (by omega) J6.O ((one_str wr y 9).keep (fun g _ _ => rfl)) (by omega)
            obtain ⟨a7, c7, rfl, _⟩ := owns_le ho7
            obtain ⟨J8, k3⟩ := J6.str ho7 hg7
            have hJp := J6.hp
            have X7 := whole_kept J6.X hg7 (fun g hg => by have := (owns_lt J6.O hg).1; omega)
            have B7 := below_grown J6.B J6.B.size J6.O (by omega) hg7
            have KF : ∀ u, Whole u w.heap.size 30 (tbC (some ⟨g, off, none⟩) mn mc la ln lc) → Below w.heap.size w u → u.cell? ⟨w.heap.size, 0, none⟩ = some (.slice (some ⟨g, off, none⟩) mn mc) ∧ u.cell? ⟨w.heap.size, 1, none⟩ = some (.slice la ln lc) ∧ u.cell? ⟨g, off + k, none⟩ = some (.string (bs y)) := fun u hX hB => ⟨hX.cell 0, hX.cell 1, RE.out u hB⟩
            have K0 := KF wr.drew J.out.X J.out.B.drew
            have K6 := KF _ J6.X J6.B
            have K7 := KF _ X7 B7
            have K8 := KF _ J8.X J8.B
            rw [← ef] at J8
            have HJ8 := Lib.hid J8
            have y0 := J6.Z.cell 0
            have y1 := J6.Z.cell 1
            have x0 := k3.cell 0
            have x6 := k3.lt
            have xf := k3.frozen 0
            clear KF J8 k3 X7 B7 J6 b6 ef RE J HF
            refine wp_region_held_drew (S := (fun u => u.cell? ⟨w.heap.size, 0, none⟩ = some (.slice (some ⟨g, off, none⟩) mn mc) ∧ u.cell? ⟨w.heap.size, 1, none⟩ = some (.slice la ln lc) ∧ u.cell? ⟨g, off + k, none⟩ = some (.string (bs y)))) (by kernel_rfl) K0 (fun hHeld => ?_)
            refine wpAnyH_take (i := 0) (v := ?qvv0) rfl (by kernel_rfl) (by kernel_rfl) (by kernel_rfl) (fun _ _ _ h => h) (Or.inl ⟨by rfl, ?qhy0⟩) (by assumption) ?qrest0
            case qhy0 =>
              intro u hSu
              obtain ⟨s0, s1, s2⟩ := hSu
              go_simp
              try with_reducible rfl
            try simp only [Act.put, List.getElem_toArray, List.getElem_cons_succ, List.getElem_cons_zero, List.setIfInBounds_toArray, List.set_cons_zero, List.set_cons_succ]
            refine wpAnyH_take (i := 2) (v := ?qvv2) rfl (by kernel_rfl) (by kernel_rfl) (by kernel_rfl) (fun _ _ _ h => h) (Or.inl ⟨by rfl, ?qhy2⟩) (by assumption) ?qrest2
            case qhy2 =>
              intro u hSu
              obtain ⟨s0, s1, s2⟩ := hSu
              go_simp
              try with_reducible rfl
            try simp only [Act.put, List.getElem_toArray, List.getElem_cons_succ, List.getElem_cons_zero, List.setIfInBounds_toArray, List.set_cons_zero, List.set_cons_succ]
            refine wpAnyH_take (i := 3) (v := ?qvv3) rfl (by kernel_rfl) (by kernel_rfl) (by kernel_rfl) (fun _ _ _ h => h) (Or.inl ⟨by rfl, ?qhy3⟩) (by assumption) ?qrest3
            case qhy3 =>
              intro u hSu
              obtain ⟨s0, s1, s2⟩ := hSu
              go_simp
              try with_reducible rfl
            try simp only [Act.put, List.getElem_toArray, List.getElem_cons_succ, List.getElem_cons_zero, List.setIfInBounds_toArray, List.set_cons_zero, List.set_cons_succ]
            refine wpAnyH_take (i := 4) (v := ?qvv4) rfl (by kernel_rfl) (by kernel_rfl) (by kernel_rfl) (fun _ _ _ h => h) (Or.inl ⟨by rfl, ?qhy4⟩) (by assumption) ?qrest4
            case qhy4 =>
              intro u hSu
              obtain ⟨s0, s1, s2⟩ := hSu
              go_simp
              try with_reducible rfl
            try simp only [Act.put, List.getElem_toArray, List.getElem_cons_succ, List.getElem_cons_zero, List.setIfInBounds_toArray, List.set_cons_zero, List.set_cons_succ]
            refine wpAnyH_take (i := 5) (v := ?qvv5) rfl (by kernel_rfl) (by kernel_rfl) (by kernel_rfl) (fun _ _ _ h => h) (Or.inl ⟨by rfl, ?qhy5⟩) (by assumption) ?qrest5
            case qhy5 =>
              intro u hSu
              obtain ⟨s0, s1, s2⟩ := hSu
              go_simp
              try with_reducible rfl
            try simp only [Act.put, List.getElem_toArray, List.getElem_cons_succ, List.getElem_cons_zero, List.setIfInBounds_toArray, List.set_cons_zero, List.set_cons_succ]
            refine wpAnyH_take (i := 6) (v := ?qvv6) rfl (by kernel_rfl) (by kernel_rfl) (by kernel_rfl) (fun _ _ _ h => h) (Or.inl ⟨by rfl, ?qhy6⟩) (by assumption) ?qrest6
            case qhy6 =>
              intro u hSu
              obtain ⟨s0, s1, s2⟩ := hSu
              go_simp
              try with_reducible rfl
            try simp only [Act.put, List.getElem_toArray, List.getElem_cons_succ, List.getElem_cons_zero, List.setIfInBounds_toArray, List.set_cons_zero, List.set_cons_succ]
            refine wpAnyH_ready (rs := [1, 7]) (by kernel_rfl) (by simp) ?_
            refine AllReadyH.cons rfl ?_ (AllReadyH.cons rfl ?_ AllReadyH.nil)
            · intro K hK
              go_simp
              refine hK.out _ _ K0 (fun hHeld => ?_)
              clear hK K
              try simp only [Act.put, List.getElem_toArray, List.getElem_cons_succ, List.getElem_cons_zero, List.setIfInBounds_toArray, List.set_cons_zero, List.set_cons_succ]
              refine wpAnyH_ready (rs := [7]) (by kernel_rfl) (by simp) ?_
              refine AllReadyH.cons rfl (fun K hK => ?_) AllReadyH.nil
              go_simp
              refine hK.out _ _ K6 (fun hHeld => ?_)
              clear hK K
              try simp only [Act.put, List.getElem_toArray, List.getElem_cons_succ, List.getElem_cons_zero, List.setIfInBounds_toArray, List.set_cons_zero, List.set_cons_succ]
              refine wpAnyH_ready (rs := [8]) (by kernel_rfl) (by simp) ?_
              refine AllReadyH.cons rfl (fun K hK => ?_) AllReadyH.nil
              refine Lib.wp_append_run _ _ _ _ _ rfl v (.slice (some ⟨wr.heap.size, 0, none⟩) 1 1) rfl rfl _ _ hr7 ?_
              refine hK.out _ _ K7 (fun hHeld => ?_)
              clear hK K
              try simp only [Act.put, List.getElem_toArray, List.getElem_cons_succ, List.getElem_cons_zero, List.setIfInBounds_toArray, List.set_cons_zero, List.set_cons_succ]
              refine wpAnyH_take (i := 9) (v := ?qavv9) rfl (by kernel_rfl) (by kernel_rfl) (by kernel_rfl) (fun _ _ _ h => h) (Or.inl ⟨by rfl, ?qahy9⟩) (by assumption) ?qarest9
              case qahy9 =>
                intro u hSu
                obtain ⟨s0, s1, s2⟩ := hSu
                go_simp
                try with_reducible rfl
              try simp only [Act.put, List.getElem_toArray, List.getElem_cons_succ, List.getElem_cons_zero, List.setIfInBounds_toArray, List.set_cons_zero, List.set_cons_succ]
              refine wpAnyH_ready (rs := [10]) (by kernel_rfl) (by simp) ?_
              refine AllReadyH.cons rfl (fun K hK => ?_) AllReadyH.nil
              go_simp
              refine hK.out _ _ K8 (fun hHeld => ?_)
              clear hK K
              try simp only [Act.put, List.getElem_toArray, List.getElem_cons_succ, List.getElem_cons_zero, List.setIfInBounds_toArray, List.set_cons_zero, List.set_cons_succ]
              refine wpAnyH_done (by kernel_rfl) ?_ _
              clear K0 K6 K7 K8 hr7 hHeld
              go_wp2_with fail
              go_roundw
              case rel => exact ⟨k + 1, by omega, by go_num, _, _, HJ8⟩
              case measure => simp [intOf]; omega
            · intro K hK
              go_simp
              refine hK.out _ _ K6 (fun hHeld => ?_)
              clear hK K
              try simp only [Act.put, List.getElem_toArray, List.getElem_cons_succ, List.getElem_cons_zero, List.setIfInBounds_toArray, List.set_cons_zero, List.set_cons_succ]
              refine wpAnyH_ready (rs := [1]) (by kernel_rfl) (by simp) ?_
              refine AllReadyH.cons rfl (fun K hK => ?_) AllReadyH.nil
              go_simp
              refine hK.out _ _ K6 (fun hHeld => ?_)
              clear hK K
              try simp only [Act.put, List.getElem_toArray, List.getElem_cons_succ, List.getElem_cons_zero, List.setIfInBounds_toArray, List.set_cons_zero, List.set_cons_succ]
              refine wpAnyH_ready (rs := [8]) (by kernel_rfl) (by simp) ?_
              refine AllReadyH.cons rfl (fun K hK => ?_) AllReadyH.nil
              refine Lib.wp_append_run _ _ _ _ _ rfl v (.slice (some ⟨wr.heap.size, 0, none⟩) 1 1) rfl rfl _ _ hr7 ?_
              refine hK.out _ _ K7 (fun hHeld => ?_)
              clear hK K
              try simp only [Act.put, List.getElem_toArray, List.getElem_cons_succ, List.getElem_cons_zero, List.setIfInBounds_toArray, List.set_cons_zero, List.set_cons_succ]
              refine wpAnyH_take (i := 9) (v := ?qbvv9) rfl (by kernel_rfl) (by kernel_rfl) (by kernel_rfl) (fun _ _ _ h => h) (Or.inl ⟨by rfl, ?qbhy9⟩) (by assumption) ?qbrest9
              case qbhy9 =>
                intro u hSu
                obtain ⟨s0, s1, s2⟩ := hSu
                go_simp
                try with_reducible rfl
              try simp only [Act.put, List.getElem_toArray, List.getElem_cons_succ, List.getElem_cons_zero, List.setIfInBounds_toArray, List.set_cons_zero, List.set_cons_succ]
              refine wpAnyH_ready (rs := [10]) (by kernel_rfl) (by simp) ?_
              refine AllReadyH.cons rfl (fun K hK => ?_) AllReadyH.nil
              go_simp
              refine hK.out _ _ K8 (fun hHeld => ?_)
              clear hK K
              try simp only [Act.put, List.getElem_toArray, List.getElem_cons_succ, List.getElem_cons_zero, List.setIfInBounds_toArray, List.set_cons_zero, List.set_cons_succ]
              refine wpAnyH_done (by kernel_rfl) ?_ _
              clear K0 K6 K7 K8 hr7 hHeld
              go_wp2_with fail
              go_roundw
              case rel => exact ⟨k + 1, by omega, by go_num, _, _, HJ8⟩
              case measure => simp [intOf]; omega
        · obtain rfl : k = mn := by omega
          have J2 := J.out
          rw [List.take_of_length_le (by omega)] at J2
          have JJ := Lib.hid J2
          clear J J2
          go_wp2_with fail
          go_loopw [8] (fun i wr => ∃ k2 : Nat, k2 ≤ ln ∧ i = .int .i64 (k2 : Int) ∧ ∃ v' n', Hid (XJ w p (tbC ma k mc la ln lc) #[.slice none 0 0, .slice none 0 0] v n (t.mods.filter (fun x => decide (x ≠ s))) v' n' ((t.L.take k2).filter (fun e => decide (e.md ≠ s))) wr)) (fun i _ => ln - (intOf i).toNat)
          case atStart => exact ⟨0, by omega, rfl, _, _, JJ⟩
          case round =>
            obtain ⟨k2, hk2, rfl, v', n', J⟩ := hrel
            clear c0 c1 c6 z0 z1 z6 JJ
            obtain ⟨c0, c1⟩ := two_cells J.out.X
            have c6 := J.out.X.lt
            obtain ⟨z0, z1⟩ := two_cells J.out.Z
            have z6 := J.out.Z.lt
            by_cases hlt : k2 < ln
            · have hlt' : (k2 : Int) < ln := by omega
              have kl : k2 < t.L.length := by rw [ll]; exact hlt
              obtain ⟨g, off, rfl, q1, e1, e2, e3, e4, e5⟩ := HT.out.en.at J.out.B hlt
              have q2 : (ln : Int) ≤ lc := by omega
              by_cases e : (t.L.getD k2 e0).md = s
              · have J2 : Hid (XJ w p _ _ v n (t.mods.filter (fun x => decide (x ≠ s))) v' n' ((t.L.take (k2 + 1)).filter (fun e => decide (e.md ≠ s))) wr) := Lib.hid (by rw [filter_no t.L e0 _ k2 kl (by rw [e]; simp)]; exact J.out)
                rw [e] at e2
                clear e J kl HF e1 e3 e4 e5
                generalize bs s = x at *
                go_wp2_with fail
                go_roundw
                case rel => exact ⟨k2 + 1, by omega, by go_num, v', n', J2⟩
                case measure => simp [intOf]; omega
              · have ef := filter_yes t.L e0 (fun e => decide (e.md ≠ s)) k2 kl (by simpa using e)
                have exy := HF.out _ e
                obtain ⟨y, hy⟩ : ∃ y, y = t.L.getD k2 e0 := ⟨_, rfl⟩
                have RE : Hid (∀ u, Below w.heap.size w u → EnAt u g (off + k2 * 5) y) := Lib.hid (fun u hu => by
                  obtain ⟨g', off', e2, _, e3⟩ := HT.out.en.at hu hlt
                  simp only [Option.some.injEq, Addr.mk.injEq, and_true] at e2
                  obtain ⟨rfl, rfl⟩ := e2
                  rw [hy]
                  exact e3)
                rw [← hy] at e1 e2 e3 e4 e5 ef exy
                have hnl : n' ≤ 100000 := by
                  have h1 := J.out.E.1
                  rw [eC_len] at h1
                  have h2 := List.length_filter_le (fun e => decide (e.md ≠ s)) (t.L.take k2)
                  rw [List.length_take] at h2
                  omega
                clear e hy kl e1 e3 e4 e5
                obtain ⟨yn, ym, yg, yi, yr⟩ := y
                change Hid (∀ u, Below w.heap.size w u → EnAt u g (off + k2 * 5) ⟨yn, ym, yg, yi, yr⟩) at RE
                simp only at exy e2
                go_upto_region 15 with fail
                have b6 : Below wr.heap.size wr ((wr.alloc (.cells #[.string (bs yn), .string (bs ym), .int .i64 yg, .int .i64 yi, .int .i64 yr] 61)).drew) := (below_new wr _).drew
                have J6 := J.out.belowS b6
                have S6 := J6.Z.lt
                obtain ⟨v7, u7, hr7, ho7, hg7⟩ := app_ent (ty := 28) (u := (wr.alloc (.cells #[.string (bs yn), .string (bs ym), .int .i64 yg, .int .i64 yi, .int .i64 yr] 61)).drew) (B := p + 1) (by omega) J6.E ((one_ent wr ⟨yn, ym, yg, yi, yr⟩ 61).keep (fun g _ _ => rfl)) (by omega)
                obtain ⟨a7, c7, rfl, _⟩ := owns_le ho7
                obtain ⟨J8, k3⟩ := J6.ent ho7 hg7
                have hJp := J6.hp
                have X7 := whole_kept J6.X hg7 (fun g hg => by have := (owns_lt J6.E hg).1; omega)
                have B7 := below_grown J6.B J6.B.size J6.E (by omega) hg7
                have KF : ∀ u, Whole u w.heap.size 30 (tbC ma k mc (some ⟨g, off, none⟩) ln lc) → Below w.heap.size w u → (u.cell? ⟨w.heap.size, 0, none⟩ = some (.slice ma k mc) ∧ u.cell? ⟨w.heap.size, 1, none⟩ = some (.slice (some ⟨g, off, none⟩) ln lc)) ∧ EnAt u g (off + k2 * 5) ⟨yn, ym, yg, yi, yr⟩ := fun u hX hB => ⟨⟨hX.cell 0, hX.cell 1⟩, RE.out u hB⟩
                have K0 := KF wr.drew J.out.X J.out.B.drew
                have K6 := KF _ J6.X J6.B
                have K7 := KF _ X7 B7
                have K8 := KF _ J8.X J8.B
                rw [← ef] at J8
                have HJ8 := Lib.hid J8
                have y0 := J6.Z.cell 0
                have y1 := J6.Z.cell 1
                have x1 := k3.cell 1
                have x6 := k3.lt
                have xf := k3.frozen 1
                clear KF J8 k3 X7 B7 J6 b6 ef RE J HF
                refine wp_region_held_drew (S := (fun u => (u.cell? ⟨w.heap.size, 0, none⟩ = some (.slice ma k mc) ∧ u.cell? ⟨w.heap.size, 1, none⟩ = some (.slice (some ⟨g, off, none⟩) ln lc)) ∧ EnAt u g (off + k2 * 5) ⟨yn, ym, yg, yi, yr⟩)) (by kernel_rfl) K0 (fun hHeld => ?_)
                refine wpAnyH_take (i := 0) (v := ?rvv0) rfl (by kernel_rfl) (by kernel_rfl) (by kernel_rfl) (fun _ _ _ h => h) (Or.inl ⟨by rfl, ?rhy0⟩) (by assumption) ?rrest0
                case rhy0 =>
                  intro u hSu
                  obtain ⟨⟨s0, s1⟩, s2, s3, s4, s5, s6⟩ := hSu
                  go_simp
                  try with_reducible rfl
                try simp only [Act.put, List.getElem_toArray, List.getElem_cons_succ, List.getElem_cons_zero, List.setIfInBounds_toArray, List.set_cons_zero, List.set_cons_succ]
                refine wpAnyH_take (i := 2) (v := ?rvv2) rfl (by kernel_rfl) (by kernel_rfl) (by kernel_rfl) (fun _ _ _ h => h) (Or.inl ⟨by rfl, ?rhy2⟩) (by assumption) ?rrest2
                case rhy2 =>
                  intro u hSu
                  obtain ⟨⟨s0, s1⟩, s2, s3, s4, s5, s6⟩ := hSu
                  go_simp
                  try with_reducible rfl
                try simp only [Act.put, List.getElem_toArray, List.getElem_cons_succ, List.getElem_cons_zero, List.setIfInBounds_toArray, List.set_cons_zero, List.set_cons_succ]
                refine wpAnyH_take (i := 3) (v := ?rvv3) rfl (by kernel_rfl) (by kernel_rfl) (by kernel_rfl) (fun _ _ _ h => h) (Or.inl ⟨by rfl, ?rhy3⟩) (by assumption) ?rrest3
                case rhy3 =>
                  intro u hSu
                  obtain ⟨⟨s0, s1⟩, s2, s3, s4, s5, s6⟩ := hSu
                  go_simp
                  try with_reducible rfl
                try simp only [Act.put, List.getElem_toArray, List.getElem_cons_succ, List.getElem_cons_zero, List.setIfInBounds_toArray, List.set_cons_zero, List.set_cons_succ]
                refine wpAnyH_take (i := 4) (v := ?rvv4) rfl (by kernel_rfl) (by kernel_rfl) (by kernel_rfl) (fun _ _ _ h => h) (Or.inl ⟨by rfl, ?rhy4⟩) (by assumption) ?rrest4
                case rhy4 =>
                  intro u hSu
                  obtain ⟨⟨s0, s1⟩, s2, s3, s4, s5, s6⟩ := hSu
                  go_simp
                  try with_reducible rfl
                try simp only [Act.put, List.getElem_toArray, List.getElem_cons_succ, List.getElem_cons_zero, List.setIfInBounds_toArray, List.set_cons_zero, List.set_cons_succ]
                refine wpAnyH_take (i := 5) (v := ?rvv5) rfl (by kernel_rfl) (by kernel_rfl) (by kernel_rfl) (fun _ _ _ h => h) (Or.inl ⟨by rfl, ?rhy5⟩) (by assumption) ?rrest5
                case rhy5 =>
                  intro u hSu
                  obtain ⟨⟨s0, s1⟩, s2, s3, s4, s5, s6⟩ := hSu
                  go_simp
                  try with_reducible rfl
                try simp only [Act.put, List.getElem_toArray, List.getElem_cons_succ, List.getElem_cons_zero, List.setIfInBounds_toArray, List.set_cons_zero, List.set_cons_succ]
                refine wpAnyH_take (i := 6) (v := ?rvv6) rfl (by kernel_rfl) (by kernel_rfl) (by kernel_rfl) (fun _ _ _ h => h) (Or.inl ⟨by rfl, ?rhy6⟩) (by assumption) ?rrest6
                case rhy6 =>
                  intro u hSu
                  obtain ⟨⟨s0, s1⟩, s2, s3, s4, s5, s6⟩ := hSu
                  go_simp
                  try with_reducible rfl
                try simp only [Act.put, List.getElem_toArray, List.getElem_cons_succ, List.getElem_cons_zero, List.setIfInBounds_toArray, List.set_cons_zero, List.set_cons_succ]
                refine wpAnyH_ready (rs := [1, 7]) (by kernel_rfl) (by simp) ?_
                refine AllReadyH.cons rfl ?_ (AllReadyH.cons rfl ?_ AllReadyH.nil)
                · intro K hK
                  go_simp
                  refine hK.out _ _ K0 (fun hHeld => ?_)
                  clear hK K
                  try simp only [Act.put, List.getElem_toArray, List.getElem_cons_succ, List.getElem_cons_zero, List.setIfInBounds_toArray, List.set_cons_zero, List.set_cons_succ]
                  refine wpAnyH_ready (rs := [7]) (by kernel_rfl) (by simp) ?_
                  refine AllReadyH.cons rfl (fun K hK => ?_) AllReadyH.nil
                  go_simp
                  refine hK.out _ _ K6 (fun hHeld => ?_)
                  clear hK K
                  try simp only [Act.put, List.getElem_toArray, List.getElem_cons_succ, List.getElem_cons_zero, List.setIfInBounds_toArray, List.set_cons_zero, List.set_cons_succ]
                  refine wpAnyH_ready (rs := [8]) (by kernel_rfl) (by simp) ?_
                  refine AllReadyH.cons rfl (fun K hK => ?_) AllReadyH.nil
                  refine Lib.wp_append_run _ _ _ _ _ rfl v' (.slice (some ⟨wr.heap.size, 0, none⟩) 1 1) rfl rfl _ _ hr7 ?_
                  refine hK.out _ _ K7 (fun hHeld => ?_)
                  clear hK K
                  try simp only [Act.put, List.getElem_toArray, List.getElem_cons_succ, List.getElem_cons_zero, List.setIfInBounds_toArray, List.set_cons_zero, List.set_cons_succ]
                  refine wpAnyH_take (i := 9) (v := ?ravv9) rfl (by kernel_rfl) (by kernel_rfl) (by kernel_rfl) (fun _ _ _ h => h) (Or.inl ⟨by rfl, ?rahy9⟩) (by assumption) ?rarest9
                  case rahy9 =>
                    intro u hSu
                    obtain ⟨⟨s0, s1⟩, s2, s3, s4, s5, s6⟩ := hSu
                    go_simp
                    try with_reducible rfl
                  try simp only [Act.put, List.getElem_toArray, List.getElem_cons_succ, List.getElem_cons_zero, List.setIfInBounds_toArray, List.set_cons_zero, List.set_cons_succ]
                  refine wpAnyH_ready (rs := [10]) (by kernel_rfl) (by simp) ?_
                  refine AllReadyH.cons rfl (fun K hK => ?_) AllReadyH.nil
                  go_simp
                  refine hK.out _ _ K8 (fun hHeld => ?_)
                  clear hK K
                  try simp only [Act.put, List.getElem_toArray, List.getElem_cons_succ, List.getElem_cons_zero, List.setIfInBounds_toArray, List.set_cons_zero, List.set_cons_succ]
                  refine wpAnyH_done (by kernel_rfl) ?_ _
                  clear K0 K6 K7 K8 hr7 hHeld
                  go_wp2_with fail
                  go_roundw
                  case rel => exact ⟨k2 + 1, by omega, by go_num, _, _, HJ8⟩
                  case measure => simp [intOf]; omega
                · intro K hK
                  go_simp
                  refine hK.out _ _ K6 (fun hHeld => ?_)
                  clear hK K
                  try simp only [Act.put, List.getElem_toArray, List.getElem_cons_succ, List.getElem_cons_zero, List.setIfInBounds_toArray, List.set_cons_zero, List.set_cons_succ]
                  refine wpAnyH_ready (rs := [1]) (by kernel_rfl) (by simp) ?_
                  refine AllReadyH.cons rfl (fun K hK => ?_) AllReadyH.nil
                  go_simp
                  refine hK.out _ _ K6 (fun hHeld => ?_)
                  clear hK K
                  try simp only [Act.put, List.getElem_toArray, List.getElem_cons_succ, List.getElem_cons_zero, List.setIfInBounds_toArray, List.set_cons_zero, List.set_cons_succ]
                  refine wpAnyH_ready (rs := [8]) (by kernel_rfl) (by simp) ?_
                  refine AllReadyH.cons rfl (fun K hK => ?_) AllReadyH.nil
                  refine Lib.wp_append_run _ _ _ _ _ rfl v' (.slice (some ⟨wr.heap.size, 0, none⟩) 1 1) rfl rfl _ _ hr7 ?_
                  refine hK.out _ _ K7 (fun hHeld => ?_)
                  clear hK K
                  try simp only [Act.put, List.getElem_toArray, List.getElem_cons_succ, List.getElem_cons_zero, List.setIfInBounds_toArray, List.set_cons_zero, List.set_cons_succ]
                  refine wpAnyH_take (i := 9) (v := ?rbvv9) rfl (by kernel_rfl) (by kernel_rfl) (by kernel_rfl) (fun _ _ _ h => h) (Or.inl ⟨by rfl, ?rbhy9⟩) (by assumption) ?rbrest9
                  case rbhy9 =>
                    intro u hSu
                    obtain ⟨⟨s0, s1⟩, s2, s3, s4, s5, s6⟩ := hSu
                    go_simp
                    try with_reducible rfl
                  try simp only [Act.put, List.getElem_toArray, List.getElem_cons_succ, List.getElem_cons_zero, List.setIfInBounds_toArray, List.set_cons_zero, List.set_cons_succ]
                  refine wpAnyH_ready (rs := [10]) (by kernel_rfl) (by simp) ?_
                  refine AllReadyH.cons rfl (fun K hK => ?_) AllReadyH.nil
                  go_simp
                  refine hK.out _ _ K8 (fun hHeld => ?_)
                  clear hK K
                  try simp only [Act.put, List.getElem_toArray, List.getElem_cons_succ, List.getElem_cons_zero, List.setIfInBounds_toArray, List.set_cons_zero, List.set_cons_succ]
                  refine wpAnyH_done (by kernel_rfl) ?_ _
                  clear K0 K6 K7 K8 hr7 hHeld
                  go_wp2_with fail
                  go_roundw
                  case rel => exact ⟨k2 + 1, by omega, by go_num, _, _, HJ8⟩
                  case measure => simp [intOf]; omega
            · obtain rfl : k2 = ln := by omega
              have J2 := J.out
              rw [List.take_of_length_le (by omega)] at J2
              obtain ⟨a1, cc1, rfl, _⟩ := owns_le J2.O
              obtain ⟨a2, cc2, rfl, _⟩ := owns_le J2.E
              have d6 := J2.Y.lt
              have f0 := J2.Y.frozen 0
              have f1 := J2.Y.frozen 1
              have g0 := J2.Y.cell 0
              have g1 := J2.Y.cell 1
              have hpp := J2.hp
              have FF := Lib.hid (rem_post (G := G) J2)
              have HZ := (J2.Y.set_ 0 (.slice a1 n cc1)).set_ 1 (.slice a2 n' cc2)
              clear J J2
              go_wp2_with fail
              obtain ⟨zz0, zz1⟩ := two_cells HZ
              exact bodyPost_ret (v := .tuple #[tbV a1 n cc1 a2 n' cc2, .int .i64 0]) (by simp [results, Tryz.results23, go_sem, zz0, zz1]) rfl FF.out
end
end Go.Proofs.YtleggfofgpiabaaGreat.SF
