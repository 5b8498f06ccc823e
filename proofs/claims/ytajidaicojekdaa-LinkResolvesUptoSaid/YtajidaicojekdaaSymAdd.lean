/-
  The reference of layer 13: a module added. Nothing here is a statement of the seed.
-/
import Derived.Test.YtajidaicojekdaaSymCnt
import Derived.Test.YtajidaicojekdaaSymPut
set_option linter.unusedSimpArgs false
set_option linter.unusedVariables false
namespace Go.Proofs.Ytajidaicojekdaa.SF
open Go.RowKit WM NR OM OR SM SR
set_option maxHeartbeats 4000000
set_option maxRecDepth 10000
theorem reads_there {G : Nat → Prop} {w : World} {v : Value} {l : List En} (h : ReadsE G w v l) : ReadsE (fun g => G g ∧ g < w.heap.size) w v l := by
  obtain ⟨a, cap, e, h1, h2, h3, h4⟩ := h
  refine ⟨a, cap, e, h1, h2, h3, ?_⟩
  rcases h4 with h4 | ⟨g, off, ea, hg, hc⟩
  · exact Or.inl h4
  · by_cases h0 : l = []
    · exact Or.inl h0
    · refine Or.inr ⟨g, off, ea, ⟨hg, ?_⟩, hc⟩
      have hpos := List.length_pos_iff.2 h0
      have x : (eC l)[0]? = some ((eC l)[0]'(by rw [eC_len]; omega)) := List.getElem?_eq_getElem (by rw [eC_len]; omega)
      exact World.block_lt_of_cell? w _ ((hc 0 (by omega)).trans x)
/-- on the way of a new table with entries put in: the old one's box, the result's, the new one's, its modules, its entries -/
structure AJ (G : Nat → Prop) (w : World) (p : Nat) (cs ds : Array Value) (a1 : Option Addr) (n c1 : Nat) (l : List (List UInt8)) (la : Option Addr) (ln lc : Nat) (L : List En) (u : World) : Prop where
  X : Whole u w.heap.size 29 cs
  Y : Whole u (w.heap.size + 1) 29 ds
  Z : Whole u p 29 #[.slice a1 n c1, .slice la ln lc]
  O : u.ownsRow (p + 1) 9 1 (.slice a1 n c1) n (strs l)
  R : ReadsE (fun g => G g ∨ p < g) u (.slice la ln lc) L
  B : Below w.heap.size w u
  hp : w.heap.size + 2 ≤ p
  hG : ∀ g, G g → g < w.heap.size
section
variable {G : Nat → Prop} {w u u' : World} {p : Nat} {cs ds : Array Value} {a1 : Option Addr} {n c1 : Nat} {l : List (List UInt8)} {la : Option Addr} {ln lc : Nat} {L : List En}
theorem AJ.belowS (h : AJ G w p cs ds a1 n c1 l la ln lc L u) (hb : Below u.heap.size u u') : AJ G w p cs ds a1 n c1 l la ln lc L u' :=
  ⟨h.X.belowS hb, h.Y.belowS hb, h.Z.belowS hb, owns_below h.O hb, h.R.keep (fun g _ hg => hb.block g hg), h.B.trans (hb.mono h.B.size), h.hp, h.hG⟩
/-- one entry more -/
theorem AJ.put (h : AJ G w p cs ds a1 n c1 l la ln lc L u) {a : Option Addr} {n2 c : Nat} {L2 : List En} (hb : Below u.heap.size u u') (hr : ReadsE (u.heap.size ≤ ·) u' (.slice a n2 c) L2) : AJ G w p cs ds a1 n c1 l a n2 c L2 (u'.setCell ⟨p, 1, none⟩ (.slice a n2 c)) := by
  have hp := h.hp
  have hz := h.Z.lt
  have k := h.belowS hb
  refine ⟨Whole.far k.X (p := ⟨p, 1, none⟩) (show w.heap.size ≠ p by omega) _, Whole.far k.Y (p := ⟨p, 1, none⟩) (show w.heap.size + 1 ≠ p by omega) _, Whole.set_ k.Z 1 _, owns_set k.O (by omega) _, ?_, k.B.setCell (show w.heap.size ≤ p by omega) _, hp, h.hG⟩
  exact (hr.mono (G' := fun g => G g ∨ p < g) fun g hg => Or.inr (by omega)).keep fun g hg _ => Below.heap_setCell _ _ _ _ (show g ≠ p from hg.elim (fun h1 => by have := h.hG g h1; omega) (fun h1 => by omega))
theorem add_post (h : AJ G w p cs ds a1 n c1 l la ln lc L u) : IsT G ⟨l, L⟩ 0 w (.returned (.tuple #[tbV a1 n c1 la ln lc, .int .i64 0])) ((u.setCell ⟨w.heap.size + 1, 0, none⟩ (.slice a1 n c1)).setCell ⟨w.heap.size + 1, 1, none⟩ (.slice la ln lc)) := by
  have hp := h.hp
  have hO := owns_set (b := w.heap.size + 1) (i := 1) (owns_set (b := w.heap.size + 1) (i := 0) h.O (by omega) (.slice a1 n c1)) (by omega) (.slice la ln lc)
  have hR := (reads_there h.R).keep (w' := (u.setCell ⟨w.heap.size + 1, 0, none⟩ (.slice a1 n c1)).setCell ⟨w.heap.size + 1, 1, none⟩ (.slice la ln lc)) fun g hg _ => by
    have hne : g ≠ w.heap.size + 1 := hg.1.elim (fun h1 => by have := h.hG g h1; omega) (fun h1 => by omega)
    exact (Below.heap_setCell _ _ _ _ hne).trans (Below.heap_setCell _ _ _ _ hne)
  refine ⟨_, _, _, _, _, _, rfl, ⟨?_, ?_⟩, (h.B.setCell (by simp) _).setCell (by simp) _⟩
  · exact (Reads.of_owns hO).mono fun g hg => ⟨Or.inr (by omega), (owns_lt hO hg.2).2⟩
  · exact (reads_there hR).mono fun g hg => ⟨hg.1.1.elim Or.inl fun h1 => Or.inr (by omega), hg.2⟩
end
theorem any_take (f : List UInt8 → Bool) (l : List (List UInt8)) (k : Nat) (h : k < l.length) : (l.take (k + 1)).any f = ((l.take k).any f || f (l.getD k [])) := by
  rw [take_succ_getD l [] k h, List.any_append]
  simp only [List.any_cons, List.any_nil, Bool.or_false]
section
variable {w : World} {ma : Option Addr} {mn mc : Nat} {la : Option Addr} {ln lc : Nat} {t : Tb} {na : Option Addr} {nn nc : Nat} {xs : List (List UInt8)}
theorem refAdd_any {G : Nat → Prop} (h0 : RdT G w ma mn mc la ln lc t) (hG : ∀ g, G g → g < w.heap.size) (hx : Reads (· < w.heap.size) w (.slice na nn nc) (strs xs)) (hbd : mn ≤ 90000 ∧ ln ≤ 90000) (hL : ∀ e ∈ t.L, e.nm.length ≤ 2097152) (m : List UInt8) (hm : m.length ≤ 2097152) (hxs : ∀ x ∈ xs, x.length ≤ 2097152) (g : Int) (hg : -9223372036854775808 ≤ g ∧ g ≤ 9223372036854775807) :
    Calls Try.prog 12 #[tbV ma mn mc la ln lc, .string (bs m), .int .i64 g, .slice na nn nc] w (IsT G (addM t m g xs).1 (addM t m g xs).2 w) := by
  have h := h0.mono hG
  have HT0 := Lib.hid (And.intro h0 hG)
  obtain ⟨lm, ll, _, _⟩ := h.lens
  obtain ⟨hb1, hb2⟩ := hbd
  obtain ⟨n1, n2, n3⟩ := reads_len hx
  rw [strs_len] at n1
  unfold maxLen at n3
  have hn3 : (nn : Int) ≤ 9223372036854775807 := by omega
  have q2 : (nn : Int) ≤ nc := by omega
  have JJ := Lib.hid (TJ.new w (tbC ma mn mc la ln lc) #[.slice none 0 0, .slice none 0 0])
  have C0 : Hid (NF.Says Try.prog 35 #[.string (bs m)] (.int .i64 (NM.chk m))) := Lib.hid (NF.refCheckS (bs m) (by show (NM.bs m).size ≤ 2097152; rw [NM.bs_size]; exact hm) (NM.chk m) rfl)
  have CK : Hid (∀ k, k < nn → NF.Says Try.prog 35 #[.string (bs (xs.getD k []))] (.int .i64 (NM.chk (xs.getD k [])))) := Lib.hid (fun k hk => NF.refCheckS (bs (xs.getD k [])) (by
    show (NM.bs (xs.getD k [])).size ≤ 2097152
    rw [NM.bs_size]
    refine hxs _ ?_
    rw [List.getD_eq_getElem?_getD, List.getElem?_eq_getElem (by omega)]
    exact List.getElem_mem _) _ rfl)
  have CH := Lib.hid (fun (u : World) (hb : Below w.heap.size w u) => refHas_any (h.go hb hb.size) m)
  have CP := Lib.hid (fun (u : World) (hb : Below w.heap.size w u) (s : List UInt8) => refPlace_any (h.go hb hb.size) s)
  have RE : Hid (∀ k, k < nn → ∀ u, Below w.heap.size w u → ∃ g off, na = some ⟨g, off, none⟩ ∧ u.cell? ⟨g, off + k, none⟩ = some (.string (bs (xs.getD k [])))) := Lib.hid (fun k hk u hu => by
    obtain ⟨g', off', e2, _, e3⟩ := reads_at hx hu hk
    rw [strs_at (by omega)] at e3
    exact ⟨g', off', e2, e3⟩)
  have HT := Lib.hid h
  have HLL := Lib.hid hL
  have HXS := Lib.hid hxs
  have HN1 := Lib.hid n1
  obtain ⟨T, hT⟩ : ∃ T, T = addM t m g xs := ⟨_, rfl⟩
  rw [← hT]
  have HTT := Lib.hid hT
  clear hT h hx hL hm hxs n2 n3 h0 hG
  go_enter Try.func12, Try.ntmps12
  go_upto_region 1 with fail
  generalize (w.alloc (.cells (tbC ma mn mc la ln lc) 29)).alloc (.cells #[.slice none 0 0, .slice none 0 0] 29) = W at *
  obtain ⟨M0, hM0⟩ : ∃ M0, M0 = NM.chk m := ⟨_, rfl⟩
  rw [← hM0] at C0
  have HM0 := Lib.hid hM0
  clear hM0
  by_cases hc0 : M0 = 0
  case neg =>
    have hc0' : (M0 != 0) = true := by simpa using hc0
    have JP := Lib.hid (fun (u : World) (hb : Below W.heap.size W u) => JJ.out.belowS hb)
    go_upto_region 2 with (go_at_call 35; (with_reducible refine (C0.out.at _).mono ?_); rintro e w1 ⟨rfl, hb⟩; have J1 := Lib.hid (JJ.out.belowS hb); clear hb)
    obtain ⟨c0, c1⟩ := two_cells J1.out.X
    have c6 := J1.out.X.lt
    obtain ⟨d0, d1⟩ := two_cells J1.out.Y
    have d6 := J1.out.Y.lt
    have f0 := J1.out.Y.frozen 0
    have f1 := J1.out.Y.frozen 1
    have HZ := (J1.out.Y.set_ 0 (.slice ma mn mc)).set_ 1 (.slice la ln lc)
    have FF : Hid (IsT G T.1 T.2 w (.returned (.tuple #[tbV ma mn mc la ln lc, .int .i64 6])) ((w1.setCell ⟨w.heap.size + 1, 0, none⟩ (.slice ma mn mc)).setCell ⟨w.heap.size + 1, 1, none⟩ (.slice la ln lc))) := Lib.hid (by
      have e1 : T = (t, 6) := by
        rw [HTT.out]
        unfold addM
        rw [if_pos (Or.inl (by rw [← HM0.out]; exact hc0))]
      rw [e1]
      exact ist_same HT0.out ((J1.out.B.setCell (by simp) _).setCell (by simp) _))
    clear HTT HT HLL HXS CP CH CK RE
    go_wp2_with fail
    obtain ⟨zz0, zz1⟩ := two_cells HZ
    exact bodyPost_ret (v := .tuple #[tbV ma mn mc la ln lc, .int .i64 6]) (by simp [results, Try.results12, go_sem, zz0, zz1]) rfl FF.out
  subst hc0
  go_upto_region 3 with (go_at_call 35; (with_reducible refine (C0.out.at _).mono ?_); rintro e w1 ⟨rfl, hb⟩; have J1 := Lib.hid (JJ.out.belowS hb); clear hb)
  go_wp2_with fail
  go_loopw [10, 11] (fun tw i wr => ∃ k : Nat, k ≤ nn ∧ i = .int .i64 (k : Int) ∧ (∃ b : Bool, tw = .bool b ∧ Hid (b = dupB (xs.take k))) ∧ Hid (∀ j, j < k → NM.chk (xs.getD j []) = 0) ∧ Hid (TJ w (tbC ma mn mc la ln lc) #[.slice none 0 0, .slice none 0 0] wr)) (fun _ i _ => nn - (intOf i).toNat)
  case atStart => exact ⟨0, by omega, rfl, ⟨false, rfl, Lib.hid rfl⟩, Lib.hid (fun j hj => by omega), J1⟩
  case round =>
    obtain ⟨k, hk, rfl, ⟨b, rfl, hb⟩, hp, J⟩ := hrel
    clear J1 JJ
    by_cases hlt : k < nn
    · have hlt' : (k : Int) < nn := by omega
      have kl : k < xs.length := by omega
      obtain ⟨q, off, rfl, e1⟩ := RE.out k hlt wr J.out.B
      have CC := Lib.hid (CK.out k hlt)
      obtain ⟨M1, hM1⟩ : ∃ M1, M1 = NM.chk (xs.getD k []) := ⟨_, rfl⟩
      rw [← hM1] at CC
      have HM1 := Lib.hid hM1
      clear hM1
      by_cases hc1 : M1 = 0
      case neg =>
        have hc1' : (M1 != 0) = true := by simpa using hc1
        generalize bs (xs.getD k []) = y at *
        go_upto_region 8 with (go_at_call 35; (with_reducible refine (CC.out.at _).mono ?_); rintro e w2 ⟨rfl, hb⟩; have J2 := Lib.hid (J.out.belowS hb); clear hb)
        obtain ⟨c0, c1⟩ := two_cells J2.out.X
        have c6 := J2.out.X.lt
        obtain ⟨d0, d1⟩ := two_cells J2.out.Y
        have d6 := J2.out.Y.lt
        have f0 := J2.out.Y.frozen 0
        have f1 := J2.out.Y.frozen 1
        have HZ := (J2.out.Y.set_ 0 (.slice ma mn mc)).set_ 1 (.slice la ln lc)
        have FF : Hid (IsT G T.1 T.2 w (.returned (.tuple #[tbV ma mn mc la ln lc, .int .i64 6])) ((w2.setCell ⟨w.heap.size + 1, 0, none⟩ (.slice ma mn mc)).setCell ⟨w.heap.size + 1, 1, none⟩ (.slice la ln lc))) := Lib.hid (by
          have e1 : T = (t, 6) := by
            rw [HTT.out]
            unfold addM
            rw [if_pos (Or.inr ⟨xs.getD k [], by rw [List.getD_eq_getElem?_getD, List.getElem?_eq_getElem kl]; exact List.getElem_mem kl, by rw [← HM1.out]; exact hc1⟩)]
          rw [e1]
          exact ist_same HT0.out ((J2.out.B.setCell (by simp) _).setCell (by simp) _))
        clear HTT HT HLL HXS CP CH CK RE J hp hb HM1 e1
        go_wp2_with fail
        obtain ⟨zz0, zz1⟩ := two_cells HZ
        exact bodyPost_ret (v := .tuple #[tbV ma mn mc la ln lc, .int .i64 6]) (by simp [results, Try.results12, go_sem, zz0, zz1]) rfl FF.out
      subst hc1
      have hp2 := Lib.hid (fun j (hj : j < k + 1) => if h : j < k then hp.out j h else by rw [show j = k by omega]; exact HM1.out.symm)
      clear hp HM1
      generalize hY : bs (xs.getD k []) = y at *
      go_upto_region 9 with (go_at_call 35; (with_reducible refine (CC.out.at _).mono ?_); rintro e w2 ⟨rfl, hb⟩; have J2 := Lib.hid (J.out.belowS hb); clear hb)
      clear e1 J
      go_wp2_with fail
      go_loopw [10, 12] (fun tw i wr => ∃ k2 : Nat, k2 ≤ k ∧ i = .int .i64 (k2 : Int) ∧ (∃ b2 : Bool, tw = .bool b2 ∧ Hid (b2 = (dupB (xs.take k) || decide (xs.getD k [] ∈ xs.take k2)))) ∧ Hid (TJ w (tbC ma mn mc la ln lc) #[.slice none 0 0, .slice none 0 0] wr)) (fun _ i _ => k - (intOf i).toNat)
      case atStart => exact ⟨0, by omega, rfl, ⟨b, rfl, Lib.hid (by rw [hb.out]; simp)⟩, J2⟩
      case round =>
        obtain ⟨k2, hk2, rfl, ⟨b2, rfl, hb2⟩, J⟩ := hrel
        clear J2
        by_cases hlt2 : k2 < k
        · have hlt2' : (k2 : Int) < k := by omega
          have hlt3 : (k2 : Int) < nn := by omega
          have kl2 : k2 < xs.length := by omega
          obtain ⟨q2', off2, e0, e1⟩ := RE.out k hlt wr J.out.B
          simp only [Option.some.injEq, Addr.mk.injEq, and_true] at e0
          obtain ⟨rfl, rfl⟩ := e0
          obtain ⟨q3, off3, e0, e2⟩ := RE.out k2 (by omega) wr J.out.B
          simp only [Option.some.injEq, Addr.mk.injEq, and_true] at e0
          obtain ⟨rfl, rfl⟩ := e0
          rw [hY] at e1
          have hms := mem_take_succ xs [] k2 kl2 (xs.getD k [])
          cases b2
          case true =>
            have hb3 : Hid (true = (dupB (xs.take k) || decide (xs.getD k [] ∈ xs.take (k2 + 1)))) := Lib.hid (by
              have hor := hb2.out.symm
              rw [Bool.or_eq_true] at hor
              rcases hor with h1 | h1
              · rw [h1]; rfl
              · rw [decide_eq_true (hms.2 (Or.inl (of_decide_eq_true h1))), Bool.or_true])
            clear hb2 hms hb
            go_upto_region 12 with fail
            go_quiet (fail)
            go_wp2_with fail
            go_roundw
            case rel => exact ⟨k2 + 1, by omega, by go_num, ⟨true, rfl, hb3⟩, Lib.hid (J.out.belowS (below_drewN (Below.refl _ _) _))⟩
            case measure => simp [intOf]; omega
          case false =>
            by_cases e : xs.getD k [] = xs.getD k2 []
            · have hb3 : Hid (true = (dupB (xs.take k) || decide (xs.getD k [] ∈ xs.take (k2 + 1)))) := Lib.hid (by rw [decide_eq_true (hms.2 (Or.inr e)), Bool.or_true])
              have exx : (y.toList == y.toList) = true := by simp
              rw [← e, hY] at e2
              clear hb2 hms hb e
              go_upto_region 12 with fail
              go_quiet (fail)
              go_wp2_with fail
              go_roundw
              case rel => exact ⟨k2 + 1, by omega, by go_num, ⟨true, by first | rfl | simp [exx], hb3⟩, Lib.hid (J.out.belowS (below_drewN (Below.refl _ _) _))⟩
              case measure => simp [intOf]; omega
            · have hb3 : Hid (false = (dupB (xs.take k) || decide (xs.getD k [] ∈ xs.take (k2 + 1)))) := Lib.hid (by
                obtain ⟨h1, h2⟩ := (Bool.or_eq_false_iff).1 hb2.out.symm
                rw [h1, Bool.false_or]
                exact (decide_eq_false fun h => (hms.1 h).elim (fun h => of_decide_eq_false h2 h) e).symm)
              have exy : (y.toList == (bs (xs.getD k2 [])).toList) = false := by rw [← hY, bs_toList, bs_toList]; simpa using e
              clear hb2 hms hb e
              generalize bs (xs.getD k2 []) = y2 at *
              go_upto_region 12 with fail
              go_quiet (fail)
              go_wp2_with fail
              go_roundw
              case rel => exact ⟨k2 + 1, by omega, by go_num, ⟨false, by first | rfl | simp [exy], hb3⟩, Lib.hid (J.out.belowS (below_drewN (Below.refl _ _) _))⟩
              case measure => simp [intOf]; omega
        · obtain rfl : k2 = k := by omega
          have hb3 := Lib.hid (hb2.out.trans (dupB_take xs k2 kl).symm)
          clear hb2 hb
          go_wp2_with fail
          go_roundw
          case rel => exact ⟨k2 + 1, by omega, by go_num, ⟨b2, rfl, hb3⟩, hp2, J⟩
          case measure => simp [intOf]; omega
    · obtain rfl : k = nn := by omega
      have hall : Hid (¬ (NM.chk m ≠ 0 ∨ ∃ x ∈ xs, NM.chk x ≠ 0)) := Lib.hid (by
        rintro (h1 | ⟨x, h1, h2⟩)
        · exact h1 HM0.out.symm
        · obtain ⟨j, hj, rfl⟩ := List.mem_iff_getElem.1 h1
          have h3 := hp.out j (by omega)
          rw [List.getD_eq_getElem?_getD, List.getElem?_eq_getElem hj] at h3
          exact h2 h3)
      have hb' := hb.out
      rw [List.take_of_length_le (by omega)] at hb'
      have HB0 := Lib.hid hb'
      clear hb hb' hp
      by_cases g1 : g < 0
      · obtain ⟨c0, c1⟩ := two_cells J.out.X
        have c6 := J.out.X.lt
        obtain ⟨d0, d1⟩ := two_cells J.out.Y
        have d6 := J.out.Y.lt
        have f0 := J.out.Y.frozen 0
        have f1 := J.out.Y.frozen 1
        have HZ := (J.out.Y.set_ 0 (.slice ma mn mc)).set_ 1 (.slice la ln lc)
        have FF : Hid (IsT G T.1 T.2 w (.returned (.tuple #[tbV ma mn mc la ln lc, .int .i64 2])) ((wr.setCell ⟨w.heap.size + 1, 0, none⟩ (.slice ma mn mc)).setCell ⟨w.heap.size + 1, 1, none⟩ (.slice la ln lc))) := Lib.hid (by
          have e1 : T = (t, 2) := by
            rw [HTT.out]
            unfold addM
            rw [if_neg hall.out, if_pos (Or.inl g1)]
          rw [e1]
          exact ist_same HT0.out ((J.out.B.setCell (by simp) _).setCell (by simp) _))
        clear HTT HT HLL HXS CP CH CK RE HB0 hall
        go_wp2_with fail
        obtain ⟨zz0, zz1⟩ := two_cells HZ
        exact bodyPost_ret (v := .tuple #[tbV ma mn mc la ln lc, .int .i64 2]) (by simp [results, Try.results12, go_sem, zz0, zz1]) rfl FF.out
      by_cases g2 : 7 < g
      · obtain ⟨c0, c1⟩ := two_cells J.out.X
        have c6 := J.out.X.lt
        obtain ⟨d0, d1⟩ := two_cells J.out.Y
        have d6 := J.out.Y.lt
        have f0 := J.out.Y.frozen 0
        have f1 := J.out.Y.frozen 1
        have HZ := (J.out.Y.set_ 0 (.slice ma mn mc)).set_ 1 (.slice la ln lc)
        have FF : Hid (IsT G T.1 T.2 w (.returned (.tuple #[tbV ma mn mc la ln lc, .int .i64 2])) ((wr.setCell ⟨w.heap.size + 1, 0, none⟩ (.slice ma mn mc)).setCell ⟨w.heap.size + 1, 1, none⟩ (.slice la ln lc))) := Lib.hid (by
          have e1 : T = (t, 2) := by
            rw [HTT.out]
            unfold addM
            rw [if_neg hall.out, if_pos (Or.inr (Or.inl g2))]
          rw [e1]
          exact ist_same HT0.out ((J.out.B.setCell (by simp) _).setCell (by simp) _))
        clear HTT HT HLL HXS CP CH CK RE HB0 hall
        go_wp2_with fail
        obtain ⟨zz0, zz1⟩ := two_cells HZ
        exact bodyPost_ret (v := .tuple #[tbV ma mn mc la ln lc, .int .i64 2]) (by simp [results, Try.results12, go_sem, zz0, zz1]) rfl FF.out
      by_cases g3 : 8 < k
      · have g3' : (8 : Int) < (k : Int) := by omega
        obtain ⟨c0, c1⟩ := two_cells J.out.X
        have c6 := J.out.X.lt
        obtain ⟨d0, d1⟩ := two_cells J.out.Y
        have d6 := J.out.Y.lt
        have f0 := J.out.Y.frozen 0
        have f1 := J.out.Y.frozen 1
        have HZ := (J.out.Y.set_ 0 (.slice ma mn mc)).set_ 1 (.slice la ln lc)
        have FF : Hid (IsT G T.1 T.2 w (.returned (.tuple #[tbV ma mn mc la ln lc, .int .i64 2])) ((wr.setCell ⟨w.heap.size + 1, 0, none⟩ (.slice ma mn mc)).setCell ⟨w.heap.size + 1, 1, none⟩ (.slice la ln lc))) := Lib.hid (by
          have e1 : T = (t, 2) := by
            rw [HTT.out]
            unfold addM
            rw [if_neg hall.out, if_pos (Or.inr (Or.inr (Or.inl (by omega))))]
          rw [e1]
          exact ist_same HT0.out ((J.out.B.setCell (by simp) _).setCell (by simp) _))
        clear HTT HT HLL HXS CP CH CK RE HB0 hall
        go_wp2_with fail
        obtain ⟨zz0, zz1⟩ := two_cells HZ
        exact bodyPost_ret (v := .tuple #[tbV ma mn mc la ln lc, .int .i64 2]) (by simp [results, Try.results12, go_sem, zz0, zz1]) rfl FF.out
      have g3' : ¬ (8 : Int) < (k : Int) := by omega
      cases b
      case true =>
        obtain ⟨c0, c1⟩ := two_cells J.out.X
        have c6 := J.out.X.lt
        obtain ⟨d0, d1⟩ := two_cells J.out.Y
        have d6 := J.out.Y.lt
        have f0 := J.out.Y.frozen 0
        have f1 := J.out.Y.frozen 1
        have HZ := (J.out.Y.set_ 0 (.slice ma mn mc)).set_ 1 (.slice la ln lc)
        have FF : Hid (IsT G T.1 T.2 w (.returned (.tuple #[tbV ma mn mc la ln lc, .int .i64 2])) ((wr.setCell ⟨w.heap.size + 1, 0, none⟩ (.slice ma mn mc)).setCell ⟨w.heap.size + 1, 1, none⟩ (.slice la ln lc))) := Lib.hid (by
          have e1 : T = (t, 2) := by
            rw [HTT.out]
            unfold addM
            rw [if_neg hall.out, if_pos (Or.inr (Or.inr (Or.inr HB0.out.symm)))]
          rw [e1]
          exact ist_same HT0.out ((J.out.B.setCell (by simp) _).setCell (by simp) _))
        clear HTT HT HLL HXS CP CH CK RE HB0 hall
        go_wp2_with fail
        obtain ⟨zz0, zz1⟩ := two_cells HZ
        exact bodyPost_ret (v := .tuple #[tbV ma mn mc la ln lc, .int .i64 2]) (by simp [results, Try.results12, go_sem, zz0, zz1]) rfl FF.out
      have hno2 : Hid (¬ (g < 0 ∨ 7 < g ∨ 8 < xs.length ∨ dupB xs = true)) := Lib.hid (by
        rw [← HB0.out]
        simp
        omega)
      obtain ⟨c0, c1⟩ := two_cells J.out.X
      have c6 := J.out.X.lt
      go_upto_region 16 with (go_at_call 36; (with_reducible refine (CH.out _ J.out.B).mono ?_); rintro e w2 ⟨rfl, hb⟩; have J2 := Lib.hid (J.out.belowS hb); clear hb)
      clear c0 c1 c6 J CH CK HB0
      go_wp2_with fail
      go_loopw [13, 14] (fun th i wr => ∃ k2 : Nat, k2 ≤ k ∧ i = .int .i64 (k2 : Int) ∧ (∃ b2 : Bool, th = .bool b2 ∧ Hid (b2 = (hasM t m || (xs.take k2).any (fun x => decide (0 ≤ plc t.L x))))) ∧ Hid (TJ w (tbC ma mn mc la ln lc) #[.slice none 0 0, .slice none 0 0] wr)) (fun _ i _ => k - (intOf i).toNat)
      case atStart => exact ⟨0, by omega, rfl, ⟨hasM t m, rfl, Lib.hid (by simp)⟩, J2⟩
      case round =>
        obtain ⟨k2, hk2, rfl, ⟨b2, rfl, hb2⟩, J⟩ := hrel
        clear J2
        by_cases hlt2 : k2 < k
        · have hlt2' : (k2 : Int) < k := by omega
          have kl2 : k2 < xs.length := by omega
          have hst := any_take (fun x => decide (0 ≤ plc t.L x)) xs k2 kl2
          have hbd2 : Below wr.heap.size wr wr.drew := (Below.refl _ _).drew
          have J3 := Lib.hid (J.out.belowS hbd2)
          cases b2
          case true =>
            have hb3 : Hid (true = (hasM t m || (xs.take (k2 + 1)).any (fun x => decide (0 ≤ plc t.L x)))) := Lib.hid (by rw [hst, ← Bool.or_assoc, ← hb2.out]; rfl)
            clear hb2 hst
            go_upto_region 19 with fail
            have K0 : wr.drew.cell? ⟨w.heap.size, 0, none⟩ = some (.slice ma mn mc) ∧ wr.drew.cell? ⟨w.heap.size, 1, none⟩ = some (.slice la ln lc) := two_cells J3.out.X
            refine wp_region_held_drew (S := fun u => u.cell? ⟨w.heap.size, 0, none⟩ = some (.slice ma mn mc) ∧ u.cell? ⟨w.heap.size, 1, none⟩ = some (.slice la ln lc)) (by kernel_rfl) K0 (fun hHeld => ?_)
            refine wpAnyH_take (i := 0) (v := ?avv0) rfl (by kernel_rfl) (by kernel_rfl) (by kernel_rfl) (fun _ _ _ h => h) (Or.inl ⟨by rfl, ?ahy0⟩) (by assumption) ?arest0
            case ahy0 =>
              intro u hSu
              obtain ⟨s0, s1⟩ := hSu
              go_simp
              try with_reducible rfl
            try simp only [Act.put, List.getElem_toArray, List.getElem_cons_succ, List.getElem_cons_zero, List.setIfInBounds_toArray, List.set_cons_zero, List.set_cons_succ]
            refine wpAnyH_take (i := 1) (v := ?avv1) rfl (by kernel_rfl) (by kernel_rfl) (by kernel_rfl) (fun _ _ _ h => h) (Or.inl ⟨by rfl, ?ahy1⟩) (by assumption) ?arest1
            case ahy1 =>
              intro u hSu
              obtain ⟨s0, s1⟩ := hSu
              go_simp
              try with_reducible rfl
            try simp only [Act.put, List.getElem_toArray, List.getElem_cons_succ, List.getElem_cons_zero, List.setIfInBounds_toArray, List.set_cons_zero, List.set_cons_succ]
            refine wpAnyH_take (i := 2) (v := undef) rfl (by kernel_rfl) (by kernel_rfl) (by kernel_rfl) (fun _ _ _ h => h) (Or.inr ⟨by rfl, rfl⟩) (by assumption) ?arest2
            try simp only [Act.put, List.getElem_toArray, List.getElem_cons_succ, List.getElem_cons_zero, List.setIfInBounds_toArray, List.set_cons_zero, List.set_cons_succ]
            refine wpAnyH_take (i := 3) (v := undef) rfl (by kernel_rfl) (by kernel_rfl) (by kernel_rfl) (fun _ _ _ h => h) (Or.inr ⟨by rfl, rfl⟩) (by assumption) ?arest3
            try simp only [Act.put, List.getElem_toArray, List.getElem_cons_succ, List.getElem_cons_zero, List.setIfInBounds_toArray, List.set_cons_zero, List.set_cons_succ]
            refine wpAnyH_take (i := 4) (v := undef) rfl (by kernel_rfl) (by kernel_rfl) (by kernel_rfl) (fun _ _ _ h => h) (Or.inr ⟨by rfl, rfl⟩) (by assumption) ?arest4
            try simp only [Act.put, List.getElem_toArray, List.getElem_cons_succ, List.getElem_cons_zero, List.setIfInBounds_toArray, List.set_cons_zero, List.set_cons_succ]
            refine wpAnyH_take (i := 5) (v := undef) rfl (by kernel_rfl) (by kernel_rfl) (by kernel_rfl) (fun _ _ _ h => h) (Or.inr ⟨by rfl, rfl⟩) (by assumption) ?arest5
            try simp only [Act.put, List.getElem_toArray, List.getElem_cons_succ, List.getElem_cons_zero, List.setIfInBounds_toArray, List.set_cons_zero, List.set_cons_succ]
            refine wpAnyH_take (i := 6) (v := undef) rfl (by kernel_rfl) (by kernel_rfl) (by kernel_rfl) (fun _ _ _ h => h) (Or.inr ⟨by rfl, rfl⟩) (by assumption) ?arest6
            try simp only [Act.put, List.getElem_toArray, List.getElem_cons_succ, List.getElem_cons_zero, List.setIfInBounds_toArray, List.set_cons_zero, List.set_cons_succ]
            refine wpAnyH_take (i := 7) (v := undef) rfl (by kernel_rfl) (by kernel_rfl) (by kernel_rfl) (fun _ _ _ h => h) (Or.inr ⟨by rfl, rfl⟩) (by assumption) ?arest7
            try simp only [Act.put, List.getElem_toArray, List.getElem_cons_succ, List.getElem_cons_zero, List.setIfInBounds_toArray, List.set_cons_zero, List.set_cons_succ]
            refine wpAnyH_take (i := 8) (v := undef) rfl (by kernel_rfl) (by kernel_rfl) (by kernel_rfl) (fun _ _ _ h => h) (Or.inr ⟨by rfl, rfl⟩) (by assumption) ?arest8
            try simp only [Act.put, List.getElem_toArray, List.getElem_cons_succ, List.getElem_cons_zero, List.setIfInBounds_toArray, List.set_cons_zero, List.set_cons_succ]
            refine wpAnyH_take (i := 9) (v := ?avv9) rfl (by kernel_rfl) (by kernel_rfl) (by kernel_rfl) (fun _ _ _ h => h) (Or.inl ⟨by rfl, ?ahy9⟩) (by assumption) ?arest9
            case ahy9 =>
              intro u hSu
              obtain ⟨s0, s1⟩ := hSu
              go_simp
              try with_reducible rfl
            try simp only [Act.put, List.getElem_toArray, List.getElem_cons_succ, List.getElem_cons_zero, List.setIfInBounds_toArray, List.set_cons_zero, List.set_cons_succ]
            refine wpAnyH_take (i := 10) (v := ?avv10) rfl (by kernel_rfl) (by kernel_rfl) (by kernel_rfl) (fun _ _ _ h => h) (Or.inl ⟨by rfl, ?ahy10⟩) (by assumption) ?arest10
            case ahy10 =>
              intro u hSu
              obtain ⟨s0, s1⟩ := hSu
              go_simp
              try with_reducible rfl
            try simp only [Act.put, List.getElem_toArray, List.getElem_cons_succ, List.getElem_cons_zero, List.setIfInBounds_toArray, List.set_cons_zero, List.set_cons_succ]
            refine wpAnyH_done (by kernel_rfl) ?_ _
            clear K0
            go_wp2_with fail
            go_roundw
            case rel => exact ⟨k2 + 1, by omega, by go_num, ⟨true, rfl, hb3⟩, J3⟩
            case measure => simp [intOf]; omega
          case false =>
            obtain ⟨q, off, rfl, e1⟩ := RE.out k2 hlt2 wr J.out.B
            have CC := Lib.hid (fun u hb => CP.out u hb (xs.getD k2 []))
            obtain ⟨P, hP⟩ : ∃ P, P = plc t.L (xs.getD k2 []) := ⟨_, rfl⟩
            rw [← hP] at CC
            have hb3 : Hid (decide (0 ≤ P) = (hasM t m || (xs.take (k2 + 1)).any (fun x => decide (0 ≤ plc t.L x)))) := Lib.hid (by rw [hst, ← Bool.or_assoc, ← hb2.out, Bool.false_or, hP])
            have KF : Hid (∀ u, TJ w (tbC ma mn mc (la) ln lc) #[.slice none 0 0, .slice none 0 0] u → (u.cell? ⟨w.heap.size, 0, none⟩ = some (.slice ma mn mc) ∧ u.cell? ⟨w.heap.size, 1, none⟩ = some (.slice la ln lc)) ∧ u.cell? ⟨q, off + k2, none⟩ = some (.string (bs (xs.getD k2 [])))) := Lib.hid (fun u hu => ⟨two_cells hu.X, by
              obtain ⟨q', off', e0, e1⟩ := RE.out k2 hlt2 u hu.B
              simp only [Option.some.injEq, Addr.mk.injEq, and_true] at e0
              obtain ⟨rfl, rfl⟩ := e0
              exact e1⟩)
            have K0 := KF.out _ J3.out
            clear hb2 hst hP e1
            generalize bs (xs.getD k2 []) = y at *
            go_upto_region 19 with fail
            refine wp_region_held_drew (S := fun u => (u.cell? ⟨w.heap.size, 0, none⟩ = some (.slice ma mn mc) ∧ u.cell? ⟨w.heap.size, 1, none⟩ = some (.slice la ln lc)) ∧ u.cell? ⟨q, off + k2, none⟩ = some (.string y)) (by kernel_rfl) K0 (fun hHeld => ?_)
            refine wpAnyH_take (i := 0) (v := ?bvv0) rfl (by kernel_rfl) (by kernel_rfl) (by kernel_rfl) (fun _ _ _ h => h) (Or.inl ⟨by rfl, ?bhy0⟩) (by assumption) ?brest0
            case bhy0 =>
              intro u hSu
              obtain ⟨⟨s0, s1⟩, s2⟩ := hSu
              go_simp
              try with_reducible rfl
            try simp only [Act.put, List.getElem_toArray, List.getElem_cons_succ, List.getElem_cons_zero, List.setIfInBounds_toArray, List.set_cons_zero, List.set_cons_succ]
            refine wpAnyH_take (i := 1) (v := ?bvv1) rfl (by kernel_rfl) (by kernel_rfl) (by kernel_rfl) (fun _ _ _ h => h) (Or.inl ⟨by rfl, ?bhy1⟩) (by assumption) ?brest1
            case bhy1 =>
              intro u hSu
              obtain ⟨⟨s0, s1⟩, s2⟩ := hSu
              go_simp
              try with_reducible rfl
            try simp only [Act.put, List.getElem_toArray, List.getElem_cons_succ, List.getElem_cons_zero, List.setIfInBounds_toArray, List.set_cons_zero, List.set_cons_succ]
            refine wpAnyH_take (i := 2) (v := ?bvv2) rfl (by kernel_rfl) (by kernel_rfl) (by kernel_rfl) (fun _ _ _ h => h) (Or.inl ⟨by rfl, ?bhy2⟩) (by assumption) ?brest2
            case bhy2 =>
              intro u hSu
              obtain ⟨⟨s0, s1⟩, s2⟩ := hSu
              go_simp
              try with_reducible rfl
            try simp only [Act.put, List.getElem_toArray, List.getElem_cons_succ, List.getElem_cons_zero, List.setIfInBounds_toArray, List.set_cons_zero, List.set_cons_succ]
            refine wpAnyH_take (i := 3) (v := ?bvv3) rfl (by kernel_rfl) (by kernel_rfl) (by kernel_rfl) (fun _ _ _ h => h) (Or.inl ⟨by rfl, ?bhy3⟩) (by assumption) ?brest3
            case bhy3 =>
              intro u hSu
              obtain ⟨⟨s0, s1⟩, s2⟩ := hSu
              go_simp
              try with_reducible rfl
            try simp only [Act.put, List.getElem_toArray, List.getElem_cons_succ, List.getElem_cons_zero, List.setIfInBounds_toArray, List.set_cons_zero, List.set_cons_succ]
            refine wpAnyH_take (i := 4) (v := ?bvv4) rfl (by kernel_rfl) (by kernel_rfl) (by kernel_rfl) (fun _ _ _ h => h) (Or.inl ⟨by rfl, ?bhy4⟩) (by assumption) ?brest4
            case bhy4 =>
              intro u hSu
              obtain ⟨⟨s0, s1⟩, s2⟩ := hSu
              go_simp
              try with_reducible rfl
            try simp only [Act.put, List.getElem_toArray, List.getElem_cons_succ, List.getElem_cons_zero, List.setIfInBounds_toArray, List.set_cons_zero, List.set_cons_succ]
            refine wpAnyH_take (i := 5) (v := ?bvv5) rfl (by kernel_rfl) (by kernel_rfl) (by kernel_rfl) (fun _ _ _ h => h) (Or.inl ⟨by rfl, ?bhy5⟩) (by assumption) ?brest5
            case bhy5 =>
              intro u hSu
              obtain ⟨⟨s0, s1⟩, s2⟩ := hSu
              go_simp
              try with_reducible rfl
            try simp only [Act.put, List.getElem_toArray, List.getElem_cons_succ, List.getElem_cons_zero, List.setIfInBounds_toArray, List.set_cons_zero, List.set_cons_succ]
            refine wpAnyH_take (i := 6) (v := ?bvv6) rfl (by kernel_rfl) (by kernel_rfl) (by kernel_rfl) (fun _ _ _ h => h) (Or.inl ⟨by rfl, ?bhy6⟩) (by assumption) ?brest6
            case bhy6 =>
              intro u hSu
              obtain ⟨⟨s0, s1⟩, s2⟩ := hSu
              go_simp
              try with_reducible rfl
            try simp only [Act.put, List.getElem_toArray, List.getElem_cons_succ, List.getElem_cons_zero, List.setIfInBounds_toArray, List.set_cons_zero, List.set_cons_succ]
            refine wpAnyH_ready (rs := [7]) (by kernel_rfl) (by simp) ?_
            refine AllReadyH.cons rfl (fun K hK => ?_) AllReadyH.nil
            (go_simp; go_at_call 37; (with_reducible refine (CC.out _ J3.out.B).mono ?_); rintro e w5 ⟨rfl, hb⟩; have J5 := Lib.hid (J3.out.belowS hb); have K5 := KF.out _ J5.out; clear hb)
            refine hK.out _ _ ?bhS7 (fun hHeld => ?brest7)
            case bhS7 => first | exact K5
            clear hK K
            try simp only [Act.put, List.getElem_toArray, List.getElem_cons_succ, List.getElem_cons_zero, List.setIfInBounds_toArray, List.set_cons_zero, List.set_cons_succ]
            refine wpAnyH_take (i := 8) (v := ?bvv8) rfl (by kernel_rfl) (by kernel_rfl) (by kernel_rfl) (fun _ _ _ h => h) (Or.inl ⟨by rfl, ?bhy8⟩) (by assumption) ?brest8
            case bhy8 =>
              intro u hSu
              obtain ⟨⟨s0, s1⟩, s2⟩ := hSu
              go_simp
              try with_reducible rfl
            try simp only [Act.put, List.getElem_toArray, List.getElem_cons_succ, List.getElem_cons_zero, List.setIfInBounds_toArray, List.set_cons_zero, List.set_cons_succ]
            refine wpAnyH_take (i := 9) (v := ?bvv9) rfl (by kernel_rfl) (by kernel_rfl) (by kernel_rfl) (fun _ _ _ h => h) (Or.inl ⟨by rfl, ?bhy9⟩) (by assumption) ?brest9
            case bhy9 =>
              intro u hSu
              obtain ⟨⟨s0, s1⟩, s2⟩ := hSu
              go_simp
              try with_reducible rfl
            try simp only [Act.put, List.getElem_toArray, List.getElem_cons_succ, List.getElem_cons_zero, List.setIfInBounds_toArray, List.set_cons_zero, List.set_cons_succ]
            refine wpAnyH_take (i := 10) (v := ?bvv10) rfl (by kernel_rfl) (by kernel_rfl) (by kernel_rfl) (fun _ _ _ h => h) (Or.inl ⟨by rfl, ?bhy10⟩) (by assumption) ?brest10
            case bhy10 =>
              intro u hSu
              obtain ⟨⟨s0, s1⟩, s2⟩ := hSu
              go_simp
              try with_reducible rfl
            try simp only [Act.put, List.getElem_toArray, List.getElem_cons_succ, List.getElem_cons_zero, List.setIfInBounds_toArray, List.set_cons_zero, List.set_cons_succ]
            refine wpAnyH_done (by kernel_rfl) ?_ _
            clear K0 K5 KF
            go_wp2_with fail
            go_roundw
            case rel => exact ⟨k2 + 1, by omega, by go_num, ⟨decide (0 ≤ P), by first | rfl | simp, hb3⟩, J5⟩
            case measure => simp [intOf]; omega
        · obtain rfl : k2 = k := by omega
          have hb2' := hb2.out
          rw [List.take_of_length_le (by omega)] at hb2'
          have HB2 := Lib.hid hb2'
          clear hb2 hb2'
          cases b2
          case true =>
            obtain ⟨c0, c1⟩ := two_cells J.out.X
            have c6 := J.out.X.lt
            obtain ⟨d0, d1⟩ := two_cells J.out.Y
            have d6 := J.out.Y.lt
            have f0 := J.out.Y.frozen 0
            have f1 := J.out.Y.frozen 1
            have HZ := (J.out.Y.set_ 0 (.slice ma mn mc)).set_ 1 (.slice la ln lc)
            have FF : Hid (IsT G T.1 T.2 w (.returned (.tuple #[tbV ma mn mc la ln lc, .int .i64 9])) ((wr.setCell ⟨w.heap.size + 1, 0, none⟩ (.slice ma mn mc)).setCell ⟨w.heap.size + 1, 1, none⟩ (.slice la ln lc))) := Lib.hid (by
              have e1 : T = (t, 9) := by
                rw [HTT.out]
                unfold addM
                rw [if_neg hall.out, if_neg hno2.out, if_pos]
                have hor := HB2.out.symm
                rw [Bool.or_eq_true] at hor
                rcases hor with h1 | h1
                · exact Or.inl h1
                · obtain ⟨x, hx, h2⟩ := List.any_eq_true.1 h1
                  exact Or.inr ⟨x, hx, of_decide_eq_true h2⟩
              rw [e1]
              exact ist_same HT0.out ((J.out.B.setCell (by simp) _).setCell (by simp) _))
            clear HTT HT HLL HXS CP RE HB2 hall hno2
            go_wp2_with fail
            obtain ⟨zz0, zz1⟩ := two_cells HZ
            exact bodyPost_ret (v := .tuple #[tbV ma mn mc la ln lc, .int .i64 9]) (by simp [results, Try.results12, go_sem, zz0, zz1]) rfl FF.out
          have hno3 : Hid (¬ (hasM t m = true ∨ ∃ x ∈ xs, 0 ≤ plc t.L x)) := Lib.hid (by
            obtain ⟨h1, h2⟩ := (Bool.or_eq_false_iff).1 HB2.out.symm
            rintro (h3 | ⟨x, h3, h4⟩)
            · rw [h1] at h3; cases h3
            · have := List.any_eq_false.1 h2 x h3
              simp at this
              omega)
          have HTE : Hid (T = (⟨t.mods ++ [m], putAll m g t.L 0 xs⟩, 0)) := Lib.hid (by
            rw [HTT.out]
            unfold addM
            rw [if_neg hall.out, if_neg hno2.out, if_neg hno3.out])
          have g1n : 0 ≤ g ∧ g ≤ 7 := by omega
          have k8 : k2 ≤ 8 := by omega
          clear hno3 HB2 hno2 hall HTT CP C0 HM0
          obtain ⟨c0, c1⟩ := two_cells J.out.X
          have c6 := J.out.X.lt
          go_upto_region 23 with fail
          have bn := below_new wr (.cells (tbC ma mn mc la ln lc) 29)
          have K := J.out.belowS bn
          have hZ := Whole.new wr 29 (tbC ma mn mc la ln lc)
          have hpp := J.out.Y.lt
          have MD := HT.out.md.below K.B
          obtain ⟨v4, u4, hr4, ho4, hg4⟩ := app_str (ty := 23) (u := wr.alloc (.cells (tbC ma mn mc la ln lc) 29)) (B := wr.heap.size + 1) (n := 0) (l := []) (by simp) (owns_nil _ _ _ _) MD (by omega)
          have b4 := below_none hg4
          rw [Nat.zero_add, List.nil_append] at ho4
          have b6 := below_new u4 (.cells #[.string (bs m)] 9)
          have ho6 := owns_below ho4 b6
          have hs4 := b4.size
          have hs6 := b6.size
          have hs0 : (wr.alloc (.cells (tbC ma mn mc la ln lc) 29)).heap.size = wr.heap.size + 1 := by simp
          obtain ⟨v7, u7, hr7, ho7, hg7⟩ := app_str (ty := 23) (B := wr.heap.size + 1) (by omega) ho6 (one_str u4 m 9) (by omega)
          have K6 := (K.belowS b4).belowS b6
          have Z6 := (hZ.belowS b4).belowS b6
          have X7 := whole_kept K6.X hg7 (fun g hg => by have := (owns_lt ho6 hg).1; omega)
          have Y7 := whole_kept K6.Y hg7 (fun g hg => by have := (owns_lt ho6 hg).1; omega)
          have Z7 := whole_kept Z6 hg7 (fun g hg => by have := (owns_lt ho6 hg).1; omega)
          have B7 := below_grown K6.B K6.B.size ho6 (by omega) hg7
          obtain ⟨a7, cc7, rfl, _⟩ := owns_le ho7
          have EN7 := HT0.out.1.en.keep (w' := u7) fun g hg _ => B7.block g (HT0.out.2 g hg)
          have A7 : Hid (AJ G w wr.heap.size (tbC ma mn mc la ln lc) #[.slice none 0 0, .slice none 0 0] a7 (mn + 1) cc7 (t.mods ++ [m]) la ln lc t.L (u7.setCell ⟨wr.heap.size, 0, none⟩ (.slice a7 (mn + 1) cc7))) := Lib.hid ⟨Whole.far X7 (p := ⟨wr.heap.size, 0, none⟩) (show w.heap.size ≠ wr.heap.size by omega) _, Whole.far Y7 (p := ⟨wr.heap.size, 0, none⟩) (show w.heap.size + 1 ≠ wr.heap.size by omega) _, Whole.set_ Z7 0 _, owns_set ho7 (by omega) _, (EN7.keep fun g hg _ => Below.heap_setCell _ _ _ _ (show g ≠ wr.heap.size by have := HT0.out.2 g hg; omega)).mono fun g hg => Or.inl hg, B7.setCell (show w.heap.size ≤ wr.heap.size by omega) _, by omega, HT0.out.2⟩
          obtain ⟨c0', c1'⟩ := two_cells K.X
          have c6' := K.X.lt
          have z0 := Z7.cell 0
          have z6 := Z7.lt
          have zf := Z7.frozen 0
          clear K bn hZ MD ho4 hg4 b4 b6 ho6 ho7 hg7 K6 Z6 X7 Y7 Z7 B7 EN7 c0 c1 c6 J
          go_upto_region 25 with (first | (at_builtin; refine Lib.wpList_append_run _ rfl _ _ _ _ rfl _ _ rfl rfl _ _ hr4 ?_) | (at_builtin; refine Lib.wpList_append_run _ rfl _ _ _ _ rfl _ _ rfl rfl _ _ hr7 ?_))
          clear hr4 hr7 c0' c1' c6' z0 z6 zf hs4 hs6 hs0
          generalize u7.setCell ⟨wr.heap.size, 0, none⟩ (.slice a7 (mn + 1) cc7) = W8 at *
          generalize wr.heap.size = p at *
          go_wp2_with fail
          go_loopw [17] (fun i wr => ∃ k : Nat, k ≤ k2 ∧ i = .int .i64 (k : Int) ∧ ∃ la' lc', Hid (AJ G w p (tbC ma mn mc la ln lc) #[.slice none 0 0, .slice none 0 0] a7 (mn + 1) cc7 (t.mods ++ [m]) la' (ln + k) lc' (putAll m g t.L 0 (xs.take k)) wr)) (fun i _ => k2 - (intOf i).toNat)
          case atStart => exact ⟨0, by omega, rfl, _, _, A7⟩
          case round =>
            obtain ⟨k, hk, rfl, la', lc', A⟩ := hrel
            clear A7
            obtain ⟨z0, z1⟩ := two_cells A.out.Z
            have z6 := A.out.Z.lt
            by_cases hlt4 : k < k2
            · have hlt4' : (k : Int) < k2 := by omega
              have kl4 : k < xs.length := by omega
              obtain ⟨q, off, rfl, e1⟩ := RE.out k hlt4 wr A.out.B
              have hbd4 : Below wr.heap.size wr wr.drew := (Below.refl _ _).drew
              have A4 := Lib.hid (A.out.belowS hbd4)
              have hpt := putAll_take m g t.L xs k kl4
              have hsz : ∀ x ∈ putAll m g t.L 0 (xs.take k), x.nm.length ≤ 2097152 := fun x hx => by
                have h1 := (putAll_perm m g (xs.take k) t.L 0).mem_iff.1 hx
                rcases List.mem_append.1 h1 with h1 | h1
                · exact HXS.out _ (List.take_subset _ _ (news_mem m g _ 0 x h1).1)
                · exact HLL.out x h1
              have hxk : (xs.getD k []).length ≤ 2097152 := by
                refine HXS.out _ ?_
                rw [List.getD_eq_getElem?_getD, List.getElem?_eq_getElem kl4]
                exact List.getElem_mem _
              have CU := Lib.hid (refPut_any (w := wr.drew) ((reads_there A4.out.R).mono fun g hg => hg.2) ⟨xs.getD k [], m, g, (k : Int), 0⟩ hsz hxk (by omega))
              rw [← hpt] at CU
              unfold IsPut at CU
              have KF : Hid (∀ u, Below w.heap.size w u → u.cell? ⟨q, off + k, none⟩ = some (.string (bs (xs.getD k [])))) := Lib.hid (fun u hu => by
                obtain ⟨q', off', e0, e1⟩ := RE.out k hlt4 u hu
                simp only [Option.some.injEq, Addr.mk.injEq, and_true] at e0
                obtain ⟨rfl, rfl⟩ := e0
                exact e1)
              have K0 := KF.out _ A4.out.B
              clear hpt hsz hxk e1
              change Hid (Calls _ _ #[_, .agg #[.string (bs (xs.getD k [])), .string (bs m), .int .i64 g, .int .i64 (k : Int), .int .i64 0]] _ _) at CU
              generalize bs (xs.getD k []) = y at *
              go_upto_region 28 with fail
              refine wp_region_held_drew (S := fun u => u.cell? ⟨q, off + k, none⟩ = some (.string y)) (by kernel_rfl) K0 (fun hHeld => ?_)
              refine wpAnyH_take (i := 0) (v := ?cvv0) rfl (by kernel_rfl) (by kernel_rfl) (by kernel_rfl) (fun _ _ _ h => h) (Or.inl ⟨by rfl, ?chy0⟩) (by assumption) ?crest0
              case chy0 =>
                intro u hSu
                skip
                go_simp
                try with_reducible rfl
              try simp only [Act.put, List.getElem_toArray, List.getElem_cons_succ, List.getElem_cons_zero, List.setIfInBounds_toArray, List.set_cons_zero, List.set_cons_succ]
              refine wpAnyH_take (i := 2) (v := ?cvv2) rfl (by kernel_rfl) (by kernel_rfl) (by kernel_rfl) (fun _ _ _ h => h) (Or.inl ⟨by rfl, ?chy2⟩) (by assumption) ?crest2
              case chy2 =>
                intro u hSu
                skip
                go_simp
                try with_reducible rfl
              try simp only [Act.put, List.getElem_toArray, List.getElem_cons_succ, List.getElem_cons_zero, List.setIfInBounds_toArray, List.set_cons_zero, List.set_cons_succ]
              refine wpAnyH_take (i := 3) (v := ?cvv3) rfl (by kernel_rfl) (by kernel_rfl) (by kernel_rfl) (fun _ _ _ h => h) (Or.inl ⟨by rfl, ?chy3⟩) (by assumption) ?crest3
              case chy3 =>
                intro u hSu
                skip
                go_simp
                try with_reducible rfl
              try simp only [Act.put, List.getElem_toArray, List.getElem_cons_succ, List.getElem_cons_zero, List.setIfInBounds_toArray, List.set_cons_zero, List.set_cons_succ]
              refine wpAnyH_take (i := 4) (v := ?cvv4) rfl (by kernel_rfl) (by kernel_rfl) (by kernel_rfl) (fun _ _ _ h => h) (Or.inl ⟨by rfl, ?chy4⟩) (by assumption) ?crest4
              case chy4 =>
                intro u hSu
                skip
                go_simp
                try with_reducible rfl
              try simp only [Act.put, List.getElem_toArray, List.getElem_cons_succ, List.getElem_cons_zero, List.setIfInBounds_toArray, List.set_cons_zero, List.set_cons_succ]
              refine wpAnyH_take (i := 5) (v := ?cvv5) rfl (by kernel_rfl) (by kernel_rfl) (by kernel_rfl) (fun _ _ _ h => h) (Or.inl ⟨by rfl, ?chy5⟩) (by assumption) ?crest5
              case chy5 =>
                intro u hSu
                skip
                go_simp
                try with_reducible rfl
              try simp only [Act.put, List.getElem_toArray, List.getElem_cons_succ, List.getElem_cons_zero, List.setIfInBounds_toArray, List.set_cons_zero, List.set_cons_succ]
              refine wpAnyH_take (i := 6) (v := ?cvv6) rfl (by kernel_rfl) (by kernel_rfl) (by kernel_rfl) (fun _ _ _ h => h) (Or.inl ⟨by rfl, ?chy6⟩) (by assumption) ?crest6
              case chy6 =>
                intro u hSu
                skip
                go_simp
                try with_reducible rfl
              try simp only [Act.put, List.getElem_toArray, List.getElem_cons_succ, List.getElem_cons_zero, List.setIfInBounds_toArray, List.set_cons_zero, List.set_cons_succ]
              refine wpAnyH_take (i := 7) (v := ?cvv7) rfl (by kernel_rfl) (by kernel_rfl) (by kernel_rfl) (fun _ _ _ h => h) (Or.inl ⟨by rfl, ?chy7⟩) (by assumption) ?crest7
              case chy7 =>
                intro u hSu
                skip
                go_simp
                try with_reducible rfl
              try simp only [Act.put, List.getElem_toArray, List.getElem_cons_succ, List.getElem_cons_zero, List.setIfInBounds_toArray, List.set_cons_zero, List.set_cons_succ]
              refine wpAnyH_take (i := 8) (v := ?cvv8) rfl (by kernel_rfl) (by kernel_rfl) (by kernel_rfl) (fun _ _ _ h => h) (Or.inl ⟨by rfl, ?chy8⟩) (by assumption) ?crest8
              case chy8 =>
                intro u hSu
                skip
                go_simp
                try with_reducible rfl
              try simp only [Act.put, List.getElem_toArray, List.getElem_cons_succ, List.getElem_cons_zero, List.setIfInBounds_toArray, List.set_cons_zero, List.set_cons_succ]
              refine wpAnyH_take (i := 9) (v := ?cvv9) rfl (by kernel_rfl) (by kernel_rfl) (by kernel_rfl) (fun _ _ _ h => h) (Or.inl ⟨by rfl, ?chy9⟩) (by assumption) ?crest9
              case chy9 =>
                intro u hSu
                skip
                go_simp
                try with_reducible rfl
              try simp only [Act.put, List.getElem_toArray, List.getElem_cons_succ, List.getElem_cons_zero, List.setIfInBounds_toArray, List.set_cons_zero, List.set_cons_succ]
              refine wpAnyH_ready (rs := [1]) (by kernel_rfl) (by simp) ?_
              refine AllReadyH.cons rfl (fun K hK => ?_) AllReadyH.nil
              go_simp
              refine hK.out _ _ K0 (fun hHeld => ?_)
              clear hK K
              try simp only [Act.put, List.getElem_toArray, List.getElem_cons_succ, List.getElem_cons_zero, List.setIfInBounds_toArray, List.set_cons_zero, List.set_cons_succ]
              refine wpAnyH_ready (rs := [10]) (by kernel_rfl) (by simp) ?_
              refine AllReadyH.cons rfl (fun K hK => ?_) AllReadyH.nil
              (go_simp; go_at_call 38; (with_reducible refine (CU.out).mono ?_); rintro e w5 ⟨a9, c9, rfl, hr9, hb⟩; have A9 := A4.out.put hb hr9; have A5 := A4.out.belowS hb; have K5 := KF.out _ A5.B; have K9 := KF.out _ A9.B; have HA9 := Lib.hid A9; have z0' := A5.Z.cell 0; have z1' := A5.Z.cell 1; have z6' := A5.Z.lt; have zf' := A5.Z.frozen 1; clear hb hr9 A9 A5)
              refine hK.out _ _ ?dhS10 (fun hHeld => ?drest10)
              case dhS10 => first | exact K9 | exact K5 | exact K0
              clear hK K
              try simp only [Act.put, List.getElem_toArray, List.getElem_cons_succ, List.getElem_cons_zero, List.setIfInBounds_toArray, List.set_cons_zero, List.set_cons_succ]
              refine wpAnyH_take (i := 11) (v := ?dvv11) rfl (by kernel_rfl) (by kernel_rfl) (by kernel_rfl) (fun _ _ _ h => h) (Or.inl ⟨by rfl, ?dhy11⟩) (by assumption) ?drest11
              case dhy11 =>
                intro u hSu
                skip
                go_simp
                try with_reducible rfl
              try simp only [Act.put, List.getElem_toArray, List.getElem_cons_succ, List.getElem_cons_zero, List.setIfInBounds_toArray, List.set_cons_zero, List.set_cons_succ]
              refine wpAnyH_ready (rs := [12]) (by kernel_rfl) (by simp) ?_
              refine AllReadyH.cons rfl (fun K hK => ?_) AllReadyH.nil
              go_simp
              refine hK.out _ _ ?dhS12 (fun hHeld => ?drest12)
              case dhS12 => first | exact K9 | exact K5 | exact K0
              clear hK K
              try simp only [Act.put, List.getElem_toArray, List.getElem_cons_succ, List.getElem_cons_zero, List.setIfInBounds_toArray, List.set_cons_zero, List.set_cons_succ]
              refine wpAnyH_done (by kernel_rfl) ?_ _
              clear K0 K5 K9 z0' z1' z6' zf' KF CU A4 A
              go_wp2_with fail
              go_roundw
              case rel => exact ⟨k + 1, by omega, by go_num, _, _, HA9⟩
              case measure => simp [intOf]; omega
            · obtain rfl : k = k2 := by omega
              have A2 := A.out
              rw [List.take_of_length_le (by omega)] at A2
              have FF := Lib.hid (add_post A2)
              have FF : Hid (IsT G T.1 T.2 w (.returned (.tuple #[tbV a7 (mn + 1) cc7 la' (ln + k) lc', .int .i64 0])) ((wr.setCell ⟨w.heap.size + 1, 0, none⟩ (.slice a7 (mn + 1) cc7)).setCell ⟨w.heap.size + 1, 1, none⟩ (.slice la' (ln + k) lc'))) := Lib.hid (by rw [HTE.out]; exact FF.out)
              have d6 := A2.Y.lt
              have f0 := A2.Y.frozen 0
              have f1 := A2.Y.frozen 1
              have g0 := A2.Y.cell 0
              have g1' := A2.Y.cell 1
              have hpp := A2.hp
              have HZ := (A2.Y.set_ 0 (.slice a7 (mn + 1) cc7)).set_ 1 (.slice la' (ln + k) lc')
              clear A A2 HTE
              go_wp2_with fail
              obtain ⟨zz0, zz1⟩ := two_cells HZ
              exact bodyPost_ret (v := .tuple #[tbV a7 (mn + 1) cc7 la' (ln + k) lc', .int .i64 0]) (by simp [results, Try.results12, go_sem, zz0, zz1]) rfl FF.out
end
end Go.Proofs.Ytajidaicojekdaa.SF
