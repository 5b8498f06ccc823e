/-
  The reference of layer 13: names counted. Nothing here is a statement of the seed.
-/
import Derived.Test.YtleggfofgpiabaaGreatSymRem
set_option linter.unusedSimpArgs false
set_option linter.unusedVariables false
namespace Go.Proofs.YtleggfofgpiabaaGreat.SF
open Go.RowKit WM NR OM OR SM SR
set_option maxHeartbeats 4000000
set_option maxRecDepth 10000
theorem owns_put {u : World} {B g n c i : Nat} {e : TypeId} {size : Nat} {xs : List Value} (h : u.ownsRow B e size (.slice (some ⟨g, 0, none⟩) n c) n xs) (hi : i < n * size) (y : Value) : (u.setCell ⟨g, i, none⟩ y).ownsRow B e size (.slice (some ⟨g, 0, none⟩) n c) n (xs.set i y) := by
  have hl := h.1
  refine ⟨by rw [List.length_set]; exact h.1, ?_⟩
  rcases h.2 with ⟨h0, _⟩ | ⟨g', cap, cur, e1, hg, hh, h3, h4, h5, h6⟩
  · cases h0
  · simp only [Value.slice.injEq, Option.some.injEq, Addr.mk.injEq, and_true, true_and] at e1
    obtain ⟨rfl, rfl⟩ := e1
    refine Or.inr ⟨g, c, cur.setIfInBounds i y, rfl, hg, ?_, h3, h4, by rw [Array.size_setIfInBounds]; exact h5, ?_⟩
    · exact Whole.set_ (g := g) (t := e) (cs := cur) hh i y
    · rw [Array.toList_setIfInBounds, List.take_set, h6]
theorem eC_set : ∀ (l : List En) (k : Nat) (r : Int), k < l.length → (eC l).set (k * 5 + 4) (.int .i64 r) = eC (l.set k { l.getD k e0 with refs := r })
  | [], k, r, h => by simp at h
  | e :: l, 0, r, h => rfl
  | e :: l, k + 1, r, h => by
    have ih := eC_set l k r (by simpa using h)
    have e1 : (k + 1) * 5 + 4 = (k * 5 + 4) + 1 + 1 + 1 + 1 + 1 := by omega
    rw [e1]
    simp only [eC, List.set_cons_succ, List.getD_cons_succ]
    rw [ih]
/-- the table's box and the result's, on the way -/
structure TJ (w : World) (cs ds : Array Value) (u : World) : Prop where
  X : Whole u w.heap.size 30 cs
  Y : Whole u (w.heap.size + 1) 30 ds
  B : Below w.heap.size w u
theorem TJ.belowS {w u u' : World} {cs ds : Array Value} (h : TJ w cs ds u) (hb : Below u.heap.size u u') : TJ w cs ds u' := ⟨h.X.belowS hb, h.Y.belowS hb, h.B.trans (hb.mono h.B.size)⟩
theorem TJ.new (w : World) (cs ds : Array Value) : TJ w cs ds ((w.alloc (.cells cs 30)).alloc (.cells ds 30)) := by
  have b0 := below_new w (.cells cs 30)
  have b1 := below_new (w.alloc (.cells cs 30)) (.cells ds 30)
  have s0 : (w.alloc (.cells cs 30)).heap.size = w.heap.size + 1 := by simp
  have y := Whole.new (w.alloc (.cells cs 30)) 30 ds
  rw [s0] at y
  exact ⟨(Whole.new w _ _).belowS b1, y, b0.trans (b1.mono b0.size)⟩
theorem cnt_split (by_ : Int) (l : List En) (ns : List (List UInt8)) (k : Nat) (hk : k < ns.length) (h0 : (cntF by_ l (ns.take k)).2 = 0) : cntF by_ l ns = cntF by_ (cntF by_ l (ns.take k)).1 (ns.getD k [] :: ns.drop (k + 1)) := by
  have e : ns = ns.take k ++ ns.getD k [] :: ns.drop (k + 1) := by
    rw [List.getD_eq_getElem?_getD, List.getElem?_eq_getElem hk]
    show ns = ns.take k ++ ns[k] :: ns.drop (k + 1)
    rw [← List.drop_eq_getElem_cons hk, List.take_append_drop]
  conv => lhs; rw [e]
  rw [cntF_append, if_pos h0]
theorem cnt_step (by_ : Int) (l : List En) (ns : List (List UInt8)) (k : Nat) (hk : k < ns.length) (h0 : (cntF by_ l (ns.take k)).2 = 0) : cntF by_ l (ns.take (k + 1)) = cntF by_ (cntF by_ l (ns.take k)).1 [ns.getD k []] := by
  rw [take_succ_getD ns [] k hk, cntF_append, if_pos h0]
theorem plc_cnt (by_ : Int) (l : List En) (ns : List (List UInt8)) (s : List UInt8) : plc (cntF by_ l ns).1 s = plc l s := plc_names s (cntF_names by_ ns l)
theorem cnt_len (by_ : Int) (l : List En) (ns : List (List UInt8)) : (cntF by_ l ns).1.length = l.length := by
  have := congrArg List.length (cntF_names by_ ns l)
  simpa using this
theorem cnt_post {G : Nat → Prop} {w u : World} {ma : Option Addr} {mn mc : Nat} {la : Option Addr} {ln lc : Nat} {t : Tb} {a7 : Option Addr} {cc7 : Nat} {l' : List En} {ds : Array Value} (hm : Reads G w (.slice ma mn mc) (strs t.mods)) (hG : ∀ g, G g → g < w.heap.size) (h : TJ w (tbC ma mn mc la ln lc) ds u) (ho : u.ownsRow (w.heap.size + 2) 61 5 (.slice a7 ln cc7) ln (eC l')) :
    IsT G ⟨t.mods, l'⟩ 0 w (.returned (.tuple #[tbV ma mn mc a7 ln cc7, .int .i64 0])) (((u.setCell ⟨w.heap.size, 1, none⟩ (.slice a7 ln cc7)).setCell ⟨w.heap.size + 1, 0, none⟩ (.slice ma mn mc)).setCell ⟨w.heap.size + 1, 1, none⟩ (.slice a7 ln cc7)) := by
  have hO := owns_set (b := w.heap.size + 1) (i := 1) (owns_set (b := w.heap.size + 1) (i := 0) (owns_set (b := w.heap.size) (i := 1) ho (by omega) (.slice a7 ln cc7)) (by omega) (.slice ma mn mc)) (by omega) (.slice a7 ln cc7)
  have hB : Below w.heap.size w (((u.setCell ⟨w.heap.size, 1, none⟩ (.slice a7 ln cc7)).setCell ⟨w.heap.size + 1, 0, none⟩ (.slice ma mn mc)).setCell ⟨w.heap.size + 1, 1, none⟩ (.slice a7 ln cc7)) := ((h.B.setCell (by simp) _).setCell (by simp) _).setCell (by simp) _
  refine ⟨_, _, _, _, _, _, rfl, ⟨(hm.keep fun g hg _ => hB.block g (hG g hg)).mono fun g hg => ⟨Or.inl hg, Nat.lt_of_lt_of_le (hG g hg) hB.size⟩, ?_⟩, hB⟩
  have hl : l'.length = ln := by have := ho.1; rw [eC_len] at this; omega
  subst hl
  exact (ReadsE.of_owns hO).mono fun g hg => ⟨Or.inr (by omega), (owns_lt hO hg.2).2⟩
section
variable {w : World} {ma : Option Addr} {mn mc : Nat} {la : Option Addr} {ln lc : Nat} {t : Tb} {na : Option Addr} {nn nc : Nat} {ns : List (List UInt8)}
theorem refCount_any {G : Nat → Prop} (h0 : RdT G w ma mn mc la ln lc t) (hG : ∀ g, G g → g < w.heap.size) (hr : ∀ e ∈ t.L, 0 ≤ e.refs ∧ e.refs ≤ 8) (hbd : ln ≤ 100000) (by_ : Int) (hby : by_ = 1 ∨ by_ = -1) (hns : Reads (· < w.heap.size) w (.slice na nn nc) (strs ns)) :
    Calls Tryz.prog 24 #[tbV ma mn mc la ln lc, .slice na nn nc, .int .i64 by_] w (IsT G (countM t ns by_).1 (countM t ns by_).2 w) := by
  have h := h0.mono hG
  have HT0 := Lib.hid (And.intro h0 hG)
  obtain ⟨lm, ll, _, _⟩ := h.lens
  obtain ⟨n1, n2, n3⟩ := reads_len hns
  rw [strs_len] at n1
  unfold maxLen at n3
  have hn2 : (ln : Int) ≤ 9223372036854775807 := by omega
  have hn3 : (nn : Int) ≤ 9223372036854775807 := by omega
  have q2 : (nn : Int) ≤ nc := by omega
  have JJ := Lib.hid (TJ.new w (tbC ma mn mc la ln lc) #[.slice none 0 0, .slice none 0 0])
  have C1 := Lib.hid (fun (u : World) (hb : Below w.heap.size w u) (s : List UInt8) => refPlace_any (h.go hb hb.size) s)
  have HT := Lib.hid h
  have HN := Lib.hid hns
  obtain ⟨T, hT⟩ : ∃ T, T = countM t ns by_ := ⟨_, rfl⟩
  rw [← hT]
  have HTT := Lib.hid hT
  have HR := Lib.hid hr
  clear hT h hns n2 n3 hr h0 hG
  go_enter Tryz.func24, Tryz.ntmps24
  go_upto_region 1 with fail
  generalize (w.alloc (.cells (tbC ma mn mc la ln lc) 30)).alloc (.cells #[.slice none 0 0, .slice none 0 0] 30) = W at *
  go_wp2_with fail
  go_loopw [8] (fun i wr => ∃ k : Nat, k ≤ nn ∧ i = .int .i64 (k : Int) ∧ Hid (∀ j, j < k → 0 ≤ plc t.L (ns.getD j [])) ∧ Below W.heap.size W wr) (fun i _ => nn - (intOf i).toNat)
  case atStart => exact ⟨0, by omega, rfl, Lib.hid (fun j hj => by omega), Below.refl _ _⟩
  case round =>
    obtain ⟨k, hk, rfl, hp, hbl⟩ := hrel
    have J := Lib.hid (JJ.out.belowS hbl)
    by_cases hlt : k < nn
    · have hlt' : (k : Int) < nn := by omega
      have kl : k < ns.length := by omega
      have hbd2 : Below wr.heap.size wr wr.drew := (Below.refl _ _).drew
      have J2 := Lib.hid (J.out.belowS hbd2)
      have RE0 : Hid (∃ g off, na = some ⟨g, off, none⟩ ∧ ∀ u, Below w.heap.size w u → u.cell? ⟨g, off + k, none⟩ = some (.string (bs (ns.getD k [])))) := Lib.hid (by
        obtain ⟨g, off, rfl, _, _⟩ := reads_at HN.out (Below.refl _ _) hlt
        refine ⟨g, off, rfl, fun u hu => ?_⟩
        obtain ⟨g', off', e2, _, e3⟩ := reads_at HN.out hu hlt
        simp only [Option.some.injEq, Addr.mk.injEq, and_true] at e2
        obtain ⟨rfl, rfl⟩ := e2
        rw [strs_at kl] at e3
        exact e3)
      obtain ⟨g, off, rfl, RE1⟩ := RE0.out
      have RE := Lib.hid RE1
      have CP := Lib.hid (fun u hb => C1.out u hb (ns.getD k []))
      obtain ⟨P, hP⟩ : ∃ P, P = plc t.L (ns.getD k []) := ⟨_, rfl⟩
      rw [← hP] at CP
      have HP := Lib.hid hP
      clear hP
      have KF : ∀ u, TJ w (tbC ma mn mc la ln lc) #[.slice none 0 0, .slice none 0 0] u → (u.cell? ⟨w.heap.size, 0, none⟩ = some (.slice ma mn mc) ∧ u.cell? ⟨w.heap.size, 1, none⟩ = some (.slice la ln lc)) ∧ u.cell? ⟨g, off + k, none⟩ = some (.string (bs (ns.getD k []))) := fun u hu => ⟨two_cells hu.X, RE.out u hu.B⟩
      have KF := Lib.hid KF
      have K0 := KF.out _ J2.out
      generalize hY : bs (ns.getD k []) = y at *
      go_upto_region 4 with fail
      refine wp_region_held_drew (S := fun u => (u.cell? ⟨w.heap.size, 0, none⟩ = some (.slice ma mn mc) ∧ u.cell? ⟨w.heap.size, 1, none⟩ = some (.slice la ln lc)) ∧ u.cell? ⟨g, off + k, none⟩ = some (.string y)) (by kernel_rfl) K0 (fun hHeld => ?_)
      refine wpAnyH_take (i := 0) (v := ?avv0) rfl (by kernel_rfl) (by kernel_rfl) (by kernel_rfl) (fun _ _ _ h => h) (Or.inl ⟨by rfl, ?ahy0⟩) (by assumption) ?arest0
      case ahy0 =>
        intro u hSu
        obtain ⟨⟨s0, s1⟩, s2⟩ := hSu
        go_simp
        try with_reducible rfl
      try simp only [Act.put, List.getElem_toArray, List.getElem_cons_succ, List.getElem_cons_zero, List.setIfInBounds_toArray, List.set_cons_zero, List.set_cons_succ]
      refine wpAnyH_take (i := 1) (v := ?avv1) rfl (by kernel_rfl) (by kernel_rfl) (by kernel_rfl) (fun _ _ _ h => h) (Or.inl ⟨by rfl, ?ahy1⟩) (by assumption) ?arest1
      case ahy1 =>
        intro u hSu
        obtain ⟨⟨s0, s1⟩, s2⟩ := hSu
        go_simp
        try with_reducible rfl
      try simp only [Act.put, List.getElem_toArray, List.getElem_cons_succ, List.getElem_cons_zero, List.setIfInBounds_toArray, List.set_cons_zero, List.set_cons_succ]
      refine wpAnyH_take (i := 2) (v := ?avv2) rfl (by kernel_rfl) (by kernel_rfl) (by kernel_rfl) (fun _ _ _ h => h) (Or.inl ⟨by rfl, ?ahy2⟩) (by assumption) ?arest2
      case ahy2 =>
        intro u hSu
        obtain ⟨⟨s0, s1⟩, s2⟩ := hSu
        go_simp
        try with_reducible rfl
      try simp only [Act.put, List.getElem_toArray, List.getElem_cons_succ, List.getElem_cons_zero, List.setIfInBounds_toArray, List.set_cons_zero, List.set_cons_succ]
      refine wpAnyH_take (i := 3) (v := ?avv3) rfl (by kernel_rfl) (by kernel_rfl) (by kernel_rfl) (fun _ _ _ h => h) (Or.inl ⟨by rfl, ?ahy3⟩) (by assumption) ?arest3
      case ahy3 =>
        intro u hSu
        obtain ⟨⟨s0, s1⟩, s2⟩ := hSu
        go_simp
        try with_reducible rfl
      try simp only [Act.put, List.getElem_toArray, List.getElem_cons_succ, List.getElem_cons_zero, List.setIfInBounds_toArray, List.set_cons_zero, List.set_cons_succ]
      refine wpAnyH_take (i := 4) (v := ?avv4) rfl (by kernel_rfl) (by kernel_rfl) (by kernel_rfl) (fun _ _ _ h => h) (Or.inl ⟨by rfl, ?ahy4⟩) (by assumption) ?arest4
      case ahy4 =>
        intro u hSu
        obtain ⟨⟨s0, s1⟩, s2⟩ := hSu
        go_simp
        try with_reducible rfl
      try simp only [Act.put, List.getElem_toArray, List.getElem_cons_succ, List.getElem_cons_zero, List.setIfInBounds_toArray, List.set_cons_zero, List.set_cons_succ]
      refine wpAnyH_ready (rs := [5]) (by kernel_rfl) (by simp) ?_
      refine AllReadyH.cons rfl (fun K hK => ?_) AllReadyH.nil
      (go_simp; go_at_call 41; (with_reducible refine (CP.out _ J2.out.B).mono ?_); rintro e w5 ⟨rfl, hb⟩; have J5 := Lib.hid (J2.out.belowS hb); have hbl5 := hbl.trans ((hbd2.trans (hb.mono hbd2.size)).mono hbl.size); have K5 := KF.out _ J5.out; clear hb)
      refine hK.out _ _ ?ahS5 (fun hHeld => ?arest5)
      case ahS5 => first | exact K5
      clear hK K
      try simp only [Act.put, List.getElem_toArray, List.getElem_cons_succ, List.getElem_cons_zero, List.setIfInBounds_toArray, List.set_cons_zero, List.set_cons_succ]
      refine wpAnyH_take (i := 6) (v := ?avv6) rfl (by kernel_rfl) (by kernel_rfl) (by kernel_rfl) (fun _ _ _ h => h) (Or.inl ⟨by rfl, ?ahy6⟩) (by assumption) ?arest6
      case ahy6 =>
        intro u hSu
        obtain ⟨⟨s0, s1⟩, s2⟩ := hSu
        go_simp
        try with_reducible rfl
      try simp only [Act.put, List.getElem_toArray, List.getElem_cons_succ, List.getElem_cons_zero, List.setIfInBounds_toArray, List.set_cons_zero, List.set_cons_succ]
      refine wpAnyH_done (by kernel_rfl) ?_ _
      clear K0 K5 KF
      by_cases hneg : P < 0
      · have FF : Hid (IsT G T.1 T.2 w (.returned (.tuple #[tbV ma mn mc la ln lc, .int .i64 8])) ((w5.setCell ⟨w.heap.size + 1, 0, none⟩ (.slice ma mn mc)).setCell ⟨w.heap.size + 1, 1, none⟩ (.slice la ln lc))) := Lib.hid (by
          have e1 : T = (t, 8) := by
            rw [HTT.out]
            unfold countM
            rw [if_pos]
            refine ⟨ns.getD k [], ?_, by rw [← HP.out]; exact hneg⟩
            rw [List.getD_eq_getElem?_getD, List.getElem?_eq_getElem kl]
            exact List.getElem_mem kl
          rw [e1]
          exact ist_same HT0.out ((J5.out.B.setCell (by simp) _).setCell (by simp) _))
        obtain ⟨c0, c1⟩ := two_cells J5.out.X
        have c6 := J5.out.X.lt
        obtain ⟨d0, d1⟩ := two_cells J5.out.Y
        have d6 := J5.out.Y.lt
        have f0 := J5.out.Y.frozen 0
        have f1 := J5.out.Y.frozen 1
        have HZ := (J5.out.Y.set_ 0 (.slice ma mn mc)).set_ 1 (.slice la ln lc)
        clear HP HR HTT HT hp
        go_wp2_with fail
        obtain ⟨zz0, zz1⟩ := two_cells HZ
        exact bodyPost_ret (v := .tuple #[tbV ma mn mc la ln lc, .int .i64 8]) (by simp [results, Tryz.results24, go_sem, zz0, zz1]) rfl FF.out
      · have hp2 := Lib.hid (fun j (hj : j < k + 1) => if h : j < k then hp.out j h else by rw [show j = k by omega, ← HP.out]; omega)
        clear hp HP HR HTT HT
        go_wp2_with fail
        go_roundw
        case rel => exact ⟨k + 1, by omega, by go_num, hp2, hbl5⟩
        case measure => simp [intOf]; omega
    · obtain rfl : k = nn := by omega
      have hall : Hid (¬ ∃ n ∈ ns, plc t.L n < 0) := Lib.hid (by
        rintro ⟨n, hn, hneg⟩
        obtain ⟨j, hj, rfl⟩ := List.mem_iff_getElem.1 hn
        have h1 := hp.out j (by omega)
        rw [List.getD_eq_getElem?_getD, List.getElem?_eq_getElem hj] at h1
        simp only [Option.getD_some] at h1
        omega)
      obtain ⟨c0, c1⟩ := two_cells J.out.X
      have c6 := J.out.X.lt
      obtain ⟨v7, u7, hr7, ho7, hg7⟩ := app_ent (ty := 28) (u := wr) (B := w.heap.size + 2) (n := 0) (l := []) J.out.Y.lt (owns_nil _ _ _ _) (HT.out.en.below J.out.B) (by omega)
      have b7 := below_none hg7
      have J7 := Lib.hid (J.out.belowS b7)
      rw [Nat.zero_add, List.nil_append] at ho7
      obtain ⟨a7, cc7, rfl, hcap⟩ := owns_le ho7
      have O7 := Lib.hid ho7
      clear hp b7 hg7 ho7 hbl J
      go_wp2_with (at_builtin; refine Lib.wpList_append_run _ rfl _ _ _ _ rfl _ _ rfl rfl _ _ hr7 ?_)
      clear hr7 c0 c1 c6
      go_loopw [10] (fun i wr => ∃ k2 : Nat, k2 ≤ k ∧ i = .int .i64 (k2 : Int) ∧ ∃ l', Hid (cntF by_ t.L (ns.take k2) = (l', 0)) ∧ Hid (∀ e ∈ l', 0 ≤ e.refs ∧ e.refs ≤ 8) ∧ Hid (wr.ownsRow (w.heap.size + 2) 61 5 (.slice a7 ln cc7) ln (eC l')) ∧ Hid (TJ w (tbC ma mn mc la ln lc) #[.slice none 0 0, .slice none 0 0] wr)) (fun i _ => k - (intOf i).toNat)
      case atStart => exact ⟨0, by omega, rfl, t.L, Lib.hid rfl, HR, O7, J7⟩
      case round =>
        obtain ⟨k2, hk2, rfl, l', hc, hb8, O, J⟩ := hrel
        clear O7 J7
        by_cases hlt2 : k2 < k
        · have hlt2' : (k2 : Int) < k := by omega
          have kl : k2 < ns.length := by omega
          have hbd2 : Below wr.heap.size wr wr.drew := (Below.refl _ _).drew
          have J2 := Lib.hid (J.out.belowS hbd2)
          have RE0 : Hid (∃ g off, na = some ⟨g, off, none⟩ ∧ ∀ u, Below w.heap.size w u → u.cell? ⟨g, off + k2, none⟩ = some (.string (bs (ns.getD k2 [])))) := Lib.hid (by
            obtain ⟨g, off, rfl, _, _⟩ := reads_at HN.out (Below.refl _ _) hlt2
            refine ⟨g, off, rfl, fun u hu => ?_⟩
            obtain ⟨g', off', e2, _, e3⟩ := reads_at HN.out hu hlt2
            simp only [Option.some.injEq, Addr.mk.injEq, and_true] at e2
            obtain ⟨rfl, rfl⟩ := e2
            rw [strs_at kl] at e3
            exact e3)
          obtain ⟨g, off, rfl, RE1⟩ := RE0.out
          have RE := Lib.hid RE1
          have hnn : 0 ≤ plc t.L (ns.getD k2 []) := by
            refine Classical.byContradiction fun hh => hall.out ⟨ns.getD k2 [], ?_, by omega⟩
            rw [List.getD_eq_getElem?_getD, List.getElem?_eq_getElem kl]
            exact List.getElem_mem kl
          have hplt := plc_lt t.L (ns.getD k2 [])
          obtain ⟨P, hP⟩ : ∃ P : Nat, plc t.L (ns.getD k2 []) = (P : Int) := ⟨(plc t.L (ns.getD k2 [])).toNat, by omega⟩
          have CP := Lib.hid (fun u hb => C1.out u hb (ns.getD k2 []))
          rw [hP] at CP hplt
          have hPl : P < ln := by omega
          have hPl' : (P : Int) < ln := by omega
          have hll : l'.length = ln := by have := cnt_len by_ t.L (ns.take k2); rw [hc.out] at this; simp only at this; omega
          have hpl : plc l' (ns.getD k2 []) = (P : Int) := by have := plc_cnt by_ t.L (ns.take k2) (ns.getD k2 []); rw [hc.out] at this; rw [this, hP]
          have hsp := cnt_split by_ t.L ns k2 kl (by rw [hc.out])
          have hst := cnt_step by_ t.L ns k2 kl (by rw [hc.out])
          rw [hc.out] at hsp hst
          simp only at hsp hst
          rw [cntF_cons, hpl, Int.toNat_natCast] at hsp hst
          have hm : l'.getD P e0 ∈ l' := by rw [List.getD_eq_getElem?_getD, List.getElem?_eq_getElem (by omega)]; exact List.getElem_mem _
          have he8 := hb8.out _ hm
          obtain ⟨r, hr0⟩ : ∃ r, r = (l'.getD P e0).refs + by_ := ⟨_, rfl⟩
          rw [← hr0] at hsp hst
          have hw : IntKind.i64.wrap ((l'.getD P e0).refs + by_) = r := by rw [IntKind.wrap_i64]; omega
          obtain ⟨x0, x1, x2, x3, x4⟩ := eC_at l' P (by omega)
          have KF : ∀ u, TJ w (tbC ma mn mc la ln lc) #[.slice none 0 0, .slice none 0 0] u → (u.cell? ⟨w.heap.size, 0, none⟩ = some (.slice ma mn mc) ∧ u.cell? ⟨w.heap.size, 1, none⟩ = some (.slice la ln lc)) ∧ u.cell? ⟨g, off + k2, none⟩ = some (.string (bs (ns.getD k2 []))) := fun u hu => ⟨two_cells hu.X, RE.out u hu.B⟩
          have KF := Lib.hid KF
          have K0 := KF.out _ J2.out
          have HSP := Lib.hid hsp
          have HST := Lib.hid hst
          have HH := Lib.hid hr0
          have XX4 := Lib.hid x4
          have HLL := Lib.hid hll
          clear hsp hst hpl hP hplt hnn hm x0 x1 x2 x3 x4 hr0 hll
          have hby8 : Hid (r = (l'.getD P e0).refs + by_) := HH
          generalize hfr : (l'.getD P e0).refs = fr at *
          generalize hY : bs (ns.getD k2 []) = y at *
          go_upto_region 11 with fail
          refine wp_region_held_drew (S := fun u => (u.cell? ⟨w.heap.size, 0, none⟩ = some (.slice ma mn mc) ∧ u.cell? ⟨w.heap.size, 1, none⟩ = some (.slice la ln lc)) ∧ u.cell? ⟨g, off + k2, none⟩ = some (.string y)) (by kernel_rfl) K0 (fun hHeld => ?_)
          refine wpAnyH_take (i := 0) (v := ?bvv0) rfl (by kernel_rfl) (by kernel_rfl) (by kernel_rfl) (fun _ _ _ h => h) (Or.inl ⟨by rfl, ?bhy0⟩) (by assumption) ?brest0
          case bhy0 =>
            intro u hSu
            obtain ⟨⟨s0, s1⟩, s2⟩ := hSu
            go_simp
            try with_reducible rfl
          try simp only [Act.put, List.getElem_toArray, List.getElem_cons_succ, List.getElem_cons_zero, List.setIfInBounds_toArray, List.set_cons_zero, List.set_cons_succ]
          refine wpAnyH_take (i := 1) (v := ?bvv1) rfl (by kernel_rfl) (by kernel_rfl) (by kernel_rfl) (fun _ _ _ h => h) (Or.inl ⟨by rfl, ?bhy1⟩) (by assumption) ?brest1
          case bhy1 =>
            intro u hSu
            obtain ⟨⟨s0, s1⟩, s2⟩ := hSu
            go_simp
            try with_reducible rfl
          try simp only [Act.put, List.getElem_toArray, List.getElem_cons_succ, List.getElem_cons_zero, List.setIfInBounds_toArray, List.set_cons_zero, List.set_cons_succ]
          refine wpAnyH_take (i := 2) (v := ?bvv2) rfl (by kernel_rfl) (by kernel_rfl) (by kernel_rfl) (fun _ _ _ h => h) (Or.inl ⟨by rfl, ?bhy2⟩) (by assumption) ?brest2
          case bhy2 =>
            intro u hSu
            obtain ⟨⟨s0, s1⟩, s2⟩ := hSu
            go_simp
            try with_reducible rfl
          try simp only [Act.put, List.getElem_toArray, List.getElem_cons_succ, List.getElem_cons_zero, List.setIfInBounds_toArray, List.set_cons_zero, List.set_cons_succ]
          refine wpAnyH_take (i := 3) (v := ?bvv3) rfl (by kernel_rfl) (by kernel_rfl) (by kernel_rfl) (fun _ _ _ h => h) (Or.inl ⟨by rfl, ?bhy3⟩) (by assumption) ?brest3
          case bhy3 =>
            intro u hSu
            obtain ⟨⟨s0, s1⟩, s2⟩ := hSu
            go_simp
            try with_reducible rfl
          try simp only [Act.put, List.getElem_toArray, List.getElem_cons_succ, List.getElem_cons_zero, List.setIfInBounds_toArray, List.set_cons_zero, List.set_cons_succ]
          refine wpAnyH_take (i := 4) (v := ?bvv4) rfl (by kernel_rfl) (by kernel_rfl) (by kernel_rfl) (fun _ _ _ h => h) (Or.inl ⟨by rfl, ?bhy4⟩) (by assumption) ?brest4
          case bhy4 =>
            intro u hSu
            obtain ⟨⟨s0, s1⟩, s2⟩ := hSu
            go_simp
            try with_reducible rfl
          try simp only [Act.put, List.getElem_toArray, List.getElem_cons_succ, List.getElem_cons_zero, List.setIfInBounds_toArray, List.set_cons_zero, List.set_cons_succ]
          refine wpAnyH_ready (rs := [5]) (by kernel_rfl) (by simp) ?_
          refine AllReadyH.cons rfl (fun K hK => ?_) AllReadyH.nil
          (go_simp; go_at_call 41; (with_reducible refine (CP.out _ J2.out.B).mono ?_); rintro e w5 ⟨rfl, hb⟩; have J5 := Lib.hid (J2.out.belowS hb); have hb5 := hbd2.trans (hb.mono hbd2.size); have O5 := owns_below O.out hb5; have K5 := KF.out _ J5.out; clear hb)
          refine hK.out _ _ ?bhS5 (fun hHeld => ?brest5)
          case bhS5 => first | exact K5
          clear hK K
          try simp only [Act.put, List.getElem_toArray, List.getElem_cons_succ, List.getElem_cons_zero, List.setIfInBounds_toArray, List.set_cons_zero, List.set_cons_succ]
          refine wpAnyH_take (i := 6) (v := ?bvv6) rfl (by kernel_rfl) (by kernel_rfl) (by kernel_rfl) (fun _ _ _ h => h) (Or.inl ⟨by rfl, ?bhy6⟩) (by assumption) ?brest6
          case bhy6 =>
            intro u hSu
            obtain ⟨⟨s0, s1⟩, s2⟩ := hSu
            go_simp
            try with_reducible rfl
          try simp only [Act.put, List.getElem_toArray, List.getElem_cons_succ, List.getElem_cons_zero, List.setIfInBounds_toArray, List.set_cons_zero, List.set_cons_succ]
          refine wpAnyH_done (by kernel_rfl) ?_ _
          clear K0 K5 KF RE RE0 RE1
          have ha7 : ∃ q, a7 = some ⟨q, 0, none⟩ := by
            rcases O5.2 with ⟨h0, h1⟩ | ⟨q, _, _, e1, _⟩
            · omega
            · simp only [Value.slice.injEq] at e1
              exact ⟨q, e1.1⟩
          obtain ⟨q, rfl⟩ := ha7
          obtain ⟨cur, WQ⟩ := owns_whole O5 (g := q) rfl
          have hq := (owns_lt O5 (g := q) rfl).1
          have r4 : w5.cell? ⟨q, P * 5 + 4, none⟩ = some (.int .i64 fr) := (O5.cellAt _ (by omega)).trans XX4.out
          have rf := WQ.frozen (P * 5 + 4)
          have rl := WQ.lt
          have O6 := owns_put O5 (i := P * 5 + 4) (by omega) (.int .i64 r)
          have W6 := Whole.set_ WQ (P * 5 + 4) (.int .i64 r)
          rw [eC_set l' P r (by rw [HLL.out]; exact hPl)] at O6
          have J6 : Hid (TJ w (tbC ma mn mc la ln lc) #[.slice none 0 0, .slice none 0 0] (w5.setCell ⟨q, P * 5 + 4, none⟩ (.int .i64 r))) := Lib.hid ⟨Whole.far J5.out.X (p := ⟨q, P * 5 + 4, none⟩) (show w.heap.size ≠ q by omega) _, Whole.far J5.out.Y (p := ⟨q, P * 5 + 4, none⟩) (show w.heap.size + 1 ≠ q by omega) _, J5.out.B.setCell (show w.heap.size ≤ q by omega) _⟩
          have cl6 := Lib.hid (O6.cellAt (P * 5 + 4) (by omega))
          rw [(eC_at (l'.set P { l'.getD P e0 with refs := r }) P (by rw [List.length_set, HLL.out]; exact hPl)).2.2.2.2] at cl6
          have hge : ((l'.set P { l'.getD P e0 with refs := r }).getD P e0).refs = r := by rw [List.getD_eq_getElem?_getD, List.getElem?_set_self (by rw [HLL.out]; exact hPl)]; rfl
          rw [hge] at cl6
          have HO6 := Lib.hid O6
          clear O6 hge
          go_upto_region 13 with fail
          clear r4 rf
          generalize w5.setCell ⟨q, P * 5 + 4, none⟩ (.int .i64 r) = w6 at *
          have r4 := cl6.out
          have rl6 := W6.lt
          clear cl6 O5 WQ rl hw J5 hb5 J2
          by_cases h25 : 8 < r
          · rw [if_pos h25] at HSP HST
            have FF : Hid (IsT G T.1 T.2 w (.returned (.tuple #[tbV ma mn mc la ln lc, .int .i64 25])) ((w6.setCell ⟨w.heap.size + 1, 0, none⟩ (.slice ma mn mc)).setCell ⟨w.heap.size + 1, 1, none⟩ (.slice la ln lc))) := Lib.hid (by
              have e1 : T = (t, 25) := by
                rw [HTT.out]
                unfold countM
                rw [if_neg hall.out, HSP.out, if_neg (by simp)]
              rw [e1]
              exact ist_same HT0.out ((J6.out.B.setCell (by simp) _).setCell (by simp) _))
            obtain ⟨c0, c1⟩ := two_cells J6.out.X
            have c6 := J6.out.X.lt
            obtain ⟨d0, d1⟩ := two_cells J6.out.Y
            have d6 := J6.out.Y.lt
            have f0 := J6.out.Y.frozen 0
            have f1 := J6.out.Y.frozen 1
            have HZ := (J6.out.Y.set_ 0 (.slice ma mn mc)).set_ 1 (.slice la ln lc)
            clear HSP HST hc hb8 HR HTT HT HH hby8 XX4 HLL hall HN C1 CP HO6
            go_wp2_with fail
            obtain ⟨zz0, zz1⟩ := two_cells HZ
            exact bodyPost_ret (v := .tuple #[tbV ma mn mc la ln lc, .int .i64 25]) (by simp [results, Tryz.results24, go_sem, zz0, zz1]) rfl FF.out
          · by_cases h2 : r < 0
            · rw [if_neg h25, if_pos h2] at HSP HST
              have FF : Hid (IsT G T.1 T.2 w (.returned (.tuple #[tbV ma mn mc la ln lc, .int .i64 2])) ((w6.setCell ⟨w.heap.size + 1, 0, none⟩ (.slice ma mn mc)).setCell ⟨w.heap.size + 1, 1, none⟩ (.slice la ln lc))) := Lib.hid (by
                have e1 : T = (t, 2) := by
                  rw [HTT.out]
                  unfold countM
                  rw [if_neg hall.out, HSP.out, if_neg (by simp)]
                rw [e1]
                exact ist_same HT0.out ((J6.out.B.setCell (by simp) _).setCell (by simp) _))
              obtain ⟨c0, c1⟩ := two_cells J6.out.X
              have c6 := J6.out.X.lt
              obtain ⟨d0, d1⟩ := two_cells J6.out.Y
              have d6 := J6.out.Y.lt
              have f0 := J6.out.Y.frozen 0
              have f1 := J6.out.Y.frozen 1
              have HZ := (J6.out.Y.set_ 0 (.slice ma mn mc)).set_ 1 (.slice la ln lc)
              clear HSP HST hc hb8 HR HTT HT HH hby8 XX4 HLL hall HN C1 CP HO6
              go_wp2_with fail
              obtain ⟨zz0, zz1⟩ := two_cells HZ
              exact bodyPost_ret (v := .tuple #[tbV ma mn mc la ln lc, .int .i64 2]) (by simp [results, Tryz.results24, go_sem, zz0, zz1]) rfl FF.out
            · rw [if_neg h25, if_neg h2] at HST
              have hb9 : Hid (∀ e ∈ l'.set P { l'.getD P e0 with refs := r }, 0 ≤ e.refs ∧ e.refs ≤ 8) := Lib.hid (fun e he => by
                rcases List.mem_or_eq_of_mem_set he with he | rfl
                · exact hb8.out e he
                · show 0 ≤ r ∧ r ≤ 8
                  omega)
              have HC := Lib.hid (show cntF by_ t.L (ns.take (k2 + 1)) = (l'.set P { l'.getD P e0 with refs := r }, 0) from HST.out)
              clear HSP HST hc hb8 HR HTT HT HH hby8 XX4 HLL hall HN C1 CP
              go_wp2_with fail
              go_roundw
              case rel => exact ⟨k2 + 1, by omega, by go_num, _, HC, hb9, HO6, J6⟩
              case measure => simp [intOf]; omega
        · obtain rfl : k2 = k := by omega
          have e1 : T = (⟨t.mods, l'⟩, 0) := by
            rw [HTT.out]
            unfold countM
            have h1 := hc.out
            rw [List.take_of_length_le (by omega)] at h1
            rw [if_neg hall.out, h1, if_pos rfl]
          have HX := J.out.X
          have HY := J.out.Y
          have FF := Lib.hid (cnt_post (t := t) (ds := #[.slice none 0 0, .slice none 0 0]) HT0.out.1.md HT0.out.2 J.out O.out)
          have FF : Hid (IsT G T.1 T.2 w (.returned (.tuple #[tbV ma mn mc a7 ln cc7, .int .i64 0])) (((wr.setCell ⟨w.heap.size, 1, none⟩ (.slice a7 ln cc7)).setCell ⟨w.heap.size + 1, 0, none⟩ (.slice ma mn mc)).setCell ⟨w.heap.size + 1, 1, none⟩ (.slice a7 ln cc7))) := Lib.hid (by rw [e1]; exact FF.out)
          have d6 := HY.lt
          have f0 := HY.frozen 0
          have f1 := HY.frozen 1
          have g0 := HY.cell 0
          have g1 := HY.cell 1
          have c6 := HX.lt
          have cf := HX.frozen 1
          have c0 := HX.cell 0
          have c1 := HX.cell 1
          have HX2 := HX.set_ 1 (.slice a7 ln cc7)
          have HY2 := Whole.far HY (p := ⟨w.heap.size, 1, none⟩) (show w.heap.size + 1 ≠ w.heap.size by omega) (.slice a7 ln cc7)
          have HZ := (HY2.set_ 0 (.slice ma mn mc)).set_ 1 (.slice a7 ln cc7)
          clear hc hb8 O J HR HTT HT hall HN C1 e1
          go_wp2_with fail
          obtain ⟨zz0, zz1⟩ := two_cells HZ
          exact bodyPost_ret (v := .tuple #[tbV ma mn mc a7 ln cc7, .int .i64 0]) (by simp [results, Tryz.results24, go_sem, zz0, zz1]) rfl FF.out
end
end Go.Proofs.YtleggfofgpiabaaGreat.SF
