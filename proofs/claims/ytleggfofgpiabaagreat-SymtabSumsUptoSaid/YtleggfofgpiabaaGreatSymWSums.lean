/-
  The walk of SymtabSums, over what the program's functions tell. Nothing here is a statement of the seed.
-/
import Derived.Test.YtleggfofgpiabaaGreatSymRun
set_option linter.unusedSimpArgs false
set_option linter.unusedVariables false
namespace Go.Proofs.YtleggfofgpiabaaGreat.WK
open Go.RowKit WM NR OM OR SM SR SF SP
set_option maxHeartbeats 4000000
set_option maxRecDepth 10000
theorem filt_take (l : List En) (m : List UInt8) (k : Nat) (h : k < l.length) : ((l.take (k + 1)).filter (fun x => decide (x.md = m))).length = ((l.take k).filter (fun x => decide (x.md = m))).length + (if (l.getD k e0).md = m then 1 else 0) := by
  rw [take_succ_getD l e0 k h, List.filter_append, List.length_append]
  congr 1
  by_cases e : (l.getD k e0).md = m
  · rw [if_pos e]; simp only [List.filter_cons, e, decide_true, if_true, List.filter_nil, List.length_cons, List.length_nil]
  · rw [if_neg e]; simp only [List.filter_cons, e, decide_false, Bool.false_eq_true, if_false, List.filter_nil, List.length_nil]
section
variable {w : World} {a : Option Addr} {n c : Nat} {l : List Ac}
theorem SymtabSums_walk (h : ReadsA (· < w.heap.size) w (.slice a n c) l) (hs : ∀ x ∈ l, x.nm.length ≤ 2097152 ∧ ∀ s ∈ x.ns, s.length ≤ 2097152) :
    Calls Tryz.prog 6 #[.slice a n c] w fun e w' => e = .returned (.bool true) ∧ Below w.heap.size w w' := by
  obtain ⟨n1, m1, m2⟩ := h.len
  unfold maxLen at m2
  have hn : (n : Int) ≤ 9223372036854775807 := by omega
  have HA := Lib.hid h
  have AW := Lib.hid awake_any
  have HS : Hid (∀ k, k < n → (l.getD k ac0).nm.length ≤ 2097152 ∧ ∀ s ∈ (l.getD k ac0).ns, s.length ≤ 2097152) := Lib.hid (fun k hk => hs _ (by rw [List.getD_eq_getElem?_getD, List.getElem?_eq_getElem (by omega)]; exact List.getElem_mem _))
  have HL := Lib.hid n1
  have q2 : (n : Int) ≤ c := by omega
  have CF := Lib.hid (few_any h)
  clear h hs n1 m2
  go_enter Tryz.func6, Tryz.ntmps6
  cases hf : fewB l with
  | false =>
    rw [hf] at CF
    clear HA HS hf
    go_wp2_with (first | (go_at_call 8; (with_reducible refine CF.out.mono ?_); rintro e w1 ⟨rfl, hb1⟩) | (go_at_call 9; (with_reducible refine (AW.out _).mono ?_); rintro e w2 ⟨rfl, hb2⟩))
    go_ret
    exact ⟨rfl, hb1.trans (hb2.mono hb1.size)⟩
  | true =>
  rw [hf] at CF
  have HS3 : Hid (∀ k, k < n → (l.getD k ac0).ns.length ≤ 1000) := Lib.hid (by first | exact few_len h hf | exact few_len HA.out hf)
  have h60 : n ≤ 60 := by
    unfold fewB at hf
    rw [Bool.and_eq_true] at hf
    have := of_decide_eq_true hf.1
    have := HL.out
    omega
  clear hf
  go_upto_region 3 with (go_at_call 8; (with_reducible refine CF.out.mono ?_); rintro e w1 ⟨rfl, hb1⟩; have B1 := Lib.hid hb1; clear hb1)
  go_upto_region 4 with (go_at_call 10; (with_reducible refine (new_any _).mono ?_); rintro e w2 ⟨v, S, rfl, hP, hS, hb2⟩; have P2 := Lib.hid hP; have S2 := Lib.hid hS; have B2 := Lib.hid (B1.out.trans (hb2.mono B1.out.size)); clear hP hS hb2)
  have bn := below_new w2 (.cells #[.slice none 0 0, .slice none 0 0] 30)
  have J0 : Hid (PJ w w2.heap.size (fun _ => False) S (w2.alloc (.cells #[.slice none 0 0, .slice none 0 0] 30)) v none 0 0 none 0 0 ⟨[], []⟩) := Lib.hid ⟨Whole.new _ _ _, ⟨P2.out.keep bn.size (fun g hg => bn.block g (P2.out.lt g hg)), RdT.zero _ _, fun g hg => hg.elim⟩, B2.out.trans (bn.mono B2.out.size), fun g hg => ⟨by have := S2.out g hg; have := B1.out.size; omega, by have := P2.out.lt g hg; omega⟩, fun g hg => hg.elim, B2.out.size⟩
  obtain ⟨va, rfl⟩ := P2.out.form
  clear bn P2 S2 B2 B1 CF
  generalize w2.alloc (.cells #[.slice none 0 0, .slice none 0 0] 30) = W3 at *
  generalize w2.heap.size = p at *
  go_wp2_with fail
  go_loopw [5] (fun i wr => ∃ k : Nat, k ≤ n ∧ i = .int .i64 (k : Int) ∧ ∃ G S ma mn mc la ln lc, Hid (PJ w p G S wr (.pointer (some va)) ma mn mc la ln lc (runM ⟨[], []⟩ (l.take k)))) (fun i _ => n - (intOf i).toNat)
  case atStart => exact ⟨0, by omega, rfl, _, _, _, _, _, _, _, _, J0⟩
  case round =>
    obtain ⟨k, hk, rfl, G, S, ma, mn, mc, la, ln, lc, J⟩ := hrel
    clear J0
    by_cases hlt : k < n
    · have hlt' : (k : Int) < n := by omega
      have hbd := run_bd l k (by omega)
      have hgd := run_good (l.take k) _ good_nil
      obtain ⟨g, off, rfl, q1, hat, hok⟩ := HA.out.at J.out.B hlt
      have hb0 : Below wr.heap.size wr wr.drew := (Below.refl _ _).drew
      have J1 := Lib.hid (J.out.belowS hb0)
      have KA : Hid (∀ u, Below w.heap.size w u → AcAt u g (off + k * 4) (l.getD k ac0) ∧ AcOk (· < w.heap.size) u (l.getD k ac0)) := Lib.hid (fun u hu => by
        obtain ⟨g', off', e, _, e1, e2⟩ := HA.out.at hu hlt
        simp only [Option.some.injEq, Addr.mk.injEq, and_true] at e
        obtain ⟨rfl, rfl⟩ := e
        exact ⟨e1, e2⟩)
      have CD := Lib.hid (do_any J1.out.D hgd hbd (l.getD k ac0) (J1.out.act (KA.out _ J1.out.B).2) (HS.out k hlt).1 (HS.out k hlt).2 (HS3.out k hlt))
      have hrt := runM_take ⟨[], []⟩ l k (by rw [HL.out]; exact hlt)
      rw [← hrt] at CD
      unfold IsDo at CD
      have KB : Hid (∀ u, Below w.heap.size w u → AcAt u g (off + k * 4) (l.getD k ac0)) := Lib.hid (fun u hu => (KA.out u hu).1)
      clear hbd hgd hat hok hrt KA
      obtain ⟨T, hT⟩ : ∃ T, T = runM ⟨[], []⟩ (l.take (k + 1)) := ⟨_, rfl⟩
      rw [← hT] at CD
      have HT := Lib.hid hT
      clear hT
      obtain ⟨X, hX⟩ : ∃ X, X = l.getD k ac0 := ⟨_, rfl⟩
      rw [← hX] at CD KB
      clear hX
      obtain ⟨xk, xn, xg, na, nn, nc, ns⟩ := X
      change Hid (Calls _ _ #[_, _, .agg #[.int .u8 xk, .string (bs xn), .int .i64 xg, .slice na nn nc]] _ _) at CD
      have KB : Hid (∀ u : World, Below w.heap.size w u → u.cell? ⟨g, off + k * 4, none⟩ = some (.int .u8 xk) ∧ u.cell? ⟨g, off + k * 4 + 1, none⟩ = some (.string (bs xn)) ∧ u.cell? ⟨g, off + k * 4 + 2, none⟩ = some (.int .i64 xg) ∧ u.cell? ⟨g, off + k * 4 + 3, none⟩ = some (.slice na nn nc)) := KB
      generalize bs xn = y at *
      have K0 := KB.out _ J1.out.B
      obtain ⟨z0, z1⟩ := two_cells J1.out.Z
      have z6 := J1.out.Z.lt
      go_upto_region 7 with fail
      refine wp_region_held_drew (S := fun u => u.cell? ⟨g, off + k * 4, none⟩ = some (.int .u8 xk) ∧ u.cell? ⟨g, off + k * 4 + 1, none⟩ = some (.string y) ∧ u.cell? ⟨g, off + k * 4 + 2, none⟩ = some (.int .i64 xg) ∧ u.cell? ⟨g, off + k * 4 + 3, none⟩ = some (.slice na nn nc)) (by kernel_rfl) K0 (fun hHeld => ?_)
      refine wpAnyH_take (i := 0) (v := ?avv0) rfl (by kernel_rfl) (by kernel_rfl) (by kernel_rfl) (fun _ _ _ h => h) (Or.inl ⟨by rfl, ?ahy0⟩) (by assumption) ?arest0
      case ahy0 =>
        intro u hSu
        obtain ⟨s0, s1, s2, s3⟩ := hSu
        go_simp
        try with_reducible rfl
      try simp only [Act.put, List.getElem_toArray, List.getElem_cons_succ, List.getElem_cons_zero, List.setIfInBounds_toArray, List.set_cons_zero, List.set_cons_succ]
      refine wpAnyH_take (i := 2) (v := ?avv2) rfl (by kernel_rfl) (by kernel_rfl) (by kernel_rfl) (fun _ _ _ h => h) (Or.inl ⟨by rfl, ?ahy2⟩) (by assumption) ?arest2
      case ahy2 =>
        intro u hSu
        obtain ⟨s0, s1, s2, s3⟩ := hSu
        go_simp
        try with_reducible rfl
      try simp only [Act.put, List.getElem_toArray, List.getElem_cons_succ, List.getElem_cons_zero, List.setIfInBounds_toArray, List.set_cons_zero, List.set_cons_succ]
      refine wpAnyH_take (i := 3) (v := ?avv3) rfl (by kernel_rfl) (by kernel_rfl) (by kernel_rfl) (fun _ _ _ h => h) (Or.inl ⟨by rfl, ?ahy3⟩) (by assumption) ?arest3
      case ahy3 =>
        intro u hSu
        obtain ⟨s0, s1, s2, s3⟩ := hSu
        go_simp
        try with_reducible rfl
      try simp only [Act.put, List.getElem_toArray, List.getElem_cons_succ, List.getElem_cons_zero, List.setIfInBounds_toArray, List.set_cons_zero, List.set_cons_succ]
      refine wpAnyH_take (i := 4) (v := ?avv4) rfl (by kernel_rfl) (by kernel_rfl) (by kernel_rfl) (fun _ _ _ h => h) (Or.inl ⟨by rfl, ?ahy4⟩) (by assumption) ?arest4
      case ahy4 =>
        intro u hSu
        obtain ⟨s0, s1, s2, s3⟩ := hSu
        go_simp
        try with_reducible rfl
      try simp only [Act.put, List.getElem_toArray, List.getElem_cons_succ, List.getElem_cons_zero, List.setIfInBounds_toArray, List.set_cons_zero, List.set_cons_succ]
      refine wpAnyH_take (i := 5) (v := ?avv5) rfl (by kernel_rfl) (by kernel_rfl) (by kernel_rfl) (fun _ _ _ h => h) (Or.inl ⟨by rfl, ?ahy5⟩) (by assumption) ?arest5
      case ahy5 =>
        intro u hSu
        obtain ⟨s0, s1, s2, s3⟩ := hSu
        go_simp
        try with_reducible rfl
      try simp only [Act.put, List.getElem_toArray, List.getElem_cons_succ, List.getElem_cons_zero, List.setIfInBounds_toArray, List.set_cons_zero, List.set_cons_succ]
      refine wpAnyH_ready (rs := [1]) (by kernel_rfl) (by simp) ?_
      refine AllReadyH.cons rfl (fun K hK => ?_) AllReadyH.nil
      go_simp
      refine hK.out _ _ K0 (fun hHeld => ?_)
      clear hK K
      try simp only [Act.put, List.getElem_toArray, List.getElem_cons_succ, List.getElem_cons_zero, List.setIfInBounds_toArray, List.set_cons_zero, List.set_cons_succ]
      refine wpAnyH_ready (rs := [6]) (by kernel_rfl) (by simp) ?_
      refine AllReadyH.cons rfl (fun K hK => ?_) AllReadyH.nil
      (go_simp; go_at_call 11; (with_reducible refine (CD.out).mono ?_); rintro e w5 ⟨ma', mn', mc', la', ln', lc', G', S', rfl, hD, hS', hG', hF⟩; obtain ⟨zz, J5⟩ := J1.out.step hD hS' hG' hF; have K5 := KB.out _ (Below.fr J1.out.B hF J1.out.B.size fun i hi => (J1.out.SB i hi).1); have K6 := KB.out _ J5.B; have J6 := Lib.hid J5; have y0 := zz.cell 0; have y1 := zz.cell 1; have y6 := zz.lt; have yf0 := zz.frozen 0; have yf1 := zz.frozen 1; clear hD hS' hG' hF J5 zz)
      refine hK.out _ _ ?bhS6 (fun hHeld => ?brest6)
      case bhS6 => first | exact K6 | exact K5 | exact K0
      clear hK K
      try simp only [Act.put, List.getElem_toArray, List.getElem_cons_succ, List.getElem_cons_zero, List.setIfInBounds_toArray, List.set_cons_zero, List.set_cons_succ]
      refine wpAnyH_take (i := 7) (v := ?bvv7) rfl (by kernel_rfl) (by kernel_rfl) (by kernel_rfl) (fun _ _ _ h => h) (Or.inl ⟨by rfl, ?bhy7⟩) (by assumption) ?brest7
      case bhy7 =>
        intro u hSu
        obtain ⟨s0, s1, s2, s3⟩ := hSu
        go_simp
        try with_reducible rfl
      try simp only [Act.put, List.getElem_toArray, List.getElem_cons_succ, List.getElem_cons_zero, List.setIfInBounds_toArray, List.set_cons_zero, List.set_cons_succ]
      refine wpAnyH_take (i := 8) (v := ?bvv8) rfl (by kernel_rfl) (by kernel_rfl) (by kernel_rfl) (fun _ _ _ h => h) (Or.inl ⟨by rfl, ?bhy8⟩) (by assumption) ?brest8
      case bhy8 =>
        intro u hSu
        obtain ⟨s0, s1, s2, s3⟩ := hSu
        go_simp
        try with_reducible rfl
      try simp only [Act.put, List.getElem_toArray, List.getElem_cons_succ, List.getElem_cons_zero, List.setIfInBounds_toArray, List.set_cons_zero, List.set_cons_succ]
      refine wpAnyH_take (i := 9) (v := ?bvv9) rfl (by kernel_rfl) (by kernel_rfl) (by kernel_rfl) (fun _ _ _ h => h) (Or.inl ⟨by rfl, ?bhy9⟩) (by assumption) ?brest9
      case bhy9 =>
        intro u hSu
        obtain ⟨s0, s1, s2, s3⟩ := hSu
        go_simp
        try with_reducible rfl
      try simp only [Act.put, List.getElem_toArray, List.getElem_cons_succ, List.getElem_cons_zero, List.setIfInBounds_toArray, List.set_cons_zero, List.set_cons_succ]
      refine wpAnyH_ready (rs := [10]) (by kernel_rfl) (by simp) ?_
      refine AllReadyH.cons rfl (fun K hK => ?_) AllReadyH.nil
      go_simp
      refine hK.out _ _ ?bhS10 (fun hHeld => ?brest10)
      case bhS10 => first | exact K6 | exact K5 | exact K0
      clear hK K
      try simp only [Act.put, List.getElem_toArray, List.getElem_cons_succ, List.getElem_cons_zero, List.setIfInBounds_toArray, List.set_cons_zero, List.set_cons_succ]
      refine wpAnyH_done (by kernel_rfl) ?_ _
      rw [HT.out] at J6
      clear K0 K5 K6 y0 y1 y6 yf0 yf1 z0 z1 z6 J1 J CD HT KB
      go_wp2_with fail
      go_roundw
      case rel => exact ⟨k + 1, by omega, by go_num, _, _, _, _, _, _, _, _, J6⟩
      case measure => simp [intOf]; omega
    · obtain rfl : k = n := by omega
      have hgd := run_good l _ good_nil
      have hbd := run_bd l k (by omega)
      rw [List.take_of_length_le (by rw [HL.out]; omega)] at hbd J
      obtain ⟨T, hT⟩ : ∃ T, T = runM ⟨[], []⟩ l := ⟨_, rfl⟩
      rw [← hT] at hbd J hgd
      clear hT HA HS
      have X0 := Lib.hid J.out.x
      have CL := Lib.hid (list_any X0.out.P hgd hbd)
      have CH : Hid (∀ k, k < T.L.length → ∀ (G S : Nat → Prop) (u : World) (ma : Option Addr) (mn mc : Nat) (la : Option Addr) (ln lc : Nat), PX w p G S u (.pointer (some va)) ma mn mc la ln lc T T → Calls Tryz.prog 20 #[.pointer (some va), .string (bs (T.L.getD k e0).md)] u fun e u' => e = .returned (.bool true) ∧ Below u.heap.size u u') := Lib.hid (fun k hk G S u ma mn mc la ln lc hj => by
        have hm := hgd.home _ (getD_mem hk)
        have := has_any hj.P hgd hbd (T.L.getD k e0).md (Nat.le_trans (chk_size (hgd.mds _ hm)) (by omega))
        unfold hasM at this
        rw [decide_eq_true hm] at this
        exact this)
      have CR : Hid (∀ k, k < T.L.length → ∀ (G S : Nat → Prop) (u : World) (ma : Option Addr) (mn mc : Nat) (la : Option Addr) (ln lc : Nat), PX w p G S u (.pointer (some va)) ma mn mc la ln lc T T → Calls Tryz.prog 19 #[.pointer (some va), .string (bs (T.L.getD k e0).md)] u fun e u' => e = .returned (.int .i64 (refsM T.L (T.L.getD k e0).md)) ∧ Below u.heap.size u u') := Lib.hid (fun k hk G S u ma mn mc la ln lc hj => refs_any hj.P hgd hbd (T.L.getD k e0).md (Nat.le_trans (chk_size (hgd.mds _ (hgd.home _ (getD_mem hk)))) (by omega)))
      have HB8 : Hid (∀ k, k < T.L.length → 0 ≤ (T.L.getD k e0).refs ∧ (T.L.getD k e0).refs ≤ 8) := Lib.hid (fun k hk => ⟨(hgd.bd _ (getD_mem hk)).2.2.2.2.1, (hgd.bd _ (getD_mem hk)).2.2.2.2.2⟩)
      have HIX : Hid (∀ k, k < T.L.length → (T.L.getD k e0).idx < ((T.L.filter (fun x => decide (x.md = (T.L.getD k e0).md))).length : Int)) := Lib.hid (fun k hk => hgd.ix _ (getD_mem hk))
      have HRB : Hid (∀ m k, 0 ≤ refsM (T.L.take k) m ∧ refsM (T.L.take k) m ≤ 640000) := Lib.hid (fun m k => by
        have h1 := refsM_bd (T.L.take k) m fun e he => ⟨(hgd.bd _ (List.take_subset _ _ he)).2.2.2.2.1, (hgd.bd _ (List.take_subset _ _ he)).2.2.2.2.2⟩
        rw [List.length_take] at h1
        omega)
      have hN : T.L.length ≤ 80000 := hbd.2
      obtain ⟨N, hNN⟩ : ∃ N, N = T.L.length := ⟨_, rfl⟩
      have HNN := Lib.hid hNN
      rw [← hNN] at CL CH CR HB8 HIX hN
      clear J hgd hbd hNN
      go_upto_region 9 with (go_at_call 21; (with_reducible refine (CL.out).mono ?_); rintro e w4 ⟨a1, c1, rfl, hO, hc1, hB⟩; have X1 := Lib.hid (X0.out.belowS hB); have O1 := Lib.hid hO; clear hB hO)
      have hcl : (N : Int) ≤ c1 := by obtain ⟨_, _, e1, h1⟩ := owns_le O1.out; simp only [Value.slice.injEq] at e1; omega
      unfold maxLen at hc1
      obtain ⟨b0, hb0⟩ : ∃ b, b = wr.heap.size := ⟨_, rfl⟩
      rw [← hb0] at O1
      clear hb0 X0 CL
      go_wp2_with fail
      go_loopw [7] (fun i wr => ∃ k : Nat, k ≤ N ∧ i = .int .i64 (k : Int) ∧ Hid (PX w p G S wr (.pointer (some va)) ma mn mc la ln lc T T) ∧ Hid (wr.ownsRow b0 37 5 (.slice a1 N c1) N (eC T.L))) (fun i _ => N - (intOf i).toNat)
      case atStart => exact ⟨0, by omega, rfl, X1, O1⟩
      case round =>
        obtain ⟨k, hk, rfl, X2, O2⟩ := hrel
        clear X1 O1
        by_cases hlt : k < N
        · have hlt' : (k : Int) < N := by omega
          have ha1 : ∃ q, a1 = some ⟨q, 0, none⟩ := by
            rcases O2.out.2 with ⟨h0, h1⟩ | ⟨q, _, _, e1, _⟩
            · omega
            · simp only [Value.slice.injEq] at e1
              exact ⟨q, e1.1⟩
          obtain ⟨q, rfl⟩ := ha1
          have KE : Hid (∀ j, j < N → ∀ u : World, u.ownsRow b0 37 5 (.slice (some ⟨q, 0, none⟩) N c1) N (eC T.L) → EnAt u q (j * 5) (T.L.getD j e0)) := Lib.hid (fun j hj u hO => by
            have hat := eC_at T.L j (by rw [← HNN.out]; exact hj)
            exact ⟨(hO.cellAt _ (by omega)).trans hat.1, (hO.cellAt _ (by omega)).trans hat.2.1, (hO.cellAt _ (by omega)).trans hat.2.2.1, (hO.cellAt _ (by omega)).trans hat.2.2.2.1, (hO.cellAt _ (by omega)).trans hat.2.2.2.2⟩)
          go_wp2_with fail
          go_loopw [8, 9, 10] (fun s m i wr => ∃ k2 : Nat, k2 ≤ N ∧ i = .int .i64 (k2 : Int) ∧ (∃ x : Int, s = .int .i64 x ∧ Hid (x = refsM (T.L.take k2) (T.L.getD k e0).md)) ∧ (∃ z : Nat, m = .int .i64 (z : Int) ∧ Hid (z = ((T.L.take k2).filter (fun x => decide (x.md = (T.L.getD k e0).md))).length)) ∧ Hid (PX w p G S wr (.pointer (some va)) ma mn mc la ln lc T T) ∧ Hid (wr.ownsRow b0 37 5 (.slice (some ⟨q, 0, none⟩) N c1) N (eC T.L))) (fun _ _ i _ => N - (intOf i).toNat)
          case atStart => exact ⟨0, by omega, rfl, ⟨0, rfl, Lib.hid rfl⟩, ⟨0, rfl, Lib.hid rfl⟩, X2, O2⟩
          case round =>
            obtain ⟨k2, hk2, rfl, ⟨x, rfl, hx⟩, ⟨z, rfl, hz⟩, X3, O3⟩ := hrel
            clear X2 O2
            by_cases hlt2 : k2 < N
            · have hlt2' : (k2 : Int) < N := by omega
              obtain ⟨_, d1, _, _, d4⟩ := KE.out k2 hlt2 _ O3.out
              obtain ⟨_, f1, _, _, _⟩ := KE.out k hlt _ O3.out
              have hxb := HRB.out (T.L.getD k e0).md k2
              rw [← hx.out] at hxb
              have hrt := refsM_take T.L (T.L.getD k e0).md k2 (by rw [← HNN.out]; exact hlt2)
              have hft := filt_take T.L (T.L.getD k e0).md k2 (by rw [← HNN.out]; exact hlt2)
              rw [← hx.out] at hrt
              rw [← hz.out] at hft
              have h8 := HB8.out k2 hlt2
              have hzb : z ≤ N := by
                have := List.length_filter_le (fun x => decide (x.md = (T.L.getD k e0).md)) (T.L.take k2)
                rw [List.length_take, ← hz.out] at this
                omega
              by_cases e : (T.L.getD k2 e0).md = (T.L.getD k e0).md
              · rw [if_pos e] at hrt hft
                have HX := Lib.hid hrt.symm
                have HZ := Lib.hid hft.symm
                rw [e] at d1
                have hw1 : IntKind.i64.wrap (x + (T.L.getD k2 e0).refs) = x + (T.L.getD k2 e0).refs := by rw [IntKind.wrap_i64]; omega
                have hw2 : IntKind.i64.wrap ((z : Int) + 1) = (z : Int) + 1 := by rw [IntKind.wrap_i64]; omega
                have exx : ((bs (T.L.getD k e0).md).toList == (bs (T.L.getD k e0).md).toList) = true := by simp
                clear hrt hft e hx hz h8 hxb
                generalize (T.L.getD k2 e0).refs = r at *
                generalize bs (T.L.getD k e0).md = y at *
                go_upto_region 16 with fail
                go_quiet (fail)
                have hdr := below_drewN (Below.refl wr.heap.size wr) nq
                go_wp2_with fail
                go_roundw
                case rel => exact ⟨k2 + 1, by omega, by go_num, ⟨x + r, by simp [hw1], HX⟩, ⟨z + 1, by go_num, HZ⟩, Lib.hid (X3.out.belowS hdr), Lib.hid (owns_below O3.out hdr)⟩
                case measure => simp [intOf]; omega
              · rw [if_neg e] at hrt hft
                have HX := Lib.hid (show x = refsM (T.L.take (k2 + 1)) (T.L.getD k e0).md by rw [hrt]; omega)
                have HZ := Lib.hid (show z = ((T.L.take (k2 + 1)).filter (fun x => decide (x.md = (T.L.getD k e0).md))).length by rw [hft]; omega)
                have exy : ((bs (T.L.getD k2 e0).md).toList == (bs (T.L.getD k e0).md).toList) = false := by rw [bs_toList, bs_toList]; simpa using e
                clear hrt hft e hx hz h8 hxb d4
                generalize bs (T.L.getD k2 e0).md = y2 at *
                generalize bs (T.L.getD k e0).md = y at *
                go_upto_region 16 with fail
                go_quiet (fail)
                have hdr := below_drewN (Below.refl wr.heap.size wr) nq
                go_wp2_with fail
                go_roundw
                case rel => exact ⟨k2 + 1, by omega, by go_num, ⟨x, rfl, HX⟩, ⟨z, rfl, HZ⟩, Lib.hid (X3.out.belowS hdr), Lib.hid (owns_below O3.out hdr)⟩
                case measure => simp [intOf]; omega
            · obtain rfl : k2 = N := by omega
              have hx' := hx.out
              have hz' := hz.out
              rw [List.take_of_length_le (by rw [← HNN.out]; omega)] at hx' hz'
              have hix := HIX.out k hlt
              rw [← hz'] at hix
              have h8 := HB8.out k hlt
              have C1 := Lib.hid (CH.out k hlt)
              have C2 := Lib.hid (CR.out k hlt)
              rw [← hx'] at C2
              obtain ⟨_, d1, _, d3, d4⟩ := KE.out k hlt _ O3.out
              have KF : Hid (∀ u, Below wr.heap.size wr u → u.cell? ⟨q, k * 5 + 1, none⟩ = some (.string (bs (T.L.getD k e0).md)) ∧ u.cell? ⟨q, k * 5 + 3, none⟩ = some (.int .i64 (T.L.getD k e0).idx) ∧ u.cell? ⟨q, k * 5 + 4, none⟩ = some (.int .i64 (T.L.getD k e0).refs)) := Lib.hid (fun u hB => by
                obtain ⟨_, d1, _, d3, d4⟩ := KE.out k hlt _ (owns_below O3.out hB)
                exact ⟨d1, d3, d4⟩)
              obtain ⟨h8a, h8b⟩ := h8
              clear hx hz hx' hz' KE HRB
              generalize bs (T.L.getD k e0).md = y at *
              generalize (T.L.getD k e0).idx = ix at *
              generalize (T.L.getD k e0).refs = r at *
              go_wp2_with (first | (go_at_call 20; (with_reducible refine (C1.out _ _ _ _ _ _ _ _ _ X3.out).mono ?_); rintro e w5 ⟨rfl, hB⟩; have X4 := Lib.hid (X3.out.belowS hB); have hB5 := hB; clear hB d1 d3 d4; obtain ⟨d1, d3, d4⟩ := KF.out _ hB5) | (go_at_call 19; (with_reducible refine (C2.out _ _ _ _ _ _ _ _ _ X4.out).mono ?_); rintro e w6 ⟨rfl, hB⟩; have X5 := Lib.hid (X4.out.belowS hB); have hB6 := hB5.trans (hB.mono hB5.size); clear hB d1 d3 d4; obtain ⟨d1, d3, d4⟩ := KF.out _ hB6))
              go_roundw
              case rel => exact ⟨k + 1, by omega, by go_num, X5, Lib.hid (owns_below O3.out hB6)⟩
              case measure => simp [intOf]; omega
        · obtain rfl : k = N := by omega
          clear CH CR HIX HB8 HRB O2
          go_wp2_with (go_at_call 9; (with_reducible refine (AW.out _).mono ?_); rintro e w9 ⟨rfl, hB9⟩)
          go_ret
          exact ⟨rfl, X2.out.B.trans (hB9.mono X2.out.B.size)⟩
end
end Go.Proofs.YtleggfofgpiabaaGreat.WK
