/-
  The walk of SymtabForks, over what the program's functions tell. Nothing here is a statement of the seed.
-/
import Derived.Test.YtleggfofgpiabaaGreatSymFork
import Derived.Test.YtleggfofgpiabaaGreatSymNil
set_option linter.unusedSimpArgs false
set_option linter.unusedVariables false
namespace Go.Proofs.YtleggfofgpiabaaGreat.WK
open Go.RowKit WM NR OM OR SM SR SF SP
set_option maxHeartbeats 4000000
set_option maxRecDepth 10000
section
variable {w : World} {a : Option Addr} {n c : Nat} {l : List Ac} {a2 : Option Addr} {n2 c2 : Nat} {m : List Ac}
theorem SymtabForks_walk (h : ReadsA (· < w.heap.size) w (.slice a n c) l) (hs : ∀ x ∈ l, x.nm.length ≤ 2097152 ∧ ∀ s ∈ x.ns, s.length ≤ 2097152) (h2 : ReadsA (· < w.heap.size) w (.slice a2 n2 c2) m) (hs2 : ∀ x ∈ m, x.nm.length ≤ 2097152 ∧ ∀ s ∈ x.ns, s.length ≤ 2097152) :
    Calls Tryz.prog 4 #[.slice a n c, .slice a2 n2 c2] w fun e w' => e = .returned (.bool true) ∧ Below w.heap.size w w' := by
  obtain ⟨n1, m1, m2⟩ := h.len
  obtain ⟨n3, m3, m4⟩ := h2.len
  unfold maxLen at m2 m4
  have hn : (n : Int) ≤ 9223372036854775807 := by omega
  have hn2 : (n2 : Int) ≤ 9223372036854775807 := by omega
  have CF := Lib.hid (few_any h)
  have CG : Hid (∀ u, Below w.heap.size w u → Calls Tryz.prog 8 #[.slice a2 n2 c2] u fun e u' => e = .returned (.bool (fewB m)) ∧ Below u.heap.size u u') := Lib.hid (fun u hb => few_any (h2.go hb hb.size))
  have AW := Lib.hid awake_any
  cases hf : fewB l with
  | false =>
    rw [hf] at CF
    clear h hs n1 m1 m2 hf h2 hs2 n3 m3 m4 CG
    go_enter Tryz.func4, Tryz.ntmps4
    go_wp2_with (first | (go_at_call 8; (with_reducible refine CF.out.mono ?_); rintro e w1 ⟨rfl, hb1⟩) | (go_at_call 9; (with_reducible refine (AW.out _).mono ?_); rintro e w2 ⟨rfl, hb2⟩))
    go_ret
    exact ⟨rfl, hb1.trans (hb2.mono hb1.size)⟩
  | true =>
  rw [hf] at CF
  cases hf2 : fewB m with
  | false =>
    rw [hf2] at CG
    clear h hs n1 m1 m2 hf h2 hs2 n3 m3 m4
    go_enter Tryz.func4, Tryz.ntmps4
    go_upto_region 2 with (first | (go_at_call 8; (with_reducible refine CF.out.mono ?_); rintro e w1 ⟨rfl, hb1⟩; have B1 := Lib.hid hb1; clear hb1) | (go_at_call 8; (with_reducible refine (CG.out _ B1.out).mono ?_); rintro e w2 ⟨rfl, hb2⟩; have B2 := Lib.hid (B1.out.trans (hb2.mono B1.out.size)); clear hb2))
    go_wp2_with (go_at_call 9; (with_reducible refine (AW.out _).mono ?_); rintro e w3 ⟨rfl, hb3⟩)
    go_ret
    exact ⟨rfl, B2.out.trans (hb3.mono B2.out.size)⟩
  | true =>
  rw [hf2] at CG
  have HS3 : Hid (∀ k, k < n → (l.getD k ac0).ns.length ≤ 1000) := Lib.hid (by first | exact few_len h hf | exact few_len HA.out hf)
  have HS4 : Hid (∀ k, k < n2 → (m.getD k ac0).ns.length ≤ 1000) := Lib.hid (few_len h2 hf2)
  have h60 : n ≤ 60 := by
    unfold fewB at hf
    rw [Bool.and_eq_true] at hf
    have := of_decide_eq_true hf.1
    omega
  have g60 : n2 ≤ 60 := by
    unfold fewB at hf2
    rw [Bool.and_eq_true] at hf2
    have := of_decide_eq_true hf2.1
    omega
  have HA := Lib.hid h
  have HM := Lib.hid h2
  have HS : Hid (∀ k, k < n → (l.getD k ac0).nm.length ≤ 2097152 ∧ ∀ s ∈ (l.getD k ac0).ns, s.length ≤ 2097152) := Lib.hid (fun k hk => hs _ (by rw [List.getD_eq_getElem?_getD, List.getElem?_eq_getElem (by omega)]; exact List.getElem_mem _))
  have HT2 : Hid (∀ k, k < n2 → (m.getD k ac0).nm.length ≤ 2097152 ∧ ∀ s ∈ (m.getD k ac0).ns, s.length ≤ 2097152) := Lib.hid (fun k hk => hs2 _ (by rw [List.getD_eq_getElem?_getD, List.getElem?_eq_getElem (by omega)]; exact List.getElem_mem _))
  have HL := Lib.hid n1
  have HL2 := Lib.hid n3
  have q2 : (n : Int) ≤ c := by omega
  have q3 : (n2 : Int) ≤ c2 := by omega
  clear h hs n1 m2 hf h2 hs2 n3 m4 hf2
  go_enter Tryz.func4, Tryz.ntmps4
  go_upto_region 3 with (first | (go_at_call 8; (with_reducible refine CF.out.mono ?_); rintro e w0 ⟨rfl, hb1⟩; have B0 := Lib.hid hb1; clear hb1) | (go_at_call 8; (with_reducible refine (CG.out _ B0.out).mono ?_); rintro e w1 ⟨rfl, hb2⟩; have B1 := Lib.hid (B0.out.trans (hb2.mono B0.out.size)); clear hb2))
  clear CG B0
  go_upto_region 4 with (go_at_call 10; (with_reducible refine (new_any _).mono ?_); rintro e w2 ⟨v, S, rfl, hP, hS, hb2⟩; have P2 := Lib.hid hP; have S2 := Lib.hid hS; have B2 := Lib.hid (B1.out.trans (hb2.mono B1.out.size)); clear hP hS hb2)
  have bn := below_new w2 (.cells #[.slice none 0 0, .slice none 0 0] 30)
  have J0 : Hid (PJ w w2.heap.size (fun _ => False) S (w2.alloc (.cells #[.slice none 0 0, .slice none 0 0] 30)) v none 0 0 none 0 0 ⟨[], []⟩) := Lib.hid ⟨Whole.new _ _ _, ⟨P2.out.keep bn.size (fun g hg => bn.block g (P2.out.lt g hg)), RdT.zero _ _, fun g hg => hg.elim⟩, B2.out.trans (bn.mono B2.out.size), fun g hg => ⟨by have := S2.out g hg; have := B1.out.size; omega, by have := P2.out.lt g hg; omega⟩, fun g hg => hg.elim, B2.out.size⟩
  obtain ⟨va, rfl⟩ := P2.out.form
  clear bn P2 S2 B2 B1 CF
  generalize w2.alloc (.cells #[.slice none 0 0, .slice none 0 0] 30) = W3 at *
  generalize w2.heap.size = p at *
  go_wp2_with fail
  go_loopw [7] (fun i wr => ∃ k : Nat, k ≤ n ∧ i = .int .i64 (k : Int) ∧ ∃ G S ma mn mc la ln lc, Hid (PJ w p G S wr (.pointer (some va)) ma mn mc la ln lc (runM ⟨[], []⟩ (l.take k)))) (fun i _ => n - (intOf i).toNat)
  case atStart => exact ⟨0, by omega, rfl, _, _, _, _, _, _, _, _, J0⟩
  case round =>
    obtain ⟨k, hk, rfl, G, S, ma, mn, mc, la, ln, lc, J⟩ := hrel
    clear J0
    by_cases hlt : k < n
    · have hlt' : (k : Int) < n := by omega
      have hbd := run_bd l k (by omega)
      have hgd := run_good (l.take k) _ good_nil
      obtain ⟨g, off, rfl, q1, hat, hok⟩ := HA.out.at J.out.B hlt
      have hb0 : Below wr.heap.size wr wr.drew := (Below.refl _ _).drew
      have J1 := Lib.hid (J.out.belowS hb0)
      have KA : Hid (∀ u, Below w.heap.size w u → AcAt u g (off + k * 4) (l.getD k ac0) ∧ AcOk (· < w.heap.size) u (l.getD k ac0)) := Lib.hid (fun u hu => by
        obtain ⟨g', off', e, _, e1, e2⟩ := HA.out.at hu hlt
        simp only [Option.some.injEq, Addr.mk.injEq, and_true] at e
        obtain ⟨rfl, rfl⟩ := e
        exact ⟨e1, e2⟩)
      have CD := Lib.hid (do_any J1.out.D hgd hbd (l.getD k ac0) (J1.out.act (KA.out _ J1.out.B).2) (HS.out k hlt).1 (HS.out k hlt).2 (HS3.out k hlt))
      have hrt := runM_take ⟨[], []⟩ l k (by rw [HL.out]; exact hlt)
      rw [← hrt] at CD
      unfold IsDo at CD
      have KB : Hid (∀ u, Below w.heap.size w u → AcAt u g (off + k * 4) (l.getD k ac0)) := Lib.hid (fun u hu => (KA.out u hu).1)
      clear hbd hgd hat hok hrt KA
      obtain ⟨T, hT⟩ : ∃ T, T = runM ⟨[], []⟩ (l.take (k + 1)) := ⟨_, rfl⟩
      rw [← hT] at CD
      have HT := Lib.hid hT
      clear hT
      obtain ⟨X, hX⟩ : ∃ X, X = l.getD k ac0 := ⟨_, rfl⟩
      rw [← hX] at CD KB
      clear hX
      obtain ⟨xk, xn, xg, na, nn, nc, ns⟩ := X
      change Hid (Calls _ _ #[_, _, .agg #[.int .u8 xk, .string (bs xn), .int .i64 xg, .slice na nn nc]] _ _) at CD
      have KB : Hid (∀ u : World, Below w.heap.size w u → u.cell? ⟨g, off + k * 4, none⟩ = some (.int .u8 xk) ∧ u.cell? ⟨g, off + k * 4 + 1, none⟩ = some (.string (bs xn)) ∧ u.cell? ⟨g, off + k * 4 + 2, none⟩ = some (.int .i64 xg) ∧ u.cell? ⟨g, off + k * 4 + 3, none⟩ = some (.slice na nn nc)) := KB
      generalize bs xn = y at *
      have K0 := KB.out _ J1.out.B
      obtain ⟨z0, z1⟩ := two_cells J1.out.Z
      have z6 := J1.out.Z.lt
      go_upto_region 7 with fail
      refine wp_region_held_drew (S := fun u => u.cell? ⟨g, off + k * 4, none⟩ = some (.int .u8 xk) ∧ u.cell? ⟨g, off + k * 4 + 1, none⟩ = some (.string y) ∧ u.cell? ⟨g, off + k * 4 + 2, none⟩ = some (.int .i64 xg) ∧ u.cell? ⟨g, off + k * 4 + 3, none⟩ = some (.slice na nn nc)) (by kernel_rfl) K0 (fun hHeld => ?_)
      refine wpAnyH_take (i := 0) (v := ?avv0) rfl (by kernel_rfl) (by kernel_rfl) (by kernel_rfl) (fun _ _ _ h => h) (Or.inl ⟨by rfl, ?ahy0⟩) (by assumption) ?arest0
      case ahy0 =>
        intro u hSu
        obtain ⟨s0, s1, s2, s3⟩ := hSu
        go_simp
        try with_reducible rfl
      try simp only [Act.put, List.getElem_toArray, List.getElem_cons_succ, List.getElem_cons_zero, List.setIfInBounds_toArray, List.set_cons_zero, List.set_cons_succ]
      refine wpAnyH_take (i := 2) (v := ?avv2) rfl (by kernel_rfl) (by kernel_rfl) (by kernel_rfl) (fun _ _ _ h => h) (Or.inl ⟨by rfl, ?ahy2⟩) (by assumption) ?arest2
      case ahy2 =>
        intro u hSu
        obtain ⟨s0, s1, s2, s3⟩ := hSu
        go_simp
        try with_reducible rfl
      try simp only [Act.put, List.getElem_toArray, List.getElem_cons_succ, List.getElem_cons_zero, List.setIfInBounds_toArray, List.set_cons_zero, List.set_cons_succ]
      refine wpAnyH_take (i := 3) (v := ?avv3) rfl (by kernel_rfl) (by kernel_rfl) (by kernel_rfl) (fun _ _ _ h => h) (Or.inl ⟨by rfl, ?ahy3⟩) (by assumption) ?arest3
      case ahy3 =>
        intro u hSu
        obtain ⟨s0, s1, s2, s3⟩ := hSu
        go_simp
        try with_reducible rfl
      try simp only [Act.put, List.getElem_toArray, List.getElem_cons_succ, List.getElem_cons_zero, List.setIfInBounds_toArray, List.set_cons_zero, List.set_cons_succ]
      refine wpAnyH_take (i := 4) (v := ?avv4) rfl (by kernel_rfl) (by kernel_rfl) (by kernel_rfl) (fun _ _ _ h => h) (Or.inl ⟨by rfl, ?ahy4⟩) (by assumption) ?arest4
      case ahy4 =>
        intro u hSu
        obtain ⟨s0, s1, s2, s3⟩ := hSu
        go_simp
        try with_reducible rfl
      try simp only [Act.put, List.getElem_toArray, List.getElem_cons_succ, List.getElem_cons_zero, List.setIfInBounds_toArray, List.set_cons_zero, List.set_cons_succ]
      refine wpAnyH_take (i := 5) (v := ?avv5) rfl (by kernel_rfl) (by kernel_rfl) (by kernel_rfl) (fun _ _ _ h => h) (Or.inl ⟨by rfl, ?ahy5⟩) (by assumption) ?arest5
      case ahy5 =>
        intro u hSu
        obtain ⟨s0, s1, s2, s3⟩ := hSu
        go_simp
        try with_reducible rfl
      try simp only [Act.put, List.getElem_toArray, List.getElem_cons_succ, List.getElem_cons_zero, List.setIfInBounds_toArray, List.set_cons_zero, List.set_cons_succ]
      refine wpAnyH_ready (rs := [1]) (by kernel_rfl) (by simp) ?_
      refine AllReadyH.cons rfl (fun K hK => ?_) AllReadyH.nil
      go_simp
      refine hK.out _ _ K0 (fun hHeld => ?_)
      clear hK K
      try simp only [Act.put, List.getElem_toArray, List.getElem_cons_succ, List.getElem_cons_zero, List.setIfInBounds_toArray, List.set_cons_zero, List.set_cons_succ]
      refine wpAnyH_ready (rs := [6]) (by kernel_rfl) (by simp) ?_
      refine AllReadyH.cons rfl (fun K hK => ?_) AllReadyH.nil
      (go_simp; go_at_call 11; (with_reducible refine (CD.out).mono ?_); rintro e w5 ⟨ma', mn', mc', la', ln', lc', G', S', rfl, hD, hS', hG', hF⟩; obtain ⟨zz, J5⟩ := J1.out.step hD hS' hG' hF; have K5 := KB.out _ (Below.fr J1.out.B hF J1.out.B.size fun i hi => (J1.out.SB i hi).1); have K6 := KB.out _ J5.B; have J6 := Lib.hid J5; have y0 := zz.cell 0; have y1 := zz.cell 1; have y6 := zz.lt; have yf0 := zz.frozen 0; have yf1 := zz.frozen 1; clear hD hS' hG' hF J5 zz)
      refine hK.out _ _ ?bhS6 (fun hHeld => ?brest6)
      case bhS6 => first | exact K6 | exact K5 | exact K0
      clear hK K
      try simp only [Act.put, List.getElem_toArray, List.getElem_cons_succ, List.getElem_cons_zero, List.setIfInBounds_toArray, List.set_cons_zero, List.set_cons_succ]
      refine wpAnyH_take (i := 7) (v := ?bvv7) rfl (by kernel_rfl) (by kernel_rfl) (by kernel_rfl) (fun _ _ _ h => h) (Or.inl ⟨by rfl, ?bhy7⟩) (by assumption) ?brest7
      case bhy7 =>
        intro u hSu
        obtain ⟨s0, s1, s2, s3⟩ := hSu
        go_simp
        try with_reducible rfl
      try simp only [Act.put, List.getElem_toArray, List.getElem_cons_succ, List.getElem_cons_zero, List.setIfInBounds_toArray, List.set_cons_zero, List.set_cons_succ]
      refine wpAnyH_take (i := 8) (v := ?bvv8) rfl (by kernel_rfl) (by kernel_rfl) (by kernel_rfl) (fun _ _ _ h => h) (Or.inl ⟨by rfl, ?bhy8⟩) (by assumption) ?brest8
      case bhy8 =>
        intro u hSu
        obtain ⟨s0, s1, s2, s3⟩ := hSu
        go_simp
        try with_reducible rfl
      try simp only [Act.put, List.getElem_toArray, List.getElem_cons_succ, List.getElem_cons_zero, List.setIfInBounds_toArray, List.set_cons_zero, List.set_cons_succ]
      refine wpAnyH_take (i := 9) (v := ?bvv9) rfl (by kernel_rfl) (by kernel_rfl) (by kernel_rfl) (fun _ _ _ h => h) (Or.inl ⟨by rfl, ?bhy9⟩) (by assumption) ?brest9
      case bhy9 =>
        intro u hSu
        obtain ⟨s0, s1, s2, s3⟩ := hSu
        go_simp
        try with_reducible rfl
      try simp only [Act.put, List.getElem_toArray, List.getElem_cons_succ, List.getElem_cons_zero, List.setIfInBounds_toArray, List.set_cons_zero, List.set_cons_succ]
      refine wpAnyH_ready (rs := [10]) (by kernel_rfl) (by simp) ?_
      refine AllReadyH.cons rfl (fun K hK => ?_) AllReadyH.nil
      go_simp
      refine hK.out _ _ ?bhS10 (fun hHeld => ?brest10)
      case bhS10 => first | exact K6 | exact K5 | exact K0
      clear hK K
      try simp only [Act.put, List.getElem_toArray, List.getElem_cons_succ, List.getElem_cons_zero, List.setIfInBounds_toArray, List.set_cons_zero, List.set_cons_succ]
      refine wpAnyH_done (by kernel_rfl) ?_ _
      rw [HT.out] at J6
      clear K0 K5 K6 y0 y1 y6 yf0 yf1 z0 z1 z6 J1 J CD HT KB
      go_wp2_with fail
      go_roundw
      case rel => exact ⟨k + 1, by omega, by go_num, _, _, _, _, _, _, _, _, J6⟩
      case measure => simp [intOf]; omega
    · obtain rfl : k = n := by omega
      have hgd := run_good l _ good_nil
      have hbd := run_bd l k (by omega)
      rw [List.take_of_length_le (by rw [HL.out]; omega)] at hbd J
      obtain ⟨T, hT⟩ : ∃ T, T = runM ⟨[], []⟩ l := ⟨_, rfl⟩
      rw [← hT] at hbd J hgd
      have HTL0 : Hid (T.mods.length ≤ 60 ∧ T.L.length ≤ 480) := Lib.hid (by have h3 := run_sz l (by have := HL.out; omega); rw [← hT] at h3; exact h3)
      clear hT HA HS
      have FK : Hid (∀ u, Below wr.heap.size wr u → Calls Tryz.prog 13 #[.pointer (some va)] u fun e u' => ∃ v2 S2, e = .returned v2 ∧ PT S2 u' v2 T ∧ (∀ g, S2 g → u.heap.size ≤ g) ∧ Below u.heap.size u u') := Lib.hid (fun u hb => fork_any (J.out.belowS hb).D.P hgd hbd)
      have HTL : Hid (T.mods.length ≤ 60 ∧ T.L.length ≤ 480) := HTL0
      clear HTL0
      go_upto_region 8 with fail
      have hd : Below wr.heap.size wr wr.drew := (Below.refl _ _).drew
      have J1 := Lib.hid (J.out.belowS hd)
      have HD := Lib.hid hd
      clear hd
      have K0 := two_cells J1.out.Z
      refine wp_region_held_drew (S := fun u => u.cell? ⟨p, 0, none⟩ = some (.slice ma mn mc) ∧ u.cell? ⟨p, 1, none⟩ = some (.slice la ln lc)) (by kernel_rfl) K0 (fun hHeld => ?_)
      refine wpAnyH_take (i := 0) (v := ?favv0) rfl (by kernel_rfl) (by kernel_rfl) (by kernel_rfl) (fun _ _ _ h => h) (Or.inl ⟨by rfl, ?fahy0⟩) (by assumption) ?farest0
      case fahy0 =>
        intro u hSu
        obtain ⟨s0, s1⟩ := hSu
        go_simp
        try with_reducible rfl
      try simp only [Act.put, List.getElem_toArray, List.getElem_cons_succ, List.getElem_cons_zero, List.setIfInBounds_toArray, List.set_cons_zero, List.set_cons_succ]
      refine wpAnyH_take (i := 2) (v := ?favv2) rfl (by kernel_rfl) (by kernel_rfl) (by kernel_rfl) (fun _ _ _ h => h) (Or.inl ⟨by rfl, ?fahy2⟩) (by assumption) ?farest2
      case fahy2 =>
        intro u hSu
        obtain ⟨s0, s1⟩ := hSu
        go_simp
        try with_reducible rfl
      try simp only [Act.put, List.getElem_toArray, List.getElem_cons_succ, List.getElem_cons_zero, List.setIfInBounds_toArray, List.set_cons_zero, List.set_cons_succ]
      refine wpAnyH_ready (rs := [1, 3]) (by kernel_rfl) (by simp) ?_
      refine AllReadyH.cons rfl ?_ (AllReadyH.cons rfl ?_ AllReadyH.nil)
      · intro K hK
        go_simp
        go_at_call 13
        with_reducible refine (FK.out _ HD.out).mono ?_
        rintro e u1 ⟨v2, S2, rfl, hP, hS2, hB⟩
        have hb1 := HD.out.trans (hB.mono HD.out.size)
        have J2 := Lib.hid (J.out.belowS hb1)
        have K1 := two_cells J2.out.Z
        have b3 := below_new u1 (.cells #[.slice none 0 0, .slice none 0 0] 30)
        have K2 := two_cells (J2.out.belowS b3).Z
        have RZ := Whole.new u1 30 #[.slice none 0 0, .slice none 0 0]
        obtain ⟨y0, y1⟩ := two_cells RZ
        have yf0 := RZ.frozen 0
        have yf1 := RZ.frozen 1
        have yl := RZ.lt
        have JJ := Lib.hid (J.out.fork_a hb1 hP (fun g hg => Nat.le_trans HD.out.size (hS2 g hg)))
        have K3 := two_cells JJ.out.1.Z
        obtain ⟨vb, rfl⟩ := hP.form
        clear hB hb1 b3 RZ hP hS2
        refine hK.out _ _ K1 (fun hHeld => ?_)
        clear hK K
        try simp only [Act.put, List.getElem_toArray, List.getElem_cons_succ, List.getElem_cons_zero, List.setIfInBounds_toArray, List.set_cons_zero, List.set_cons_succ]
        refine wpAnyH_ready (rs := [3]) (by kernel_rfl) (by simp) ?_
        refine AllReadyH.cons rfl (fun K hK => ?_) AllReadyH.nil
        go_simp
        refine hK.out _ _ ?fbhS3 (fun hHeld => ?fbrest3)
        case fbhS3 => first | exact K3 | exact K2 | exact K1 | exact K0
        clear hK K
        try simp only [Act.put, List.getElem_toArray, List.getElem_cons_succ, List.getElem_cons_zero, List.setIfInBounds_toArray, List.set_cons_zero, List.set_cons_succ]
        refine wpAnyH_take (i := 4) (v := ?fbvv4) rfl (by kernel_rfl) (by kernel_rfl) (by kernel_rfl) (fun _ _ _ h => h) (Or.inl ⟨by rfl, ?fbhy4⟩) (by assumption) ?fbrest4
        case fbhy4 =>
          intro u hSu
          obtain ⟨s0, s1⟩ := hSu
          go_simp
          try with_reducible rfl
        try simp only [Act.put, List.getElem_toArray, List.getElem_cons_succ, List.getElem_cons_zero, List.setIfInBounds_toArray, List.set_cons_zero, List.set_cons_succ]
        refine wpAnyH_ready (rs := [5]) (by kernel_rfl) (by simp) ?_
        refine AllReadyH.cons rfl (fun K hK => ?_) AllReadyH.nil
        go_simp
        refine hK.out _ _ ?fbhS5 (fun hHeld => ?fbrest5)
        case fbhS5 => first | exact K3 | exact K2 | exact K1 | exact K0
        clear hK K
        try simp only [Act.put, List.getElem_toArray, List.getElem_cons_succ, List.getElem_cons_zero, List.setIfInBounds_toArray, List.set_cons_zero, List.set_cons_succ]
        refine wpAnyH_take (i := 6) (v := ?fbvv6) rfl (by kernel_rfl) (by kernel_rfl) (by kernel_rfl) (fun _ _ _ h => h) (Or.inl ⟨by rfl, ?fbhy6⟩) (by assumption) ?fbrest6
        case fbhy6 =>
          intro u hSu
          obtain ⟨s0, s1⟩ := hSu
          go_simp
          try with_reducible rfl
        try simp only [Act.put, List.getElem_toArray, List.getElem_cons_succ, List.getElem_cons_zero, List.setIfInBounds_toArray, List.set_cons_zero, List.set_cons_succ]
        refine wpAnyH_done (by kernel_rfl) ?_ _
        clear y0 y1 yf0 yf1 yl K0 K1 K2 K3 J1 J2 FK HD
        generalize u1.alloc (.cells #[.slice ma mn mc, .slice la ln lc] 30) = W at *
        generalize u1.heap.size = p2 at *
        obtain ⟨w7, hw7⟩ : ∃ x, x = wr := ⟨_, rfl⟩
        subst hw7
        obtain ⟨JT, JF⟩ := JJ.out
        have J0 := Lib.hid JF
        have HM2 := Lib.hid (HM.out.go J.out.B J.out.B.size)
        clear JJ JT JF
        go_wp2_with fail
        go_loopw [10, 11] (fun ok i wr => ∃ k2 : Nat, k2 ≤ n2 ∧ i = .int .i64 (k2 : Int) ∧ ok = .bool true ∧ ∃ G2 S2 ma2 mn2 mc2 la2 ln2 lc2, Hid (PJ w7 p2 G2 S2 wr (.pointer (some vb)) ma2 mn2 mc2 la2 ln2 lc2 (runM T (m.take k2)))) (fun _ i _ => n2 - (intOf i).toNat)
        case atStart => exact ⟨0, by omega, rfl, rfl, _, _, _, _, _, _, _, _, J0⟩
        case round =>
          obtain ⟨k2, hk2, rfl, rfl, G2, S2, ma2, mn2, mc2, la2, ln2, lc2, JR⟩ := hrel
          clear J0
          by_cases hlt2 : k2 < n2
          · have hlt2' : (k2 : Int) < n2 := by omega
            have hbd2 := run_bd2 T HTL.out m k2 (by omega)
            have hgd2 := run_good (m.take k2) _ hgd
            obtain ⟨g, off, rfl, q1, hat, hok⟩ := HM2.out.at JR.out.B hlt2
            have hb0 : Below wr.heap.size wr wr.drew := (Below.refl _ _).drew
            have J1 := Lib.hid (JR.out.belowS hb0)
            have KA : Hid (∀ u, Below w7.heap.size w7 u → AcAt u g (off + k2 * 4) (m.getD k2 ac0) ∧ AcOk (· < w7.heap.size) u (m.getD k2 ac0)) := Lib.hid (fun u hu => by
              obtain ⟨g', off', e, _, e1, e2⟩ := HM2.out.at hu hlt2
              simp only [Option.some.injEq, Addr.mk.injEq, and_true] at e
              obtain ⟨rfl, rfl⟩ := e
              exact ⟨e1, e2⟩)
            have CD := Lib.hid (do_any J1.out.D hgd2 hbd2 (m.getD k2 ac0) (J1.out.act (KA.out _ J1.out.B).2) (HT2.out k2 hlt2).1 (HT2.out k2 hlt2).2 (HS4.out k2 hlt2))
            have hrt := runM_take T m k2 (by rw [HL2.out]; exact hlt2)
            rw [← hrt] at CD
            unfold IsDo at CD
            have KB : Hid (∀ u, Below w7.heap.size w7 u → AcAt u g (off + k2 * 4) (m.getD k2 ac0)) := Lib.hid (fun u hu => (KA.out u hu).1)
            clear hbd2 hgd2 hat hok hrt KA
            obtain ⟨T2, hT⟩ : ∃ T2, T2 = runM T (m.take (k2 + 1)) := ⟨_, rfl⟩
            rw [← hT] at CD
            have HT := Lib.hid hT
            clear hT
            obtain ⟨X, hX⟩ : ∃ X, X = m.getD k2 ac0 := ⟨_, rfl⟩
            rw [← hX] at CD KB
            clear hX
            obtain ⟨xk, xn, xg, na, nn, nc, ns⟩ := X
            change Hid (Calls _ _ #[_, _, .agg #[.int .u8 xk, .string (bs xn), .int .i64 xg, .slice na nn nc]] _ _) at CD
            have KB : Hid (∀ u : World, Below w7.heap.size w7 u → u.cell? ⟨g, off + k2 * 4, none⟩ = some (.int .u8 xk) ∧ u.cell? ⟨g, off + k2 * 4 + 1, none⟩ = some (.string (bs xn)) ∧ u.cell? ⟨g, off + k2 * 4 + 2, none⟩ = some (.int .i64 xg) ∧ u.cell? ⟨g, off + k2 * 4 + 3, none⟩ = some (.slice na nn nc)) := KB
            generalize bs xn = y at *
            have K0 := KB.out _ J1.out.B
            obtain ⟨z0, z1⟩ := two_cells J1.out.Z
            have z6 := J1.out.Z.lt
            go_upto_region 14 with fail
            refine wp_region_held_drew (S := fun u => u.cell? ⟨g, off + k2 * 4, none⟩ = some (.int .u8 xk) ∧ u.cell? ⟨g, off + k2 * 4 + 1, none⟩ = some (.string y) ∧ u.cell? ⟨g, off + k2 * 4 + 2, none⟩ = some (.int .i64 xg) ∧ u.cell? ⟨g, off + k2 * 4 + 3, none⟩ = some (.slice na nn nc)) (by kernel_rfl) K0 (fun hHeld => ?_)
            refine wpAnyH_take (i := 0) (v := ?acvv0) rfl (by kernel_rfl) (by kernel_rfl) (by kernel_rfl) (fun _ _ _ h => h) (Or.inl ⟨by rfl, ?achy0⟩) (by assumption) ?acrest0
            case achy0 =>
              intro u hSu
              obtain ⟨s0, s1, s2, s3⟩ := hSu
              go_simp
              try with_reducible rfl
            try simp only [Act.put, List.getElem_toArray, List.getElem_cons_succ, List.getElem_cons_zero, List.setIfInBounds_toArray, List.set_cons_zero, List.set_cons_succ]
            refine wpAnyH_take (i := 2) (v := ?acvv2) rfl (by kernel_rfl) (by kernel_rfl) (by kernel_rfl) (fun _ _ _ h => h) (Or.inl ⟨by rfl, ?achy2⟩) (by assumption) ?acrest2
            case achy2 =>
              intro u hSu
              obtain ⟨s0, s1, s2, s3⟩ := hSu
              go_simp
              try with_reducible rfl
            try simp only [Act.put, List.getElem_toArray, List.getElem_cons_succ, List.getElem_cons_zero, List.setIfInBounds_toArray, List.set_cons_zero, List.set_cons_succ]
            refine wpAnyH_take (i := 3) (v := ?acvv3) rfl (by kernel_rfl) (by kernel_rfl) (by kernel_rfl) (fun _ _ _ h => h) (Or.inl ⟨by rfl, ?achy3⟩) (by assumption) ?acrest3
            case achy3 =>
              intro u hSu
              obtain ⟨s0, s1, s2, s3⟩ := hSu
              go_simp
              try with_reducible rfl
            try simp only [Act.put, List.getElem_toArray, List.getElem_cons_succ, List.getElem_cons_zero, List.setIfInBounds_toArray, List.set_cons_zero, List.set_cons_succ]
            refine wpAnyH_take (i := 4) (v := ?acvv4) rfl (by kernel_rfl) (by kernel_rfl) (by kernel_rfl) (fun _ _ _ h => h) (Or.inl ⟨by rfl, ?achy4⟩) (by assumption) ?acrest4
            case achy4 =>
              intro u hSu
              obtain ⟨s0, s1, s2, s3⟩ := hSu
              go_simp
              try with_reducible rfl
            try simp only [Act.put, List.getElem_toArray, List.getElem_cons_succ, List.getElem_cons_zero, List.setIfInBounds_toArray, List.set_cons_zero, List.set_cons_succ]
            refine wpAnyH_take (i := 5) (v := ?acvv5) rfl (by kernel_rfl) (by kernel_rfl) (by kernel_rfl) (fun _ _ _ h => h) (Or.inl ⟨by rfl, ?achy5⟩) (by assumption) ?acrest5
            case achy5 =>
              intro u hSu
              obtain ⟨s0, s1, s2, s3⟩ := hSu
              go_simp
              try with_reducible rfl
            try simp only [Act.put, List.getElem_toArray, List.getElem_cons_succ, List.getElem_cons_zero, List.setIfInBounds_toArray, List.set_cons_zero, List.set_cons_succ]
            refine wpAnyH_ready (rs := [1]) (by kernel_rfl) (by simp) ?_
            refine AllReadyH.cons rfl (fun K hK => ?_) AllReadyH.nil
            go_simp
            refine hK.out _ _ K0 (fun hHeld => ?_)
            clear hK K
            try simp only [Act.put, List.getElem_toArray, List.getElem_cons_succ, List.getElem_cons_zero, List.setIfInBounds_toArray, List.set_cons_zero, List.set_cons_succ]
            refine wpAnyH_ready (rs := [6]) (by kernel_rfl) (by simp) ?_
            refine AllReadyH.cons rfl (fun K hK => ?_) AllReadyH.nil
            (go_simp; go_at_call 11; (with_reducible refine (CD.out).mono ?_); rintro e w5 ⟨ma', mn', mc', la', ln', lc', G', S', rfl, hD, hS', hG', hF⟩; obtain ⟨zz, J5⟩ := J1.out.step hD hS' hG' hF; have K5 := KB.out _ (Below.fr J1.out.B hF J1.out.B.size fun i hi => (J1.out.SB i hi).1); have K6 := KB.out _ J5.B; have J6 := Lib.hid J5; have y0 := zz.cell 0; have y1 := zz.cell 1; have y6 := zz.lt; have yf0 := zz.frozen 0; have yf1 := zz.frozen 1; clear hD hS' hG' hF J5 zz)
            refine hK.out _ _ ?adhS6 (fun hHeld => ?adrest6)
            case adhS6 => first | exact K6 | exact K5 | exact K0
            clear hK K
            try simp only [Act.put, List.getElem_toArray, List.getElem_cons_succ, List.getElem_cons_zero, List.setIfInBounds_toArray, List.set_cons_zero, List.set_cons_succ]
            refine wpAnyH_take (i := 7) (v := ?advv7) rfl (by kernel_rfl) (by kernel_rfl) (by kernel_rfl) (fun _ _ _ h => h) (Or.inl ⟨by rfl, ?adhy7⟩) (by assumption) ?adrest7
            case adhy7 =>
              intro u hSu
              obtain ⟨s0, s1, s2, s3⟩ := hSu
              go_simp
              try with_reducible rfl
            try simp only [Act.put, List.getElem_toArray, List.getElem_cons_succ, List.getElem_cons_zero, List.setIfInBounds_toArray, List.set_cons_zero, List.set_cons_succ]
            refine wpAnyH_take (i := 8) (v := ?advv8) rfl (by kernel_rfl) (by kernel_rfl) (by kernel_rfl) (fun _ _ _ h => h) (Or.inl ⟨by rfl, ?adhy8⟩) (by assumption) ?adrest8
            case adhy8 =>
              intro u hSu
              obtain ⟨s0, s1, s2, s3⟩ := hSu
              go_simp
              try with_reducible rfl
            try simp only [Act.put, List.getElem_toArray, List.getElem_cons_succ, List.getElem_cons_zero, List.setIfInBounds_toArray, List.set_cons_zero, List.set_cons_succ]
            refine wpAnyH_take (i := 9) (v := ?advv9) rfl (by kernel_rfl) (by kernel_rfl) (by kernel_rfl) (fun _ _ _ h => h) (Or.inl ⟨by rfl, ?adhy9⟩) (by assumption) ?adrest9
            case adhy9 =>
              intro u hSu
              obtain ⟨s0, s1, s2, s3⟩ := hSu
              go_simp
              try with_reducible rfl
            try simp only [Act.put, List.getElem_toArray, List.getElem_cons_succ, List.getElem_cons_zero, List.setIfInBounds_toArray, List.set_cons_zero, List.set_cons_succ]
            refine wpAnyH_ready (rs := [10]) (by kernel_rfl) (by simp) ?_
            refine AllReadyH.cons rfl (fun K hK => ?_) AllReadyH.nil
            go_simp
            refine hK.out _ _ ?adhS10 (fun hHeld => ?adrest10)
            case adhS10 => first | exact K6 | exact K5 | exact K0
            clear hK K
            try simp only [Act.put, List.getElem_toArray, List.getElem_cons_succ, List.getElem_cons_zero, List.setIfInBounds_toArray, List.set_cons_zero, List.set_cons_succ]
            refine wpAnyH_take (i := 11) (v := ?advv11) rfl (by kernel_rfl) (by kernel_rfl) (by kernel_rfl) (fun _ _ _ h => h) (Or.inl ⟨by rfl, ?adhy11⟩) (by assumption) ?adrest11
            case adhy11 =>
              intro u hSu
              obtain ⟨s0, s1, s2, s3⟩ := hSu
              go_simp
              try with_reducible rfl
            try simp only [Act.put, List.getElem_toArray, List.getElem_cons_succ, List.getElem_cons_zero, List.setIfInBounds_toArray, List.set_cons_zero, List.set_cons_succ]
            refine wpAnyH_done (by kernel_rfl) ?_ _
            rw [HT.out] at J6
            clear K0 K5 K6 y0 y1 y6 yf0 yf1 z0 z1 z6 J1 CD HT KB
            go_wp2_with fail
            go_roundw
            case rel => exact ⟨k2 + 1, by omega, by go_num, rfl, _, _, _, _, _, _, _, _, J6⟩
            case measure => simp [intOf]; omega
          · obtain rfl : k2 = n2 := by omega
            rw [List.take_of_length_le (by rw [HL2.out]; omega)] at JR
            have hbd2 := run_bd2 T HTL.out m k2 (by omega)
            rw [List.take_of_length_le (by rw [HL2.out]; omega)] at hbd2
            have hgd2 := run_good m T hgd
            obtain ⟨T2, hT2⟩ : ∃ T2, T2 = runM T m := ⟨_, rfl⟩
            rw [← hT2] at hbd2 hgd2 JR
            clear hT2 HM HM2
            have JT := Lib.hid (J.out.belowS JR.out.B)
            have CS : Hid (∀ u, Below wr.heap.size wr u → Calls Tryz.prog 12 #[.pointer (some vb), tbV ma2 mn2 mc2 la2 ln2 lc2, .agg #[.int .u8 0, .string ⟨#[]⟩, .int .i64 0, .slice none 0 0]] u fun e u' => e = .returned (.bool true) ∧ Below u.heap.size u u') := Lib.hid (fun u hb => same_any (JR.out.belowS hb).D hgd2 hbd2 ac0 ⟨by decide, by decide, Reads.nil _ _⟩ (Nat.zero_le _) (fun s hs => by cases hs))
            have CT : Hid (∀ u, Below wr.heap.size wr u → Calls Tryz.prog 12 #[.pointer (some va), tbV ma mn mc la ln lc, .agg #[.int .u8 0, .string ⟨#[]⟩, .int .i64 0, .slice none 0 0]] u fun e u' => e = .returned (.bool true) ∧ Below u.heap.size u u') := Lib.hid (fun u hb => same_any (JT.out.belowS hb).D hgd hbd ac0 ⟨by decide, by decide, Reads.nil _ _⟩ (Nat.zero_le _) (fun s hs => by cases hs))
            have B0 := Lib.hid (Below.refl wr.heap.size wr)
            clear HL HL2 HTL hgd hbd hgd2 hbd2 J
            go_upto_region 19 with (go_at_call 14; (with_reducible refine (find_nil _ _).mono ?_); rintro e w1 ⟨⟨x1, x2, x3, x4, x5, rfl⟩, hB⟩; have B1 := Lib.hid (B0.out.trans (hB.mono B0.out.size)); clear hB)
            have bn1 := below_new w1 (.cells #[.string x1, .string x2, .int .i64 x3, .int .i64 x4, .int .i64 x5] 37)
            have B1 := Lib.hid (B1.out.trans (bn1.mono B1.out.size))
            clear bn1
            generalize w1.alloc (.cells #[.string x1, .string x2, .int .i64 x3, .int .i64 x4, .int .i64 x5] 37) = w1 at *
            go_upto_region 20 with (first | (go_at_call 15; (with_reducible refine (add_nil _ _ _ _).mono ?_); rintro e w1 ⟨rfl, hB⟩; have B1 := Lib.hid (B1.out.trans (hB.mono B1.out.size)); clear hB) | (go_at_call 16; (with_reducible refine (remove_nil _ _).mono ?_); rintro e w1 ⟨rfl, hB⟩; have B1 := Lib.hid (B1.out.trans (hB.mono B1.out.size)); clear hB) | (go_at_call 17; (with_reducible refine (hold_nil _ _).mono ?_); rintro e w1 ⟨rfl, hB⟩; have B1 := Lib.hid (B1.out.trans (hB.mono B1.out.size)); clear hB) | (go_at_call 18; (with_reducible refine (drop_nil _ _).mono ?_); rintro e w1 ⟨rfl, hB⟩; have B1 := Lib.hid (B1.out.trans (hB.mono B1.out.size)); clear hB) | (go_at_call 19; (with_reducible refine (refs_nil _ _).mono ?_); rintro e w1 ⟨rfl, hB⟩; have B1 := Lib.hid (B1.out.trans (hB.mono B1.out.size)); clear hB) | (go_at_call 20; (with_reducible refine (has_nil _ _).mono ?_); rintro e w1 ⟨rfl, hB⟩; have B1 := Lib.hid (B1.out.trans (hB.mono B1.out.size)); clear hB) | (go_at_call 21; (with_reducible refine (list_nil _).mono ?_); rintro e w1 ⟨⟨ra, rc, rfl⟩, hB⟩; have B1 := Lib.hid (B1.out.trans (hB.mono B1.out.size)); clear hB) | (go_at_call 13; (with_reducible refine (fork_nil _).mono ?_); rintro e w1 ⟨rfl, hB⟩; have B1 := Lib.hid (B1.out.trans (hB.mono B1.out.size)); clear hB))
            obtain ⟨z0, z1⟩ := two_cells (JR.out.belowS B1.out).Z
            have z6 := (JR.out.belowS B1.out).Z.lt
            go_wp2_with (first | (go_at_call 12; (with_reducible refine (CS.out _ B1.out).mono ?_); rintro e w8 ⟨rfl, hB⟩; have B2 := Lib.hid (B1.out.trans (hB.mono B1.out.size)); clear hB; clear z0 z1 z6; obtain ⟨z0, z1⟩ := two_cells (JT.out.belowS B2.out).Z; have z6 := (JT.out.belowS B2.out).Z.lt) | (go_at_call 12; (with_reducible refine (CT.out _ B2.out).mono ?_); rintro e w9 ⟨rfl, hB⟩; have B3 := Lib.hid (B2.out.trans (hB.mono B2.out.size)); clear hB) | (go_at_call 9; (with_reducible refine (AW.out _).mono ?_); rintro e w10 ⟨rfl, hB⟩; have B4 := Lib.hid (B3.out.trans (hB.mono B3.out.size)); clear hB))
            go_ret
            exact ⟨rfl, JT.out.B.trans (B4.out.mono JT.out.B.size)⟩
      · intro K hK
        go_simp
        have hb3 : Below wr.heap.size wr (wr.alloc (.cells #[.slice none 0 0, .slice none 0 0] 30)).drew := (below_new wr _).drew
        have K1 := two_cells (J.out.belowS hb3).Z
        have hz : Below (wr.alloc (.cells #[.slice none 0 0, .slice none 0 0] 30)).heap.size (wr.alloc (.cells #[.slice none 0 0, .slice none 0 0] 30)) (wr.alloc (.cells #[.slice none 0 0, .slice none 0 0] 30)).drew := (Below.refl _ _).drew
        have RZ := Lib.hid ((Whole.new wr 30 #[.slice none 0 0, .slice none 0 0]).belowS hz)
        have HB := Lib.hid hb3
        clear hb3 hz
        refine hK.out _ _ K1 (fun hHeld => ?_)
        clear hK K
        try simp only [Act.put, List.getElem_toArray, List.getElem_cons_succ, List.getElem_cons_zero, List.setIfInBounds_toArray, List.set_cons_zero, List.set_cons_succ]
        refine wpAnyH_ready (rs := [1]) (by kernel_rfl) (by simp) ?_
        refine AllReadyH.cons rfl (fun K hK => ?_) AllReadyH.nil
        (go_simp; go_at_call 13; (with_reducible refine (FK.out _ HB.out).mono ?_); rintro e u1 ⟨v2, S2, rfl, hP, hS2, hB⟩; have hb1 := HB.out.trans (hB.mono HB.out.size); have RZ1 := RZ.out.belowS hB; have K2 := two_cells (J.out.belowS hb1).Z; obtain ⟨y0, y1⟩ := two_cells RZ1; have yf0 := RZ1.frozen 0; have yf1 := RZ1.frozen 1; have yl := RZ1.lt; have JJ := Lib.hid (J.out.fork_b hb1 hP (fun g hg => Nat.le_trans HB.out.size (hS2 g hg)) RZ1 (Nat.le_refl _) (fun g hg e => by have := hS2 g hg; have := RZ.out.lt; omega)); have K3 := two_cells JJ.out.1.Z; obtain ⟨vb, rfl⟩ := hP.form; clear hB hb1 hP hS2 RZ1)
        refine hK.out _ _ ?fchS1 (fun hHeld => ?fcrest1)
        case fchS1 => first | exact K3 | exact K2 | exact K1 | exact K0
        clear hK K
        try simp only [Act.put, List.getElem_toArray, List.getElem_cons_succ, List.getElem_cons_zero, List.setIfInBounds_toArray, List.set_cons_zero, List.set_cons_succ]
        refine wpAnyH_take (i := 4) (v := ?fcvv4) rfl (by kernel_rfl) (by kernel_rfl) (by kernel_rfl) (fun _ _ _ h => h) (Or.inl ⟨by rfl, ?fchy4⟩) (by assumption) ?fcrest4
        case fchy4 =>
          intro u hSu
          obtain ⟨s0, s1⟩ := hSu
          go_simp
          try with_reducible rfl
        try simp only [Act.put, List.getElem_toArray, List.getElem_cons_succ, List.getElem_cons_zero, List.setIfInBounds_toArray, List.set_cons_zero, List.set_cons_succ]
        refine wpAnyH_ready (rs := [5]) (by kernel_rfl) (by simp) ?_
        refine AllReadyH.cons rfl (fun K hK => ?_) AllReadyH.nil
        go_simp
        refine hK.out _ _ ?fchS5 (fun hHeld => ?fcrest5)
        case fchS5 => first | exact K3 | exact K2 | exact K1 | exact K0
        clear hK K
        try simp only [Act.put, List.getElem_toArray, List.getElem_cons_succ, List.getElem_cons_zero, List.setIfInBounds_toArray, List.set_cons_zero, List.set_cons_succ]
        refine wpAnyH_take (i := 6) (v := ?fcvv6) rfl (by kernel_rfl) (by kernel_rfl) (by kernel_rfl) (fun _ _ _ h => h) (Or.inl ⟨by rfl, ?fchy6⟩) (by assumption) ?fcrest6
        case fchy6 =>
          intro u hSu
          obtain ⟨s0, s1⟩ := hSu
          go_simp
          try with_reducible rfl
        try simp only [Act.put, List.getElem_toArray, List.getElem_cons_succ, List.getElem_cons_zero, List.setIfInBounds_toArray, List.set_cons_zero, List.set_cons_succ]
        refine wpAnyH_done (by kernel_rfl) ?_ _
        clear y0 y1 yf0 yf1 yl K0 K1 K2 K3 J1 FK HD RZ HB
        generalize (u1.setCell ⟨wr.heap.size, 0, none⟩ (.slice ma mn mc)).setCell ⟨wr.heap.size, 1, none⟩ (.slice la ln lc) = W at *
        generalize wr.heap.size = p2 at *
        obtain ⟨w7, hw7⟩ : ∃ x, x = wr := ⟨_, rfl⟩
        subst hw7
        obtain ⟨JT, JF⟩ := JJ.out
        have J0 := Lib.hid JF
        have HM2 := Lib.hid (HM.out.go J.out.B J.out.B.size)
        clear JJ JT JF
        go_wp2_with fail
        go_loopw [10, 11] (fun ok i wr => ∃ k2 : Nat, k2 ≤ n2 ∧ i = .int .i64 (k2 : Int) ∧ ok = .bool true ∧ ∃ G2 S2 ma2 mn2 mc2 la2 ln2 lc2, Hid (PJ w7 p2 G2 S2 wr (.pointer (some vb)) ma2 mn2 mc2 la2 ln2 lc2 (runM T (m.take k2)))) (fun _ i _ => n2 - (intOf i).toNat)
        case atStart => exact ⟨0, by omega, rfl, rfl, _, _, _, _, _, _, _, _, J0⟩
        case round =>
          obtain ⟨k2, hk2, rfl, rfl, G2, S2, ma2, mn2, mc2, la2, ln2, lc2, JR⟩ := hrel
          clear J0
          by_cases hlt2 : k2 < n2
          · have hlt2' : (k2 : Int) < n2 := by omega
            have hbd2 := run_bd2 T HTL.out m k2 (by omega)
            have hgd2 := run_good (m.take k2) _ hgd
            obtain ⟨g, off, rfl, q1, hat, hok⟩ := HM2.out.at JR.out.B hlt2
            have hb0 : Below wr.heap.size wr wr.drew := (Below.refl _ _).drew
            have J1 := Lib.hid (JR.out.belowS hb0)
            have KA : Hid (∀ u, Below w7.heap.size w7 u → AcAt u g (off + k2 * 4) (m.getD k2 ac0) ∧ AcOk (· < w7.heap.size) u (m.getD k2 ac0)) := Lib.hid (fun u hu => by
              obtain ⟨g', off', e, _, e1, e2⟩ := HM2.out.at hu hlt2
              simp only [Option.some.injEq, Addr.mk.injEq, and_true] at e
              obtain ⟨rfl, rfl⟩ := e
              exact ⟨e1, e2⟩)
            have CD := Lib.hid (do_any J1.out.D hgd2 hbd2 (m.getD k2 ac0) (J1.out.act (KA.out _ J1.out.B).2) (HT2.out k2 hlt2).1 (HT2.out k2 hlt2).2 (HS4.out k2 hlt2))
            have hrt := runM_take T m k2 (by rw [HL2.out]; exact hlt2)
            rw [← hrt] at CD
            unfold IsDo at CD
            have KB : Hid (∀ u, Below w7.heap.size w7 u → AcAt u g (off + k2 * 4) (m.getD k2 ac0)) := Lib.hid (fun u hu => (KA.out u hu).1)
            clear hbd2 hgd2 hat hok hrt KA
            obtain ⟨T2, hT⟩ : ∃ T2, T2 = runM T (m.take (k2 + 1)) := ⟨_, rfl⟩
            rw [← hT] at CD
            have HT := Lib.hid hT
            clear hT
            obtain ⟨X, hX⟩ : ∃ X, X = m.getD k2 ac0 := ⟨_, rfl⟩
            rw [← hX] at CD KB
            clear hX
            obtain ⟨xk, xn, xg, na, nn, nc, ns⟩ := X
            change Hid (Calls _ _ #[_, _, .agg #[.int .u8 xk, .string (bs xn), .int .i64 xg, .slice na nn nc]] _ _) at CD
            have KB : Hid (∀ u : World, Below w7.heap.size w7 u → u.cell? ⟨g, off + k2 * 4, none⟩ = some (.int .u8 xk) ∧ u.cell? ⟨g, off + k2 * 4 + 1, none⟩ = some (.string (bs xn)) ∧ u.cell? ⟨g, off + k2 * 4 + 2, none⟩ = some (.int .i64 xg) ∧ u.cell? ⟨g, off + k2 * 4 + 3, none⟩ = some (.slice na nn nc)) := KB
            generalize bs xn = y at *
            have K0 := KB.out _ J1.out.B
            obtain ⟨z0, z1⟩ := two_cells J1.out.Z
            have z6 := J1.out.Z.lt
            go_upto_region 14 with fail
            refine wp_region_held_drew (S := fun u => u.cell? ⟨g, off + k2 * 4, none⟩ = some (.int .u8 xk) ∧ u.cell? ⟨g, off + k2 * 4 + 1, none⟩ = some (.string y) ∧ u.cell? ⟨g, off + k2 * 4 + 2, none⟩ = some (.int .i64 xg) ∧ u.cell? ⟨g, off + k2 * 4 + 3, none⟩ = some (.slice na nn nc)) (by kernel_rfl) K0 (fun hHeld => ?_)
            refine wpAnyH_take (i := 0) (v := ?bcvv0) rfl (by kernel_rfl) (by kernel_rfl) (by kernel_rfl) (fun _ _ _ h => h) (Or.inl ⟨by rfl, ?bchy0⟩) (by assumption) ?bcrest0
            case bchy0 =>
              intro u hSu
              obtain ⟨s0, s1, s2, s3⟩ := hSu
              go_simp
              try with_reducible rfl
            try simp only [Act.put, List.getElem_toArray, List.getElem_cons_succ, List.getElem_cons_zero, List.setIfInBounds_toArray, List.set_cons_zero, List.set_cons_succ]
            refine wpAnyH_take (i := 2) (v := ?bcvv2) rfl (by kernel_rfl) (by kernel_rfl) (by kernel_rfl) (fun _ _ _ h => h) (Or.inl ⟨by rfl, ?bchy2⟩) (by assumption) ?bcrest2
            case bchy2 =>
              intro u hSu
              obtain ⟨s0, s1, s2, s3⟩ := hSu
              go_simp
              try with_reducible rfl
            try simp only [Act.put, List.getElem_toArray, List.getElem_cons_succ, List.getElem_cons_zero, List.setIfInBounds_toArray, List.set_cons_zero, List.set_cons_succ]
            refine wpAnyH_take (i := 3) (v := ?bcvv3) rfl (by kernel_rfl) (by kernel_rfl) (by kernel_rfl) (fun _ _ _ h => h) (Or.inl ⟨by rfl, ?bchy3⟩) (by assumption) ?bcrest3
            case bchy3 =>
              intro u hSu
              obtain ⟨s0, s1, s2, s3⟩ := hSu
              go_simp
              try with_reducible rfl
            try simp only [Act.put, List.getElem_toArray, List.getElem_cons_succ, List.getElem_cons_zero, List.setIfInBounds_toArray, List.set_cons_zero, List.set_cons_succ]
            refine wpAnyH_take (i := 4) (v := ?bcvv4) rfl (by kernel_rfl) (by kernel_rfl) (by kernel_rfl) (fun _ _ _ h => h) (Or.inl ⟨by rfl, ?bchy4⟩) (by assumption) ?bcrest4
            case bchy4 =>
              intro u hSu
              obtain ⟨s0, s1, s2, s3⟩ := hSu
              go_simp
              try with_reducible rfl
            try simp only [Act.put, List.getElem_toArray, List.getElem_cons_succ, List.getElem_cons_zero, List.setIfInBounds_toArray, List.set_cons_zero, List.set_cons_succ]
            refine wpAnyH_take (i := 5) (v := ?bcvv5) rfl (by kernel_rfl) (by kernel_rfl) (by kernel_rfl) (fun _ _ _ h => h) (Or.inl ⟨by rfl, ?bchy5⟩) (by assumption) ?bcrest5
            case bchy5 =>
              intro u hSu
              obtain ⟨s0, s1, s2, s3⟩ := hSu
              go_simp
              try with_reducible rfl
            try simp only [Act.put, List.getElem_toArray, List.getElem_cons_succ, List.getElem_cons_zero, List.setIfInBounds_toArray, List.set_cons_zero, List.set_cons_succ]
            refine wpAnyH_ready (rs := [1]) (by kernel_rfl) (by simp) ?_
            refine AllReadyH.cons rfl (fun K hK => ?_) AllReadyH.nil
            go_simp
            refine hK.out _ _ K0 (fun hHeld => ?_)
            clear hK K
            try simp only [Act.put, List.getElem_toArray, List.getElem_cons_succ, List.getElem_cons_zero, List.setIfInBounds_toArray, List.set_cons_zero, List.set_cons_succ]
            refine wpAnyH_ready (rs := [6]) (by kernel_rfl) (by simp) ?_
            refine AllReadyH.cons rfl (fun K hK => ?_) AllReadyH.nil
            (go_simp; go_at_call 11; (with_reducible refine (CD.out).mono ?_); rintro e w5 ⟨ma', mn', mc', la', ln', lc', G', S', rfl, hD, hS', hG', hF⟩; obtain ⟨zz, J5⟩ := J1.out.step hD hS' hG' hF; have K5 := KB.out _ (Below.fr J1.out.B hF J1.out.B.size fun i hi => (J1.out.SB i hi).1); have K6 := KB.out _ J5.B; have J6 := Lib.hid J5; have y0 := zz.cell 0; have y1 := zz.cell 1; have y6 := zz.lt; have yf0 := zz.frozen 0; have yf1 := zz.frozen 1; clear hD hS' hG' hF J5 zz)
            refine hK.out _ _ ?bdhS6 (fun hHeld => ?bdrest6)
            case bdhS6 => first | exact K6 | exact K5 | exact K0
            clear hK K
            try simp only [Act.put, List.getElem_toArray, List.getElem_cons_succ, List.getElem_cons_zero, List.setIfInBounds_toArray, List.set_cons_zero, List.set_cons_succ]
            refine wpAnyH_take (i := 7) (v := ?bdvv7) rfl (by kernel_rfl) (by kernel_rfl) (by kernel_rfl) (fun _ _ _ h => h) (Or.inl ⟨by rfl, ?bdhy7⟩) (by assumption) ?bdrest7
            case bdhy7 =>
              intro u hSu
              obtain ⟨s0, s1, s2, s3⟩ := hSu
              go_simp
              try with_reducible rfl
            try simp only [Act.put, List.getElem_toArray, List.getElem_cons_succ, List.getElem_cons_zero, List.setIfInBounds_toArray, List.set_cons_zero, List.set_cons_succ]
            refine wpAnyH_take (i := 8) (v := ?bdvv8) rfl (by kernel_rfl) (by kernel_rfl) (by kernel_rfl) (fun _ _ _ h => h) (Or.inl ⟨by rfl, ?bdhy8⟩) (by assumption) ?bdrest8
            case bdhy8 =>
              intro u hSu
              obtain ⟨s0, s1, s2, s3⟩ := hSu
              go_simp
              try with_reducible rfl
            try simp only [Act.put, List.getElem_toArray, List.getElem_cons_succ, List.getElem_cons_zero, List.setIfInBounds_toArray, List.set_cons_zero, List.set_cons_succ]
            refine wpAnyH_take (i := 9) (v := ?bdvv9) rfl (by kernel_rfl) (by kernel_rfl) (by kernel_rfl) (fun _ _ _ h => h) (Or.inl ⟨by rfl, ?bdhy9⟩) (by assumption) ?bdrest9
            case bdhy9 =>
              intro u hSu
              obtain ⟨s0, s1, s2, s3⟩ := hSu
              go_simp
              try with_reducible rfl
            try simp only [Act.put, List.getElem_toArray, List.getElem_cons_succ, List.getElem_cons_zero, List.setIfInBounds_toArray, List.set_cons_zero, List.set_cons_succ]
            refine wpAnyH_ready (rs := [10]) (by kernel_rfl) (by simp) ?_
            refine AllReadyH.cons rfl (fun K hK => ?_) AllReadyH.nil
            go_simp
            refine hK.out _ _ ?bdhS10 (fun hHeld => ?bdrest10)
            case bdhS10 => first | exact K6 | exact K5 | exact K0
            clear hK K
            try simp only [Act.put, List.getElem_toArray, List.getElem_cons_succ, List.getElem_cons_zero, List.setIfInBounds_toArray, List.set_cons_zero, List.set_cons_succ]
            refine wpAnyH_take (i := 11) (v := ?bdvv11) rfl (by kernel_rfl) (by kernel_rfl) (by kernel_rfl) (fun _ _ _ h => h) (Or.inl ⟨by rfl, ?bdhy11⟩) (by assumption) ?bdrest11
            case bdhy11 =>
              intro u hSu
              obtain ⟨s0, s1, s2, s3⟩ := hSu
              go_simp
              try with_reducible rfl
            try simp only [Act.put, List.getElem_toArray, List.getElem_cons_succ, List.getElem_cons_zero, List.setIfInBounds_toArray, List.set_cons_zero, List.set_cons_succ]
            refine wpAnyH_done (by kernel_rfl) ?_ _
            rw [HT.out] at J6
            clear K0 K5 K6 y0 y1 y6 yf0 yf1 z0 z1 z6 J1 CD HT KB
            go_wp2_with fail
            go_roundw
            case rel => exact ⟨k2 + 1, by omega, by go_num, rfl, _, _, _, _, _, _, _, _, J6⟩
            case measure => simp [intOf]; omega
          · obtain rfl : k2 = n2 := by omega
            rw [List.take_of_length_le (by rw [HL2.out]; omega)] at JR
            have hbd2 := run_bd2 T HTL.out m k2 (by omega)
            rw [List.take_of_length_le (by rw [HL2.out]; omega)] at hbd2
            have hgd2 := run_good m T hgd
            obtain ⟨T2, hT2⟩ : ∃ T2, T2 = runM T m := ⟨_, rfl⟩
            rw [← hT2] at hbd2 hgd2 JR
            clear hT2 HM HM2
            have JT := Lib.hid (J.out.belowS JR.out.B)
            have CS : Hid (∀ u, Below wr.heap.size wr u → Calls Tryz.prog 12 #[.pointer (some vb), tbV ma2 mn2 mc2 la2 ln2 lc2, .agg #[.int .u8 0, .string ⟨#[]⟩, .int .i64 0, .slice none 0 0]] u fun e u' => e = .returned (.bool true) ∧ Below u.heap.size u u') := Lib.hid (fun u hb => same_any (JR.out.belowS hb).D hgd2 hbd2 ac0 ⟨by decide, by decide, Reads.nil _ _⟩ (Nat.zero_le _) (fun s hs => by cases hs))
            have CT : Hid (∀ u, Below wr.heap.size wr u → Calls Tryz.prog 12 #[.pointer (some va), tbV ma mn mc la ln lc, .agg #[.int .u8 0, .string ⟨#[]⟩, .int .i64 0, .slice none 0 0]] u fun e u' => e = .returned (.bool true) ∧ Below u.heap.size u u') := Lib.hid (fun u hb => same_any (JT.out.belowS hb).D hgd hbd ac0 ⟨by decide, by decide, Reads.nil _ _⟩ (Nat.zero_le _) (fun s hs => by cases hs))
            have B0 := Lib.hid (Below.refl wr.heap.size wr)
            clear HL HL2 HTL hgd hbd hgd2 hbd2 J
            go_upto_region 19 with (go_at_call 14; (with_reducible refine (find_nil _ _).mono ?_); rintro e w1 ⟨⟨x1, x2, x3, x4, x5, rfl⟩, hB⟩; have B1 := Lib.hid (B0.out.trans (hB.mono B0.out.size)); clear hB)
            have bn1 := below_new w1 (.cells #[.string x1, .string x2, .int .i64 x3, .int .i64 x4, .int .i64 x5] 37)
            have B1 := Lib.hid (B1.out.trans (bn1.mono B1.out.size))
            clear bn1
            generalize w1.alloc (.cells #[.string x1, .string x2, .int .i64 x3, .int .i64 x4, .int .i64 x5] 37) = w1 at *
            go_upto_region 20 with (first | (go_at_call 15; (with_reducible refine (add_nil _ _ _ _).mono ?_); rintro e w1 ⟨rfl, hB⟩; have B1 := Lib.hid (B1.out.trans (hB.mono B1.out.size)); clear hB) | (go_at_call 16; (with_reducible refine (remove_nil _ _).mono ?_); rintro e w1 ⟨rfl, hB⟩; have B1 := Lib.hid (B1.out.trans (hB.mono B1.out.size)); clear hB) | (go_at_call 17; (with_reducible refine (hold_nil _ _).mono ?_); rintro e w1 ⟨rfl, hB⟩; have B1 := Lib.hid (B1.out.trans (hB.mono B1.out.size)); clear hB) | (go_at_call 18; (with_reducible refine (drop_nil _ _).mono ?_); rintro e w1 ⟨rfl, hB⟩; have B1 := Lib.hid (B1.out.trans (hB.mono B1.out.size)); clear hB) | (go_at_call 19; (with_reducible refine (refs_nil _ _).mono ?_); rintro e w1 ⟨rfl, hB⟩; have B1 := Lib.hid (B1.out.trans (hB.mono B1.out.size)); clear hB) | (go_at_call 20; (with_reducible refine (has_nil _ _).mono ?_); rintro e w1 ⟨rfl, hB⟩; have B1 := Lib.hid (B1.out.trans (hB.mono B1.out.size)); clear hB) | (go_at_call 21; (with_reducible refine (list_nil _).mono ?_); rintro e w1 ⟨⟨ra, rc, rfl⟩, hB⟩; have B1 := Lib.hid (B1.out.trans (hB.mono B1.out.size)); clear hB) | (go_at_call 13; (with_reducible refine (fork_nil _).mono ?_); rintro e w1 ⟨rfl, hB⟩; have B1 := Lib.hid (B1.out.trans (hB.mono B1.out.size)); clear hB))
            obtain ⟨z0, z1⟩ := two_cells (JR.out.belowS B1.out).Z
            have z6 := (JR.out.belowS B1.out).Z.lt
            go_wp2_with (first | (go_at_call 12; (with_reducible refine (CS.out _ B1.out).mono ?_); rintro e w8 ⟨rfl, hB⟩; have B2 := Lib.hid (B1.out.trans (hB.mono B1.out.size)); clear hB; clear z0 z1 z6; obtain ⟨z0, z1⟩ := two_cells (JT.out.belowS B2.out).Z; have z6 := (JT.out.belowS B2.out).Z.lt) | (go_at_call 12; (with_reducible refine (CT.out _ B2.out).mono ?_); rintro e w9 ⟨rfl, hB⟩; have B3 := Lib.hid (B2.out.trans (hB.mono B2.out.size)); clear hB) | (go_at_call 9; (with_reducible refine (AW.out _).mono ?_); rintro e w10 ⟨rfl, hB⟩; have B4 := Lib.hid (B3.out.trans (hB.mono B3.out.size)); clear hB))
            go_ret
            exact ⟨rfl, JT.out.B.trans (B4.out.mono JT.out.B.size)⟩
end
end Go.Proofs.YtleggfofgpiabaaGreat.WK
