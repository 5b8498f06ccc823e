/-
  The walk of SymtabPlays, over what the program's functions tell. Nothing here is a statement of the seed.
-/
import Derived.Test.YtleggfofgpiabaaGreatSymRun
set_option linter.unusedSimpArgs false
set_option linter.unusedVariables false
namespace Go.Proofs.YtleggfofgpiabaaGreat.WK
open Go.RowKit WM NR OM OR SM SR SF SP
set_option maxHeartbeats 4000000
set_option maxRecDepth 10000
section
variable {w : World} {a : Option Addr} {n c : Nat} {l : List Ac}
theorem SymtabPlays_walk (h : ReadsA (· < w.heap.size) w (.slice a n c) l) (hs : ∀ x ∈ l, x.nm.length ≤ 2097152 ∧ ∀ s ∈ x.ns, s.length ≤ 2097152) :
    Calls Tryz.prog 3 #[.slice a n c] w fun e w' => e = .returned (.bool true) ∧ Below w.heap.size w w' := by
  obtain ⟨n1, m1, m2⟩ := h.len
  unfold maxLen at m2
  have hn : (n : Int) ≤ 9223372036854775807 := by omega
  have CF := Lib.hid (few_any h)
  have AW := Lib.hid awake_any
  cases hf : fewB l with
  | false =>
    rw [hf] at CF
    clear h hs n1 m1 m2 hf
    go_enter Tryz.func3, Tryz.ntmps3
    go_wp2_with (first | (go_at_call 8; (with_reducible refine CF.out.mono ?_); rintro e w1 ⟨rfl, hb1⟩) | (go_at_call 9; (with_reducible refine (AW.out _).mono ?_); rintro e w2 ⟨rfl, hb2⟩))
    go_ret
    exact ⟨rfl, hb1.trans (hb2.mono hb1.size)⟩
  | true =>
  rw [hf] at CF
  have HS3 : Hid (∀ k, k < n → (l.getD k ac0).ns.length ≤ 1000) := Lib.hid (by first | exact few_len h hf | exact few_len HA.out hf)
  have h60 : n ≤ 60 := by
    unfold fewB at hf
    rw [Bool.and_eq_true] at hf
    have := of_decide_eq_true hf.1
    omega
  have HA := Lib.hid h
  have HS : Hid (∀ k, k < n → (l.getD k ac0).nm.length ≤ 2097152 ∧ ∀ s ∈ (l.getD k ac0).ns, s.length ≤ 2097152) := Lib.hid (fun k hk => hs _ (by rw [List.getD_eq_getElem?_getD, List.getElem?_eq_getElem (by omega)]; exact List.getElem_mem _))
  have HL := Lib.hid n1
  clear h hs n1 m2 hf
  have q2 : (n : Int) ≤ c := by omega
  go_enter Tryz.func3, Tryz.ntmps3
  go_upto_region 3 with (go_at_call 8; (with_reducible refine CF.out.mono ?_); rintro e w1 ⟨rfl, hb1⟩; have B1 := Lib.hid hb1; clear hb1)
  go_upto_region 4 with (go_at_call 10; (with_reducible refine (new_any _).mono ?_); rintro e w2 ⟨v, S, rfl, hP, hS, hb2⟩; have P2 := Lib.hid hP; have S2 := Lib.hid hS; have B2 := Lib.hid (B1.out.trans (hb2.mono B1.out.size)); clear hP hS hb2)
  have bn := below_new w2 (.cells #[.slice none 0 0, .slice none 0 0] 30)
  have J0 : Hid (PJ w w2.heap.size (fun _ => False) S (w2.alloc (.cells #[.slice none 0 0, .slice none 0 0] 30)) v none 0 0 none 0 0 ⟨[], []⟩) := Lib.hid ⟨Whole.new _ _ _, ⟨P2.out.keep bn.size (fun g hg => bn.block g (P2.out.lt g hg)), RdT.zero _ _, fun g hg => hg.elim⟩, B2.out.trans (bn.mono B2.out.size), fun g hg => ⟨by have := S2.out g hg; have := B1.out.size; omega, by have := P2.out.lt g hg; omega⟩, fun g hg => hg.elim, B2.out.size⟩
  obtain ⟨va, rfl⟩ := P2.out.form
  clear bn P2 S2 B2 B1 CF
  generalize w2.alloc (.cells #[.slice none 0 0, .slice none 0 0] 30) = W3 at *
  generalize w2.heap.size = p at *
  go_wp2_with fail
  go_loopw [5, 6] (fun ok i wr => ∃ k : Nat, k ≤ n ∧ i = .int .i64 (k : Int) ∧ ok = .bool true ∧ ∃ G S ma mn mc la ln lc, Hid (PJ w p G S wr (.pointer (some va)) ma mn mc la ln lc (runM ⟨[], []⟩ (l.take k)))) (fun _ i _ => n - (intOf i).toNat)
  case atStart => exact ⟨0, by omega, rfl, rfl, _, _, _, _, _, _, _, _, J0⟩
  case round =>
    obtain ⟨k, hk, rfl, rfl, G, S, ma, mn, mc, la, ln, lc, J⟩ := hrel
    clear J0
    by_cases hlt : k < n
    · have hlt' : (k : Int) < n := by omega
      have hbd := run_bd l k (by omega)
      have hgd := run_good (l.take k) _ good_nil
      obtain ⟨g, off, rfl, q1, hat, hok⟩ := HA.out.at J.out.B hlt
      have hb0 : Below wr.heap.size wr wr.drew := (Below.refl _ _).drew
      have J1 := Lib.hid (J.out.belowS hb0)
      have KA : Hid (∀ u, Below w.heap.size w u → AcAt u g (off + k * 4) (l.getD k ac0) ∧ AcOk (· < w.heap.size) u (l.getD k ac0)) := Lib.hid (fun u hu => by
        obtain ⟨g', off', e, _, e1, e2⟩ := HA.out.at hu hlt
        simp only [Option.some.injEq, Addr.mk.injEq, and_true] at e
        obtain ⟨rfl, rfl⟩ := e
        exact ⟨e1, e2⟩)
      have CD := Lib.hid (do_any J1.out.D hgd hbd (l.getD k ac0) (J1.out.act (KA.out _ J1.out.B).2) (HS.out k hlt).1 (HS.out k hlt).2 (HS3.out k hlt))
      have hrt := runM_take ⟨[], []⟩ l k (by rw [HL.out]; exact hlt)
      rw [← hrt] at CD
      unfold IsDo at CD
      have hbd2 := run_bd l (k + 1) (by omega)
      have hgd2 := run_good (l.take (k + 1)) _ good_nil
      have CS : Hid (∀ (G S : Nat → Prop) (u : World) (ma : Option Addr) (mn mc : Nat) (la : Option Addr) (ln lc : Nat), PJ w p G S u (.pointer (some va)) ma mn mc la ln lc (runM ⟨[], []⟩ (l.take (k + 1))) → Calls Tryz.prog 12 #[.pointer (some va), tbV ma mn mc la ln lc, acV (l.getD k ac0)] u fun e u' => e = .returned (.bool true) ∧ Below u.heap.size u u') := Lib.hid (fun G S u ma mn mc la ln lc hj => same_any hj.D hgd2 hbd2 (l.getD k ac0) (hj.act (KA.out _ hj.B).2) (HS.out k hlt).1 (HS.out k hlt).2)
      have KB : Hid (∀ u, Below w.heap.size w u → AcAt u g (off + k * 4) (l.getD k ac0)) := Lib.hid (fun u hu => (KA.out u hu).1)
      clear hbd hgd hat hok hrt hbd2 hgd2 KA
      obtain ⟨T, hT⟩ : ∃ T, T = runM ⟨[], []⟩ (l.take (k + 1)) := ⟨_, rfl⟩
      rw [← hT] at CD CS
      have HT := Lib.hid hT
      clear hT
      obtain ⟨X, hX⟩ : ∃ X, X = l.getD k ac0 := ⟨_, rfl⟩
      rw [← hX] at CD CS KB
      clear hX
      obtain ⟨xk, xn, xg, na, nn, nc, ns⟩ := X
      change Hid (Calls _ _ #[_, _, .agg #[.int .u8 xk, .string (bs xn), .int .i64 xg, .slice na nn nc]] _ _) at CD
      change Hid (∀ (G S : Nat → Prop) (u : World) (ma : Option Addr) (mn mc : Nat) (la : Option Addr) (ln lc : Nat), _ → Calls _ _ #[_, _, .agg #[.int .u8 xk, .string (bs xn), .int .i64 xg, .slice na nn nc]] _ _) at CS
      have KB : Hid (∀ u : World, Below w.heap.size w u → u.cell? ⟨g, off + k * 4, none⟩ = some (.int .u8 xk) ∧ u.cell? ⟨g, off + k * 4 + 1, none⟩ = some (.string (bs xn)) ∧ u.cell? ⟨g, off + k * 4 + 2, none⟩ = some (.int .i64 xg) ∧ u.cell? ⟨g, off + k * 4 + 3, none⟩ = some (.slice na nn nc)) := KB
      generalize bs xn = y at *
      have K0 := KB.out _ J1.out.B
      obtain ⟨z0, z1⟩ := two_cells J1.out.Z
      have z6 := J1.out.Z.lt
      go_upto_region 8 with fail
      refine wp_region_held_drew (S := fun u => u.cell? ⟨g, off + k * 4, none⟩ = some (.int .u8 xk) ∧ u.cell? ⟨g, off + k * 4 + 1, none⟩ = some (.string y) ∧ u.cell? ⟨g, off + k * 4 + 2, none⟩ = some (.int .i64 xg) ∧ u.cell? ⟨g, off + k * 4 + 3, none⟩ = some (.slice na nn nc)) (by kernel_rfl) K0 (fun hHeld => ?_)
      refine wpAnyH_take (i := 0) (v := ?avv0) rfl (by kernel_rfl) (by kernel_rfl) (by kernel_rfl) (fun _ _ _ h => h) (Or.inl ⟨by rfl, ?ahy0⟩) (by assumption) ?arest0
      case ahy0 =>
        intro u hSu
        obtain ⟨s0, s1, s2, s3⟩ := hSu
        go_simp
        try with_reducible rfl
      try simp only [Act.put, List.getElem_toArray, List.getElem_cons_succ, List.getElem_cons_zero, List.setIfInBounds_toArray, List.set_cons_zero, List.set_cons_succ]
      refine wpAnyH_take (i := 2) (v := ?avv2) rfl (by kernel_rfl) (by kernel_rfl) (by kernel_rfl) (fun _ _ _ h => h) (Or.inl ⟨by rfl, ?ahy2⟩) (by assumption) ?arest2
      case ahy2 =>
        intro u hSu
        obtain ⟨s0, s1, s2, s3⟩ := hSu
        go_simp
        try with_reducible rfl
      try simp only [Act.put, List.getElem_toArray, List.getElem_cons_succ, List.getElem_cons_zero, List.setIfInBounds_toArray, List.set_cons_zero, List.set_cons_succ]
      refine wpAnyH_take (i := 3) (v := ?avv3) rfl (by kernel_rfl) (by kernel_rfl) (by kernel_rfl) (fun _ _ _ h => h) (Or.inl ⟨by rfl, ?ahy3⟩) (by assumption) ?arest3
      case ahy3 =>
        intro u hSu
        obtain ⟨s0, s1, s2, s3⟩ := hSu
        go_simp
        try with_reducible rfl
      try simp only [Act.put, List.getElem_toArray, List.getElem_cons_succ, List.getElem_cons_zero, List.setIfInBounds_toArray, List.set_cons_zero, List.set_cons_succ]
      refine wpAnyH_take (i := 4) (v := ?avv4) rfl (by kernel_rfl) (by kernel_rfl) (by kernel_rfl) (fun _ _ _ h => h) (Or.inl ⟨by rfl, ?ahy4⟩) (by assumption) ?arest4
      case ahy4 =>
        intro u hSu
        obtain ⟨s0, s1, s2, s3⟩ := hSu
        go_simp
        try with_reducible rfl
      try simp only [Act.put, List.getElem_toArray, List.getElem_cons_succ, List.getElem_cons_zero, List.setIfInBounds_toArray, List.set_cons_zero, List.set_cons_succ]
      refine wpAnyH_take (i := 5) (v := ?avv5) rfl (by kernel_rfl) (by kernel_rfl) (by kernel_rfl) (fun _ _ _ h => h) (Or.inl ⟨by rfl, ?ahy5⟩) (by assumption) ?arest5
      case ahy5 =>
        intro u hSu
        obtain ⟨s0, s1, s2, s3⟩ := hSu
        go_simp
        try with_reducible rfl
      try simp only [Act.put, List.getElem_toArray, List.getElem_cons_succ, List.getElem_cons_zero, List.setIfInBounds_toArray, List.set_cons_zero, List.set_cons_succ]
      refine wpAnyH_ready (rs := [1]) (by kernel_rfl) (by simp) ?_
      refine AllReadyH.cons rfl (fun K hK => ?_) AllReadyH.nil
      go_simp
      refine hK.out _ _ K0 (fun hHeld => ?_)
      clear hK K
      try simp only [Act.put, List.getElem_toArray, List.getElem_cons_succ, List.getElem_cons_zero, List.setIfInBounds_toArray, List.set_cons_zero, List.set_cons_succ]
      refine wpAnyH_ready (rs := [6]) (by kernel_rfl) (by simp) ?_
      refine AllReadyH.cons rfl (fun K hK => ?_) AllReadyH.nil
      (go_simp; go_at_call 11; (with_reducible refine (CD.out).mono ?_); rintro e w5 ⟨ma', mn', mc', la', ln', lc', G', S', rfl, hD, hS', hG', hF⟩; obtain ⟨zz, J5⟩ := J1.out.step hD hS' hG' hF; have K5 := KB.out _ (Below.fr J1.out.B hF J1.out.B.size fun i hi => (J1.out.SB i hi).1); have K6 := KB.out _ J5.B; have J6 := Lib.hid J5; have y0 := zz.cell 0; have y1 := zz.cell 1; have y6 := zz.lt; have yf0 := zz.frozen 0; have yf1 := zz.frozen 1; clear hD hS' hG' hF J5 zz)
      refine hK.out _ _ ?bhS6 (fun hHeld => ?brest6)
      case bhS6 => first | exact K6 | exact K5 | exact K0
      clear hK K
      try simp only [Act.put, List.getElem_toArray, List.getElem_cons_succ, List.getElem_cons_zero, List.setIfInBounds_toArray, List.set_cons_zero, List.set_cons_succ]
      refine wpAnyH_take (i := 7) (v := ?bvv7) rfl (by kernel_rfl) (by kernel_rfl) (by kernel_rfl) (fun _ _ _ h => h) (Or.inl ⟨by rfl, ?bhy7⟩) (by assumption) ?brest7
      case bhy7 =>
        intro u hSu
        obtain ⟨s0, s1, s2, s3⟩ := hSu
        go_simp
        try with_reducible rfl
      try simp only [Act.put, List.getElem_toArray, List.getElem_cons_succ, List.getElem_cons_zero, List.setIfInBounds_toArray, List.set_cons_zero, List.set_cons_succ]
      refine wpAnyH_take (i := 8) (v := ?bvv8) rfl (by kernel_rfl) (by kernel_rfl) (by kernel_rfl) (fun _ _ _ h => h) (Or.inl ⟨by rfl, ?bhy8⟩) (by assumption) ?brest8
      case bhy8 =>
        intro u hSu
        obtain ⟨s0, s1, s2, s3⟩ := hSu
        go_simp
        try with_reducible rfl
      try simp only [Act.put, List.getElem_toArray, List.getElem_cons_succ, List.getElem_cons_zero, List.setIfInBounds_toArray, List.set_cons_zero, List.set_cons_succ]
      refine wpAnyH_take (i := 9) (v := ?bvv9) rfl (by kernel_rfl) (by kernel_rfl) (by kernel_rfl) (fun _ _ _ h => h) (Or.inl ⟨by rfl, ?bhy9⟩) (by assumption) ?brest9
      case bhy9 =>
        intro u hSu
        obtain ⟨s0, s1, s2, s3⟩ := hSu
        go_simp
        try with_reducible rfl
      try simp only [Act.put, List.getElem_toArray, List.getElem_cons_succ, List.getElem_cons_zero, List.setIfInBounds_toArray, List.set_cons_zero, List.set_cons_succ]
      refine wpAnyH_ready (rs := [10]) (by kernel_rfl) (by simp) ?_
      refine AllReadyH.cons rfl (fun K hK => ?_) AllReadyH.nil
      go_simp
      refine hK.out _ _ ?bhS10 (fun hHeld => ?brest10)
      case bhS10 => first | exact K6 | exact K5 | exact K0
      clear hK K
      try simp only [Act.put, List.getElem_toArray, List.getElem_cons_succ, List.getElem_cons_zero, List.setIfInBounds_toArray, List.set_cons_zero, List.set_cons_succ]
      refine wpAnyH_take (i := 11) (v := ?bvv11) rfl (by kernel_rfl) (by kernel_rfl) (by kernel_rfl) (fun _ _ _ h => h) (Or.inl ⟨by rfl, ?bhy11⟩) (by assumption) ?brest11
      case bhy11 =>
        intro u hSu
        obtain ⟨s0, s1, s2, s3⟩ := hSu
        go_simp
        try with_reducible rfl
      try simp only [Act.put, List.getElem_toArray, List.getElem_cons_succ, List.getElem_cons_zero, List.setIfInBounds_toArray, List.set_cons_zero, List.set_cons_succ]
      refine wpAnyH_done (by kernel_rfl) ?_ _
      clear K0 K5 K6 y0 y1 y6 yf0 yf1 z0 z1 z6 J1 J CD
      generalize (w5.setCell ⟨p, 0, none⟩ (.slice ma' mn' mc')).setCell ⟨p, 1, none⟩ (.slice la' ln' lc') = W6 at *
      go_upto_region 9 with fail
      have hb6 : Below W6.heap.size W6 W6.drew := (Below.refl _ _).drew
      have J7 := Lib.hid (J6.out.belowS hb6)
      have K0 := And.intro (two_cells J7.out.Z) (KB.out _ J7.out.B)
      refine wp_region_held_drew (S := fun u => (u.cell? ⟨p, 0, none⟩ = some (.slice ma' mn' mc') ∧ u.cell? ⟨p, 1, none⟩ = some (.slice la' ln' lc')) ∧ u.cell? ⟨g, off + k * 4, none⟩ = some (.int .u8 xk) ∧ u.cell? ⟨g, off + k * 4 + 1, none⟩ = some (.string y) ∧ u.cell? ⟨g, off + k * 4 + 2, none⟩ = some (.int .i64 xg) ∧ u.cell? ⟨g, off + k * 4 + 3, none⟩ = some (.slice na nn nc)) (by kernel_rfl) K0 (fun hHeld => ?_)
      refine wpAnyH_take (i := 0) (v := ?cvv0) rfl (by kernel_rfl) (by kernel_rfl) (by kernel_rfl) (fun _ _ _ h => h) (Or.inl ⟨by rfl, ?chy0⟩) (by assumption) ?crest0
      case chy0 =>
        intro u hSu
        obtain ⟨⟨t0, t1⟩, s0, s1, s2, s3⟩ := hSu
        go_simp
        try with_reducible rfl
      try simp only [Act.put, List.getElem_toArray, List.getElem_cons_succ, List.getElem_cons_zero, List.setIfInBounds_toArray, List.set_cons_zero, List.set_cons_succ]
      refine wpAnyH_take (i := 1) (v := ?cvv1) rfl (by kernel_rfl) (by kernel_rfl) (by kernel_rfl) (fun _ _ _ h => h) (Or.inl ⟨by rfl, ?chy1⟩) (by assumption) ?crest1
      case chy1 =>
        intro u hSu
        obtain ⟨⟨t0, t1⟩, s0, s1, s2, s3⟩ := hSu
        go_simp
        try with_reducible rfl
      try simp only [Act.put, List.getElem_toArray, List.getElem_cons_succ, List.getElem_cons_zero, List.setIfInBounds_toArray, List.set_cons_zero, List.set_cons_succ]
      refine wpAnyH_take (i := 2) (v := ?cvv2) rfl (by kernel_rfl) (by kernel_rfl) (by kernel_rfl) (fun _ _ _ h => h) (Or.inl ⟨by rfl, ?chy2⟩) (by assumption) ?crest2
      case chy2 =>
        intro u hSu
        obtain ⟨⟨t0, t1⟩, s0, s1, s2, s3⟩ := hSu
        go_simp
        try with_reducible rfl
      try simp only [Act.put, List.getElem_toArray, List.getElem_cons_succ, List.getElem_cons_zero, List.setIfInBounds_toArray, List.set_cons_zero, List.set_cons_succ]
      refine wpAnyH_take (i := 3) (v := ?cvv3) rfl (by kernel_rfl) (by kernel_rfl) (by kernel_rfl) (fun _ _ _ h => h) (Or.inl ⟨by rfl, ?chy3⟩) (by assumption) ?crest3
      case chy3 =>
        intro u hSu
        obtain ⟨⟨t0, t1⟩, s0, s1, s2, s3⟩ := hSu
        go_simp
        try with_reducible rfl
      try simp only [Act.put, List.getElem_toArray, List.getElem_cons_succ, List.getElem_cons_zero, List.setIfInBounds_toArray, List.set_cons_zero, List.set_cons_succ]
      refine wpAnyH_take (i := 4) (v := ?cvv4) rfl (by kernel_rfl) (by kernel_rfl) (by kernel_rfl) (fun _ _ _ h => h) (Or.inl ⟨by rfl, ?chy4⟩) (by assumption) ?crest4
      case chy4 =>
        intro u hSu
        obtain ⟨⟨t0, t1⟩, s0, s1, s2, s3⟩ := hSu
        go_simp
        try with_reducible rfl
      try simp only [Act.put, List.getElem_toArray, List.getElem_cons_succ, List.getElem_cons_zero, List.setIfInBounds_toArray, List.set_cons_zero, List.set_cons_succ]
      refine wpAnyH_take (i := 5) (v := ?cvv5) rfl (by kernel_rfl) (by kernel_rfl) (by kernel_rfl) (fun _ _ _ h => h) (Or.inl ⟨by rfl, ?chy5⟩) (by assumption) ?crest5
      case chy5 =>
        intro u hSu
        obtain ⟨⟨t0, t1⟩, s0, s1, s2, s3⟩ := hSu
        go_simp
        try with_reducible rfl
      try simp only [Act.put, List.getElem_toArray, List.getElem_cons_succ, List.getElem_cons_zero, List.setIfInBounds_toArray, List.set_cons_zero, List.set_cons_succ]
      refine wpAnyH_take (i := 6) (v := ?cvv6) rfl (by kernel_rfl) (by kernel_rfl) (by kernel_rfl) (fun _ _ _ h => h) (Or.inl ⟨by rfl, ?chy6⟩) (by assumption) ?crest6
      case chy6 =>
        intro u hSu
        obtain ⟨⟨t0, t1⟩, s0, s1, s2, s3⟩ := hSu
        go_simp
        try with_reducible rfl
      try simp only [Act.put, List.getElem_toArray, List.getElem_cons_succ, List.getElem_cons_zero, List.setIfInBounds_toArray, List.set_cons_zero, List.set_cons_succ]
      refine wpAnyH_take (i := 7) (v := ?cvv7) rfl (by kernel_rfl) (by kernel_rfl) (by kernel_rfl) (fun _ _ _ h => h) (Or.inl ⟨by rfl, ?chy7⟩) (by assumption) ?crest7
      case chy7 =>
        intro u hSu
        obtain ⟨⟨t0, t1⟩, s0, s1, s2, s3⟩ := hSu
        go_simp
        try with_reducible rfl
      try simp only [Act.put, List.getElem_toArray, List.getElem_cons_succ, List.getElem_cons_zero, List.setIfInBounds_toArray, List.set_cons_zero, List.set_cons_succ]
      refine wpAnyH_take (i := 8) (v := ?cvv8) rfl (by kernel_rfl) (by kernel_rfl) (by kernel_rfl) (fun _ _ _ h => h) (Or.inl ⟨by rfl, ?chy8⟩) (by assumption) ?crest8
      case chy8 =>
        intro u hSu
        obtain ⟨⟨t0, t1⟩, s0, s1, s2, s3⟩ := hSu
        go_simp
        try with_reducible rfl
      try simp only [Act.put, List.getElem_toArray, List.getElem_cons_succ, List.getElem_cons_zero, List.setIfInBounds_toArray, List.set_cons_zero, List.set_cons_succ]
      refine wpAnyH_ready (rs := [9]) (by kernel_rfl) (by simp) ?_
      refine AllReadyH.cons rfl (fun K hK => ?_) AllReadyH.nil
      (go_simp; go_at_call 12; (with_reducible refine (CS.out _ _ _ _ _ _ _ _ _ J7.out).mono ?_); rintro e w8 ⟨rfl, hB⟩; have J8 := Lib.hid (J7.out.belowS hB); have K8 := And.intro (two_cells J8.out.Z) (KB.out _ J8.out.B); clear hB)
      refine hK.out _ _ ?chS9 (fun hHeld => ?crest9)
      case chS9 => first | exact K8
      clear hK K
      try simp only [Act.put, List.getElem_toArray, List.getElem_cons_succ, List.getElem_cons_zero, List.setIfInBounds_toArray, List.set_cons_zero, List.set_cons_succ]
      refine wpAnyH_take (i := 10) (v := ?cvv10) rfl (by kernel_rfl) (by kernel_rfl) (by kernel_rfl) (fun _ _ _ h => h) (Or.inl ⟨by rfl, ?chy10⟩) (by assumption) ?crest10
      case chy10 =>
        intro u hSu
        obtain ⟨⟨t0, t1⟩, s0, s1, s2, s3⟩ := hSu
        go_simp
        try with_reducible rfl
      try simp only [Act.put, List.getElem_toArray, List.getElem_cons_succ, List.getElem_cons_zero, List.setIfInBounds_toArray, List.set_cons_zero, List.set_cons_succ]
      refine wpAnyH_take (i := 11) (v := ?cvv11) rfl (by kernel_rfl) (by kernel_rfl) (by kernel_rfl) (fun _ _ _ h => h) (Or.inl ⟨by rfl, ?chy11⟩) (by assumption) ?crest11
      case chy11 =>
        intro u hSu
        obtain ⟨⟨t0, t1⟩, s0, s1, s2, s3⟩ := hSu
        go_simp
        try with_reducible rfl
      try simp only [Act.put, List.getElem_toArray, List.getElem_cons_succ, List.getElem_cons_zero, List.setIfInBounds_toArray, List.set_cons_zero, List.set_cons_succ]
      refine wpAnyH_done (by kernel_rfl) ?_ _
      rw [HT.out] at J8
      clear K0 K8 J6 J7 KB CS HT
      go_wp2_with fail
      go_roundw
      case rel => exact ⟨k + 1, by omega, by go_num, rfl, _, _, _, _, _, _, _, _, J8⟩
      case measure => simp [intOf]; omega
    · obtain rfl : k = n := by omega
      clear HA HS
      go_wp2_with (go_at_call 9; (with_reducible refine (AW.out _).mono ?_); rintro e w9 ⟨rfl, hb9⟩)
      go_ret
      exact ⟨rfl, J.out.B.trans (hb9.mono J.out.B.size)⟩
end
end Go.Proofs.YtleggfofgpiabaaGreat.WK
