/-
  The walk of GraphForks, over what the program's functions tell. Nothing here is a statement of the seed.
-/
import Derived.Test.YtijcojidfallkaaGraphRun
import Derived.Test.YtijcojidfallkaaGraphNil
set_option linter.unusedSimpArgs false
set_option linter.unusedVariables false
namespace Go.Proofs.Ytijcojidfallkaa.WK
open Go.RowKit WM NR OM OR GM GR GF GP GL MV
set_option maxHeartbeats 4000000
set_option maxRecDepth 10000
section
variable {w : World} {a : Option Addr} {n c : Nat} {l : List Ac} {a2 : Option Addr} {n2 c2 : Nat} {m : List Ac}
theorem GraphForks_walk (h : ReadsA (· < w.heap.size) w (.slice a n c) l) (hs : ∀ x ∈ l, x.nm.length ≤ 140737488351232 ∧ ∀ s ∈ x.ns, s.length ≤ 140737488351232) (h2 : ReadsA (· < w.heap.size) w (.slice a2 n2 c2) m) (hs2 : ∀ x ∈ m, x.nm.length ≤ 140737488351232 ∧ ∀ s ∈ x.ns, s.length ≤ 140737488351232) :
    Calls Try.prog 4 #[.slice a n c, .slice a2 n2 c2] w fun e w' => e = .returned (.bool true) ∧ Below w.heap.size w w' := by
  obtain ⟨n3, m3, m4⟩ := h2.len
  unfold maxLen at m4
  have hn2 : (n2 : Int) ≤ 9223372036854775807 := by omega
  have CG : Hid (∀ u, Below w.heap.size w u → Calls Try.prog 8 #[.slice a2 n2 c2] u fun e u' => e = .returned (.bool (fewB m)) ∧ Below u.heap.size u u') := Lib.hid (fun u hb => few_any (h2.go hb hb.size))
  obtain ⟨n1, m1, m2⟩ := h.len
  unfold maxLen at m2
  have hn : (n : Int) ≤ 9223372036854775807 := by omega
  have CF := Lib.hid (few_any h)
  have AW := Lib.hid awake_any
  cases hf : fewB l with
  | false =>
    rw [hf] at CF
    clear h hs n1 m1 m2 hf h2 hs2 n3 m3 m4 CG
    go_enter Try.func4, Try.ntmps4
    go_wp2_with (first | (go_at_call 8; (with_reducible refine CF.out.mono ?_); rintro e w1 ⟨rfl, hb1⟩) | (go_at_call 9; (with_reducible refine (AW.out _).mono ?_); rintro e w2 ⟨rfl, hb2⟩))
    go_ret
    exact ⟨rfl, hb1.trans (hb2.mono hb1.size)⟩
  | true =>
  rw [hf] at CF
  cases hf2 : fewB m with
  | false =>
    rw [hf2] at CG
    clear h hs n1 m1 m2 hf h2 hs2 n3 m3 m4
    go_enter Try.func4, Try.ntmps4
    go_upto_region 2 with (first | (go_at_call 8; (with_reducible refine CF.out.mono ?_); rintro e w1 ⟨rfl, hb1⟩; have B1 := Lib.hid hb1; clear hb1) | (go_at_call 8; (with_reducible refine (CG.out _ B1.out).mono ?_); rintro e w2 ⟨rfl, hb2⟩; have B2 := Lib.hid (B1.out.trans (hb2.mono B1.out.size)); clear hb2))
    go_wp2_with (go_at_call 9; (with_reducible refine (AW.out _).mono ?_); rintro e w3 ⟨rfl, hb3⟩)
    go_ret
    exact ⟨rfl, B2.out.trans (hb3.mono B2.out.size)⟩
  | true =>
  rw [hf2] at CG
  have HS3 : Hid (∀ k, k < n → (l.getD k ac0).ns.length ≤ 1000) := Lib.hid (fun k hk => Nat.le_trans (few_len h hf k hk) (by omega))
  have h24 : n ≤ 24 := by
    unfold fewB at hf
    rw [Bool.and_eq_true] at hf
    have := of_decide_eq_true hf.1
    omega
  have HA := Lib.hid h
  have HS : Hid (∀ k, k < n → (l.getD k ac0).nm.length ≤ 140737488351232 ∧ ∀ s ∈ (l.getD k ac0).ns, s.length ≤ 140737488351232) := Lib.hid (fun k hk => hs _ (by rw [List.getD_eq_getElem?_getD, List.getElem?_eq_getElem (by omega)]; exact List.getElem_mem _))
  have HL := Lib.hid n1
  have HS4 : Hid (∀ k, k < n2 → (m.getD k ac0).ns.length ≤ 1000) := Lib.hid (fun k hk => Nat.le_trans (few_len h2 hf2 k hk) (by omega))
  have g24 : n2 ≤ 24 := by
    unfold fewB at hf2
    rw [Bool.and_eq_true] at hf2
    have := of_decide_eq_true hf2.1
    omega
  have HM := Lib.hid h2
  have HT2 : Hid (∀ k, k < n2 → (m.getD k ac0).nm.length ≤ 140737488351232 ∧ ∀ s ∈ (m.getD k ac0).ns, s.length ≤ 140737488351232) := Lib.hid (fun k hk => hs2 _ (by rw [List.getD_eq_getElem?_getD, List.getElem?_eq_getElem (by omega)]; exact List.getElem_mem _))
  have HL2 := Lib.hid n3
  have q2 : (n : Int) ≤ c := by omega
  have q3 : (n2 : Int) ≤ c2 := by omega
  clear h hs n1 m2 hf h2 hs2 n3 m4 hf2
  go_enter Try.func4, Try.ntmps4
  go_upto_region 3 with (first | (go_at_call 8; (with_reducible refine CF.out.mono ?_); rintro e w0 ⟨rfl, hb1⟩; have B0 := Lib.hid hb1; clear hb1) | (go_at_call 8; (with_reducible refine (CG.out _ B0.out).mono ?_); rintro e w1 ⟨rfl, hb2⟩; have B1 := Lib.hid (B0.out.trans (hb2.mono B0.out.size)); clear hb2))
  clear CG B0
  go_upto_region 4 with (go_at_call 10; (with_reducible refine (new_any _).mono ?_); rintro e w2 ⟨v, S, rfl, hP, hS, hb2⟩; have P2 := Lib.hid hP; have S2 := Lib.hid (fun b hb => Nat.le_trans B1.out.size (hS b hb)); have B2 := Lib.hid (B1.out.trans (hb2.mono B1.out.size)); clear hP hS hb2)
  have J0 : Hid (PJ w w2.heap.size (fun _ => False) S (w2.alloc (.cells #[.slice none 0 0] 29)) v none 0 0 []) := Lib.hid (PJ.zero P2.out S2.out B2.out)
  obtain ⟨va, rfl⟩ := P2.out.form
  clear P2 S2 B2 B1 CF
  generalize w2.alloc (.cells #[.slice none 0 0] 29) = W3 at *
  generalize w2.heap.size = p at *
  go_wp2_with fail
  go_loopw [7] (fun i wr => ∃ k : Nat, k ≤ n ∧ i = .int .i64 (k : Int) ∧ ∃ G S la ln lc, Hid (PJ w p G S wr (.pointer (some va)) la ln lc (runM [] (l.take k)))) (fun i _ => n - (intOf i).toNat)
  case atStart => exact ⟨0, by omega, rfl, _, _, _, _, _, J0⟩
  case round =>
    obtain ⟨k, hk, rfl, G, S, la, ln, lc, J⟩ := hrel
    clear J0
    by_cases hlt : k < n
    · have hlt' : (k : Int) < n := by omega
      have hbd := run_bd l k (by rw [HL.out]; exact h24)
      have hgd := run_good (l.take k) _ good_nil
      obtain ⟨g, off, rfl, q1, hat, hok⟩ := HA.out.at J.out.B hlt
      have hb0 : Below wr.heap.size wr wr.drew := (Below.refl _ _).drew
      have J1 := Lib.hid (J.out.belowS hb0)
      have KA : Hid (∀ u, Below w.heap.size w u → AcAt u g (off + k * 3) (l.getD k ac0) ∧ AcOk (· < w.heap.size) u (l.getD k ac0)) := Lib.hid (fun u hu => by
        obtain ⟨g', off', e, _, e1, e2⟩ := HA.out.at hu hlt
        simp only [Option.some.injEq, Addr.mk.injEq, and_true] at e
        obtain ⟨rfl, rfl⟩ := e
        exact ⟨e1, e2⟩)
      have CD := Lib.hid (J1.out.do_ hgd (by omega) (l.getD k ac0) (KA.out _ J1.out.B).2 (HS.out k hlt).1 (HS.out k hlt).2 (HS3.out k hlt))
      have hrt := runM_take [] l k (by rw [HL.out]; exact hlt)
      rw [← hrt] at CD
      have KB : Hid (∀ u, Below w.heap.size w u → AcAt u g (off + k * 3) (l.getD k ac0)) := Lib.hid (fun u hu => (KA.out u hu).1)
      clear hbd hgd hat hok hrt KA
      obtain ⟨T9, hT⟩ : ∃ T9, T9 = runM [] (l.take (k + 1)) := ⟨_, rfl⟩
      rw [← hT] at CD
      have HT := Lib.hid hT
      clear hT
      obtain ⟨X, hX⟩ : ∃ X, X = l.getD k ac0 := ⟨_, rfl⟩
      rw [← hX] at CD KB
      clear hX
      obtain ⟨xk, xn, na, nn, nc, ns⟩ := X
      change Hid (Calls _ _ #[_, _, .agg #[.int .u8 xk, .string (bs xn), .slice na nn nc]] _ _) at CD
      have KB : Hid (∀ u : World, Below w.heap.size w u → u.cell? ⟨g, off + k * 3, none⟩ = some (.int .u8 xk) ∧ u.cell? ⟨g, off + k * 3 + 1, none⟩ = some (.string (bs xn)) ∧ u.cell? ⟨g, off + k * 3 + 2, none⟩ = some (.slice na nn nc)) := KB
      generalize bs xn = y at *
      have K0 := KB.out _ J1.out.B
      have z0 := J1.out.Z.cell 0
      have z6 := J1.out.Z.lt
      go_upto_region 7 with fail
      refine wp_region_held_drew (S := fun u => u.cell? ⟨g, off + k * 3, none⟩ = some (.int .u8 xk) ∧ u.cell? ⟨g, off + k * 3 + 1, none⟩ = some (.string y) ∧ u.cell? ⟨g, off + k * 3 + 2, none⟩ = some (.slice na nn nc)) (by kernel_rfl) K0 (fun hHeld => ?_)
      refine wpAnyH_take (i := 0) (v := ?aavv0) rfl (by kernel_rfl) (by kernel_rfl) (by kernel_rfl) (fun _ _ _ h => h) (Or.inl ⟨by rfl, ?aahy0⟩) (by assumption) ?aarest0
      case aahy0 =>
        intro u hSu
        obtain ⟨s0, s1, s2⟩ := hSu
        go_simp
        try with_reducible rfl
      try simp only [Act.put, List.getElem_toArray, List.getElem_cons_succ, List.getElem_cons_zero, List.setIfInBounds_toArray, List.set_cons_zero, List.set_cons_succ]
      refine wpAnyH_take (i := 2) (v := ?aavv2) rfl (by kernel_rfl) (by kernel_rfl) (by kernel_rfl) (fun _ _ _ h => h) (Or.inl ⟨by rfl, ?aahy2⟩) (by assumption) ?aarest2
      case aahy2 =>
        intro u hSu
        obtain ⟨s0, s1, s2⟩ := hSu
        go_simp
        try with_reducible rfl
      try simp only [Act.put, List.getElem_toArray, List.getElem_cons_succ, List.getElem_cons_zero, List.setIfInBounds_toArray, List.set_cons_zero, List.set_cons_succ]
      refine wpAnyH_take (i := 3) (v := ?aavv3) rfl (by kernel_rfl) (by kernel_rfl) (by kernel_rfl) (fun _ _ _ h => h) (Or.inl ⟨by rfl, ?aahy3⟩) (by assumption) ?aarest3
      case aahy3 =>
        intro u hSu
        obtain ⟨s0, s1, s2⟩ := hSu
        go_simp
        try with_reducible rfl
      try simp only [Act.put, List.getElem_toArray, List.getElem_cons_succ, List.getElem_cons_zero, List.setIfInBounds_toArray, List.set_cons_zero, List.set_cons_succ]
      refine wpAnyH_take (i := 4) (v := ?aavv4) rfl (by kernel_rfl) (by kernel_rfl) (by kernel_rfl) (fun _ _ _ h => h) (Or.inl ⟨by rfl, ?aahy4⟩) (by assumption) ?aarest4
      case aahy4 =>
        intro u hSu
        obtain ⟨s0, s1, s2⟩ := hSu
        go_simp
        try with_reducible rfl
      try simp only [Act.put, List.getElem_toArray, List.getElem_cons_succ, List.getElem_cons_zero, List.setIfInBounds_toArray, List.set_cons_zero, List.set_cons_succ]
      refine wpAnyH_take (i := 5) (v := ?aavv5) rfl (by kernel_rfl) (by kernel_rfl) (by kernel_rfl) (fun _ _ _ h => h) (Or.inl ⟨by rfl, ?aahy5⟩) (by assumption) ?aarest5
      case aahy5 =>
        intro u hSu
        obtain ⟨s0, s1, s2⟩ := hSu
        go_simp
        try with_reducible rfl
      try simp only [Act.put, List.getElem_toArray, List.getElem_cons_succ, List.getElem_cons_zero, List.setIfInBounds_toArray, List.set_cons_zero, List.set_cons_succ]
      refine wpAnyH_ready (rs := [1]) (by kernel_rfl) (by simp) ?_
      refine AllReadyH.cons rfl (fun K hK => ?_) AllReadyH.nil
      go_simp
      refine hK.out _ _ K0 (fun hHeld => ?_)
      clear hK K
      try simp only [Act.put, List.getElem_toArray, List.getElem_cons_succ, List.getElem_cons_zero, List.setIfInBounds_toArray, List.set_cons_zero, List.set_cons_succ]
      refine wpAnyH_ready (rs := [6]) (by kernel_rfl) (by simp) ?_
      refine AllReadyH.cons rfl (fun K hK => ?_) AllReadyH.nil
      (go_simp; go_at_call 11; (with_reducible refine (CD.out).mono ?_); rintro e w5 ⟨la', ln', lc', G', S', rfl, hB5, zz, J5⟩; have K5 := KB.out _ hB5; have K6 := KB.out _ J5.B; have J6 := Lib.hid J5; have y0 := zz.cell 0; have y6 := zz.lt; have yf0 := zz.frozen 0; clear hB5 J5 zz)
      refine hK.out _ _ ?abhS6 (fun hHeld => ?abrest6)
      case abhS6 => first | exact K6 | exact K5 | exact K0
      clear hK K
      try simp only [Act.put, List.getElem_toArray, List.getElem_cons_succ, List.getElem_cons_zero, List.setIfInBounds_toArray, List.set_cons_zero, List.set_cons_succ]
      refine wpAnyH_take (i := 7) (v := ?abvv7) rfl (by kernel_rfl) (by kernel_rfl) (by kernel_rfl) (fun _ _ _ h => h) (Or.inl ⟨by rfl, ?abhy7⟩) (by assumption) ?abrest7
      case abhy7 =>
        intro u hSu
        obtain ⟨s0, s1, s2⟩ := hSu
        go_simp
        try with_reducible rfl
      try simp only [Act.put, List.getElem_toArray, List.getElem_cons_succ, List.getElem_cons_zero, List.setIfInBounds_toArray, List.set_cons_zero, List.set_cons_succ]
      refine wpAnyH_take (i := 8) (v := ?abvv8) rfl (by kernel_rfl) (by kernel_rfl) (by kernel_rfl) (fun _ _ _ h => h) (Or.inl ⟨by rfl, ?abhy8⟩) (by assumption) ?abrest8
      case abhy8 =>
        intro u hSu
        obtain ⟨s0, s1, s2⟩ := hSu
        go_simp
        try with_reducible rfl
      try simp only [Act.put, List.getElem_toArray, List.getElem_cons_succ, List.getElem_cons_zero, List.setIfInBounds_toArray, List.set_cons_zero, List.set_cons_succ]
      refine wpAnyH_take (i := 9) (v := ?abvv9) rfl (by kernel_rfl) (by kernel_rfl) (by kernel_rfl) (fun _ _ _ h => h) (Or.inl ⟨by rfl, ?abhy9⟩) (by assumption) ?abrest9
      case abhy9 =>
        intro u hSu
        obtain ⟨s0, s1, s2⟩ := hSu
        go_simp
        try with_reducible rfl
      try simp only [Act.put, List.getElem_toArray, List.getElem_cons_succ, List.getElem_cons_zero, List.setIfInBounds_toArray, List.set_cons_zero, List.set_cons_succ]
      refine wpAnyH_ready (rs := [10]) (by kernel_rfl) (by simp) ?_
      refine AllReadyH.cons rfl (fun K hK => ?_) AllReadyH.nil
      go_simp
      refine hK.out _ _ ?abhS10 (fun hHeld => ?abrest10)
      case abhS10 => first | exact K6 | exact K5 | exact K0
      clear hK K
      try simp only [Act.put, List.getElem_toArray, List.getElem_cons_succ, List.getElem_cons_zero, List.setIfInBounds_toArray, List.set_cons_zero, List.set_cons_succ]
      refine wpAnyH_done (by kernel_rfl) ?_ _
      rw [HT.out] at J6
      clear K0 K5 K6 y0 y6 yf0 z0 z6 J1 CD HT KB
      clear J
      go_wp2_with fail
      go_roundw
      case rel => exact ⟨k + 1, by omega, by go_num, _, _, _, _, _, J6⟩
      case measure => simp [intOf]; omega
    · obtain rfl : k = n := by omega
      have hgd := run_good l _ good_nil
      have hbd := run_bd l k (by rw [HL.out]; exact h24)
      rw [List.take_of_length_le (by rw [HL.out]; omega)] at hbd J
      obtain ⟨T, hT⟩ : ∃ T, T = runM [] l := ⟨_, rfl⟩
      rw [← hT] at hbd J hgd
      clear hT
      clear HA HS
      have FK : Hid (∀ u, Below wr.heap.size wr u → Calls Try.prog 13 #[.pointer (some va)] u fun e u' => ∃ v2 S2, e = .returned v2 ∧ PT S2 u' v2 T ∧ (∀ g, S2 g → u.heap.size ≤ g) ∧ Below u.heap.size u u') := Lib.hid (fun u hb => fork_any (J.out.belowS hb).pt hgd (by omega))
      go_upto_region 8 with fail
      have hd : Below wr.heap.size wr wr.drew := (Below.refl _ _).drew
      have J1 := Lib.hid (J.out.belowS hd)
      have HD := Lib.hid hd
      clear hd
      have K0 := J1.out.Z.cell 0
      refine wp_region_held_drew (S := fun u => u.cell? ⟨p, 0, none⟩ = some (.slice la ln lc)) (by kernel_rfl) K0 (fun hHeld => ?_)
      refine wpAnyH_take (i := 0) (v := ?favv0) rfl (by kernel_rfl) (by kernel_rfl) (by kernel_rfl) (fun _ _ _ h => h) (Or.inl ⟨by rfl, ?fahy0⟩) (by assumption) ?farest0
      case fahy0 =>
        intro u hSu
        have s0 := hSu
        go_simp
        try with_reducible rfl
      try simp only [Act.put, List.getElem_toArray, List.getElem_cons_succ, List.getElem_cons_zero, List.setIfInBounds_toArray, List.set_cons_zero, List.set_cons_succ]
      refine wpAnyH_take (i := 2) (v := ?favv2) rfl (by kernel_rfl) (by kernel_rfl) (by kernel_rfl) (fun _ _ _ h => h) (Or.inl ⟨by rfl, ?fahy2⟩) (by assumption) ?farest2
      case fahy2 =>
        intro u hSu
        have s0 := hSu
        go_simp
        try with_reducible rfl
      try simp only [Act.put, List.getElem_toArray, List.getElem_cons_succ, List.getElem_cons_zero, List.setIfInBounds_toArray, List.set_cons_zero, List.set_cons_succ]
      refine wpAnyH_ready (rs := [1, 3]) (by kernel_rfl) (by simp) ?_
      refine AllReadyH.cons rfl ?_ (AllReadyH.cons rfl ?_ AllReadyH.nil)
      · intro K hK
        go_simp
        go_at_call 13
        with_reducible refine (FK.out _ HD.out).mono ?_
        rintro e u1 ⟨v2, S2, rfl, hP, hS2, hB⟩
        have hb1 := HD.out.trans (hB.mono HD.out.size)
        have J2 := Lib.hid (J.out.belowS hb1)
        have K1 := J2.out.Z.cell 0
        have b3 := below_new u1 (.cells #[.slice none 0 0] 29)
        have K2 := (J2.out.belowS b3).Z.cell 0
        have RZ := Whole.new u1 29 #[.slice none 0 0]
        have y0 := RZ.cell 0
        have yf0 := RZ.frozen 0
        have yl := RZ.lt
        have JJ := Lib.hid (J.out.fork_a hb1 hP (fun g hg => Nat.le_trans HD.out.size (hS2 g hg)))
        have K3 := JJ.out.1.Z.cell 0
        obtain ⟨vb, rfl⟩ := hP.form
        clear hB hb1 b3 RZ hP hS2
        refine hK.out _ _ K1 (fun hHeld => ?_)
        clear hK K
        try simp only [Act.put, List.getElem_toArray, List.getElem_cons_succ, List.getElem_cons_zero, List.setIfInBounds_toArray, List.set_cons_zero, List.set_cons_succ]
        refine wpAnyH_ready (rs := [3]) (by kernel_rfl) (by simp) ?_
        refine AllReadyH.cons rfl (fun K hK => ?_) AllReadyH.nil
        go_simp
        refine hK.out _ _ ?fbhS3 (fun hHeld => ?fbrest3)
        case fbhS3 => first | exact K3 | exact K2 | exact K1 | exact K0
        clear hK K
        try simp only [Act.put, List.getElem_toArray, List.getElem_cons_succ, List.getElem_cons_zero, List.setIfInBounds_toArray, List.set_cons_zero, List.set_cons_succ]
        refine wpAnyH_take (i := 4) (v := ?fbvv4) rfl (by kernel_rfl) (by kernel_rfl) (by kernel_rfl) (fun _ _ _ h => h) (Or.inl ⟨by rfl, ?fbhy4⟩) (by assumption) ?fbrest4
        case fbhy4 =>
          intro u hSu
          have s0 := hSu
          go_simp
          try with_reducible rfl
        try simp only [Act.put, List.getElem_toArray, List.getElem_cons_succ, List.getElem_cons_zero, List.setIfInBounds_toArray, List.set_cons_zero, List.set_cons_succ]
        refine wpAnyH_ready (rs := [5]) (by kernel_rfl) (by simp) ?_
        refine AllReadyH.cons rfl (fun K hK => ?_) AllReadyH.nil
        go_simp
        refine hK.out _ _ ?fbhS5 (fun hHeld => ?fbrest5)
        case fbhS5 => first | exact K3 | exact K2 | exact K1 | exact K0
        clear hK K
        try simp only [Act.put, List.getElem_toArray, List.getElem_cons_succ, List.getElem_cons_zero, List.setIfInBounds_toArray, List.set_cons_zero, List.set_cons_succ]
        refine wpAnyH_take (i := 6) (v := ?fbvv6) rfl (by kernel_rfl) (by kernel_rfl) (by kernel_rfl) (fun _ _ _ h => h) (Or.inl ⟨by rfl, ?fbhy6⟩) (by assumption) ?fbrest6
        case fbhy6 =>
          intro u hSu
          have s0 := hSu
          go_simp
          try with_reducible rfl
        try simp only [Act.put, List.getElem_toArray, List.getElem_cons_succ, List.getElem_cons_zero, List.setIfInBounds_toArray, List.set_cons_zero, List.set_cons_succ]
        refine wpAnyH_done (by kernel_rfl) ?_ _
        clear y0 yf0 yl K0 K1 K2 K3 J1 J2 FK HD
        generalize u1.alloc (.cells #[.slice la ln lc] 29) = W at *
        generalize u1.heap.size = p2 at *
        obtain ⟨w7, hw7⟩ : ∃ x, x = wr := ⟨_, rfl⟩
        subst hw7
        obtain ⟨JT, JF⟩ := JJ.out
        have J0 := Lib.hid JF
        have HM2 := Lib.hid (HM.out.go J.out.B J.out.B.size)
        clear JJ JT JF
        go_wp2_with fail
        go_loopw [10, 11] (fun ok i wr => ∃ k2 : Nat, k2 ≤ n2 ∧ i = .int .i64 (k2 : Int) ∧ ok = .bool true ∧ ∃ G2 S2 la2 ln2 lc2, Hid (PJ w7 p2 G2 S2 wr (.pointer (some vb)) la2 ln2 lc2 (runM T (m.take k2)))) (fun _ i _ => n2 - (intOf i).toNat)
        case atStart => exact ⟨0, by omega, rfl, rfl, _, _, _, _, _, J0⟩
        case round =>
          obtain ⟨k2, hk2, rfl, rfl, G2, S2, la2, ln2, lc2, JR⟩ := hrel
          clear J0
          by_cases hlt : k2 < n2
          · have hlt2' : (k2 : Int) < n2 := by omega
            have hgd0 := hgd
            have hbd0 := hbd
            have hbd := run_bd2 T hbd0 m k2 (by rw [HL2.out]; exact g24)
            have hgd := run_good (m.take k2) _ hgd0
            obtain ⟨g, off, rfl, q1, hat, hok⟩ := HM2.out.at JR.out.B hlt
            have hb0 : Below wr.heap.size wr wr.drew := (Below.refl _ _).drew
            have J1 := Lib.hid (JR.out.belowS hb0)
            have KA : Hid (∀ u, Below w7.heap.size w7 u → AcAt u g (off + k2 * 3) (m.getD k2 ac0) ∧ AcOk (· < w7.heap.size) u (m.getD k2 ac0)) := Lib.hid (fun u hu => by
              obtain ⟨g', off', e, _, e1, e2⟩ := HM2.out.at hu hlt
              simp only [Option.some.injEq, Addr.mk.injEq, and_true] at e
              obtain ⟨rfl, rfl⟩ := e
              exact ⟨e1, e2⟩)
            have CD := Lib.hid (J1.out.do_ hgd (by omega) (m.getD k2 ac0) (KA.out _ J1.out.B).2 (HT2.out k2 hlt).1 (HT2.out k2 hlt).2 (HS4.out k2 hlt))
            have hrt := runM_take T m k2 (by rw [HL2.out]; exact hlt)
            rw [← hrt] at CD
            have KB : Hid (∀ u, Below w7.heap.size w7 u → AcAt u g (off + k2 * 3) (m.getD k2 ac0)) := Lib.hid (fun u hu => (KA.out u hu).1)
            clear hbd hgd hat hok hrt KA
            obtain ⟨T9, hT⟩ : ∃ T9, T9 = runM T (m.take (k2 + 1)) := ⟨_, rfl⟩
            rw [← hT] at CD
            have HT := Lib.hid hT
            clear hT
            obtain ⟨X, hX⟩ : ∃ X, X = m.getD k2 ac0 := ⟨_, rfl⟩
            rw [← hX] at CD KB
            clear hX
            obtain ⟨xk, xn, na, nn, nc, ns⟩ := X
            change Hid (Calls _ _ #[_, _, .agg #[.int .u8 xk, .string (bs xn), .slice na nn nc]] _ _) at CD
            have KB : Hid (∀ u : World, Below w7.heap.size w7 u → u.cell? ⟨g, off + k2 * 3, none⟩ = some (.int .u8 xk) ∧ u.cell? ⟨g, off + k2 * 3 + 1, none⟩ = some (.string (bs xn)) ∧ u.cell? ⟨g, off + k2 * 3 + 2, none⟩ = some (.slice na nn nc)) := KB
            generalize bs xn = y at *
            have K0 := KB.out _ J1.out.B
            have z0 := J1.out.Z.cell 0
            have z6 := J1.out.Z.lt
            go_upto_region 14 with fail
            refine wp_region_held_drew (S := fun u => u.cell? ⟨g, off + k2 * 3, none⟩ = some (.int .u8 xk) ∧ u.cell? ⟨g, off + k2 * 3 + 1, none⟩ = some (.string y) ∧ u.cell? ⟨g, off + k2 * 3 + 2, none⟩ = some (.slice na nn nc)) (by kernel_rfl) K0 (fun hHeld => ?_)
            refine wpAnyH_take (i := 0) (v := ?abavv0) rfl (by kernel_rfl) (by kernel_rfl) (by kernel_rfl) (fun _ _ _ h => h) (Or.inl ⟨by rfl, ?abahy0⟩) (by assumption) ?abarest0
            case abahy0 =>
              intro u hSu
              obtain ⟨s0, s1, s2⟩ := hSu
              go_simp
              try with_reducible rfl
            try simp only [Act.put, List.getElem_toArray, List.getElem_cons_succ, List.getElem_cons_zero, List.setIfInBounds_toArray, List.set_cons_zero, List.set_cons_succ]
            refine wpAnyH_take (i := 2) (v := ?abavv2) rfl (by kernel_rfl) (by kernel_rfl) (by kernel_rfl) (fun _ _ _ h => h) (Or.inl ⟨by rfl, ?abahy2⟩) (by assumption) ?abarest2
            case abahy2 =>
              intro u hSu
              obtain ⟨s0, s1, s2⟩ := hSu
              go_simp
              try with_reducible rfl
            try simp only [Act.put, List.getElem_toArray, List.getElem_cons_succ, List.getElem_cons_zero, List.setIfInBounds_toArray, List.set_cons_zero, List.set_cons_succ]
            refine wpAnyH_take (i := 3) (v := ?abavv3) rfl (by kernel_rfl) (by kernel_rfl) (by kernel_rfl) (fun _ _ _ h => h) (Or.inl ⟨by rfl, ?abahy3⟩) (by assumption) ?abarest3
            case abahy3 =>
              intro u hSu
              obtain ⟨s0, s1, s2⟩ := hSu
              go_simp
              try with_reducible rfl
            try simp only [Act.put, List.getElem_toArray, List.getElem_cons_succ, List.getElem_cons_zero, List.setIfInBounds_toArray, List.set_cons_zero, List.set_cons_succ]
            refine wpAnyH_take (i := 4) (v := ?abavv4) rfl (by kernel_rfl) (by kernel_rfl) (by kernel_rfl) (fun _ _ _ h => h) (Or.inl ⟨by rfl, ?abahy4⟩) (by assumption) ?abarest4
            case abahy4 =>
              intro u hSu
              obtain ⟨s0, s1, s2⟩ := hSu
              go_simp
              try with_reducible rfl
            try simp only [Act.put, List.getElem_toArray, List.getElem_cons_succ, List.getElem_cons_zero, List.setIfInBounds_toArray, List.set_cons_zero, List.set_cons_succ]
            refine wpAnyH_take (i := 5) (v := ?abavv5) rfl (by kernel_rfl) (by kernel_rfl) (by kernel_rfl) (fun _ _ _ h => h) (Or.inl ⟨by rfl, ?abahy5⟩) (by assumption) ?abarest5
            case abahy5 =>
              intro u hSu
              obtain ⟨s0, s1, s2⟩ := hSu
              go_simp
              try with_reducible rfl
            try simp only [Act.put, List.getElem_toArray, List.getElem_cons_succ, List.getElem_cons_zero, List.setIfInBounds_toArray, List.set_cons_zero, List.set_cons_succ]
            refine wpAnyH_ready (rs := [1]) (by kernel_rfl) (by simp) ?_
            refine AllReadyH.cons rfl (fun K hK => ?_) AllReadyH.nil
            go_simp
            refine hK.out _ _ K0 (fun hHeld => ?_)
            clear hK K
            try simp only [Act.put, List.getElem_toArray, List.getElem_cons_succ, List.getElem_cons_zero, List.setIfInBounds_toArray, List.set_cons_zero, List.set_cons_succ]
            refine wpAnyH_ready (rs := [6]) (by kernel_rfl) (by simp) ?_
            refine AllReadyH.cons rfl (fun K hK => ?_) AllReadyH.nil
            (go_simp; go_at_call 11; (with_reducible refine (CD.out).mono ?_); rintro e w5 ⟨la', ln', lc', G', S', rfl, hB5, zz, J5⟩; have K5 := KB.out _ hB5; have K6 := KB.out _ J5.B; have J6 := Lib.hid J5; have y0 := zz.cell 0; have y6 := zz.lt; have yf0 := zz.frozen 0; clear hB5 J5 zz)
            refine hK.out _ _ ?abbhS6 (fun hHeld => ?abbrest6)
            case abbhS6 => first | exact K6 | exact K5 | exact K0
            clear hK K
            try simp only [Act.put, List.getElem_toArray, List.getElem_cons_succ, List.getElem_cons_zero, List.setIfInBounds_toArray, List.set_cons_zero, List.set_cons_succ]
            refine wpAnyH_take (i := 7) (v := ?abbvv7) rfl (by kernel_rfl) (by kernel_rfl) (by kernel_rfl) (fun _ _ _ h => h) (Or.inl ⟨by rfl, ?abbhy7⟩) (by assumption) ?abbrest7
            case abbhy7 =>
              intro u hSu
              obtain ⟨s0, s1, s2⟩ := hSu
              go_simp
              try with_reducible rfl
            try simp only [Act.put, List.getElem_toArray, List.getElem_cons_succ, List.getElem_cons_zero, List.setIfInBounds_toArray, List.set_cons_zero, List.set_cons_succ]
            refine wpAnyH_take (i := 8) (v := ?abbvv8) rfl (by kernel_rfl) (by kernel_rfl) (by kernel_rfl) (fun _ _ _ h => h) (Or.inl ⟨by rfl, ?abbhy8⟩) (by assumption) ?abbrest8
            case abbhy8 =>
              intro u hSu
              obtain ⟨s0, s1, s2⟩ := hSu
              go_simp
              try with_reducible rfl
            try simp only [Act.put, List.getElem_toArray, List.getElem_cons_succ, List.getElem_cons_zero, List.setIfInBounds_toArray, List.set_cons_zero, List.set_cons_succ]
            refine wpAnyH_take (i := 9) (v := ?abbvv9) rfl (by kernel_rfl) (by kernel_rfl) (by kernel_rfl) (fun _ _ _ h => h) (Or.inl ⟨by rfl, ?abbhy9⟩) (by assumption) ?abbrest9
            case abbhy9 =>
              intro u hSu
              obtain ⟨s0, s1, s2⟩ := hSu
              go_simp
              try with_reducible rfl
            try simp only [Act.put, List.getElem_toArray, List.getElem_cons_succ, List.getElem_cons_zero, List.setIfInBounds_toArray, List.set_cons_zero, List.set_cons_succ]
            refine wpAnyH_ready (rs := [10]) (by kernel_rfl) (by simp) ?_
            refine AllReadyH.cons rfl (fun K hK => ?_) AllReadyH.nil
            go_simp
            refine hK.out _ _ ?abbhS10 (fun hHeld => ?abbrest10)
            case abbhS10 => first | exact K6 | exact K5 | exact K0
            clear hK K
            try simp only [Act.put, List.getElem_toArray, List.getElem_cons_succ, List.getElem_cons_zero, List.setIfInBounds_toArray, List.set_cons_zero, List.set_cons_succ]
            refine wpAnyH_take (i := 11) (v := ?abbvv11) rfl (by kernel_rfl) (by kernel_rfl) (by kernel_rfl) (fun _ _ _ h => h) (Or.inl ⟨by rfl, ?abbhy11⟩) (by assumption) ?abbrest11
            case abbhy11 =>
              intro u hSu
              obtain ⟨s0, s1, s2⟩ := hSu
              go_simp
              try with_reducible rfl
            try simp only [Act.put, List.getElem_toArray, List.getElem_cons_succ, List.getElem_cons_zero, List.setIfInBounds_toArray, List.set_cons_zero, List.set_cons_succ]
            refine wpAnyH_done (by kernel_rfl) ?_ _
            rw [HT.out] at J6
            clear K0 K5 K6 y0 y6 yf0 z0 z6 J1 CD HT KB
            clear JR
            go_wp2_with fail
            go_roundw
            case rel => exact ⟨k2 + 1, by omega, by go_num, rfl, _, _, _, _, _, J6⟩
            case measure => simp [intOf]; omega
          · obtain rfl : k2 = n2 := by omega
            rw [List.take_of_length_le (by rw [HL2.out]; omega)] at JR
            have hbd2 := run_bd2 T hbd m k2 (by rw [HL2.out]; exact g24)
            rw [List.take_of_length_le (by rw [HL2.out]; omega)] at hbd2
            have hgd2 := run_good m T hgd
            obtain ⟨T2, hT2⟩ : ∃ T2, T2 = runM T m := ⟨_, rfl⟩
            rw [← hT2] at hbd2 hgd2 JR
            clear hT2 HM HM2
            have JT := Lib.hid (J.out.belowS JR.out.B)
            have CS : Hid (∀ u, Below wr.heap.size wr u → Calls Try.prog 12 #[.pointer (some vb), gV la2 ln2 lc2, .string ⟨#[97]⟩, .string ⟨#[98]⟩] u fun e u' => e = .returned (.bool true) ∧ Below u.heap.size u u') := Lib.hid (fun u hb => (JR.out.belowS hb).same_ hgd2 (by omega) [97] [98] (by decide) (by decide))
            have CT : Hid (∀ u, Below wr.heap.size wr u → Calls Try.prog 12 #[.pointer (some va), gV la ln lc, .string ⟨#[97]⟩, .string ⟨#[98]⟩] u fun e u' => e = .returned (.bool true) ∧ Below u.heap.size u u') := Lib.hid (fun u hb => (JT.out.belowS hb).same_ hgd (by omega) [97] [98] (by decide) (by decide))
            have RN : Hid (∀ u : World, Calls Try.prog 20 #[.pointer none, .string ⟨#[97]⟩, .string ⟨#[97]⟩] u fun e u' => e = .returned (.bool false) ∧ Below u.heap.size u u') := Lib.hid (fun u => reaches_nil u ⟨#[97]⟩ [97] (by decide))
            have B1 := Lib.hid (Below.refl wr.heap.size wr)
            clear HL HL2 hgd hbd hgd2 hbd2 J
            go_upto_region 19 with (first | (go_at_call 14; (with_reducible refine (add_nil _ _ _).mono ?_); rintro e w1 ⟨rfl, hB⟩; have B1 := Lib.hid (B1.out.trans (hB.mono B1.out.size)); clear hB) | (go_at_call 15; (with_reducible refine (remove_nil _ _).mono ?_); rintro e w1 ⟨rfl, hB⟩; have B1 := Lib.hid (B1.out.trans (hB.mono B1.out.size)); clear hB) | (go_at_call 16; (with_reducible refine (turn_nil _ _ _).mono ?_); rintro e w1 ⟨rfl, hB⟩; have B1 := Lib.hid (B1.out.trans (hB.mono B1.out.size)); clear hB) | (go_at_call 17; (with_reducible refine (has_nil _ _).mono ?_); rintro e w1 ⟨rfl, hB⟩; have B1 := Lib.hid (B1.out.trans (hB.mono B1.out.size)); clear hB) | (go_at_call 20; (with_reducible refine (RN.out _).mono ?_); rintro e w1 ⟨rfl, hB⟩; have B1 := Lib.hid (B1.out.trans (hB.mono B1.out.size)); clear hB) | (go_at_call 13; (with_reducible refine (fork_nil _).mono ?_); rintro e w1 ⟨rfl, hB⟩; have B1 := Lib.hid (B1.out.trans (hB.mono B1.out.size)); clear hB) | (go_at_call 18; (with_reducible refine (deps_nil _ _).mono ?_); rintro e w1 ⟨ra, rc, rfl, hR, hB⟩; have B1 := Lib.hid (B1.out.trans (hB.mono B1.out.size)); clear hB hR) | (go_at_call 19; (with_reducible refine (dpt_nil' _ _).mono ?_); rintro e w1 ⟨ra, rc, rfl, hR, hB⟩; have B1 := Lib.hid (B1.out.trans (hB.mono B1.out.size)); clear hB hR) | (go_at_call 21; (with_reducible refine (order_nil _).mono ?_); rintro e w1 ⟨ra, rc, rfl, hR, hB⟩; have B1 := Lib.hid (B1.out.trans (hB.mono B1.out.size)); clear hB hR))
            have z0 := (JR.out.belowS B1.out).Z.cell 0
            have z6 := (JR.out.belowS B1.out).Z.lt
            go_wp2_with (first | (go_at_call 12; (with_reducible refine (CS.out _ B1.out).mono ?_); rintro e w8 ⟨rfl, hB⟩; have B2 := Lib.hid (B1.out.trans (hB.mono B1.out.size)); clear hB; clear z0 z6; have z0 := (JT.out.belowS B2.out).Z.cell 0; have z6 := (JT.out.belowS B2.out).Z.lt) | (go_at_call 12; (with_reducible refine (CT.out _ B2.out).mono ?_); rintro e w9 ⟨rfl, hB⟩; have B3 := Lib.hid (B2.out.trans (hB.mono B2.out.size)); clear hB) | (go_at_call 9; (with_reducible refine (AW.out _).mono ?_); rintro e w10 ⟨rfl, hB⟩; have B4 := Lib.hid (B3.out.trans (hB.mono B3.out.size)); clear hB))
            go_ret
            exact ⟨rfl, JT.out.B.trans (B4.out.mono JT.out.B.size)⟩
      · intro K hK
        go_simp
        have hb3 : Below wr.heap.size wr (wr.alloc (.cells #[.slice none 0 0] 29)).drew := (below_new wr _).drew
        have K1 := (J.out.belowS hb3).Z.cell 0
        have hz : Below (wr.alloc (.cells #[.slice none 0 0] 29)).heap.size (wr.alloc (.cells #[.slice none 0 0] 29)) (wr.alloc (.cells #[.slice none 0 0] 29)).drew := (Below.refl _ _).drew
        have RZ := Lib.hid ((Whole.new wr 29 #[.slice none 0 0]).belowS hz)
        have HB := Lib.hid hb3
        clear hb3 hz
        refine hK.out _ _ K1 (fun hHeld => ?_)
        clear hK K
        try simp only [Act.put, List.getElem_toArray, List.getElem_cons_succ, List.getElem_cons_zero, List.setIfInBounds_toArray, List.set_cons_zero, List.set_cons_succ]
        refine wpAnyH_ready (rs := [1]) (by kernel_rfl) (by simp) ?_
        refine AllReadyH.cons rfl (fun K hK => ?_) AllReadyH.nil
        (go_simp; go_at_call 13; (with_reducible refine (FK.out _ HB.out).mono ?_); rintro e u1 ⟨v2, S2, rfl, hP, hS2, hB⟩; have hb1 := HB.out.trans (hB.mono HB.out.size); have RZ1 := RZ.out.belowS hB; have K2 := (J.out.belowS hb1).Z.cell 0; have y0 := RZ1.cell 0; have yf0 := RZ1.frozen 0; have yl := RZ1.lt; have JJ := Lib.hid (J.out.fork_b hb1 hP (fun g hg => Nat.le_trans HB.out.size (hS2 g hg)) RZ1 (Nat.le_refl _) (fun g hg e => by have := hS2 g hg; have := RZ.out.lt; omega)); have K3 := JJ.out.1.Z.cell 0; obtain ⟨vb, rfl⟩ := hP.form; clear hB hb1 hP hS2 RZ1)
        refine hK.out _ _ ?fchS1 (fun hHeld => ?fcrest1)
        case fchS1 => first | exact K3 | exact K2 | exact K1 | exact K0
        clear hK K
        try simp only [Act.put, List.getElem_toArray, List.getElem_cons_succ, List.getElem_cons_zero, List.setIfInBounds_toArray, List.set_cons_zero, List.set_cons_succ]
        refine wpAnyH_take (i := 4) (v := ?fcvv4) rfl (by kernel_rfl) (by kernel_rfl) (by kernel_rfl) (fun _ _ _ h => h) (Or.inl ⟨by rfl, ?fchy4⟩) (by assumption) ?fcrest4
        case fchy4 =>
          intro u hSu
          have s0 := hSu
          go_simp
          try with_reducible rfl
        try simp only [Act.put, List.getElem_toArray, List.getElem_cons_succ, List.getElem_cons_zero, List.setIfInBounds_toArray, List.set_cons_zero, List.set_cons_succ]
        refine wpAnyH_ready (rs := [5]) (by kernel_rfl) (by simp) ?_
        refine AllReadyH.cons rfl (fun K hK => ?_) AllReadyH.nil
        go_simp
        refine hK.out _ _ ?fchS5 (fun hHeld => ?fcrest5)
        case fchS5 => first | exact K3 | exact K2 | exact K1 | exact K0
        clear hK K
        try simp only [Act.put, List.getElem_toArray, List.getElem_cons_succ, List.getElem_cons_zero, List.setIfInBounds_toArray, List.set_cons_zero, List.set_cons_succ]
        refine wpAnyH_take (i := 6) (v := ?fcvv6) rfl (by kernel_rfl) (by kernel_rfl) (by kernel_rfl) (fun _ _ _ h => h) (Or.inl ⟨by rfl, ?fchy6⟩) (by assumption) ?fcrest6
        case fchy6 =>
          intro u hSu
          have s0 := hSu
          go_simp
          try with_reducible rfl
        try simp only [Act.put, List.getElem_toArray, List.getElem_cons_succ, List.getElem_cons_zero, List.setIfInBounds_toArray, List.set_cons_zero, List.set_cons_succ]
        refine wpAnyH_done (by kernel_rfl) ?_ _
        clear y0 yf0 yl K0 K1 K2 K3 J1 FK HD RZ HB
        generalize u1.setCell ⟨wr.heap.size, 0, none⟩ (.slice la ln lc) = W at *
        generalize wr.heap.size = p2 at *
        obtain ⟨w7, hw7⟩ : ∃ x, x = wr := ⟨_, rfl⟩
        subst hw7
        obtain ⟨JT, JF⟩ := JJ.out
        have J0 := Lib.hid JF
        have HM2 := Lib.hid (HM.out.go J.out.B J.out.B.size)
        clear JJ JT JF
        go_wp2_with fail
        go_loopw [10, 11] (fun ok i wr => ∃ k2 : Nat, k2 ≤ n2 ∧ i = .int .i64 (k2 : Int) ∧ ok = .bool true ∧ ∃ G2 S2 la2 ln2 lc2, Hid (PJ w7 p2 G2 S2 wr (.pointer (some vb)) la2 ln2 lc2 (runM T (m.take k2)))) (fun _ i _ => n2 - (intOf i).toNat)
        case atStart => exact ⟨0, by omega, rfl, rfl, _, _, _, _, _, J0⟩
        case round =>
          obtain ⟨k2, hk2, rfl, rfl, G2, S2, la2, ln2, lc2, JR⟩ := hrel
          clear J0
          by_cases hlt : k2 < n2
          · have hlt2' : (k2 : Int) < n2 := by omega
            have hgd0 := hgd
            have hbd0 := hbd
            have hbd := run_bd2 T hbd0 m k2 (by rw [HL2.out]; exact g24)
            have hgd := run_good (m.take k2) _ hgd0
            obtain ⟨g, off, rfl, q1, hat, hok⟩ := HM2.out.at JR.out.B hlt
            have hb0 : Below wr.heap.size wr wr.drew := (Below.refl _ _).drew
            have J1 := Lib.hid (JR.out.belowS hb0)
            have KA : Hid (∀ u, Below w7.heap.size w7 u → AcAt u g (off + k2 * 3) (m.getD k2 ac0) ∧ AcOk (· < w7.heap.size) u (m.getD k2 ac0)) := Lib.hid (fun u hu => by
              obtain ⟨g', off', e, _, e1, e2⟩ := HM2.out.at hu hlt
              simp only [Option.some.injEq, Addr.mk.injEq, and_true] at e
              obtain ⟨rfl, rfl⟩ := e
              exact ⟨e1, e2⟩)
            have CD := Lib.hid (J1.out.do_ hgd (by omega) (m.getD k2 ac0) (KA.out _ J1.out.B).2 (HT2.out k2 hlt).1 (HT2.out k2 hlt).2 (HS4.out k2 hlt))
            have hrt := runM_take T m k2 (by rw [HL2.out]; exact hlt)
            rw [← hrt] at CD
            have KB : Hid (∀ u, Below w7.heap.size w7 u → AcAt u g (off + k2 * 3) (m.getD k2 ac0)) := Lib.hid (fun u hu => (KA.out u hu).1)
            clear hbd hgd hat hok hrt KA
            obtain ⟨T9, hT⟩ : ∃ T9, T9 = runM T (m.take (k2 + 1)) := ⟨_, rfl⟩
            rw [← hT] at CD
            have HT := Lib.hid hT
            clear hT
            obtain ⟨X, hX⟩ : ∃ X, X = m.getD k2 ac0 := ⟨_, rfl⟩
            rw [← hX] at CD KB
            clear hX
            obtain ⟨xk, xn, na, nn, nc, ns⟩ := X
            change Hid (Calls _ _ #[_, _, .agg #[.int .u8 xk, .string (bs xn), .slice na nn nc]] _ _) at CD
            have KB : Hid (∀ u : World, Below w7.heap.size w7 u → u.cell? ⟨g, off + k2 * 3, none⟩ = some (.int .u8 xk) ∧ u.cell? ⟨g, off + k2 * 3 + 1, none⟩ = some (.string (bs xn)) ∧ u.cell? ⟨g, off + k2 * 3 + 2, none⟩ = some (.slice na nn nc)) := KB
            generalize bs xn = y at *
            have K0 := KB.out _ J1.out.B
            have z0 := J1.out.Z.cell 0
            have z6 := J1.out.Z.lt
            go_upto_region 14 with fail
            refine wp_region_held_drew (S := fun u => u.cell? ⟨g, off + k2 * 3, none⟩ = some (.int .u8 xk) ∧ u.cell? ⟨g, off + k2 * 3 + 1, none⟩ = some (.string y) ∧ u.cell? ⟨g, off + k2 * 3 + 2, none⟩ = some (.slice na nn nc)) (by kernel_rfl) K0 (fun hHeld => ?_)
            refine wpAnyH_take (i := 0) (v := ?bbavv0) rfl (by kernel_rfl) (by kernel_rfl) (by kernel_rfl) (fun _ _ _ h => h) (Or.inl ⟨by rfl, ?bbahy0⟩) (by assumption) ?bbarest0
            case bbahy0 =>
              intro u hSu
              obtain ⟨s0, s1, s2⟩ := hSu
              go_simp
              try with_reducible rfl
            try simp only [Act.put, List.getElem_toArray, List.getElem_cons_succ, List.getElem_cons_zero, List.setIfInBounds_toArray, List.set_cons_zero, List.set_cons_succ]
            refine wpAnyH_take (i := 2) (v := ?bbavv2) rfl (by kernel_rfl) (by kernel_rfl) (by kernel_rfl) (fun _ _ _ h => h) (Or.inl ⟨by rfl, ?bbahy2⟩) (by assumption) ?bbarest2
            case bbahy2 =>
              intro u hSu
              obtain ⟨s0, s1, s2⟩ := hSu
              go_simp
              try with_reducible rfl
            try simp only [Act.put, List.getElem_toArray, List.getElem_cons_succ, List.getElem_cons_zero, List.setIfInBounds_toArray, List.set_cons_zero, List.set_cons_succ]
            refine wpAnyH_take (i := 3) (v := ?bbavv3) rfl (by kernel_rfl) (by kernel_rfl) (by kernel_rfl) (fun _ _ _ h => h) (Or.inl ⟨by rfl, ?bbahy3⟩) (by assumption) ?bbarest3
            case bbahy3 =>
              intro u hSu
              obtain ⟨s0, s1, s2⟩ := hSu
              go_simp
              try with_reducible rfl
            try simp only [Act.put, List.getElem_toArray, List.getElem_cons_succ, List.getElem_cons_zero, List.setIfInBounds_toArray, List.set_cons_zero, List.set_cons_succ]
            refine wpAnyH_take (i := 4) (v := ?bbavv4) rfl (by kernel_rfl) (by kernel_rfl) (by kernel_rfl) (fun _ _ _ h => h) (Or.inl ⟨by rfl, ?bbahy4⟩) (by assumption) ?bbarest4
            case bbahy4 =>
              intro u hSu
              obtain ⟨s0, s1, s2⟩ := hSu
              go_simp
              try with_reducible rfl
            try simp only [Act.put, List.getElem_toArray, List.getElem_cons_succ, List.getElem_cons_zero, List.setIfInBounds_toArray, List.set_cons_zero, List.set_cons_succ]
            refine wpAnyH_take (i := 5) (v := ?bbavv5) rfl (by kernel_rfl) (by kernel_rfl) (by kernel_rfl) (fun _ _ _ h => h) (Or.inl ⟨by rfl, ?bbahy5⟩) (by assumption) ?bbarest5
            case bbahy5 =>
              intro u hSu
              obtain ⟨s0, s1, s2⟩ := hSu
              go_simp
              try with_reducible rfl
            try simp only [Act.put, List.getElem_toArray, List.getElem_cons_succ, List.getElem_cons_zero, List.setIfInBounds_toArray, List.set_cons_zero, List.set_cons_succ]
            refine wpAnyH_ready (rs := [1]) (by kernel_rfl) (by simp) ?_
            refine AllReadyH.cons rfl (fun K hK => ?_) AllReadyH.nil
            go_simp
            refine hK.out _ _ K0 (fun hHeld => ?_)
            clear hK K
            try simp only [Act.put, List.getElem_toArray, List.getElem_cons_succ, List.getElem_cons_zero, List.setIfInBounds_toArray, List.set_cons_zero, List.set_cons_succ]
            refine wpAnyH_ready (rs := [6]) (by kernel_rfl) (by simp) ?_
            refine AllReadyH.cons rfl (fun K hK => ?_) AllReadyH.nil
            (go_simp; go_at_call 11; (with_reducible refine (CD.out).mono ?_); rintro e w5 ⟨la', ln', lc', G', S', rfl, hB5, zz, J5⟩; have K5 := KB.out _ hB5; have K6 := KB.out _ J5.B; have J6 := Lib.hid J5; have y0 := zz.cell 0; have y6 := zz.lt; have yf0 := zz.frozen 0; clear hB5 J5 zz)
            refine hK.out _ _ ?bbbhS6 (fun hHeld => ?bbbrest6)
            case bbbhS6 => first | exact K6 | exact K5 | exact K0
            clear hK K
            try simp only [Act.put, List.getElem_toArray, List.getElem_cons_succ, List.getElem_cons_zero, List.setIfInBounds_toArray, List.set_cons_zero, List.set_cons_succ]
            refine wpAnyH_take (i := 7) (v := ?bbbvv7) rfl (by kernel_rfl) (by kernel_rfl) (by kernel_rfl) (fun _ _ _ h => h) (Or.inl ⟨by rfl, ?bbbhy7⟩) (by assumption) ?bbbrest7
            case bbbhy7 =>
              intro u hSu
              obtain ⟨s0, s1, s2⟩ := hSu
              go_simp
              try with_reducible rfl
            try simp only [Act.put, List.getElem_toArray, List.getElem_cons_succ, List.getElem_cons_zero, List.setIfInBounds_toArray, List.set_cons_zero, List.set_cons_succ]
            refine wpAnyH_take (i := 8) (v := ?bbbvv8) rfl (by kernel_rfl) (by kernel_rfl) (by kernel_rfl) (fun _ _ _ h => h) (Or.inl ⟨by rfl, ?bbbhy8⟩) (by assumption) ?bbbrest8
            case bbbhy8 =>
              intro u hSu
              obtain ⟨s0, s1, s2⟩ := hSu
              go_simp
              try with_reducible rfl
            try simp only [Act.put, List.getElem_toArray, List.getElem_cons_succ, List.getElem_cons_zero, List.setIfInBounds_toArray, List.set_cons_zero, List.set_cons_succ]
            refine wpAnyH_take (i := 9) (v := ?bbbvv9) rfl (by kernel_rfl) (by kernel_rfl) (by kernel_rfl) (fun _ _ _ h => h) (Or.inl ⟨by rfl, ?bbbhy9⟩) (by assumption) ?bbbrest9
            case bbbhy9 =>
              intro u hSu
              obtain ⟨s0, s1, s2⟩ := hSu
              go_simp
              try with_reducible rfl
            try simp only [Act.put, List.getElem_toArray, List.getElem_cons_succ, List.getElem_cons_zero, List.setIfInBounds_toArray, List.set_cons_zero, List.set_cons_succ]
            refine wpAnyH_ready (rs := [10]) (by kernel_rfl) (by simp) ?_
            refine AllReadyH.cons rfl (fun K hK => ?_) AllReadyH.nil
            go_simp
            refine hK.out _ _ ?bbbhS10 (fun hHeld => ?bbbrest10)
            case bbbhS10 => first | exact K6 | exact K5 | exact K0
            clear hK K
            try simp only [Act.put, List.getElem_toArray, List.getElem_cons_succ, List.getElem_cons_zero, List.setIfInBounds_toArray, List.set_cons_zero, List.set_cons_succ]
            refine wpAnyH_take (i := 11) (v := ?bbbvv11) rfl (by kernel_rfl) (by kernel_rfl) (by kernel_rfl) (fun _ _ _ h => h) (Or.inl ⟨by rfl, ?bbbhy11⟩) (by assumption) ?bbbrest11
            case bbbhy11 =>
              intro u hSu
              obtain ⟨s0, s1, s2⟩ := hSu
              go_simp
              try with_reducible rfl
            try simp only [Act.put, List.getElem_toArray, List.getElem_cons_succ, List.getElem_cons_zero, List.setIfInBounds_toArray, List.set_cons_zero, List.set_cons_succ]
            refine wpAnyH_done (by kernel_rfl) ?_ _
            rw [HT.out] at J6
            clear K0 K5 K6 y0 y6 yf0 z0 z6 J1 CD HT KB
            clear JR
            go_wp2_with fail
            go_roundw
            case rel => exact ⟨k2 + 1, by omega, by go_num, rfl, _, _, _, _, _, J6⟩
            case measure => simp [intOf]; omega
          · obtain rfl : k2 = n2 := by omega
            rw [List.take_of_length_le (by rw [HL2.out]; omega)] at JR
            have hbd2 := run_bd2 T hbd m k2 (by rw [HL2.out]; exact g24)
            rw [List.take_of_length_le (by rw [HL2.out]; omega)] at hbd2
            have hgd2 := run_good m T hgd
            obtain ⟨T2, hT2⟩ : ∃ T2, T2 = runM T m := ⟨_, rfl⟩
            rw [← hT2] at hbd2 hgd2 JR
            clear hT2 HM HM2
            have JT := Lib.hid (J.out.belowS JR.out.B)
            have CS : Hid (∀ u, Below wr.heap.size wr u → Calls Try.prog 12 #[.pointer (some vb), gV la2 ln2 lc2, .string ⟨#[97]⟩, .string ⟨#[98]⟩] u fun e u' => e = .returned (.bool true) ∧ Below u.heap.size u u') := Lib.hid (fun u hb => (JR.out.belowS hb).same_ hgd2 (by omega) [97] [98] (by decide) (by decide))
            have CT : Hid (∀ u, Below wr.heap.size wr u → Calls Try.prog 12 #[.pointer (some va), gV la ln lc, .string ⟨#[97]⟩, .string ⟨#[98]⟩] u fun e u' => e = .returned (.bool true) ∧ Below u.heap.size u u') := Lib.hid (fun u hb => (JT.out.belowS hb).same_ hgd (by omega) [97] [98] (by decide) (by decide))
            have RN : Hid (∀ u : World, Calls Try.prog 20 #[.pointer none, .string ⟨#[97]⟩, .string ⟨#[97]⟩] u fun e u' => e = .returned (.bool false) ∧ Below u.heap.size u u') := Lib.hid (fun u => reaches_nil u ⟨#[97]⟩ [97] (by decide))
            have B1 := Lib.hid (Below.refl wr.heap.size wr)
            clear HL HL2 hgd hbd hgd2 hbd2 J
            go_upto_region 19 with (first | (go_at_call 14; (with_reducible refine (add_nil _ _ _).mono ?_); rintro e w1 ⟨rfl, hB⟩; have B1 := Lib.hid (B1.out.trans (hB.mono B1.out.size)); clear hB) | (go_at_call 15; (with_reducible refine (remove_nil _ _).mono ?_); rintro e w1 ⟨rfl, hB⟩; have B1 := Lib.hid (B1.out.trans (hB.mono B1.out.size)); clear hB) | (go_at_call 16; (with_reducible refine (turn_nil _ _ _).mono ?_); rintro e w1 ⟨rfl, hB⟩; have B1 := Lib.hid (B1.out.trans (hB.mono B1.out.size)); clear hB) | (go_at_call 17; (with_reducible refine (has_nil _ _).mono ?_); rintro e w1 ⟨rfl, hB⟩; have B1 := Lib.hid (B1.out.trans (hB.mono B1.out.size)); clear hB) | (go_at_call 20; (with_reducible refine (RN.out _).mono ?_); rintro e w1 ⟨rfl, hB⟩; have B1 := Lib.hid (B1.out.trans (hB.mono B1.out.size)); clear hB) | (go_at_call 13; (with_reducible refine (fork_nil _).mono ?_); rintro e w1 ⟨rfl, hB⟩; have B1 := Lib.hid (B1.out.trans (hB.mono B1.out.size)); clear hB) | (go_at_call 18; (with_reducible refine (deps_nil _ _).mono ?_); rintro e w1 ⟨ra, rc, rfl, hR, hB⟩; have B1 := Lib.hid (B1.out.trans (hB.mono B1.out.size)); clear hB hR) | (go_at_call 19; (with_reducible refine (dpt_nil' _ _).mono ?_); rintro e w1 ⟨ra, rc, rfl, hR, hB⟩; have B1 := Lib.hid (B1.out.trans (hB.mono B1.out.size)); clear hB hR) | (go_at_call 21; (with_reducible refine (order_nil _).mono ?_); rintro e w1 ⟨ra, rc, rfl, hR, hB⟩; have B1 := Lib.hid (B1.out.trans (hB.mono B1.out.size)); clear hB hR))
            have z0 := (JR.out.belowS B1.out).Z.cell 0
            have z6 := (JR.out.belowS B1.out).Z.lt
            go_wp2_with (first | (go_at_call 12; (with_reducible refine (CS.out _ B1.out).mono ?_); rintro e w8 ⟨rfl, hB⟩; have B2 := Lib.hid (B1.out.trans (hB.mono B1.out.size)); clear hB; clear z0 z6; have z0 := (JT.out.belowS B2.out).Z.cell 0; have z6 := (JT.out.belowS B2.out).Z.lt) | (go_at_call 12; (with_reducible refine (CT.out _ B2.out).mono ?_); rintro e w9 ⟨rfl, hB⟩; have B3 := Lib.hid (B2.out.trans (hB.mono B2.out.size)); clear hB) | (go_at_call 9; (with_reducible refine (AW.out _).mono ?_); rintro e w10 ⟨rfl, hB⟩; have B4 := Lib.hid (B3.out.trans (hB.mono B3.out.size)); clear hB))
            go_ret
            exact ⟨rfl, JT.out.B.trans (B4.out.mono JT.out.B.size)⟩
end
end Go.Proofs.Ytijcojidfallkaa.WK
