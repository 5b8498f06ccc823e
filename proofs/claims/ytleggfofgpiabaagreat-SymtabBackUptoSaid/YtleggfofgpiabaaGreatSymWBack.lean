/-
  The walk of SymtabBack, over what the program's functions tell. Nothing here is a statement of the seed.
-/
import Derived.Test.YtleggfofgpiabaaGreatSymRun
set_option linter.unusedSimpArgs false
set_option linter.unusedVariables false
namespace Go.Proofs.YtleggfofgpiabaaGreat.WK
open Go.RowKit WM NR OM OR SM SR SF SP
set_option maxHeartbeats 4000000
set_option maxRecDepth 10000
section
variable {w : World} {a : Option Addr} {n c : Nat} {l : List Ac}
theorem SymtabBack_walk (h : ReadsA (· < w.heap.size) w (.slice a n c) l) (hs : ∀ x ∈ l, x.nm.length ≤ 2097152 ∧ ∀ s ∈ x.ns, s.length ≤ 2097152) (x : Ac) (hx : AcOk (· < w.heap.size) w x) (hxn : x.nm.length ≤ 2097152) (hxs : ∀ s ∈ x.ns, s.length ≤ 2097152) :
    Calls Tryz.prog 7 #[.slice a n c, acV x] w fun e w' => e = .returned (.bool true) ∧ Below w.heap.size w w' := by
  obtain ⟨n1, m1, m2⟩ := h.len
  unfold maxLen at m2
  have hn : (n : Int) ≤ 9223372036854775807 := by omega
  have hlen := hx.len
  unfold maxLen at hlen
  have hnx : (x.nn : Int) ≤ 9223372036854775807 := by omega
  have hv := below_new w (.cells (acC x) 34)
  have HV := Lib.hid hv
  have HY := Lib.hid (Whole.new w 34 (acC x))
  have HA := Lib.hid (h.go hv hv.size)
  have XO := Lib.hid (hx.go hv hv.size)
  have AW := Lib.hid awake_any
  have HS : Hid (∀ k, k < n → (l.getD k ac0).nm.length ≤ 2097152 ∧ ∀ s ∈ (l.getD k ac0).ns, s.length ≤ 2097152) := Lib.hid (fun k hk => hs _ (by rw [List.getD_eq_getElem?_getD, List.getElem?_eq_getElem (by omega)]; exact List.getElem_mem _))
  have HL := Lib.hid n1
  have q2 : (n : Int) ≤ c := by omega
  have XN := Lib.hid (And.intro hxn hxs)
  clear h hs n1 m2 hv hx hxn hxs hlen
  obtain ⟨bk, bn_, bg, ba, bnn, bc, bs_⟩ := x
  change Calls _ _ #[_, .agg #[.int .u8 bk, .string (bs bn_), .int .i64 bg, .slice ba bnn bc]] w _
  go_enter Tryz.func7, Tryz.ntmps7
  go_upto_region 1 with fail
  change Hid (Whole _ _ _ #[.int .u8 bk, .string (bs bn_), .int .i64 bg, .slice ba bnn bc]) at HY
  change Hid (Below _ _ (w.alloc (.cells #[.int .u8 bk, .string (bs bn_), .int .i64 bg, .slice ba bnn bc] 34))) at HV
  change Hid (ReadsA (· < (w.alloc (.cells #[.int .u8 bk, .string (bs bn_), .int .i64 bg, .slice ba bnn bc] 34)).heap.size) (w.alloc (.cells #[.int .u8 bk, .string (bs bn_), .int .i64 bg, .slice ba bnn bc] 34)) (.slice a n c) l) at HA
  change Hid (AcOk (· < (w.alloc (.cells #[.int .u8 bk, .string (bs bn_), .int .i64 bg, .slice ba bnn bc] 34)).heap.size) (w.alloc (.cells #[.int .u8 bk, .string (bs bn_), .int .i64 bg, .slice ba bnn bc] 34)) ⟨bk, bn_, bg, ba, bnn, bc, bs_⟩) at XO
  generalize w.alloc (.cells #[.int .u8 bk, .string (bs bn_), .int .i64 bg, .slice ba bnn bc] 34) = V at *
  have CF := Lib.hid (few_any HA.out)
  obtain ⟨a0, a1, a2, a3⟩ := four_cells HY.out
  have a6 := HY.out.lt
  simp only at hnx
  cases hf : fewB l with
  | false =>
    rw [hf] at CF
    clear HA HS hf
    generalize bs bn_ = y at *
    go_wp2_with (first | (go_at_call 8; (with_reducible refine CF.out.mono ?_); rintro e w1 ⟨rfl, hb1⟩) | (go_at_call 9; (with_reducible refine (AW.out _).mono ?_); rintro e w2 ⟨rfl, hb2⟩))
    go_ret
    exact ⟨rfl, (HV.out.trans (hb1.mono HV.out.size)).trans (hb2.mono (HV.out.trans (hb1.mono HV.out.size)).size)⟩
  | true =>
  rw [hf] at CF
  have HS3 : Hid (∀ k, k < n → (l.getD k ac0).ns.length ≤ 1000) := Lib.hid (by first | exact few_len h hf | exact few_len HA.out hf)
  have h60 : n ≤ 60 := by
    unfold fewB at hf
    rw [Bool.and_eq_true] at hf
    have := of_decide_eq_true hf.1
    have := HL.out
    omega
  clear hf
  by_cases h20 : (20 : Int) < (bnn : Int)
  · clear HA HS
    generalize bs bn_ = y at *
    go_wp2_with (first | (go_at_call 8; (with_reducible refine CF.out.mono ?_); rintro e w1 ⟨rfl, hb1⟩; have b0 := (HY.out.belowS hb1).cell 3; have b6 := (HY.out.belowS hb1).lt) | (go_at_call 9; (with_reducible refine (AW.out _).mono ?_); rintro e w2 ⟨rfl, hb2⟩))
    go_ret
    exact ⟨rfl, (HV.out.trans (hb1.mono HV.out.size)).trans (hb2.mono (HV.out.trans (hb1.mono HV.out.size)).size)⟩
  go_upto_region 3 with (go_at_call 8; (with_reducible refine CF.out.mono ?_); rintro e w1 ⟨rfl, hb1⟩; have B1 := Lib.hid hb1; have b0 := (HY.out.belowS hb1).cell 3; have b6 := (HY.out.belowS hb1).lt; clear hb1)
  clear a0 a1 a2 a3 a6 b0 b6
  go_upto_region 4 with (go_at_call 10; (with_reducible refine (new_any _).mono ?_); rintro e w2 ⟨v, S, rfl, hP, hS, hb2⟩; have P2 := Lib.hid hP; have S2 := Lib.hid hS; have B2 := Lib.hid (B1.out.trans (hb2.mono B1.out.size)); clear hP hS hb2)
  have bn := below_new w2 (.cells #[.slice none 0 0, .slice none 0 0] 30)
  have J0 : Hid (PJ V w2.heap.size (fun _ => False) S (w2.alloc (.cells #[.slice none 0 0, .slice none 0 0] 30)) v none 0 0 none 0 0 ⟨[], []⟩) := Lib.hid ⟨Whole.new _ _ _, ⟨P2.out.keep bn.size (fun g hg => bn.block g (P2.out.lt g hg)), RdT.zero _ _, fun g hg => hg.elim⟩, B2.out.trans (bn.mono B2.out.size), fun g hg => ⟨by have := S2.out g hg; have := B1.out.size; omega, by have := P2.out.lt g hg; omega⟩, fun g hg => hg.elim, B2.out.size⟩
  obtain ⟨va, rfl⟩ := P2.out.form
  clear bn P2 S2 B2 B1 CF
  generalize w2.alloc (.cells #[.slice none 0 0, .slice none 0 0] 30) = W3 at *
  generalize w2.heap.size = p at *
  go_wp2_with fail
  go_loopw [7] (fun i wr => ∃ k : Nat, k ≤ n ∧ i = .int .i64 (k : Int) ∧ ∃ G S ma mn mc la ln lc, Hid (PJ V p G S wr (.pointer (some va)) ma mn mc la ln lc (runM ⟨[], []⟩ (l.take k)))) (fun i _ => n - (intOf i).toNat)
  case atStart => exact ⟨0, by omega, rfl, _, _, _, _, _, _, _, _, J0⟩
  case round =>
    obtain ⟨k, hk, rfl, G, S, ma, mn, mc, la, ln, lc, J⟩ := hrel
    clear J0
    by_cases hlt : k < n
    · have hlt' : (k : Int) < n := by omega
      have hbd := run_bd l k (by omega)
      have hgd := run_good (l.take k) _ good_nil
      obtain ⟨g, off, rfl, q1, hat, hok⟩ := HA.out.at J.out.B hlt
      have hb0 : Below wr.heap.size wr wr.drew := (Below.refl _ _).drew
      have J1 := Lib.hid (J.out.belowS hb0)
      have KA : Hid (∀ u, Below V.heap.size V u → AcAt u g (off + k * 4) (l.getD k ac0) ∧ AcOk (· < V.heap.size) u (l.getD k ac0)) := Lib.hid (fun u hu => by
        obtain ⟨g', off', e, _, e1, e2⟩ := HA.out.at hu hlt
        simp only [Option.some.injEq, Addr.mk.injEq, and_true] at e
        obtain ⟨rfl, rfl⟩ := e
        exact ⟨e1, e2⟩)
      have CD := Lib.hid (do_any J1.out.D hgd hbd (l.getD k ac0) (J1.out.act (KA.out _ J1.out.B).2) (HS.out k hlt).1 (HS.out k hlt).2 (HS3.out k hlt))
      have hrt := runM_take ⟨[], []⟩ l k (by rw [HL.out]; exact hlt)
      rw [← hrt] at CD
      unfold IsDo at CD
      have KB : Hid (∀ u, Below V.heap.size V u → AcAt u g (off + k * 4) (l.getD k ac0)) := Lib.hid (fun u hu => (KA.out u hu).1)
      clear hbd hgd hat hok hrt KA
      obtain ⟨T, hT⟩ : ∃ T, T = runM ⟨[], []⟩ (l.take (k + 1)) := ⟨_, rfl⟩
      rw [← hT] at CD
      have HT := Lib.hid hT
      clear hT
      obtain ⟨X, hX⟩ : ∃ X, X = l.getD k ac0 := ⟨_, rfl⟩
      rw [← hX] at CD KB
      clear hX
      obtain ⟨xk, xn, xg, na, nn, nc, ns⟩ := X
      change Hid (Calls _ _ #[_, _, .agg #[.int .u8 xk, .string (bs xn), .int .i64 xg, .slice na nn nc]] _ _) at CD
      have KB : Hid (∀ u : World, Below V.heap.size V u → u.cell? ⟨g, off + k * 4, none⟩ = some (.int .u8 xk) ∧ u.cell? ⟨g, off + k * 4 + 1, none⟩ = some (.string (bs xn)) ∧ u.cell? ⟨g, off + k * 4 + 2, none⟩ = some (.int .i64 xg) ∧ u.cell? ⟨g, off + k * 4 + 3, none⟩ = some (.slice na nn nc)) := KB
      generalize bs xn = y at *
      have K0 := KB.out _ J1.out.B
      obtain ⟨z0, z1⟩ := two_cells J1.out.Z
      have z6 := J1.out.Z.lt
      go_upto_region 7 with fail
      refine wp_region_held_drew (S := fun u => u.cell? ⟨g, off + k * 4, none⟩ = some (.int .u8 xk) ∧ u.cell? ⟨g, off + k * 4 + 1, none⟩ = some (.string y) ∧ u.cell? ⟨g, off + k * 4 + 2, none⟩ = some (.int .i64 xg) ∧ u.cell? ⟨g, off + k * 4 + 3, none⟩ = some (.slice na nn nc)) (by kernel_rfl) K0 (fun hHeld => ?_)
      refine wpAnyH_take (i := 0) (v := ?avv0) rfl (by kernel_rfl) (by kernel_rfl) (by kernel_rfl) (fun _ _ _ h => h) (Or.inl ⟨by rfl, ?ahy0⟩) (by assumption) ?arest0
      case ahy0 =>
        intro u hSu
        obtain ⟨s0, s1, s2, s3⟩ := hSu
        go_simp
        try with_reducible rfl
      try simp only [Act.put, List.getElem_toArray, List.getElem_cons_succ, List.getElem_cons_zero, List.setIfInBounds_toArray, List.set_cons_zero, List.set_cons_succ]
      refine wpAnyH_take (i := 2) (v := ?avv2) rfl (by kernel_rfl) (by kernel_rfl) (by kernel_rfl) (fun _ _ _ h => h) (Or.inl ⟨by rfl, ?ahy2⟩) (by assumption) ?arest2
      case ahy2 =>
        intro u hSu
        obtain ⟨s0, s1, s2, s3⟩ := hSu
        go_simp
        try with_reducible rfl
      try simp only [Act.put, List.getElem_toArray, List.getElem_cons_succ, List.getElem_cons_zero, List.setIfInBounds_toArray, List.set_cons_zero, List.set_cons_succ]
      refine wpAnyH_take (i := 3) (v := ?avv3) rfl (by kernel_rfl) (by kernel_rfl) (by kernel_rfl) (fun _ _ _ h => h) (Or.inl ⟨by rfl, ?ahy3⟩) (by assumption) ?arest3
      case ahy3 =>
        intro u hSu
        obtain ⟨s0, s1, s2, s3⟩ := hSu
        go_simp
        try with_reducible rfl
      try simp only [Act.put, List.getElem_toArray, List.getElem_cons_succ, List.getElem_cons_zero, List.setIfInBounds_toArray, List.set_cons_zero, List.set_cons_succ]
      refine wpAnyH_take (i := 4) (v := ?avv4) rfl (by kernel_rfl) (by kernel_rfl) (by kernel_rfl) (fun _ _ _ h => h) (Or.inl ⟨by rfl, ?ahy4⟩) (by assumption) ?arest4
      case ahy4 =>
        intro u hSu
        obtain ⟨s0, s1, s2, s3⟩ := hSu
        go_simp
        try with_reducible rfl
      try simp only [Act.put, List.getElem_toArray, List.getElem_cons_succ, List.getElem_cons_zero, List.setIfInBounds_toArray, List.set_cons_zero, List.set_cons_succ]
      refine wpAnyH_take (i := 5) (v := ?avv5) rfl (by kernel_rfl) (by kernel_rfl) (by kernel_rfl) (fun _ _ _ h => h) (Or.inl ⟨by rfl, ?ahy5⟩) (by assumption) ?arest5
      case ahy5 =>
        intro u hSu
        obtain ⟨s0, s1, s2, s3⟩ := hSu
        go_simp
        try with_reducible rfl
      try simp only [Act.put, List.getElem_toArray, List.getElem_cons_succ, List.getElem_cons_zero, List.setIfInBounds_toArray, List.set_cons_zero, List.set_cons_succ]
      refine wpAnyH_ready (rs := [1]) (by kernel_rfl) (by simp) ?_
      refine AllReadyH.cons rfl (fun K hK => ?_) AllReadyH.nil
      go_simp
      refine hK.out _ _ K0 (fun hHeld => ?_)
      clear hK K
      try simp only [Act.put, List.getElem_toArray, List.getElem_cons_succ, List.getElem_cons_zero, List.setIfInBounds_toArray, List.set_cons_zero, List.set_cons_succ]
      refine wpAnyH_ready (rs := [6]) (by kernel_rfl) (by simp) ?_
      refine AllReadyH.cons rfl (fun K hK => ?_) AllReadyH.nil
      (go_simp; go_at_call 11; (with_reducible refine (CD.out).mono ?_); rintro e w5 ⟨ma', mn', mc', la', ln', lc', G', S', rfl, hD, hS', hG', hF⟩; obtain ⟨zz, J5⟩ := J1.out.step hD hS' hG' hF; have K5 := KB.out _ (Below.fr J1.out.B hF J1.out.B.size fun i hi => (J1.out.SB i hi).1); have K6 := KB.out _ J5.B; have J6 := Lib.hid J5; have y0 := zz.cell 0; have y1 := zz.cell 1; have y6 := zz.lt; have yf0 := zz.frozen 0; have yf1 := zz.frozen 1; clear hD hS' hG' hF J5 zz)
      refine hK.out _ _ ?bhS6 (fun hHeld => ?brest6)
      case bhS6 => first | exact K6 | exact K5 | exact K0
      clear hK K
      try simp only [Act.put, List.getElem_toArray, List.getElem_cons_succ, List.getElem_cons_zero, List.setIfInBounds_toArray, List.set_cons_zero, List.set_cons_succ]
      refine wpAnyH_take (i := 7) (v := ?bvv7) rfl (by kernel_rfl) (by kernel_rfl) (by kernel_rfl) (fun _ _ _ h => h) (Or.inl ⟨by rfl, ?bhy7⟩) (by assumption) ?brest7
      case bhy7 =>
        intro u hSu
        obtain ⟨s0, s1, s2, s3⟩ := hSu
        go_simp
        try with_reducible rfl
      try simp only [Act.put, List.getElem_toArray, List.getElem_cons_succ, List.getElem_cons_zero, List.setIfInBounds_toArray, List.set_cons_zero, List.set_cons_succ]
      refine wpAnyH_take (i := 8) (v := ?bvv8) rfl (by kernel_rfl) (by kernel_rfl) (by kernel_rfl) (fun _ _ _ h => h) (Or.inl ⟨by rfl, ?bhy8⟩) (by assumption) ?brest8
      case bhy8 =>
        intro u hSu
        obtain ⟨s0, s1, s2, s3⟩ := hSu
        go_simp
        try with_reducible rfl
      try simp only [Act.put, List.getElem_toArray, List.getElem_cons_succ, List.getElem_cons_zero, List.setIfInBounds_toArray, List.set_cons_zero, List.set_cons_succ]
      refine wpAnyH_take (i := 9) (v := ?bvv9) rfl (by kernel_rfl) (by kernel_rfl) (by kernel_rfl) (fun _ _ _ h => h) (Or.inl ⟨by rfl, ?bhy9⟩) (by assumption) ?brest9
      case bhy9 =>
        intro u hSu
        obtain ⟨s0, s1, s2, s3⟩ := hSu
        go_simp
        try with_reducible rfl
      try simp only [Act.put, List.getElem_toArray, List.getElem_cons_succ, List.getElem_cons_zero, List.setIfInBounds_toArray, List.set_cons_zero, List.set_cons_succ]
      refine wpAnyH_ready (rs := [10]) (by kernel_rfl) (by simp) ?_
      refine AllReadyH.cons rfl (fun K hK => ?_) AllReadyH.nil
      go_simp
      refine hK.out _ _ ?bhS10 (fun hHeld => ?brest10)
      case bhS10 => first | exact K6 | exact K5 | exact K0
      clear hK K
      try simp only [Act.put, List.getElem_toArray, List.getElem_cons_succ, List.getElem_cons_zero, List.setIfInBounds_toArray, List.set_cons_zero, List.set_cons_succ]
      refine wpAnyH_done (by kernel_rfl) ?_ _
      rw [HT.out] at J6
      clear K0 K5 K6 y0 y1 y6 yf0 yf1 z0 z1 z6 J1 J CD HT KB
      go_wp2_with fail
      go_roundw
      case rel => exact ⟨k + 1, by omega, by go_num, _, _, _, _, _, _, _, _, J6⟩
      case measure => simp [intOf]; omega
    · obtain rfl : k = n := by omega
      have hgd := run_good l _ good_nil
      have hbd := run_bd l k (by omega)
      rw [List.take_of_length_le (by rw [HL.out]; omega)] at hbd J
      obtain ⟨T, hT⟩ : ∃ T, T = runM ⟨[], []⟩ l := ⟨_, rfl⟩
      rw [← hT] at hbd J hgd
      have HTL : Hid (T.mods.length ≤ 60 ∧ T.L.length ≤ 480) := Lib.hid (by have h3 := run_size l ⟨[], []⟩; rw [← hT] at h3; have := HL.out; simp only [List.length_nil] at h3; omega)
      clear hT HA HS
      have X0 := Lib.hid J.out.x
      have CA := Lib.hid (add_any X0.out.P hgd hbd bn_ (Nat.le_trans XN.out.1 (by omega)) bg XO.out.gate (X0.out.strs_ XO.out.ns) (fun s hs => Nat.le_trans (XN.out.2 s hs) (by omega)))
      have CS : Hid (∀ (G S : Nat → Prop) (u : World) (ma : Option Addr) (mn mc : Nat) (la : Option Addr) (ln lc : Nat), PX V p G S u (.pointer (some va)) ma mn mc la ln lc T T → Calls Tryz.prog 12 #[.pointer (some va), tbV ma mn mc la ln lc, .agg #[.int .u8 bk, .string (bs bn_), .int .i64 bg, .slice ba bnn bc]] u fun e u' => e = .returned (.bool true) ∧ Below u.heap.size u u') := Lib.hid (fun G S u ma mn mc la ln lc hj => same_any hj.j.D hgd hbd ⟨bk, bn_, bg, ba, bnn, bc, bs_⟩ (hj.act (XO.out.below hj.B)) XN.out.1 XN.out.2)
      obtain ⟨t', ht'⟩ : ∃ t', t' = (addM T bn_ bg bs_).1 := ⟨_, rfl⟩
      obtain ⟨M, hM⟩ : ∃ M, M = (addM T bn_ bg bs_).2 := ⟨_, rfl⟩
      rw [← ht', ← hM] at CA
      clear J
      by_cases h0 : M = 0
      · have ha : addM T bn_ bg bs_ = (t', 0) := by rw [ht', ← h0, hM]
        have hgd' : SM.Good t' := by have := good_add hgd bn_ bg bs_; rw [ha] at this; exact this
        have hbd' : t'.mods.length ≤ 10000 ∧ t'.L.length ≤ 80000 := by
          have h1 := add_size T bn_ bg bs_
          have h2 := run_bd l 60 (Nat.le_refl _)
          have h3 := run_size l ⟨[], []⟩
          rw [ha] at h1
          simp only [List.length_nil] at h1 h3
          have h4 : T.mods.length ≤ 60 ∧ T.L.length ≤ 480 := by
            have := HTL.out
            omega
          omega
        obtain ⟨r1, r2, r3⟩ := add_remove hgd bn_ bg bs_ ha
        subst h0
        have CH : Hid (∀ (G S : Nat → Prop) (u : World) (ma : Option Addr) (mn mc : Nat) (la : Option Addr) (ln lc : Nat), PX V p G S u (.pointer (some va)) ma mn mc la ln lc t' T → Calls Tryz.prog 20 #[.pointer (some va), .string (bs bn_)] u fun e u' => e = .returned (.bool true) ∧ Below u.heap.size u u') := Lib.hid (fun G S u ma mn mc la ln lc hj => by have := has_any hj.P hgd' hbd' bn_ (Nat.le_trans XN.out.1 (by omega)); rw [r1] at this; exact this)
        have CR : Hid (∀ (G S : Nat → Prop) (u : World) (ma : Option Addr) (mn mc : Nat) (la : Option Addr) (ln lc : Nat), PX V p G S u (.pointer (some va)) ma mn mc la ln lc t' T → Calls Tryz.prog 19 #[.pointer (some va), .string (bs bn_)] u fun e u' => e = .returned (.int .i64 0) ∧ Below u.heap.size u u') := Lib.hid (fun G S u ma mn mc la ln lc hj => by have := refs_any hj.P hgd' hbd' bn_ (Nat.le_trans XN.out.1 (by omega)); rw [r2] at this; exact this)
        have CM : Hid (∀ (G S : Nat → Prop) (u : World) (ma : Option Addr) (mn mc : Nat) (la : Option Addr) (ln lc : Nat), PX V p G S u (.pointer (some va)) ma mn mc la ln lc t' T → Calls Tryz.prog 16 #[.pointer (some va), .string (bs bn_)] u fun e u' => e = .returned (.int .i64 0) ∧ Chg S u (.pointer (some va)) T u') := Lib.hid (fun G S u ma mn mc la ln lc hj => by have := remove_any hj.P hgd' hbd' bn_ (Nat.le_trans XN.out.1 (by omega)); rw [r3] at this; exact this)
        clear ht' hM ha hgd' hbd' r1 r2 r3 hgd hbd XO XN
        generalize bs bn_ = y at *
        obtain ⟨a0, a1, a2, a3⟩ := four_cells (HY.out.belowS X0.out.B); have a6 := (HY.out.belowS X0.out.B).lt; obtain ⟨z0, z1⟩ := two_cells X0.out.Z; have z6 := X0.out.Z.lt
        go_upto_region 9 with (go_at_call 15; (with_reducible refine (CA.out).mono ?_); rintro e w4 ⟨rfl, hc⟩; obtain ⟨S1, hx1⟩ := X0.out.chg hc; have X1 := Lib.hid hx1; clear hc hx1)
        clear a0 a1 a2 a3 a6 z0 z1 z6
        obtain ⟨a0, a1, a2, a3⟩ := four_cells (HY.out.belowS X1.out.B); have a6 := (HY.out.belowS X1.out.B).lt; obtain ⟨z0, z1⟩ := two_cells X1.out.Z; have z6 := X1.out.Z.lt
        go_wp2_with (first | (go_at_call 20; (with_reducible refine (CH.out _ _ _ _ _ _ _ _ _ X1.out).mono ?_); rintro e w5 ⟨rfl, hB⟩; have X2 := Lib.hid (X1.out.belowS hB); clear hB; clear a0 a1 a2 a3 a6 z0 z1 z6; obtain ⟨a0, a1, a2, a3⟩ := four_cells (HY.out.belowS X2.out.B); have a6 := (HY.out.belowS X2.out.B).lt; obtain ⟨z0, z1⟩ := two_cells X2.out.Z; have z6 := X2.out.Z.lt) | (go_at_call 19; (with_reducible refine (CR.out _ _ _ _ _ _ _ _ _ X2.out).mono ?_); rintro e w6 ⟨rfl, hB⟩; have X3 := Lib.hid (X2.out.belowS hB); clear hB; clear a0 a1 a2 a3 a6 z0 z1 z6; obtain ⟨a0, a1, a2, a3⟩ := four_cells (HY.out.belowS X3.out.B); have a6 := (HY.out.belowS X3.out.B).lt; obtain ⟨z0, z1⟩ := two_cells X3.out.Z; have z6 := X3.out.Z.lt) | (go_at_call 16; (with_reducible refine (CM.out _ _ _ _ _ _ _ _ _ X3.out).mono ?_); rintro e w7 ⟨rfl, hc⟩; obtain ⟨S4, hx4⟩ := X3.out.chg hc; have X4 := Lib.hid hx4; clear hc hx4; clear a0 a1 a2 a3 a6 z0 z1 z6; obtain ⟨a0, a1, a2, a3⟩ := four_cells (HY.out.belowS X4.out.B); have a6 := (HY.out.belowS X4.out.B).lt; obtain ⟨z0, z1⟩ := two_cells X4.out.Z; have z6 := X4.out.Z.lt) | (go_at_call 12; (with_reducible refine (CS.out _ _ _ _ _ _ _ _ _ X4.out).mono ?_); rintro e w8 ⟨rfl, hB8⟩; have X8 := Lib.hid (X4.out.belowS hB8); clear hB8) | (go_at_call 9; (with_reducible refine (AW.out _).mono ?_); rintro e w9 ⟨rfl, hB9⟩))
        go_ret
        exact ⟨rfl, (HV.out.trans (X8.out.B.mono HV.out.size)).trans (hB9.mono (HV.out.trans (X8.out.B.mono HV.out.size)).size)⟩
      · have hsame : t' = T := by
          rcases add_cases T bn_ bg bs_ with ⟨e, _⟩ | ⟨_, _, _, _, _, _, _, _, e⟩
          · rw [ht', e]
          · rw [hM, e] at h0; exact absurd rfl h0
        rw [hsame] at CA
        have h0' : (M == 0) = false := by simpa using h0
        clear ht' hM hsame hgd hbd XO XN
        generalize bs bn_ = y at *
        obtain ⟨a0, a1, a2, a3⟩ := four_cells (HY.out.belowS X0.out.B); have a6 := (HY.out.belowS X0.out.B).lt; obtain ⟨z0, z1⟩ := two_cells X0.out.Z; have z6 := X0.out.Z.lt
        go_upto_region 9 with (go_at_call 15; (with_reducible refine (CA.out).mono ?_); rintro e w4 ⟨rfl, hc⟩; obtain ⟨S1, hx1⟩ := X0.out.chg hc; have X1 := Lib.hid hx1; clear hc hx1)
        clear a0 a1 a2 a3 a6 z0 z1 z6
        obtain ⟨a0, a1, a2, a3⟩ := four_cells (HY.out.belowS X1.out.B); have a6 := (HY.out.belowS X1.out.B).lt; obtain ⟨z0, z1⟩ := two_cells X1.out.Z; have z6 := X1.out.Z.lt
        go_wp2_with (first | (go_at_call 12; (with_reducible refine (CS.out _ _ _ _ _ _ _ _ _ X1.out).mono ?_); rintro e w8 ⟨rfl, hB8⟩; have X8 := Lib.hid (X1.out.belowS hB8); clear hB8) | (go_at_call 9; (with_reducible refine (AW.out _).mono ?_); rintro e w9 ⟨rfl, hB9⟩))
        go_ret
        exact ⟨rfl, (HV.out.trans (X8.out.B.mono HV.out.size)).trans (hB9.mono (HV.out.trans (X8.out.B.mono HV.out.size)).size)⟩
end
end Go.Proofs.YtleggfofgpiabaaGreat.WK
