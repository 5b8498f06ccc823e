/-
  The walk of GraphSides, over what the program's functions tell. Nothing here is a statement of the seed.
-/
import Derived.Test.YtijcojidfallkaaGraphRun
import Derived.Test.YtijcojidfallkaaGraphRef
set_option linter.unusedSimpArgs false
set_option linter.unusedVariables false
namespace Go.Proofs.Ytijcojidfallkaa.WK
open Go.RowKit WM NR OM OR GM GR GF GP GL MV
set_option maxHeartbeats 4000000
set_option maxRecDepth 10000
theorem rem_z {g : List Nd} {x : Tx} (hx : hasM g x = true) : ((removeM g x).2 = 0 ∧ (dptM g x).length = 0) ∨ ((removeM g x).2 = 26 ∧ 0 < (dptM g x).length) := by
  unfold removeM
  rw [if_neg (by rw [hx]; simp)]
  by_cases h : dptM g x = []
  · rw [if_neg (by simpa using h)]
    exact Or.inl ⟨rfl, by rw [h]; rfl⟩
  · rw [if_pos h]
    exact Or.inr ⟨rfl, List.length_pos_iff.2 h⟩
theorem dpt_deps {g : List Nd} (hg : GM.Good g) (a b : Tx) : decide (b ∈ depsM g a) = decide (a ∈ dptM g b) := by
  rw [Bool.eq_iff_iff, decide_eq_true_eq, decide_eq_true_eq]
  unfold dptM
  rw [List.mem_map]
  constructor
  · intro h
    obtain ⟨x, hx, e, hd⟩ := deps_has h
    exact ⟨x, List.mem_filter.2 ⟨hx, by simpa using hd⟩, e⟩
  · rintro ⟨x, hx, rfl⟩
    obtain ⟨h1, h2⟩ := List.mem_filter.1 hx
    rw [deps_of hg.uq h1]
    simpa using h2
theorem dpt_len (g : List Nd) (x : Tx) : (dptM g x).length ≤ g.length := by
  unfold dptM
  rw [List.length_map]
  exact List.length_filter_le _ _
section
variable {w : World} {a : Option Addr} {n c : Nat} {l : List Ac}
theorem GraphSides_walk (h : ReadsA (· < w.heap.size) w (.slice a n c) l) (hs : ∀ x ∈ l, x.nm.length ≤ 140737488351232 ∧ ∀ s ∈ x.ns, s.length ≤ 140737488351232) :
    Calls Try.prog 7 #[.slice a n c] w fun e w' => e = .returned (.bool true) ∧ Below w.heap.size w w' := by
  obtain ⟨n1, m1, m2⟩ := h.len
  unfold maxLen at m2
  have hn : (n : Int) ≤ 9223372036854775807 := by omega
  have CF := Lib.hid (few_any h)
  have AW := Lib.hid awake_any
  cases hf : fewB l with
  | false =>
    rw [hf] at CF
    clear h hs n1 m1 m2 hf
    go_enter Try.func7, Try.ntmps7
    go_wp2_with (first | (go_at_call 8; (with_reducible refine CF.out.mono ?_); rintro e w1 ⟨rfl, hb1⟩) | (go_at_call 9; (with_reducible refine (AW.out _).mono ?_); rintro e w2 ⟨rfl, hb2⟩))
    go_ret
    exact ⟨rfl, hb1.trans (hb2.mono hb1.size)⟩
  | true =>
  rw [hf] at CF
  have HS3 : Hid (∀ k, k < n → (l.getD k ac0).ns.length ≤ 1000) := Lib.hid (fun k hk => Nat.le_trans (few_len h hf k hk) (by omega))
  have h24 : n ≤ 24 := by
    unfold fewB at hf
    rw [Bool.and_eq_true] at hf
    have := of_decide_eq_true hf.1
    omega
  have HA := Lib.hid h
  have HS : Hid (∀ k, k < n → (l.getD k ac0).nm.length ≤ 140737488351232 ∧ ∀ s ∈ (l.getD k ac0).ns, s.length ≤ 140737488351232) := Lib.hid (fun k hk => hs _ (by rw [List.getD_eq_getElem?_getD, List.getElem?_eq_getElem (by omega)]; exact List.getElem_mem _))
  have HL := Lib.hid n1
  have q2 : (n : Int) ≤ c := by omega
  clear h hs n1 m2 hf
  go_enter Try.func7, Try.ntmps7
  go_upto_region 3 with (go_at_call 8; (with_reducible refine CF.out.mono ?_); rintro e w1 ⟨rfl, hb1⟩; have B1 := Lib.hid hb1; clear hb1)
  go_upto_region 4 with (go_at_call 10; (with_reducible refine (new_any _).mono ?_); rintro e w2 ⟨v, S, rfl, hP, hS, hb2⟩; have P2 := Lib.hid hP; have S2 := Lib.hid (fun b hb => Nat.le_trans B1.out.size (hS b hb)); have B2 := Lib.hid (B1.out.trans (hb2.mono B1.out.size)); clear hP hS hb2)
  have J0 : Hid (PJ w w2.heap.size (fun _ => False) S (w2.alloc (.cells #[.slice none 0 0] 29)) v none 0 0 []) := Lib.hid (PJ.zero P2.out S2.out B2.out)
  obtain ⟨va, rfl⟩ := P2.out.form
  clear P2 S2 B2 B1 CF
  generalize w2.alloc (.cells #[.slice none 0 0] 29) = W3 at *
  generalize w2.heap.size = p at *
  go_wp2_with fail
  go_loopw [5] (fun i wr => ∃ k : Nat, k ≤ n ∧ i = .int .i64 (k : Int) ∧ ∃ G S la ln lc, Hid (PJ w p G S wr (.pointer (some va)) la ln lc (runM [] (l.take k)))) (fun i _ => n - (intOf i).toNat)
  case atStart => exact ⟨0, by omega, rfl, _, _, _, _, _, J0⟩
  case round =>
    obtain ⟨k, hk, rfl, G, S, la, ln, lc, J⟩ := hrel
    clear J0
    by_cases hlt : k < n
    · have hlt' : (k : Int) < n := by omega
      have hbd := run_bd l k (by rw [HL.out]; exact h24)
      have hgd := run_good (l.take k) _ good_nil
      obtain ⟨g, off, rfl, q1, hat, hok⟩ := HA.out.at J.out.B hlt
      have hb0 : Below wr.heap.size wr wr.drew := (Below.refl _ _).drew
      have J1 := Lib.hid (J.out.belowS hb0)
      have KA : Hid (∀ u, Below w.heap.size w u → AcAt u g (off + k * 3) (l.getD k ac0) ∧ AcOk (· < w.heap.size) u (l.getD k ac0)) := Lib.hid (fun u hu => by
        obtain ⟨g', off', e, _, e1, e2⟩ := HA.out.at hu hlt
        simp only [Option.some.injEq, Addr.mk.injEq, and_true] at e
        obtain ⟨rfl, rfl⟩ := e
        exact ⟨e1, e2⟩)
      have CD := Lib.hid (J1.out.do_ hgd (by omega) (l.getD k ac0) (KA.out _ J1.out.B).2 (HS.out k hlt).1 (HS.out k hlt).2 (HS3.out k hlt))
      have hrt := runM_take [] l k (by rw [HL.out]; exact hlt)
      rw [← hrt] at CD
      have KB : Hid (∀ u, Below w.heap.size w u → AcAt u g (off + k * 3) (l.getD k ac0)) := Lib.hid (fun u hu => (KA.out u hu).1)
      clear hbd hgd hat hok hrt KA
      obtain ⟨T9, hT⟩ : ∃ T9, T9 = runM [] (l.take (k + 1)) := ⟨_, rfl⟩
      rw [← hT] at CD
      have HT := Lib.hid hT
      clear hT
      obtain ⟨X, hX⟩ : ∃ X, X = l.getD k ac0 := ⟨_, rfl⟩
      rw [← hX] at CD KB
      clear hX
      obtain ⟨xk, xn, na, nn, nc, ns⟩ := X
      change Hid (Calls _ _ #[_, _, .agg #[.int .u8 xk, .string (bs xn), .slice na nn nc]] _ _) at CD
      have KB : Hid (∀ u : World, Below w.heap.size w u → u.cell? ⟨g, off + k * 3, none⟩ = some (.int .u8 xk) ∧ u.cell? ⟨g, off + k * 3 + 1, none⟩ = some (.string (bs xn)) ∧ u.cell? ⟨g, off + k * 3 + 2, none⟩ = some (.slice na nn nc)) := KB
      generalize bs xn = y at *
      have K0 := KB.out _ J1.out.B
      have z0 := J1.out.Z.cell 0
      have z6 := J1.out.Z.lt
      go_upto_region 7 with fail
      refine wp_region_held_drew (S := fun u => u.cell? ⟨g, off + k * 3, none⟩ = some (.int .u8 xk) ∧ u.cell? ⟨g, off + k * 3 + 1, none⟩ = some (.string y) ∧ u.cell? ⟨g, off + k * 3 + 2, none⟩ = some (.slice na nn nc)) (by kernel_rfl) K0 (fun hHeld => ?_)
      refine wpAnyH_take (i := 0) (v := ?aavv0) rfl (by kernel_rfl) (by kernel_rfl) (by kernel_rfl) (fun _ _ _ h => h) (Or.inl ⟨by rfl, ?aahy0⟩) (by assumption) ?aarest0
      case aahy0 =>
        intro u hSu
        obtain ⟨s0, s1, s2⟩ := hSu
        go_simp
        try with_reducible rfl
      try simp only [Act.put, List.getElem_toArray, List.getElem_cons_succ, List.getElem_cons_zero, List.setIfInBounds_toArray, List.set_cons_zero, List.set_cons_succ]
      refine wpAnyH_take (i := 2) (v := ?aavv2) rfl (by kernel_rfl) (by kernel_rfl) (by kernel_rfl) (fun _ _ _ h => h) (Or.inl ⟨by rfl, ?aahy2⟩) (by assumption) ?aarest2
      case aahy2 =>
        intro u hSu
        obtain ⟨s0, s1, s2⟩ := hSu
        go_simp
        try with_reducible rfl
      try simp only [Act.put, List.getElem_toArray, List.getElem_cons_succ, List.getElem_cons_zero, List.setIfInBounds_toArray, List.set_cons_zero, List.set_cons_succ]
      refine wpAnyH_take (i := 3) (v := ?aavv3) rfl (by kernel_rfl) (by kernel_rfl) (by kernel_rfl) (fun _ _ _ h => h) (Or.inl ⟨by rfl, ?aahy3⟩) (by assumption) ?aarest3
      case aahy3 =>
        intro u hSu
        obtain ⟨s0, s1, s2⟩ := hSu
        go_simp
        try with_reducible rfl
      try simp only [Act.put, List.getElem_toArray, List.getElem_cons_succ, List.getElem_cons_zero, List.setIfInBounds_toArray, List.set_cons_zero, List.set_cons_succ]
      refine wpAnyH_take (i := 4) (v := ?aavv4) rfl (by kernel_rfl) (by kernel_rfl) (by kernel_rfl) (fun _ _ _ h => h) (Or.inl ⟨by rfl, ?aahy4⟩) (by assumption) ?aarest4
      case aahy4 =>
        intro u hSu
        obtain ⟨s0, s1, s2⟩ := hSu
        go_simp
        try with_reducible rfl
      try simp only [Act.put, List.getElem_toArray, List.getElem_cons_succ, List.getElem_cons_zero, List.setIfInBounds_toArray, List.set_cons_zero, List.set_cons_succ]
      refine wpAnyH_take (i := 5) (v := ?aavv5) rfl (by kernel_rfl) (by kernel_rfl) (by kernel_rfl) (fun _ _ _ h => h) (Or.inl ⟨by rfl, ?aahy5⟩) (by assumption) ?aarest5
      case aahy5 =>
        intro u hSu
        obtain ⟨s0, s1, s2⟩ := hSu
        go_simp
        try with_reducible rfl
      try simp only [Act.put, List.getElem_toArray, List.getElem_cons_succ, List.getElem_cons_zero, List.setIfInBounds_toArray, List.set_cons_zero, List.set_cons_succ]
      refine wpAnyH_ready (rs := [1]) (by kernel_rfl) (by simp) ?_
      refine AllReadyH.cons rfl (fun K hK => ?_) AllReadyH.nil
      go_simp
      refine hK.out _ _ K0 (fun hHeld => ?_)
      clear hK K
      try simp only [Act.put, List.getElem_toArray, List.getElem_cons_succ, List.getElem_cons_zero, List.setIfInBounds_toArray, List.set_cons_zero, List.set_cons_succ]
      refine wpAnyH_ready (rs := [6]) (by kernel_rfl) (by simp) ?_
      refine AllReadyH.cons rfl (fun K hK => ?_) AllReadyH.nil
      (go_simp; go_at_call 11; (with_reducible refine (CD.out).mono ?_); rintro e w5 ⟨la', ln', lc', G', S', rfl, hB5, zz, J5⟩; have K5 := KB.out _ hB5; have K6 := KB.out _ J5.B; have J6 := Lib.hid J5; have y0 := zz.cell 0; have y6 := zz.lt; have yf0 := zz.frozen 0; clear hB5 J5 zz)
      refine hK.out _ _ ?abhS6 (fun hHeld => ?abrest6)
      case abhS6 => first | exact K6 | exact K5 | exact K0
      clear hK K
      try simp only [Act.put, List.getElem_toArray, List.getElem_cons_succ, List.getElem_cons_zero, List.setIfInBounds_toArray, List.set_cons_zero, List.set_cons_succ]
      refine wpAnyH_take (i := 7) (v := ?abvv7) rfl (by kernel_rfl) (by kernel_rfl) (by kernel_rfl) (fun _ _ _ h => h) (Or.inl ⟨by rfl, ?abhy7⟩) (by assumption) ?abrest7
      case abhy7 =>
        intro u hSu
        obtain ⟨s0, s1, s2⟩ := hSu
        go_simp
        try with_reducible rfl
      try simp only [Act.put, List.getElem_toArray, List.getElem_cons_succ, List.getElem_cons_zero, List.setIfInBounds_toArray, List.set_cons_zero, List.set_cons_succ]
      refine wpAnyH_take (i := 8) (v := ?abvv8) rfl (by kernel_rfl) (by kernel_rfl) (by kernel_rfl) (fun _ _ _ h => h) (Or.inl ⟨by rfl, ?abhy8⟩) (by assumption) ?abrest8
      case abhy8 =>
        intro u hSu
        obtain ⟨s0, s1, s2⟩ := hSu
        go_simp
        try with_reducible rfl
      try simp only [Act.put, List.getElem_toArray, List.getElem_cons_succ, List.getElem_cons_zero, List.setIfInBounds_toArray, List.set_cons_zero, List.set_cons_succ]
      refine wpAnyH_take (i := 9) (v := ?abvv9) rfl (by kernel_rfl) (by kernel_rfl) (by kernel_rfl) (fun _ _ _ h => h) (Or.inl ⟨by rfl, ?abhy9⟩) (by assumption) ?abrest9
      case abhy9 =>
        intro u hSu
        obtain ⟨s0, s1, s2⟩ := hSu
        go_simp
        try with_reducible rfl
      try simp only [Act.put, List.getElem_toArray, List.getElem_cons_succ, List.getElem_cons_zero, List.setIfInBounds_toArray, List.set_cons_zero, List.set_cons_succ]
      refine wpAnyH_ready (rs := [10]) (by kernel_rfl) (by simp) ?_
      refine AllReadyH.cons rfl (fun K hK => ?_) AllReadyH.nil
      go_simp
      refine hK.out _ _ ?abhS10 (fun hHeld => ?abrest10)
      case abhS10 => first | exact K6 | exact K5 | exact K0
      clear hK K
      try simp only [Act.put, List.getElem_toArray, List.getElem_cons_succ, List.getElem_cons_zero, List.setIfInBounds_toArray, List.set_cons_zero, List.set_cons_succ]
      refine wpAnyH_done (by kernel_rfl) ?_ _
      rw [HT.out] at J6
      clear K0 K5 K6 y0 y6 yf0 z0 z6 J1 CD HT KB
      clear J
      go_wp2_with fail
      go_roundw
      case rel => exact ⟨k + 1, by omega, by go_num, _, _, _, _, _, J6⟩
      case measure => simp [intOf]; omega
    · obtain rfl : k = n := by omega
      have hgd := run_good l _ good_nil
      have hbd := run_bd l k (by rw [HL.out]; exact h24)
      rw [List.take_of_length_le (by rw [HL.out]; omega)] at hbd J
      obtain ⟨T, hT⟩ : ∃ T, T = runM [] l := ⟨_, rfl⟩
      rw [← hT] at hbd J hgd
      clear hT
      have PTU : Hid (∀ u, Below wr.heap.size wr u → PT S u (.pointer (some va)) T) := Lib.hid (fun u hb => (J.out.belowS hb).pt)
      have JB := Lib.hid J.out.B
      obtain ⟨ho, hol⟩ := order_all hgd
      have HZ : Hid (∀ x, hasM T x = true → x.length ≤ 9223372036854775807) := Lib.hid (fun x hx => by
        obtain ⟨pa, pb, pk, _, hp⟩ := PTU.out wr (Below.refl _ _)
        have := hp.has_len hx
        unfold maxLen at this
        exact this)
      have CO : Hid (∀ u, Below wr.heap.size wr u → Calls Try.prog 21 #[.pointer (some va)] u (IsL u (orderM T))) := Lib.hid (fun u hb => order_any (PTU.out u hb) hgd (by omega))
      have CD : Hid (∀ x : Tx, x.length ≤ 9223372036854775807 → ∀ u, Below wr.heap.size wr u → Calls Try.prog 18 #[.pointer (some va), .string (bs x)] u (IsL u (depsM T x))) := Lib.hid (fun x hx u hb => deps_any (PTU.out u hb) hgd (by omega) x hx)
      have CP : Hid (∀ x : Tx, x.length ≤ 9223372036854775807 → ∀ u, Below wr.heap.size wr u → Calls Try.prog 19 #[.pointer (some va), .string (bs x)] u (IsL u (dptM T x))) := Lib.hid (fun x hx u hb => dpt_any (PTU.out u hb) hgd (by omega) x hx)
      have FK : Hid (∀ u, Below wr.heap.size wr u → Calls Try.prog 13 #[.pointer (some va)] u fun e u' => ∃ v2 S2, e = .returned v2 ∧ PT S2 u' v2 T ∧ (∀ g, S2 g → u.heap.size ≤ g) ∧ Below u.heap.size u u') := Lib.hid (fun u hb => fork_any (PTU.out u hb) hgd (by omega))
      have CR : Hid (∀ (x : Tx) (S2 : Nat → Prop) (v2 : Value) (u : World), x.length ≤ 9223372036854775807 → PT S2 u v2 T → Calls Try.prog 15 #[v2, .string (bs x)] u fun e u' => e = .returned (.int .i64 (removeM T x).2) ∧ Fr S2 u u') := Lib.hid (fun x S2 v2 u hx hp => (remove_any hp hgd (by omega) x hx).mono fun e u' ⟨h1, S', _, _, h4⟩ => ⟨h1, h4⟩)
      have HDD : Hid (∀ a b : Tx, decide (b ∈ depsM T a) = decide (a ∈ dptM T b)) := Lib.hid (dpt_deps hgd)
      have HPL : Hid (∀ x, (dptM T x).length ≤ 24) := Lib.hid (fun x => Nat.le_trans (dpt_len T x) hbd)
      have HO := Lib.hid ho.sub
      have hol : (orderM T).length ≤ 24 := by omega
      clear ho hgd hbd J HS3 HA HS PTU
      obtain ⟨w7, hw7⟩ : ∃ x, x = wr := ⟨_, rfl⟩
      subst hw7
      obtain ⟨O, hO⟩ : ∃ O, O = orderM T := ⟨_, rfl⟩
      rw [← hO] at CO HO hol
      clear hO
      go_upto_region 9 with (go_at_call 21; (with_reducible refine (CO.out _ (Below.refl _ _)).mono ?_); rintro e w3 ⟨oa, oc, rfl, hR, hB⟩; have R3 := Lib.hid hR; have B3 := Lib.hid hB; clear hR hB)
      clear CO
      have olz : (O.length : Int) ≤ 24 := by omega
      go_wp2_with fail
      go_loopw [7] (fun v wr => ∃ i : Nat, i ≤ O.length ∧ v = .int .i64 (i : Int) ∧ Hid (Below w3.heap.size w3 wr)) (fun v _ => O.length - (intOf v).toNat)
      case atStart => exact ⟨0, by omega, rfl, Lib.hid (Below.refl _ _)⟩
      case round =>
        obtain ⟨i, hi, rfl, HB⟩ := hrel
        by_cases hlt : i < O.length
        · have hlt' : (i : Int) < O.length := by omega
          obtain ⟨gb, off, rfl, q1, hKC⟩ := strs_all R3.out (by omega)
          have q1z : (O.length : Int) ≤ oc := by omega
          have KC : Hid (∀ u, Below w3.heap.size w3 u → ∀ k, k < O.length → u.cell? ⟨gb, off + k, none⟩ = some (.string (bs (O.getD k [])))) := Lib.hid (fun u hu => hKC u fun g hg _ => hu.block g hg.2)
          clear hKC
          have hh := HO.out _ (getD_in hlt)
          have hx := HZ.out _ hh
          have CDi := Lib.hid (CD.out _ hx)
          have CPi := Lib.hid (CP.out _ hx)
          have CRi := Lib.hid (fun S2 v2 u => CR.out _ S2 v2 u hx)
          have HRZ := Lib.hid (rem_z hh)
          have CIi : Hid (∀ (u : World) (a : Option Addr) (n c : Nat) (L : List Tx), Reads (· < u.heap.size) u (.slice a n c) (strs L) → Calls Try.prog 24 #[.slice a n c, .string (bs (O.getD i []))] u fun e u' => e = .returned (.bool (decide (O.getD i [] ∈ L))) ∧ u' = u) := Lib.hid (fun u a n c L h => refIn_any h _)
          have HDi := Lib.hid (HDD.out (O.getD i []))
          have HPi := HPL.out (O.getD i [])
          have KI : Hid (∀ u, Below w3.heap.size w3 u → u.cell? ⟨gb, off + i, none⟩ = some (.string (bs (O.getD i [])))) := Lib.hid (fun u hu => KC.out u hu i hlt)
          generalize (removeM T (O.getD i [])).2 = z at *
          obtain ⟨Dp, hDp⟩ : ∃ Dp, Dp = dptM T (O.getD i []) := ⟨_, rfl⟩
          rw [← hDp] at CPi HRZ HPi
          clear hDp hh hx
          generalize depsM T (O.getD i []) = Di at *
          generalize O.getD i [] = oi at *
          obtain ⟨X, hX⟩ : ∃ X, X = bs oi := ⟨_, rfl⟩
          rw [← hX] at CDi CPi CRi CIi KI
          clear hX
          have hpz : (Dp.length : Int) ≤ 24 := by omega
          obtain ⟨w8, hw8⟩ : ∃ x, x = wr := ⟨_, rfl⟩
          subst hw8
          go_wp2_with fail
          go_loopw [8] (fun v wr => ∃ k : Nat, k ≤ O.length ∧ v = .int .i64 (k : Int) ∧ Hid (Below w3.heap.size w3 wr)) (fun v _ => O.length - (intOf v).toNat)
          case atStart => exact ⟨0, by omega, rfl, HB⟩
          case round =>
            obtain ⟨k, hk, rfl, HB2⟩ := hrel
            clear HB
            by_cases hl2 : k < O.length
            · have hl2' : (k : Int) < O.length := by omega
              have hy := HZ.out _ (HO.out _ (getD_in hl2))
              have CPk := Lib.hid (CP.out _ hy)
              have CIk : Hid (∀ (u : World) (a : Option Addr) (n c : Nat) (L : List Tx), Reads (· < u.heap.size) u (.slice a n c) (strs L) → Calls Try.prog 24 #[.slice a n c, .string (bs (O.getD k []))] u fun e u' => e = .returned (.bool (decide (O.getD k [] ∈ L))) ∧ u' = u) := Lib.hid (fun u a n c L h => refIn_any h _)
              have HDk := Lib.hid (HDi.out (O.getD k []))
              have KK : Hid (∀ u, Below w3.heap.size w3 u → u.cell? ⟨gb, off + i, none⟩ = some (.string X) ∧ u.cell? ⟨gb, off + k, none⟩ = some (.string (bs (O.getD k [])))) := Lib.hid (fun u hu => ⟨KI.out u hu, KC.out u hu k hl2⟩)
              clear hy
              generalize dptM T (O.getD k []) = Dk at *
              generalize O.getD k [] = ok at *
              generalize bs ok = Y at *
              obtain ⟨Q, hQ⟩ : ∃ Q, Q = decide (ok ∈ Di) := ⟨_, rfl⟩
              have HQ1 : Hid (decide (ok ∈ Di) = Q) := Lib.hid hQ.symm
              have HQ2 : Hid (decide (oi ∈ Dk) = Q) := Lib.hid (HDk.out.symm.trans hQ.symm)
              clear hQ
              go_upto_region 15 with fail
              have hb0 : Below wr.heap.size wr wr.drew := (Below.refl _ _).drew
              have HB0 := Lib.hid (below_of HB2.out hb0)
              have K0 := KK.out _ HB0.out
              clear hb0
              refine wp_region_held_drew (S := fun u : World => u.cell? ⟨gb, off + i, none⟩ = some (.string X) ∧ u.cell? ⟨gb, off + k, none⟩ = some (.string Y)) (by kernel_rfl) K0 (fun hHeld => ?_)
              refine wpAnyH_take (i := 0) (v := ?svv0) rfl (by kernel_rfl) (by kernel_rfl) (by kernel_rfl) (fun _ _ _ h => h) (Or.inl ⟨by rfl, ?shy0⟩) (by assumption) ?srest0
              case shy0 =>
                intro u hSu
                obtain ⟨s0, s1⟩ := hSu
                go_simp
                try with_reducible rfl
              try simp only [Act.put, List.getElem_toArray, List.getElem_cons_succ, List.getElem_cons_zero, List.setIfInBounds_toArray, List.set_cons_zero, List.set_cons_succ]
              refine wpAnyH_take (i := 1) (v := ?svv1) rfl (by kernel_rfl) (by kernel_rfl) (by kernel_rfl) (fun _ _ _ h => h) (Or.inl ⟨by rfl, ?shy1⟩) (by assumption) ?srest1
              case shy1 =>
                intro u hSu
                obtain ⟨s0, s1⟩ := hSu
                go_simp
                try with_reducible rfl
              try simp only [Act.put, List.getElem_toArray, List.getElem_cons_succ, List.getElem_cons_zero, List.setIfInBounds_toArray, List.set_cons_zero, List.set_cons_succ]
              refine wpAnyH_take (i := 2) (v := ?svv2) rfl (by kernel_rfl) (by kernel_rfl) (by kernel_rfl) (fun _ _ _ h => h) (Or.inl ⟨by rfl, ?shy2⟩) (by assumption) ?srest2
              case shy2 =>
                intro u hSu
                obtain ⟨s0, s1⟩ := hSu
                go_simp
                try with_reducible rfl
              try simp only [Act.put, List.getElem_toArray, List.getElem_cons_succ, List.getElem_cons_zero, List.setIfInBounds_toArray, List.set_cons_zero, List.set_cons_succ]
              refine wpAnyH_take (i := 3) (v := ?svv3) rfl (by kernel_rfl) (by kernel_rfl) (by kernel_rfl) (fun _ _ _ h => h) (Or.inl ⟨by rfl, ?shy3⟩) (by assumption) ?srest3
              case shy3 =>
                intro u hSu
                obtain ⟨s0, s1⟩ := hSu
                go_simp
                try with_reducible rfl
              try simp only [Act.put, List.getElem_toArray, List.getElem_cons_succ, List.getElem_cons_zero, List.setIfInBounds_toArray, List.set_cons_zero, List.set_cons_succ]
              refine wpAnyH_take (i := 4) (v := ?svv4) rfl (by kernel_rfl) (by kernel_rfl) (by kernel_rfl) (fun _ _ _ h => h) (Or.inl ⟨by rfl, ?shy4⟩) (by assumption) ?srest4
              case shy4 =>
                intro u hSu
                obtain ⟨s0, s1⟩ := hSu
                go_simp
                try with_reducible rfl
              try simp only [Act.put, List.getElem_toArray, List.getElem_cons_succ, List.getElem_cons_zero, List.setIfInBounds_toArray, List.set_cons_zero, List.set_cons_succ]
              refine wpAnyH_take (i := 6) (v := ?svv6) rfl (by kernel_rfl) (by kernel_rfl) (by kernel_rfl) (fun _ _ _ h => h) (Or.inl ⟨by rfl, ?shy6⟩) (by assumption) ?srest6
              case shy6 =>
                intro u hSu
                obtain ⟨s0, s1⟩ := hSu
                go_simp
                try with_reducible rfl
              try simp only [Act.put, List.getElem_toArray, List.getElem_cons_succ, List.getElem_cons_zero, List.setIfInBounds_toArray, List.set_cons_zero, List.set_cons_succ]
              refine wpAnyH_take (i := 7) (v := ?svv7) rfl (by kernel_rfl) (by kernel_rfl) (by kernel_rfl) (fun _ _ _ h => h) (Or.inl ⟨by rfl, ?shy7⟩) (by assumption) ?srest7
              case shy7 =>
                intro u hSu
                obtain ⟨s0, s1⟩ := hSu
                go_simp
                try with_reducible rfl
              try simp only [Act.put, List.getElem_toArray, List.getElem_cons_succ, List.getElem_cons_zero, List.setIfInBounds_toArray, List.set_cons_zero, List.set_cons_succ]
              refine wpAnyH_take (i := 8) (v := ?svv8) rfl (by kernel_rfl) (by kernel_rfl) (by kernel_rfl) (fun _ _ _ h => h) (Or.inl ⟨by rfl, ?shy8⟩) (by assumption) ?srest8
              case shy8 =>
                intro u hSu
                obtain ⟨s0, s1⟩ := hSu
                go_simp
                try with_reducible rfl
              try simp only [Act.put, List.getElem_toArray, List.getElem_cons_succ, List.getElem_cons_zero, List.setIfInBounds_toArray, List.set_cons_zero, List.set_cons_succ]
              refine wpAnyH_take (i := 9) (v := ?svv9) rfl (by kernel_rfl) (by kernel_rfl) (by kernel_rfl) (fun _ _ _ h => h) (Or.inl ⟨by rfl, ?shy9⟩) (by assumption) ?srest9
              case shy9 =>
                intro u hSu
                obtain ⟨s0, s1⟩ := hSu
                go_simp
                try with_reducible rfl
              try simp only [Act.put, List.getElem_toArray, List.getElem_cons_succ, List.getElem_cons_zero, List.setIfInBounds_toArray, List.set_cons_zero, List.set_cons_succ]
              refine wpAnyH_take (i := 11) (v := ?svv11) rfl (by kernel_rfl) (by kernel_rfl) (by kernel_rfl) (fun _ _ _ h => h) (Or.inl ⟨by rfl, ?shy11⟩) (by assumption) ?srest11
              case shy11 =>
                intro u hSu
                obtain ⟨s0, s1⟩ := hSu
                go_simp
                try with_reducible rfl
              try simp only [Act.put, List.getElem_toArray, List.getElem_cons_succ, List.getElem_cons_zero, List.setIfInBounds_toArray, List.set_cons_zero, List.set_cons_succ]
              refine wpAnyH_take (i := 12) (v := ?svv12) rfl (by kernel_rfl) (by kernel_rfl) (by kernel_rfl) (fun _ _ _ h => h) (Or.inl ⟨by rfl, ?shy12⟩) (by assumption) ?srest12
              case shy12 =>
                intro u hSu
                obtain ⟨s0, s1⟩ := hSu
                go_simp
                try with_reducible rfl
              try simp only [Act.put, List.getElem_toArray, List.getElem_cons_succ, List.getElem_cons_zero, List.setIfInBounds_toArray, List.set_cons_zero, List.set_cons_succ]
              refine wpAnyH_take (i := 13) (v := ?svv13) rfl (by kernel_rfl) (by kernel_rfl) (by kernel_rfl) (fun _ _ _ h => h) (Or.inl ⟨by rfl, ?shy13⟩) (by assumption) ?srest13
              case shy13 =>
                intro u hSu
                obtain ⟨s0, s1⟩ := hSu
                go_simp
                try with_reducible rfl
              try simp only [Act.put, List.getElem_toArray, List.getElem_cons_succ, List.getElem_cons_zero, List.setIfInBounds_toArray, List.set_cons_zero, List.set_cons_succ]
              refine wpAnyH_take (i := 14) (v := ?svv14) rfl (by kernel_rfl) (by kernel_rfl) (by kernel_rfl) (fun _ _ _ h => h) (Or.inl ⟨by rfl, ?shy14⟩) (by assumption) ?srest14
              case shy14 =>
                intro u hSu
                obtain ⟨s0, s1⟩ := hSu
                go_simp
                try with_reducible rfl
              try simp only [Act.put, List.getElem_toArray, List.getElem_cons_succ, List.getElem_cons_zero, List.setIfInBounds_toArray, List.set_cons_zero, List.set_cons_succ]
              refine wpAnyH_take (i := 15) (v := ?svv15) rfl (by kernel_rfl) (by kernel_rfl) (by kernel_rfl) (fun _ _ _ h => h) (Or.inl ⟨by rfl, ?shy15⟩) (by assumption) ?srest15
              case shy15 =>
                intro u hSu
                obtain ⟨s0, s1⟩ := hSu
                go_simp
                try with_reducible rfl
              try simp only [Act.put, List.getElem_toArray, List.getElem_cons_succ, List.getElem_cons_zero, List.setIfInBounds_toArray, List.set_cons_zero, List.set_cons_succ]
              refine wpAnyH_take (i := 17) (v := ?svv17) rfl (by kernel_rfl) (by kernel_rfl) (by kernel_rfl) (fun _ _ _ h => h) (Or.inl ⟨by rfl, ?shy17⟩) (by assumption) ?srest17
              case shy17 =>
                intro u hSu
                obtain ⟨s0, s1⟩ := hSu
                go_simp
                try with_reducible rfl
              try simp only [Act.put, List.getElem_toArray, List.getElem_cons_succ, List.getElem_cons_zero, List.setIfInBounds_toArray, List.set_cons_zero, List.set_cons_succ]
              refine wpAnyH_take (i := 18) (v := ?svv18) rfl (by kernel_rfl) (by kernel_rfl) (by kernel_rfl) (fun _ _ _ h => h) (Or.inl ⟨by rfl, ?shy18⟩) (by assumption) ?srest18
              case shy18 =>
                intro u hSu
                obtain ⟨s0, s1⟩ := hSu
                go_simp
                try with_reducible rfl
              try simp only [Act.put, List.getElem_toArray, List.getElem_cons_succ, List.getElem_cons_zero, List.setIfInBounds_toArray, List.set_cons_zero, List.set_cons_succ]
              refine wpAnyH_take (i := 19) (v := ?svv19) rfl (by kernel_rfl) (by kernel_rfl) (by kernel_rfl) (fun _ _ _ h => h) (Or.inl ⟨by rfl, ?shy19⟩) (by assumption) ?srest19
              case shy19 =>
                intro u hSu
                obtain ⟨s0, s1⟩ := hSu
                go_simp
                try with_reducible rfl
              try simp only [Act.put, List.getElem_toArray, List.getElem_cons_succ, List.getElem_cons_zero, List.setIfInBounds_toArray, List.set_cons_zero, List.set_cons_succ]
              refine wpAnyH_take (i := 20) (v := ?svv20) rfl (by kernel_rfl) (by kernel_rfl) (by kernel_rfl) (fun _ _ _ h => h) (Or.inl ⟨by rfl, ?shy20⟩) (by assumption) ?srest20
              case shy20 =>
                intro u hSu
                obtain ⟨s0, s1⟩ := hSu
                go_simp
                try with_reducible rfl
              try simp only [Act.put, List.getElem_toArray, List.getElem_cons_succ, List.getElem_cons_zero, List.setIfInBounds_toArray, List.set_cons_zero, List.set_cons_succ]
              refine wpAnyH_ready (rs := [5]) (by kernel_rfl) (by simp) ?_
              refine AllReadyH.cons rfl (fun K hK => ?_) AllReadyH.nil
              (go_simp; go_at_call 18; (with_reducible refine (CDi.out _ (below_of B3.out HB0.out)).mono ?_); rintro e w5 ⟨da, dc, rfl, hR5, hB5⟩; have R5 := Lib.hid (hR5.mono fun g hg => hg.2); have HB5 := Lib.hid (below_of HB0.out hB5); have K5 := KK.out _ HB5.out; clear hR5 hB5)
              refine hK.out _ _ ?shS5 (fun hHeld => ?srest5)
              case shS5 => first | exact K6 | exact K5 | exact K0
              clear hK K
              try simp only [Act.put, List.getElem_toArray, List.getElem_cons_succ, List.getElem_cons_zero, List.setIfInBounds_toArray, List.set_cons_zero, List.set_cons_succ]
              refine wpAnyH_ready (rs := [10]) (by kernel_rfl) (by simp) ?_
              refine AllReadyH.cons rfl (fun K hK => ?_) AllReadyH.nil
              (go_simp; go_at_call 24; (with_reducible refine (CIk.out _ _ _ _ _ R5.out).mono ?_); rintro e w5b ⟨rfl, hw5⟩; subst hw5; rw [HQ1.out])
              refine hK.out _ _ ?shS10 (fun hHeld => ?srest10)
              case shS10 => first | exact K6 | exact K5 | exact K0
              clear hK K
              try simp only [Act.put, List.getElem_toArray, List.getElem_cons_succ, List.getElem_cons_zero, List.setIfInBounds_toArray, List.set_cons_zero, List.set_cons_succ]
              refine wpAnyH_ready (rs := [16]) (by kernel_rfl) (by simp) ?_
              refine AllReadyH.cons rfl (fun K hK => ?_) AllReadyH.nil
              (go_simp; go_at_call 19; (with_reducible refine (CPk.out _ (below_of B3.out HB5.out)).mono ?_); rintro e w6 ⟨ea, ec, rfl, hR6, hB6⟩; have R6 := Lib.hid (hR6.mono fun g hg => hg.2); have HB6 := Lib.hid (below_of HB5.out hB6); have K6 := KK.out _ HB6.out; clear hR6 hB6)
              refine hK.out _ _ ?shS16 (fun hHeld => ?srest16)
              case shS16 => first | exact K6 | exact K5 | exact K0
              clear hK K
              try simp only [Act.put, List.getElem_toArray, List.getElem_cons_succ, List.getElem_cons_zero, List.setIfInBounds_toArray, List.set_cons_zero, List.set_cons_succ]
              refine wpAnyH_ready (rs := [21]) (by kernel_rfl) (by simp) ?_
              refine AllReadyH.cons rfl (fun K hK => ?_) AllReadyH.nil
              (go_simp; go_at_call 24; (with_reducible refine (CIi.out _ _ _ _ _ R6.out).mono ?_); rintro e w6b ⟨rfl, hw6⟩; subst hw6; rw [HQ2.out])
              refine hK.out _ _ ?shS21 (fun hHeld => ?srest21)
              case shS21 => first | exact K6 | exact K5 | exact K0
              clear hK K
              try simp only [Act.put, List.getElem_toArray, List.getElem_cons_succ, List.getElem_cons_zero, List.setIfInBounds_toArray, List.set_cons_zero, List.set_cons_succ]
              refine wpAnyH_take (i := 22) (v := ?svv22) rfl (by kernel_rfl) (by kernel_rfl) (by kernel_rfl) (fun _ _ _ h => h) (Or.inl ⟨by rfl, ?shy22⟩) (by assumption) ?srest22
              case shy22 =>
                intro u hSu
                obtain ⟨s0, s1⟩ := hSu
                go_simp
                try with_reducible rfl
              try simp only [Act.put, List.getElem_toArray, List.getElem_cons_succ, List.getElem_cons_zero, List.setIfInBounds_toArray, List.set_cons_zero, List.set_cons_succ]
              refine wpAnyH_done (by kernel_rfl) ?_ _
              clear K0 K5 K6 R5 R6
              have hqq : decide (Q ≠ Q) = false := by simp
              go_wp2_with fail
              go_roundw
              case rel => exact ⟨k + 1, by omega, by go_num, HB6⟩
              case measure => simp [intOf]; omega
            · obtain rfl : k = O.length := by omega
              clear HDi CIi CDi KC
              go_upto_region 17 with fail
              have hb0 : Below wr.heap.size wr wr.drew := (Below.refl _ _).drew
              have HB0 := Lib.hid (below_of HB2.out hb0)
              have K0 := KI.out _ HB0.out
              clear hb0
              refine wp_region_held_drew (S := fun u : World => u.cell? ⟨gb, off + i, none⟩ = some (.string X)) (by kernel_rfl) K0 (fun hHeld => ?_)
              refine wpAnyH_take (i := 0) (v := ?qvv0) rfl (by kernel_rfl) (by kernel_rfl) (by kernel_rfl) (fun _ _ _ h => h) (Or.inl ⟨by rfl, ?qhy0⟩) (by assumption) ?qrest0
              case qhy0 =>
                intro u hSu
                have s0 := hSu
                go_simp
                try with_reducible rfl
              try simp only [Act.put, List.getElem_toArray, List.getElem_cons_succ, List.getElem_cons_zero, List.setIfInBounds_toArray, List.set_cons_zero, List.set_cons_succ]
              refine wpAnyH_take (i := 2) (v := ?qvv2) rfl (by kernel_rfl) (by kernel_rfl) (by kernel_rfl) (fun _ _ _ h => h) (Or.inl ⟨by rfl, ?qhy2⟩) (by assumption) ?qrest2
              case qhy2 =>
                intro u hSu
                have s0 := hSu
                go_simp
                try with_reducible rfl
              try simp only [Act.put, List.getElem_toArray, List.getElem_cons_succ, List.getElem_cons_zero, List.setIfInBounds_toArray, List.set_cons_zero, List.set_cons_succ]
              refine wpAnyH_take (i := 3) (v := ?qvv3) rfl (by kernel_rfl) (by kernel_rfl) (by kernel_rfl) (fun _ _ _ h => h) (Or.inl ⟨by rfl, ?qhy3⟩) (by assumption) ?qrest3
              case qhy3 =>
                intro u hSu
                have s0 := hSu
                go_simp
                try with_reducible rfl
              try simp only [Act.put, List.getElem_toArray, List.getElem_cons_succ, List.getElem_cons_zero, List.setIfInBounds_toArray, List.set_cons_zero, List.set_cons_succ]
              refine wpAnyH_take (i := 4) (v := ?qvv4) rfl (by kernel_rfl) (by kernel_rfl) (by kernel_rfl) (fun _ _ _ h => h) (Or.inl ⟨by rfl, ?qhy4⟩) (by assumption) ?qrest4
              case qhy4 =>
                intro u hSu
                have s0 := hSu
                go_simp
                try with_reducible rfl
              try simp only [Act.put, List.getElem_toArray, List.getElem_cons_succ, List.getElem_cons_zero, List.setIfInBounds_toArray, List.set_cons_zero, List.set_cons_succ]
              refine wpAnyH_take (i := 5) (v := ?qvv5) rfl (by kernel_rfl) (by kernel_rfl) (by kernel_rfl) (fun _ _ _ h => h) (Or.inl ⟨by rfl, ?qhy5⟩) (by assumption) ?qrest5
              case qhy5 =>
                intro u hSu
                have s0 := hSu
                go_simp
                try with_reducible rfl
              try simp only [Act.put, List.getElem_toArray, List.getElem_cons_succ, List.getElem_cons_zero, List.setIfInBounds_toArray, List.set_cons_zero, List.set_cons_succ]
              refine wpAnyH_ready (rs := [1]) (by kernel_rfl) (by simp) ?_
              refine AllReadyH.cons rfl (fun K hK => ?_) AllReadyH.nil
              (go_simp; go_at_call 13; (with_reducible refine (FK.out _ (below_of B3.out HB0.out)).mono ?_); rintro e w5 ⟨v2, S2, rfl, hP5, hS5, hB5⟩; have P5 := Lib.hid hP5; have S5 := Lib.hid hS5; have HB5 := Lib.hid (below_of HB0.out hB5); have K5 := KI.out _ HB5.out; obtain ⟨vb, rfl⟩ := hP5.form; clear hP5 hS5 hB5)
              refine hK.out _ _ ?qhS1 (fun hHeld => ?qrest1)
              case qhS1 => first | exact K6 | exact K5 | exact K0
              clear hK K
              try simp only [Act.put, List.getElem_toArray, List.getElem_cons_succ, List.getElem_cons_zero, List.setIfInBounds_toArray, List.set_cons_zero, List.set_cons_succ]
              refine wpAnyH_ready (rs := [6]) (by kernel_rfl) (by simp) ?_
              refine AllReadyH.cons rfl (fun K hK => ?_) AllReadyH.nil
              (go_simp; go_at_call 15; (with_reducible refine (CRi.out _ _ _ P5.out).mono ?_); rintro e w6 ⟨rfl, hF6⟩; have HB6 := Lib.hid (Below.fr HB5.out hF6 HB5.out.size fun g hg => Nat.le_trans HB0.out.size (S5.out g hg)); have K6 := KI.out _ HB6.out; clear hF6)
              refine hK.out _ _ ?qhS6 (fun hHeld => ?qrest6)
              case qhS6 => first | exact K6 | exact K5 | exact K0
              clear hK K
              try simp only [Act.put, List.getElem_toArray, List.getElem_cons_succ, List.getElem_cons_zero, List.setIfInBounds_toArray, List.set_cons_zero, List.set_cons_succ]
              refine wpAnyH_take (i := 7) (v := ?qvv7) rfl (by kernel_rfl) (by kernel_rfl) (by kernel_rfl) (fun _ _ _ h => h) (Or.inl ⟨by rfl, ?qhy7⟩) (by assumption) ?qrest7
              case qhy7 =>
                intro u hSu
                have s0 := hSu
                go_simp
                try with_reducible rfl
              try simp only [Act.put, List.getElem_toArray, List.getElem_cons_succ, List.getElem_cons_zero, List.setIfInBounds_toArray, List.set_cons_zero, List.set_cons_succ]
              refine wpAnyH_done (by kernel_rfl) ?_ _
              have B36 := Lib.hid HB6.out
              have B76 := Lib.hid (below_of B3.out HB6.out)
              have c6 := K6
              clear K0 K5 K6 P5 S5
              rcases HRZ.out with ⟨rfl, hz⟩ | ⟨rfl, hz⟩
              · have hzz : (Dp.length : Int) = 0 := by omega
                go_wp2_with (go_at_call 19; (with_reducible refine (CPi.out _ B76.out).mono ?_); rintro e w9 ⟨pa, pc, rfl, hR9, hB9⟩; have B9 := Lib.hid (below_of B36.out hB9); clear hR9 hB9)
                go_roundw
                case rel => exact ⟨i + 1, by omega, by go_num, B9⟩
                case measure => simp [intOf]; omega
              · have hzz : ¬ (Dp.length : Int) = 0 := by omega
                go_wp2_with (go_at_call 19; (with_reducible refine (CPi.out _ B76.out).mono ?_); rintro e w9 ⟨pa, pc, rfl, hR9, hB9⟩; have B9 := Lib.hid (below_of B36.out hB9); clear hR9 hB9)
                go_roundw
                case rel => exact ⟨i + 1, by omega, by go_num, B9⟩
                case measure => simp [intOf]; omega
        · obtain rfl : i = O.length := by omega
          have BA := Lib.hid (below_of (JB.out.trans (B3.out.mono JB.out.size)) HB.out)
          go_wp2_with (go_at_call 9; (with_reducible refine (AW.out _).mono ?_); rintro e w9 ⟨rfl, hb9⟩)
          go_ret
          exact ⟨rfl, below_of BA.out hb9⟩
end
end Go.Proofs.Ytijcojidfallkaa.WK
