/-
  The walk of GraphTurns, over what the program's functions tell. Nothing here is a statement of the seed.
-/
import Derived.Test.YtijcojidfallkaaGraphRun
import Derived.Test.YtijcojidfallkaaGraphSet
set_option linter.unusedSimpArgs false
set_option linter.unusedVariables false
namespace Go.Proofs.Ytijcojidfallkaa.WK
open Go.RowKit WM NR OM OR GM GR GF GP GL MV
set_option maxHeartbeats 4000000
set_option maxRecDepth 10000
/-- is one of them the node, or does it reach it -/
def rndM (g : List Nd) (m : Tx) (l : List Tx) : Bool := decide (∃ d ∈ l, d = m ∨ reachesM g d m = true)
/-- is the node none, or one of them -/
def nonM (g : List Nd) (m : Tx) (l : List Tx) : Bool := !hasM g m || !allM g l
theorem take_app {xs : List Tx} {k : Nat} (h : k < xs.length) : xs.take (k + 1) = xs.take k ++ [xs.getD k []] := by
  rw [List.take_add_one, List.getElem?_eq_getElem h, List.getD_eq_getElem?_getD, List.getElem?_eq_getElem h]
  rfl
theorem rndM_take (g : List Nd) (m : Tx) (xs : List Tx) {k : Nat} (h : k < xs.length) : rndM g m (xs.take (k + 1)) = (rndM g m (xs.take k) || (decide (xs.getD k [] = m) || reachesM g (xs.getD k []) m)) := by
  rw [take_app h]
  unfold rndM
  rw [Bool.eq_iff_iff, decide_eq_true_eq, Bool.or_eq_true, Bool.or_eq_true, decide_eq_true_eq, decide_eq_true_eq]
  constructor
  · rintro ⟨d, hd, e⟩
    rcases List.mem_append.1 hd with hd | hd
    · exact Or.inl ⟨d, hd, e⟩
    · rw [List.mem_singleton] at hd
      rw [hd] at e
      exact Or.inr e
  · rintro (⟨d, hd, e⟩ | e)
    · exact ⟨d, List.mem_append_left _ hd, e⟩
    · exact ⟨_, List.mem_append_right _ (List.mem_singleton.2 rfl), e⟩
theorem nonM_take (g : List Nd) (m : Tx) (xs : List Tx) {k : Nat} (h : k < xs.length) : nonM g m (xs.take (k + 1)) = (nonM g m (xs.take k) || !hasM g (xs.getD k [])) := by
  rw [take_app h]
  unfold nonM allM
  rw [List.all_append]
  generalize xs.getD k [] = d
  cases hasM g m <;> cases (xs.take k).all (fun x => hasM g x) <;> cases hh : hasM g d <;> simp [hh]
theorem turn_non {g : List Nd} {m : Tx} {l : List Tx} (h : nonM g m l = true) : turnM g m l = (g, 8) := by
  unfold turnM
  rw [if_pos]
  unfold nonM at h
  rcases Bool.or_eq_true _ _ ▸ h with h | h
  · exact Or.inl (by simpa using h)
  · exact Or.inr (by simpa using h)
theorem non_no {g : List Nd} {m : Tx} {l : List Tx} (h : nonM g m l = false) : hasM g m = true ∧ allM g l = true := by
  unfold nonM at h
  cases h1 : hasM g m <;> cases h2 : allM g l <;> simp_all
theorem turn_rnd {g : List Nd} {m : Tx} {l : List Tx} (h : nonM g m l = false) (hr : rndM g m l = true) : turnM g m l = (g, 24) := by
  obtain ⟨h1, h2⟩ := non_no h
  unfold turnM
  rw [if_neg (by rw [h1, h2]; simp), if_pos]
  unfold rndM at hr
  exact of_decide_eq_true hr
theorem turn_ok {g : List Nd} (hg : GM.Good g) {m : Tx} {l : List Tx} (h : nonM g m l = false) (hr : rndM g m l = false) : (turnM g m l).2 = 0 ∧ depsM (turnM g m l).1 m = setM l := by
  obtain ⟨h1, h2⟩ := non_no h
  unfold rndM at hr
  unfold turnM
  rw [if_neg (by rw [h1, h2]; simp), if_neg (of_decide_eq_false hr)]
  exact ⟨rfl, by rw [deps_with (rise_out hg.srt m) turn_no, if_pos rfl]⟩
theorem bool_of {b : Bool} (h : b = true) : Value.bool b = .bool true := by rw [h]
section
variable {w : World} {a : Option Addr} {n c : Nat} {l : List Ac}
theorem GraphTurns_walk (h : ReadsA (· < w.heap.size) w (.slice a n c) l) (hs : ∀ x ∈ l, x.nm.length ≤ 140737488351232 ∧ ∀ s ∈ x.ns, s.length ≤ 140737488351232) (x : Ac) (hx : AcOk (· < w.heap.size) w x) (hxn : x.nm.length ≤ 140737488351232) (hxs : ∀ s ∈ x.ns, s.length ≤ 140737488351232) :
    Calls Try.prog 6 #[.slice a n c, acV x] w fun e w' => e = .returned (.bool true) ∧ Below w.heap.size w w' := by
  obtain ⟨xk6, xn6, na6, nn6, nc6, ns6⟩ := x
  simp only at hxn hxs
  show Calls _ _ #[_, .agg #[.int .u8 xk6, .string (bs xn6), .slice na6 nn6 nc6]] _ _
  obtain ⟨n1, m1, m2⟩ := h.len
  unfold maxLen at m2
  have hn : (n : Int) ≤ 9223372036854775807 := by omega
  have AW := Lib.hid awake_any
  obtain ⟨v1, v2, v3⟩ := hx.len
  simp only at v1 v2 v3
  unfold maxLen at v3
  have hb0 := below_new w (.cells #[.int .u8 xk6, .string (bs xn6), .slice na6 nn6 nc6] 34)
  have hkx := Whole.new w 34 #[.int .u8 xk6, .string (bs xn6), .slice na6 nn6 nc6]
  have h := h.go hb0 hb0.size
  have hx := (hx.go hb0 hb0.size).ns
  simp only at hx
  obtain ⟨y6, hy6⟩ : ∃ y6, y6 = bs xn6 := ⟨_, rfl⟩
  rw [← hy6] at h hb0 hkx hx ⊢
  have HY := Lib.hid hy6
  clear hy6
  go_enter Try.func6, Try.ntmps6
  go_upto_region 1 with fail
  have HB00 := Lib.hid hb0
  clear hb0
  generalize w.alloc (.cells #[.int .u8 xk6, .string y6, .slice na6 nn6 nc6] 34) = V0 at *
  obtain ⟨pb, hpb⟩ : ∃ pb, pb = w.heap.size := ⟨_, rfl⟩
  rw [← hpb] at hkx ⊢
  clear hpb
  have KX : Hid (∀ u, Below V0.heap.size V0 u → u.cell? ⟨pb, 1, none⟩ = some (.string y6) ∧ u.cell? ⟨pb, 2, none⟩ = some (.slice na6 nn6 nc6)) := Lib.hid (fun u hu => ⟨(hkx.belowS hu).cell 1, (hkx.belowS hu).cell 2⟩)
  have CF := Lib.hid (few_any h)
  have nnz : (nn6 : Int) ≤ nc6 := by omega
  have nnc : (nc6 : Int) ≤ 9223372036854775807 := by omega
  clear hkx
  by_cases hf : fewB l = false ∨ ¬ nn6 ≤ 40
  · have hh : fewB l = false ∨ (fewB l = true ∧ (40 : Int) < nn6) := by
      cases hq : fewB l with
      | false => exact Or.inl rfl
      | true => exact Or.inr ⟨rfl, by rcases hf with h | h; (rw [hq] at h; cases h); omega⟩
    clear hf h hs hx hxs hxn n1 m1 m2 v1 v2 v3
    rcases hh with hh | ⟨hh, h40⟩
    · rw [hh] at CF
      go_wp2_with (first | (go_at_call 8; (with_reducible refine CF.out.mono ?_); rintro e w1 ⟨rfl, hb1⟩) | (go_at_call 9; (with_reducible refine (AW.out _).mono ?_); rintro e w2 ⟨rfl, hb2⟩))
      go_ret
      exact ⟨rfl, below_of HB00.out (below_of hb1 hb2)⟩
    · rw [hh] at CF
      go_wp2_with (first | (go_at_call 8; (with_reducible refine CF.out.mono ?_); rintro e w1 ⟨rfl, hb1⟩; obtain ⟨x1, x2⟩ := KX.out _ hb1) | (go_at_call 9; (with_reducible refine (AW.out _).mono ?_); rintro e w2 ⟨rfl, hb2⟩))
      go_ret
      exact ⟨rfl, below_of HB00.out (below_of hb1 hb2)⟩
  have hf40 : nn6 ≤ 40 := by
    by_cases h40 : nn6 ≤ 40
    · exact h40
    · exact absurd (Or.inr h40) hf
  have hf : fewB l = true := by
    cases hq : fewB l with
    | true => rfl
    | false => exact absurd (Or.inl hq) hf
  rw [hf] at CF
  have h40 : ¬ (40 : Int) < nn6 := by omega
  have HS3 : Hid (∀ k, k < n → (l.getD k ac0).ns.length ≤ 1000) := Lib.hid (fun k hk => Nat.le_trans (few_len h hf k hk) (by omega))
  have h24 : n ≤ 24 := by
    unfold fewB at hf
    rw [Bool.and_eq_true] at hf
    have := of_decide_eq_true hf.1
    omega
  have HA := Lib.hid h
  have HS : Hid (∀ k, k < n → (l.getD k ac0).nm.length ≤ 140737488351232 ∧ ∀ s ∈ (l.getD k ac0).ns, s.length ≤ 140737488351232) := Lib.hid (fun k hk => hs _ (by rw [List.getD_eq_getElem?_getD, List.getElem?_eq_getElem (by omega)]; exact List.getElem_mem _))
  have HL := Lib.hid n1
  have HX := Lib.hid hx
  have HXN := Lib.hid hxn
  have HXS := Lib.hid hxs
  have HXL := Lib.hid v1
  have q2 : (n : Int) ≤ c := by omega
  clear h hs n1 m2 hf hx hxn hxs v1 v3
  go_upto_region 3 with (go_at_call 8; (with_reducible refine CF.out.mono ?_); rintro e w1 ⟨rfl, hb1⟩; obtain ⟨x1, x2⟩ := KX.out _ hb1; have B1 := Lib.hid hb1; clear hb1)
  clear x1 x2
  go_upto_region 4 with (go_at_call 10; (with_reducible refine (new_any _).mono ?_); rintro e w2 ⟨v, S, rfl, hP, hS, hb2⟩; have P2 := Lib.hid hP; have S2 := Lib.hid (fun b hb => Nat.le_trans B1.out.size (hS b hb)); have B2 := Lib.hid (B1.out.trans (hb2.mono B1.out.size)); clear hP hS hb2)
  have J0 : Hid (PJ V0 w2.heap.size (fun _ => False) S (w2.alloc (.cells #[.slice none 0 0] 29)) v none 0 0 []) := Lib.hid (PJ.zero P2.out S2.out B2.out)
  obtain ⟨va, rfl⟩ := P2.out.form
  clear P2 S2 B2 B1 CF
  generalize w2.alloc (.cells #[.slice none 0 0] 29) = W3 at *
  generalize w2.heap.size = p at *
  go_wp2_with fail
  go_loopw [7] (fun i wr => ∃ k : Nat, k ≤ n ∧ i = .int .i64 (k : Int) ∧ ∃ G S la ln lc, Hid (PJ V0 p G S wr (.pointer (some va)) la ln lc (runM [] (l.take k)))) (fun i _ => n - (intOf i).toNat)
  case atStart => exact ⟨0, by omega, rfl, _, _, _, _, _, J0⟩
  case round =>
    obtain ⟨k, hk, rfl, G, S, la, ln, lc, J⟩ := hrel
    clear J0
    by_cases hlt : k < n
    · have hlt' : (k : Int) < n := by omega
      have hbd := run_bd l k (by rw [HL.out]; exact h24)
      have hgd := run_good (l.take k) _ good_nil
      obtain ⟨g, off, rfl, q1, hat, hok⟩ := HA.out.at J.out.B hlt
      have hb0 : Below wr.heap.size wr wr.drew := (Below.refl _ _).drew
      have J1 := Lib.hid (J.out.belowS hb0)
      have KA : Hid (∀ u, Below V0.heap.size V0 u → AcAt u g (off + k * 3) (l.getD k ac0) ∧ AcOk (· < V0.heap.size) u (l.getD k ac0)) := Lib.hid (fun u hu => by
        obtain ⟨g', off', e, _, e1, e2⟩ := HA.out.at hu hlt
        simp only [Option.some.injEq, Addr.mk.injEq, and_true] at e
        obtain ⟨rfl, rfl⟩ := e
        exact ⟨e1, e2⟩)
      have CD := Lib.hid (J1.out.do_ hgd (by omega) (l.getD k ac0) (KA.out _ J1.out.B).2 (HS.out k hlt).1 (HS.out k hlt).2 (HS3.out k hlt))
      have hrt := runM_take [] l k (by rw [HL.out]; exact hlt)
      rw [← hrt] at CD
      have KB : Hid (∀ u, Below V0.heap.size V0 u → AcAt u g (off + k * 3) (l.getD k ac0)) := Lib.hid (fun u hu => (KA.out u hu).1)
      clear hbd hgd hat hok hrt KA
      obtain ⟨T9, hT⟩ : ∃ T9, T9 = runM [] (l.take (k + 1)) := ⟨_, rfl⟩
      rw [← hT] at CD
      have HT := Lib.hid hT
      clear hT
      obtain ⟨X, hX⟩ : ∃ X, X = l.getD k ac0 := ⟨_, rfl⟩
      rw [← hX] at CD KB
      clear hX
      obtain ⟨xk, xn, na, nn, nc, ns⟩ := X
      change Hid (Calls _ _ #[_, _, .agg #[.int .u8 xk, .string (bs xn), .slice na nn nc]] _ _) at CD
      have KB : Hid (∀ u : World, Below V0.heap.size V0 u → u.cell? ⟨g, off + k * 3, none⟩ = some (.int .u8 xk) ∧ u.cell? ⟨g, off + k * 3 + 1, none⟩ = some (.string (bs xn)) ∧ u.cell? ⟨g, off + k * 3 + 2, none⟩ = some (.slice na nn nc)) := KB
      generalize bs xn = y at *
      have K0 := KB.out _ J1.out.B
      have z0 := J1.out.Z.cell 0
      have z6 := J1.out.Z.lt
      go_upto_region 7 with fail
      refine wp_region_held_drew (S := fun u => u.cell? ⟨g, off + k * 3, none⟩ = some (.int .u8 xk) ∧ u.cell? ⟨g, off + k * 3 + 1, none⟩ = some (.string y) ∧ u.cell? ⟨g, off + k * 3 + 2, none⟩ = some (.slice na nn nc)) (by kernel_rfl) K0 (fun hHeld => ?_)
      refine wpAnyH_take (i := 0) (v := ?aavv0) rfl (by kernel_rfl) (by kernel_rfl) (by kernel_rfl) (fun _ _ _ h => h) (Or.inl ⟨by rfl, ?aahy0⟩) (by assumption) ?aarest0
      case aahy0 =>
        intro u hSu
        obtain ⟨s0, s1, s2⟩ := hSu
        go_simp
        try with_reducible rfl
      try simp only [Act.put, List.getElem_toArray, List.getElem_cons_succ, List.getElem_cons_zero, List.setIfInBounds_toArray, List.set_cons_zero, List.set_cons_succ]
      refine wpAnyH_take (i := 2) (v := ?aavv2) rfl (by kernel_rfl) (by kernel_rfl) (by kernel_rfl) (fun _ _ _ h => h) (Or.inl ⟨by rfl, ?aahy2⟩) (by assumption) ?aarest2
      case aahy2 =>
        intro u hSu
        obtain ⟨s0, s1, s2⟩ := hSu
        go_simp
        try with_reducible rfl
      try simp only [Act.put, List.getElem_toArray, List.getElem_cons_succ, List.getElem_cons_zero, List.setIfInBounds_toArray, List.set_cons_zero, List.set_cons_succ]
      refine wpAnyH_take (i := 3) (v := ?aavv3) rfl (by kernel_rfl) (by kernel_rfl) (by kernel_rfl) (fun _ _ _ h => h) (Or.inl ⟨by rfl, ?aahy3⟩) (by assumption) ?aarest3
      case aahy3 =>
        intro u hSu
        obtain ⟨s0, s1, s2⟩ := hSu
        go_simp
        try with_reducible rfl
      try simp only [Act.put, List.getElem_toArray, List.getElem_cons_succ, List.getElem_cons_zero, List.setIfInBounds_toArray, List.set_cons_zero, List.set_cons_succ]
      refine wpAnyH_take (i := 4) (v := ?aavv4) rfl (by kernel_rfl) (by kernel_rfl) (by kernel_rfl) (fun _ _ _ h => h) (Or.inl ⟨by rfl, ?aahy4⟩) (by assumption) ?aarest4
      case aahy4 =>
        intro u hSu
        obtain ⟨s0, s1, s2⟩ := hSu
        go_simp
        try with_reducible rfl
      try simp only [Act.put, List.getElem_toArray, List.getElem_cons_succ, List.getElem_cons_zero, List.setIfInBounds_toArray, List.set_cons_zero, List.set_cons_succ]
      refine wpAnyH_take (i := 5) (v := ?aavv5) rfl (by kernel_rfl) (by kernel_rfl) (by kernel_rfl) (fun _ _ _ h => h) (Or.inl ⟨by rfl, ?aahy5⟩) (by assumption) ?aarest5
      case aahy5 =>
        intro u hSu
        obtain ⟨s0, s1, s2⟩ := hSu
        go_simp
        try with_reducible rfl
      try simp only [Act.put, List.getElem_toArray, List.getElem_cons_succ, List.getElem_cons_zero, List.setIfInBounds_toArray, List.set_cons_zero, List.set_cons_succ]
      refine wpAnyH_ready (rs := [1]) (by kernel_rfl) (by simp) ?_
      refine AllReadyH.cons rfl (fun K hK => ?_) AllReadyH.nil
      go_simp
      refine hK.out _ _ K0 (fun hHeld => ?_)
      clear hK K
      try simp only [Act.put, List.getElem_toArray, List.getElem_cons_succ, List.getElem_cons_zero, List.setIfInBounds_toArray, List.set_cons_zero, List.set_cons_succ]
      refine wpAnyH_ready (rs := [6]) (by kernel_rfl) (by simp) ?_
      refine AllReadyH.cons rfl (fun K hK => ?_) AllReadyH.nil
      (go_simp; go_at_call 11; (with_reducible refine (CD.out).mono ?_); rintro e w5 ⟨la', ln', lc', G', S', rfl, hB5, zz, J5⟩; have K5 := KB.out _ hB5; have K6 := KB.out _ J5.B; have J6 := Lib.hid J5; have y0 := zz.cell 0; have y6 := zz.lt; have yf0 := zz.frozen 0; clear hB5 J5 zz)
      refine hK.out _ _ ?abhS6 (fun hHeld => ?abrest6)
      case abhS6 => first | exact K6 | exact K5 | exact K0
      clear hK K
      try simp only [Act.put, List.getElem_toArray, List.getElem_cons_succ, List.getElem_cons_zero, List.setIfInBounds_toArray, List.set_cons_zero, List.set_cons_succ]
      refine wpAnyH_take (i := 7) (v := ?abvv7) rfl (by kernel_rfl) (by kernel_rfl) (by kernel_rfl) (fun _ _ _ h => h) (Or.inl ⟨by rfl, ?abhy7⟩) (by assumption) ?abrest7
      case abhy7 =>
        intro u hSu
        obtain ⟨s0, s1, s2⟩ := hSu
        go_simp
        try with_reducible rfl
      try simp only [Act.put, List.getElem_toArray, List.getElem_cons_succ, List.getElem_cons_zero, List.setIfInBounds_toArray, List.set_cons_zero, List.set_cons_succ]
      refine wpAnyH_take (i := 8) (v := ?abvv8) rfl (by kernel_rfl) (by kernel_rfl) (by kernel_rfl) (fun _ _ _ h => h) (Or.inl ⟨by rfl, ?abhy8⟩) (by assumption) ?abrest8
      case abhy8 =>
        intro u hSu
        obtain ⟨s0, s1, s2⟩ := hSu
        go_simp
        try with_reducible rfl
      try simp only [Act.put, List.getElem_toArray, List.getElem_cons_succ, List.getElem_cons_zero, List.setIfInBounds_toArray, List.set_cons_zero, List.set_cons_succ]
      refine wpAnyH_take (i := 9) (v := ?abvv9) rfl (by kernel_rfl) (by kernel_rfl) (by kernel_rfl) (fun _ _ _ h => h) (Or.inl ⟨by rfl, ?abhy9⟩) (by assumption) ?abrest9
      case abhy9 =>
        intro u hSu
        obtain ⟨s0, s1, s2⟩ := hSu
        go_simp
        try with_reducible rfl
      try simp only [Act.put, List.getElem_toArray, List.getElem_cons_succ, List.getElem_cons_zero, List.setIfInBounds_toArray, List.set_cons_zero, List.set_cons_succ]
      refine wpAnyH_ready (rs := [10]) (by kernel_rfl) (by simp) ?_
      refine AllReadyH.cons rfl (fun K hK => ?_) AllReadyH.nil
      go_simp
      refine hK.out _ _ ?abhS10 (fun hHeld => ?abrest10)
      case abhS10 => first | exact K6 | exact K5 | exact K0
      clear hK K
      try simp only [Act.put, List.getElem_toArray, List.getElem_cons_succ, List.getElem_cons_zero, List.setIfInBounds_toArray, List.set_cons_zero, List.set_cons_succ]
      refine wpAnyH_done (by kernel_rfl) ?_ _
      rw [HT.out] at J6
      clear K0 K5 K6 y0 y6 yf0 z0 z6 J1 CD HT KB
      clear J
      go_wp2_with fail
      go_roundw
      case rel => exact ⟨k + 1, by omega, by go_num, _, _, _, _, _, J6⟩
      case measure => simp [intOf]; omega
    · obtain rfl : k = n := by omega
      have hgd := run_good l _ good_nil
      have hbd := run_bd l k (by rw [HL.out]; exact h24)
      rw [List.take_of_length_le (by rw [HL.out]; omega)] at hbd J
      obtain ⟨T, hT⟩ : ∃ T, T = runM [] l := ⟨_, rfl⟩
      rw [← hT] at hbd J hgd
      clear hT
      obtain ⟨n, hnk⟩ : ∃ n', n' = k := ⟨_, rfl⟩
      subst hnk
      clear HA HS HS3
      have JB := Lib.hid J.out.B
      have CH : Hid (∀ x : Tx, x.length ≤ 140737488351232 → ∀ u, Below wr.heap.size wr u → Calls Try.prog 17 #[.pointer (some va), .string (bs x)] u fun e u' => e = .returned (.bool (hasM T x)) ∧ Below u.heap.size u u') := Lib.hid (fun x hx u hb => has_any (J.out.belowS hb).pt hgd (by omega) x (by omega))
      have CRr : Hid (∀ x : Tx, x.length ≤ 140737488351232 → ∀ u, Below wr.heap.size wr u → Calls Try.prog 20 #[.pointer (some va), .string (bs x), .string y6] u fun e u' => e = .returned (.bool (reachesM T x xn6)) ∧ Below u.heap.size u u') := Lib.hid (fun x hx u hb => by rw [HY.out]; exact reaches_any (J.out.belowS hb).pt hgd (by omega) x xn6 (by omega) (by have := HXN.out; omega))
      have CHn : Hid (∀ u, Below wr.heap.size wr u → Calls Try.prog 17 #[.pointer (some va), .string y6] u fun e u' => e = .returned (.bool (hasM T xn6)) ∧ Below u.heap.size u u') := Lib.hid (fun u hb => by rw [HY.out]; exact CH.out xn6 HXN.out u hb)
      obtain ⟨x1, x2⟩ := KX.out _ JB.out
      go_upto_region 9 with (go_at_call 17; (with_reducible refine (CHn.out _ (Below.refl _ _)).mono ?_); rintro e w8 ⟨rfl, hB⟩; have B8 := Lib.hid hB; clear hB)
      clear x1 x2 CHn
      obtain ⟨w7, hw7⟩ : ∃ x, x = wr := ⟨_, rfl⟩
      subst hw7
      go_wp2_with fail
      go_loopw [8, 9, 10] (fun v8 v9 v10 wr => ∃ i : Nat, i ≤ nn6 ∧ v10 = .int .i64 (i : Int) ∧ v8 = .bool (rndM T xn6 (ns6.take i)) ∧ v9 = .bool (nonM T xn6 (ns6.take i)) ∧ Hid (Below w7.heap.size w7 wr)) (fun _ _ v10 _ => nn6 - (intOf v10).toNat)
      case atStart => exact ⟨0, by omega, rfl, by simp [rndM], by simp [nonM, allM], B8⟩
      case round =>
        obtain ⟨i, hi, rfl, rfl, rfl, HB⟩ := hrel
        have BV := Lib.hid (JB.out.trans (HB.out.mono JB.out.size))
        clear B8
        by_cases hlt : i < nn6
        · have hlt' : (i : Int) < nn6 := by omega
          have il : i < ns6.length := by rw [HXL.out]; exact hlt
          have hdl := HXS.out _ (getD_in il)
          obtain ⟨gb, off, rfl, q1, hKC⟩ := strs_reads HX.out hlt
          have KC : Hid (∀ u, Below w7.heap.size w7 u → u.cell? ⟨pb, 1, none⟩ = some (.string y6) ∧ u.cell? ⟨pb, 2, none⟩ = some (.slice (some ⟨gb, off, none⟩) nn6 nc6) ∧ u.cell? ⟨gb, off + i, none⟩ = some (.string (bs (ns6.getD i [])))) := Lib.hid (fun u hu => ⟨(KX.out u (JB.out.trans (hu.mono JB.out.size))).1, (KX.out u (JB.out.trans (hu.mono JB.out.size))).2, hKC u fun g hg _ => (JB.out.trans (hu.mono JB.out.size)).block g hg⟩)
          clear hKC
          obtain ⟨x1, x2⟩ := KX.out _ BV.out
          have CHd := Lib.hid (CH.out _ hdl)
          have CRd := Lib.hid (CRr.out _ hdl)
          have HR := Lib.hid (rndM_take T xn6 ns6 il)
          have HN := Lib.hid (nonM_take T xn6 ns6 il)
          clear hdl il
          generalize rndM T xn6 (ns6.take i) = R0 at *
          generalize nonM T xn6 (ns6.take i) = N0 at *
          generalize ns6.getD i [] = d at *
          generalize hasM T d = H at *
          generalize reachesM T d xn6 = Q at *
          have hbw : Below wr.heap.size wr wr.drew := (Below.refl _ _).drew
          have HBw := Lib.hid (below_of HB.out hbw)
          clear hbw
          by_cases hq : d = xn6
          · rw [hq, ← HY.out] at KC CHd
            have exx : (y6.toList == y6.toList) = true := by simp
            cases R0 with
            | true =>
              go_upto_region 12 with fail
              have K0 := KC.out _ HBw.out
              refine wp_region_held_drew (S := fun u : World => u.cell? ⟨pb, 1, none⟩ = some (.string y6) ∧ u.cell? ⟨pb, 2, none⟩ = some (.slice (some ⟨gb, off, none⟩) nn6 nc6) ∧ u.cell? ⟨gb, off + i, none⟩ = some (.string y6)) (by kernel_rfl) K0 (fun hHeld => ?_)
              refine wpAnyH_take (i := 0) (v := ?tvv0) rfl (by kernel_rfl) (by kernel_rfl) (by kernel_rfl) (fun _ _ _ h => h) (Or.inl ⟨by rfl, ?thy0⟩) (by assumption) ?trest0
              case thy0 =>
                intro u hSu
                obtain ⟨s0, s1, s2⟩ := hSu
                go_simp
                try with_reducible rfl
              try simp only [Act.put, List.getElem_toArray, List.getElem_cons_succ, List.getElem_cons_zero, List.setIfInBounds_toArray, List.set_cons_zero, List.set_cons_succ]
              refine wpAnyH_take (i := 1) (v := ?tvv1) rfl (by kernel_rfl) (by kernel_rfl) (by kernel_rfl) (fun _ _ _ h => h) (Or.inl ⟨by rfl, ?thy1⟩) (by assumption) ?trest1
              case thy1 =>
                intro u hSu
                obtain ⟨s0, s1, s2⟩ := hSu
                go_simp
                try with_reducible rfl
              try simp only [Act.put, List.getElem_toArray, List.getElem_cons_succ, List.getElem_cons_zero, List.setIfInBounds_toArray, List.set_cons_zero, List.set_cons_succ]
              refine wpAnyH_take (i := 2) (v := undef) rfl (by kernel_rfl) (by kernel_rfl) (by kernel_rfl) (fun _ _ _ h => h) (Or.inr ⟨by rfl, rfl⟩) (by assumption) ?trest2
              try simp only [Act.put, List.getElem_toArray, List.getElem_cons_succ, List.getElem_cons_zero, List.setIfInBounds_toArray, List.set_cons_zero, List.set_cons_succ]
              refine wpAnyH_take (i := 3) (v := undef) rfl (by kernel_rfl) (by kernel_rfl) (by kernel_rfl) (fun _ _ _ h => h) (Or.inr ⟨by rfl, rfl⟩) (by assumption) ?trest3
              try simp only [Act.put, List.getElem_toArray, List.getElem_cons_succ, List.getElem_cons_zero, List.setIfInBounds_toArray, List.set_cons_zero, List.set_cons_succ]
              refine wpAnyH_take (i := 4) (v := undef) rfl (by kernel_rfl) (by kernel_rfl) (by kernel_rfl) (fun _ _ _ h => h) (Or.inr ⟨by rfl, rfl⟩) (by assumption) ?trest4
              try simp only [Act.put, List.getElem_toArray, List.getElem_cons_succ, List.getElem_cons_zero, List.setIfInBounds_toArray, List.set_cons_zero, List.set_cons_succ]
              refine wpAnyH_take (i := 5) (v := undef) rfl (by kernel_rfl) (by kernel_rfl) (by kernel_rfl) (fun _ _ _ h => h) (Or.inr ⟨by rfl, rfl⟩) (by assumption) ?trest5
              try simp only [Act.put, List.getElem_toArray, List.getElem_cons_succ, List.getElem_cons_zero, List.setIfInBounds_toArray, List.set_cons_zero, List.set_cons_succ]
              refine wpAnyH_take (i := 6) (v := undef) rfl (by kernel_rfl) (by kernel_rfl) (by kernel_rfl) (fun _ _ _ h => h) (Or.inr ⟨by rfl, rfl⟩) (by assumption) ?trest6
              try simp only [Act.put, List.getElem_toArray, List.getElem_cons_succ, List.getElem_cons_zero, List.setIfInBounds_toArray, List.set_cons_zero, List.set_cons_succ]
              refine wpAnyH_take (i := 7) (v := undef) rfl (by kernel_rfl) (by kernel_rfl) (by kernel_rfl) (fun _ _ _ h => h) (Or.inr ⟨by rfl, rfl⟩) (by assumption) ?trest7
              try simp only [Act.put, List.getElem_toArray, List.getElem_cons_succ, List.getElem_cons_zero, List.setIfInBounds_toArray, List.set_cons_zero, List.set_cons_succ]
              refine wpAnyH_take (i := 8) (v := undef) rfl (by kernel_rfl) (by kernel_rfl) (by kernel_rfl) (fun _ _ _ h => h) (Or.inr ⟨by rfl, rfl⟩) (by assumption) ?trest8
              try simp only [Act.put, List.getElem_toArray, List.getElem_cons_succ, List.getElem_cons_zero, List.setIfInBounds_toArray, List.set_cons_zero, List.set_cons_succ]
              refine wpAnyH_take (i := 9) (v := undef) rfl (by kernel_rfl) (by kernel_rfl) (by kernel_rfl) (fun _ _ _ h => h) (Or.inr ⟨by rfl, rfl⟩) (by assumption) ?trest9
              try simp only [Act.put, List.getElem_toArray, List.getElem_cons_succ, List.getElem_cons_zero, List.setIfInBounds_toArray, List.set_cons_zero, List.set_cons_succ]
              refine wpAnyH_take (i := 10) (v := ?tvv10) rfl (by kernel_rfl) (by kernel_rfl) (by kernel_rfl) (fun _ _ _ h => h) (Or.inl ⟨by rfl, ?thy10⟩) (by assumption) ?trest10
              case thy10 =>
                intro u hSu
                obtain ⟨s0, s1, s2⟩ := hSu
                go_simp
                try with_reducible rfl
              try simp only [Act.put, List.getElem_toArray, List.getElem_cons_succ, List.getElem_cons_zero, List.setIfInBounds_toArray, List.set_cons_zero, List.set_cons_succ]
              refine wpAnyH_take (i := 11) (v := ?tvv11) rfl (by kernel_rfl) (by kernel_rfl) (by kernel_rfl) (fun _ _ _ h => h) (Or.inl ⟨by rfl, ?thy11⟩) (by assumption) ?trest11
              case thy11 =>
                intro u hSu
                obtain ⟨s0, s1, s2⟩ := hSu
                go_simp
                try with_reducible rfl
              try simp only [Act.put, List.getElem_toArray, List.getElem_cons_succ, List.getElem_cons_zero, List.setIfInBounds_toArray, List.set_cons_zero, List.set_cons_succ]
              refine wpAnyH_take (i := 12) (v := undef) rfl (by kernel_rfl) (by kernel_rfl) (by kernel_rfl) (fun _ _ _ h => h) (Or.inr ⟨by rfl, rfl⟩) (by assumption) ?trest12
              try simp only [Act.put, List.getElem_toArray, List.getElem_cons_succ, List.getElem_cons_zero, List.setIfInBounds_toArray, List.set_cons_zero, List.set_cons_succ]
              refine wpAnyH_take (i := 13) (v := undef) rfl (by kernel_rfl) (by kernel_rfl) (by kernel_rfl) (fun _ _ _ h => h) (Or.inr ⟨by rfl, rfl⟩) (by assumption) ?trest13
              try simp only [Act.put, List.getElem_toArray, List.getElem_cons_succ, List.getElem_cons_zero, List.setIfInBounds_toArray, List.set_cons_zero, List.set_cons_succ]
              refine wpAnyH_take (i := 14) (v := undef) rfl (by kernel_rfl) (by kernel_rfl) (by kernel_rfl) (fun _ _ _ h => h) (Or.inr ⟨by rfl, rfl⟩) (by assumption) ?trest14
              try simp only [Act.put, List.getElem_toArray, List.getElem_cons_succ, List.getElem_cons_zero, List.setIfInBounds_toArray, List.set_cons_zero, List.set_cons_succ]
              refine wpAnyH_take (i := 15) (v := undef) rfl (by kernel_rfl) (by kernel_rfl) (by kernel_rfl) (fun _ _ _ h => h) (Or.inr ⟨by rfl, rfl⟩) (by assumption) ?trest15
              try simp only [Act.put, List.getElem_toArray, List.getElem_cons_succ, List.getElem_cons_zero, List.setIfInBounds_toArray, List.set_cons_zero, List.set_cons_succ]
              refine wpAnyH_take (i := 16) (v := undef) rfl (by kernel_rfl) (by kernel_rfl) (by kernel_rfl) (fun _ _ _ h => h) (Or.inr ⟨by rfl, rfl⟩) (by assumption) ?trest16
              try simp only [Act.put, List.getElem_toArray, List.getElem_cons_succ, List.getElem_cons_zero, List.setIfInBounds_toArray, List.set_cons_zero, List.set_cons_succ]
              refine wpAnyH_take (i := 17) (v := undef) rfl (by kernel_rfl) (by kernel_rfl) (by kernel_rfl) (fun _ _ _ h => h) (Or.inr ⟨by rfl, rfl⟩) (by assumption) ?trest17
              try simp only [Act.put, List.getElem_toArray, List.getElem_cons_succ, List.getElem_cons_zero, List.setIfInBounds_toArray, List.set_cons_zero, List.set_cons_succ]
              refine wpAnyH_take (i := 18) (v := undef) rfl (by kernel_rfl) (by kernel_rfl) (by kernel_rfl) (fun _ _ _ h => h) (Or.inr ⟨by rfl, rfl⟩) (by assumption) ?trest18
              try simp only [Act.put, List.getElem_toArray, List.getElem_cons_succ, List.getElem_cons_zero, List.setIfInBounds_toArray, List.set_cons_zero, List.set_cons_succ]
              refine wpAnyH_take (i := 19) (v := undef) rfl (by kernel_rfl) (by kernel_rfl) (by kernel_rfl) (fun _ _ _ h => h) (Or.inr ⟨by rfl, rfl⟩) (by assumption) ?trest19
              try simp only [Act.put, List.getElem_toArray, List.getElem_cons_succ, List.getElem_cons_zero, List.setIfInBounds_toArray, List.set_cons_zero, List.set_cons_succ]
              refine wpAnyH_take (i := 20) (v := undef) rfl (by kernel_rfl) (by kernel_rfl) (by kernel_rfl) (fun _ _ _ h => h) (Or.inr ⟨by rfl, rfl⟩) (by assumption) ?trest20
              try simp only [Act.put, List.getElem_toArray, List.getElem_cons_succ, List.getElem_cons_zero, List.setIfInBounds_toArray, List.set_cons_zero, List.set_cons_succ]
              refine wpAnyH_take (i := 21) (v := ?tvv21) rfl (by kernel_rfl) (by kernel_rfl) (by kernel_rfl) (fun _ _ _ h => h) (Or.inl ⟨by rfl, ?thy21⟩) (by assumption) ?trest21
              case thy21 =>
                intro u hSu
                obtain ⟨s0, s1, s2⟩ := hSu
                go_simp
                try with_reducible rfl
              try simp only [Act.put, List.getElem_toArray, List.getElem_cons_succ, List.getElem_cons_zero, List.setIfInBounds_toArray, List.set_cons_zero, List.set_cons_succ]
              refine wpAnyH_take (i := 22) (v := ?tvv22) rfl (by kernel_rfl) (by kernel_rfl) (by kernel_rfl) (fun _ _ _ h => h) (Or.inl ⟨by rfl, ?thy22⟩) (by assumption) ?trest22
              case thy22 =>
                intro u hSu
                obtain ⟨s0, s1, s2⟩ := hSu
                go_simp
                try with_reducible rfl
              try simp only [Act.put, List.getElem_toArray, List.getElem_cons_succ, List.getElem_cons_zero, List.setIfInBounds_toArray, List.set_cons_zero, List.set_cons_succ]
              refine wpAnyH_done (by kernel_rfl) ?_ _
              have HBx := Lib.hid HBw.out
              clear K0
              obtain ⟨x1, x2, x3⟩ := KC.out _ HBx.out
              clear KC
              cases N0 with
              | true =>
                go_wp2_with fail
                go_roundw
                case rel => exact ⟨i + 1, by omega, by go_num, by rw [HR.out]; rfl, by rw [HN.out]; rfl, HBx⟩
                case measure => simp [intOf]; omega
              | false =>
                go_wp2_with (go_at_call 17; (with_reducible refine (CHd.out _ HBx.out).mono ?_); rintro e w9 ⟨rfl, hB9⟩; have HB9 := Lib.hid (below_of HBx.out hB9); clear hB9)
                go_roundw
                case rel => exact ⟨i + 1, by omega, by go_num, by rw [HR.out]; rfl, by rw [HN.out]; rfl, HB9⟩
                case measure => simp [intOf]; omega
            | false =>
              go_upto_region 12 with fail
              have K0 := KC.out _ HBw.out
              refine wp_region_held_drew (S := fun u : World => u.cell? ⟨pb, 1, none⟩ = some (.string y6) ∧ u.cell? ⟨pb, 2, none⟩ = some (.slice (some ⟨gb, off, none⟩) nn6 nc6) ∧ u.cell? ⟨gb, off + i, none⟩ = some (.string y6)) (by kernel_rfl) K0 (fun hHeld => ?_)
              refine wpAnyH_take (i := 0) (v := ?uvv0) rfl (by kernel_rfl) (by kernel_rfl) (by kernel_rfl) (fun _ _ _ h => h) (Or.inl ⟨by rfl, ?uhy0⟩) (by assumption) ?urest0
              case uhy0 =>
                intro u hSu
                obtain ⟨s0, s1, s2⟩ := hSu
                go_simp
                try with_reducible rfl
              try simp only [Act.put, List.getElem_toArray, List.getElem_cons_succ, List.getElem_cons_zero, List.setIfInBounds_toArray, List.set_cons_zero, List.set_cons_succ]
              refine wpAnyH_take (i := 1) (v := ?uvv1) rfl (by kernel_rfl) (by kernel_rfl) (by kernel_rfl) (fun _ _ _ h => h) (Or.inl ⟨by rfl, ?uhy1⟩) (by assumption) ?urest1
              case uhy1 =>
                intro u hSu
                obtain ⟨s0, s1, s2⟩ := hSu
                go_simp
                try with_reducible rfl
              try simp only [Act.put, List.getElem_toArray, List.getElem_cons_succ, List.getElem_cons_zero, List.setIfInBounds_toArray, List.set_cons_zero, List.set_cons_succ]
              refine wpAnyH_take (i := 2) (v := ?uvv2) rfl (by kernel_rfl) (by kernel_rfl) (by kernel_rfl) (fun _ _ _ h => h) (Or.inl ⟨by rfl, ?uhy2⟩) (by assumption) ?urest2
              case uhy2 =>
                intro u hSu
                obtain ⟨s0, s1, s2⟩ := hSu
                go_simp
                try with_reducible rfl
              try simp only [Act.put, List.getElem_toArray, List.getElem_cons_succ, List.getElem_cons_zero, List.setIfInBounds_toArray, List.set_cons_zero, List.set_cons_succ]
              refine wpAnyH_take (i := 3) (v := ?uvv3) rfl (by kernel_rfl) (by kernel_rfl) (by kernel_rfl) (fun _ _ _ h => h) (Or.inl ⟨by rfl, ?uhy3⟩) (by assumption) ?urest3
              case uhy3 =>
                intro u hSu
                obtain ⟨s0, s1, s2⟩ := hSu
                go_simp
                try with_reducible rfl
              try simp only [Act.put, List.getElem_toArray, List.getElem_cons_succ, List.getElem_cons_zero, List.setIfInBounds_toArray, List.set_cons_zero, List.set_cons_succ]
              refine wpAnyH_take (i := 4) (v := ?uvv4) rfl (by kernel_rfl) (by kernel_rfl) (by kernel_rfl) (fun _ _ _ h => h) (Or.inl ⟨by rfl, ?uhy4⟩) (by assumption) ?urest4
              case uhy4 =>
                intro u hSu
                obtain ⟨s0, s1, s2⟩ := hSu
                go_simp
                try with_reducible rfl
              try simp only [Act.put, List.getElem_toArray, List.getElem_cons_succ, List.getElem_cons_zero, List.setIfInBounds_toArray, List.set_cons_zero, List.set_cons_succ]
              refine wpAnyH_take (i := 5) (v := ?uvv5) rfl (by kernel_rfl) (by kernel_rfl) (by kernel_rfl) (fun _ _ _ h => h) (Or.inl ⟨by rfl, ?uhy5⟩) (by assumption) ?urest5
              case uhy5 =>
                intro u hSu
                obtain ⟨s0, s1, s2⟩ := hSu
                go_simp
                try with_reducible rfl
              try simp only [Act.put, List.getElem_toArray, List.getElem_cons_succ, List.getElem_cons_zero, List.setIfInBounds_toArray, List.set_cons_zero, List.set_cons_succ]
              refine wpAnyH_take (i := 6) (v := ?uvv6) rfl (by kernel_rfl) (by kernel_rfl) (by kernel_rfl) (fun _ _ _ h => h) (Or.inl ⟨by rfl, ?uhy6⟩) (by assumption) ?urest6
              case uhy6 =>
                intro u hSu
                obtain ⟨s0, s1, s2⟩ := hSu
                go_simp
                try with_reducible rfl
              try simp only [Act.put, List.getElem_toArray, List.getElem_cons_succ, List.getElem_cons_zero, List.setIfInBounds_toArray, List.set_cons_zero, List.set_cons_succ]
              refine wpAnyH_take (i := 7) (v := ?uvv7) rfl (by kernel_rfl) (by kernel_rfl) (by kernel_rfl) (fun _ _ _ h => h) (Or.inl ⟨by rfl, ?uhy7⟩) (by assumption) ?urest7
              case uhy7 =>
                intro u hSu
                obtain ⟨s0, s1, s2⟩ := hSu
                go_simp
                try with_reducible rfl
              try simp only [Act.put, List.getElem_toArray, List.getElem_cons_succ, List.getElem_cons_zero, List.setIfInBounds_toArray, List.set_cons_zero, List.set_cons_succ]
              refine wpAnyH_take (i := 8) (v := ?uvv8) rfl (by kernel_rfl) (by kernel_rfl) (by kernel_rfl) (fun _ _ _ h => h) (Or.inl ⟨by rfl, ?uhy8⟩) (by assumption) ?urest8
              case uhy8 =>
                intro u hSu
                obtain ⟨s0, s1, s2⟩ := hSu
                go_simp
                try with_reducible rfl
              try simp only [Act.put, List.getElem_toArray, List.getElem_cons_succ, List.getElem_cons_zero, List.setIfInBounds_toArray, List.set_cons_zero, List.set_cons_succ]
              refine wpAnyH_take (i := 9) (v := ?uvv9) rfl (by kernel_rfl) (by kernel_rfl) (by kernel_rfl) (fun _ _ _ h => h) (Or.inl ⟨by rfl, ?uhy9⟩) (by assumption) ?urest9
              case uhy9 =>
                intro u hSu
                obtain ⟨s0, s1, s2⟩ := hSu
                go_simp
                try with_reducible rfl
              try simp only [Act.put, List.getElem_toArray, List.getElem_cons_succ, List.getElem_cons_zero, List.setIfInBounds_toArray, List.set_cons_zero, List.set_cons_succ]
              refine wpAnyH_take (i := 10) (v := ?uvv10) rfl (by kernel_rfl) (by kernel_rfl) (by kernel_rfl) (fun _ _ _ h => h) (Or.inl ⟨by rfl, ?uhy10⟩) (by assumption) ?urest10
              case uhy10 =>
                intro u hSu
                obtain ⟨s0, s1, s2⟩ := hSu
                go_simp
                try with_reducible rfl
              try simp only [Act.put, List.getElem_toArray, List.getElem_cons_succ, List.getElem_cons_zero, List.setIfInBounds_toArray, List.set_cons_zero, List.set_cons_succ]
              refine wpAnyH_take (i := 11) (v := ?uvv11) rfl (by kernel_rfl) (by kernel_rfl) (by kernel_rfl) (fun _ _ _ h => h) (Or.inl ⟨by rfl, ?uhy11⟩) (by assumption) ?urest11
              case uhy11 =>
                intro u hSu
                obtain ⟨s0, s1, s2⟩ := hSu
                go_simp
                try with_reducible rfl
              try simp only [Act.put, List.getElem_toArray, List.getElem_cons_succ, List.getElem_cons_zero, List.setIfInBounds_toArray, List.set_cons_zero, List.set_cons_succ]
              refine wpAnyH_take (i := 12) (v := undef) rfl (by kernel_rfl) (by kernel_rfl) (by kernel_rfl) (fun _ _ _ h => h) (Or.inr ⟨by rfl, rfl⟩) (by assumption) ?urest12
              try simp only [Act.put, List.getElem_toArray, List.getElem_cons_succ, List.getElem_cons_zero, List.setIfInBounds_toArray, List.set_cons_zero, List.set_cons_succ]
              refine wpAnyH_take (i := 13) (v := undef) rfl (by kernel_rfl) (by kernel_rfl) (by kernel_rfl) (fun _ _ _ h => h) (Or.inr ⟨by rfl, rfl⟩) (by assumption) ?urest13
              try simp only [Act.put, List.getElem_toArray, List.getElem_cons_succ, List.getElem_cons_zero, List.setIfInBounds_toArray, List.set_cons_zero, List.set_cons_succ]
              refine wpAnyH_take (i := 14) (v := undef) rfl (by kernel_rfl) (by kernel_rfl) (by kernel_rfl) (fun _ _ _ h => h) (Or.inr ⟨by rfl, rfl⟩) (by assumption) ?urest14
              try simp only [Act.put, List.getElem_toArray, List.getElem_cons_succ, List.getElem_cons_zero, List.setIfInBounds_toArray, List.set_cons_zero, List.set_cons_succ]
              refine wpAnyH_take (i := 15) (v := undef) rfl (by kernel_rfl) (by kernel_rfl) (by kernel_rfl) (fun _ _ _ h => h) (Or.inr ⟨by rfl, rfl⟩) (by assumption) ?urest15
              try simp only [Act.put, List.getElem_toArray, List.getElem_cons_succ, List.getElem_cons_zero, List.setIfInBounds_toArray, List.set_cons_zero, List.set_cons_succ]
              refine wpAnyH_take (i := 16) (v := undef) rfl (by kernel_rfl) (by kernel_rfl) (by kernel_rfl) (fun _ _ _ h => h) (Or.inr ⟨by rfl, rfl⟩) (by assumption) ?urest16
              try simp only [Act.put, List.getElem_toArray, List.getElem_cons_succ, List.getElem_cons_zero, List.setIfInBounds_toArray, List.set_cons_zero, List.set_cons_succ]
              refine wpAnyH_take (i := 17) (v := undef) rfl (by kernel_rfl) (by kernel_rfl) (by kernel_rfl) (fun _ _ _ h => h) (Or.inr ⟨by rfl, rfl⟩) (by assumption) ?urest17
              try simp only [Act.put, List.getElem_toArray, List.getElem_cons_succ, List.getElem_cons_zero, List.setIfInBounds_toArray, List.set_cons_zero, List.set_cons_succ]
              refine wpAnyH_take (i := 18) (v := undef) rfl (by kernel_rfl) (by kernel_rfl) (by kernel_rfl) (fun _ _ _ h => h) (Or.inr ⟨by rfl, rfl⟩) (by assumption) ?urest18
              try simp only [Act.put, List.getElem_toArray, List.getElem_cons_succ, List.getElem_cons_zero, List.setIfInBounds_toArray, List.set_cons_zero, List.set_cons_succ]
              refine wpAnyH_take (i := 19) (v := undef) rfl (by kernel_rfl) (by kernel_rfl) (by kernel_rfl) (fun _ _ _ h => h) (Or.inr ⟨by rfl, rfl⟩) (by assumption) ?urest19
              try simp only [Act.put, List.getElem_toArray, List.getElem_cons_succ, List.getElem_cons_zero, List.setIfInBounds_toArray, List.set_cons_zero, List.set_cons_succ]
              refine wpAnyH_take (i := 20) (v := undef) rfl (by kernel_rfl) (by kernel_rfl) (by kernel_rfl) (fun _ _ _ h => h) (Or.inr ⟨by rfl, rfl⟩) (by assumption) ?urest20
              try simp only [Act.put, List.getElem_toArray, List.getElem_cons_succ, List.getElem_cons_zero, List.setIfInBounds_toArray, List.set_cons_zero, List.set_cons_succ]
              refine wpAnyH_take (i := 21) (v := ?uvv21) rfl (by kernel_rfl) (by kernel_rfl) (by kernel_rfl) (fun _ _ _ h => h) (Or.inl ⟨by rfl, ?uhy21⟩) (by assumption) ?urest21
              case uhy21 =>
                intro u hSu
                obtain ⟨s0, s1, s2⟩ := hSu
                go_simp
                try with_reducible rfl
              try simp only [Act.put, List.getElem_toArray, List.getElem_cons_succ, List.getElem_cons_zero, List.setIfInBounds_toArray, List.set_cons_zero, List.set_cons_succ]
              refine wpAnyH_take (i := 22) (v := ?uvv22) rfl (by kernel_rfl) (by kernel_rfl) (by kernel_rfl) (fun _ _ _ h => h) (Or.inl ⟨by rfl, ?uhy22⟩) (by assumption) ?urest22
              case uhy22 =>
                intro u hSu
                obtain ⟨s0, s1, s2⟩ := hSu
                go_simp
                try with_reducible rfl
              try simp only [Act.put, List.getElem_toArray, List.getElem_cons_succ, List.getElem_cons_zero, List.setIfInBounds_toArray, List.set_cons_zero, List.set_cons_succ]
              refine wpAnyH_done (by kernel_rfl) ?_ _
              have HBx := Lib.hid HBw.out
              clear K0
              obtain ⟨x1, x2, x3⟩ := KC.out _ HBx.out
              clear KC
              cases N0 with
              | true =>
                go_wp2_with fail
                go_roundw
                case rel => exact ⟨i + 1, by omega, by go_num, by rw [HR.out, decide_eq_true hq]; rfl, by rw [HN.out]; rfl, HBx⟩
                case measure => simp [intOf]; omega
              | false =>
                go_wp2_with (go_at_call 17; (with_reducible refine (CHd.out _ HBx.out).mono ?_); rintro e w9 ⟨rfl, hB9⟩; have HB9 := Lib.hid (below_of HBx.out hB9); clear hB9)
                go_roundw
                case rel => exact ⟨i + 1, by omega, by go_num, by rw [HR.out, decide_eq_true hq]; rfl, by rw [HN.out]; rfl, HB9⟩
                case measure => simp [intOf]; omega
          · have exy : ((bs d).toList == y6.toList) = false := by rw [HY.out, bs_toList, bs_toList]; simpa using hq
            generalize bs d = Y at *
            cases R0 with
            | true =>
              go_upto_region 12 with fail
              have K0 := KC.out _ HBw.out
              refine wp_region_held_drew (S := fun u : World => u.cell? ⟨pb, 1, none⟩ = some (.string y6) ∧ u.cell? ⟨pb, 2, none⟩ = some (.slice (some ⟨gb, off, none⟩) nn6 nc6) ∧ u.cell? ⟨gb, off + i, none⟩ = some (.string Y)) (by kernel_rfl) K0 (fun hHeld => ?_)
              refine wpAnyH_take (i := 0) (v := ?vvv0) rfl (by kernel_rfl) (by kernel_rfl) (by kernel_rfl) (fun _ _ _ h => h) (Or.inl ⟨by rfl, ?vhy0⟩) (by assumption) ?vrest0
              case vhy0 =>
                intro u hSu
                obtain ⟨s0, s1, s2⟩ := hSu
                go_simp
                try with_reducible rfl
              try simp only [Act.put, List.getElem_toArray, List.getElem_cons_succ, List.getElem_cons_zero, List.setIfInBounds_toArray, List.set_cons_zero, List.set_cons_succ]
              refine wpAnyH_take (i := 1) (v := ?vvv1) rfl (by kernel_rfl) (by kernel_rfl) (by kernel_rfl) (fun _ _ _ h => h) (Or.inl ⟨by rfl, ?vhy1⟩) (by assumption) ?vrest1
              case vhy1 =>
                intro u hSu
                obtain ⟨s0, s1, s2⟩ := hSu
                go_simp
                try with_reducible rfl
              try simp only [Act.put, List.getElem_toArray, List.getElem_cons_succ, List.getElem_cons_zero, List.setIfInBounds_toArray, List.set_cons_zero, List.set_cons_succ]
              refine wpAnyH_take (i := 2) (v := undef) rfl (by kernel_rfl) (by kernel_rfl) (by kernel_rfl) (fun _ _ _ h => h) (Or.inr ⟨by rfl, rfl⟩) (by assumption) ?vrest2
              try simp only [Act.put, List.getElem_toArray, List.getElem_cons_succ, List.getElem_cons_zero, List.setIfInBounds_toArray, List.set_cons_zero, List.set_cons_succ]
              refine wpAnyH_take (i := 3) (v := undef) rfl (by kernel_rfl) (by kernel_rfl) (by kernel_rfl) (fun _ _ _ h => h) (Or.inr ⟨by rfl, rfl⟩) (by assumption) ?vrest3
              try simp only [Act.put, List.getElem_toArray, List.getElem_cons_succ, List.getElem_cons_zero, List.setIfInBounds_toArray, List.set_cons_zero, List.set_cons_succ]
              refine wpAnyH_take (i := 4) (v := undef) rfl (by kernel_rfl) (by kernel_rfl) (by kernel_rfl) (fun _ _ _ h => h) (Or.inr ⟨by rfl, rfl⟩) (by assumption) ?vrest4
              try simp only [Act.put, List.getElem_toArray, List.getElem_cons_succ, List.getElem_cons_zero, List.setIfInBounds_toArray, List.set_cons_zero, List.set_cons_succ]
              refine wpAnyH_take (i := 5) (v := undef) rfl (by kernel_rfl) (by kernel_rfl) (by kernel_rfl) (fun _ _ _ h => h) (Or.inr ⟨by rfl, rfl⟩) (by assumption) ?vrest5
              try simp only [Act.put, List.getElem_toArray, List.getElem_cons_succ, List.getElem_cons_zero, List.setIfInBounds_toArray, List.set_cons_zero, List.set_cons_succ]
              refine wpAnyH_take (i := 6) (v := undef) rfl (by kernel_rfl) (by kernel_rfl) (by kernel_rfl) (fun _ _ _ h => h) (Or.inr ⟨by rfl, rfl⟩) (by assumption) ?vrest6
              try simp only [Act.put, List.getElem_toArray, List.getElem_cons_succ, List.getElem_cons_zero, List.setIfInBounds_toArray, List.set_cons_zero, List.set_cons_succ]
              refine wpAnyH_take (i := 7) (v := undef) rfl (by kernel_rfl) (by kernel_rfl) (by kernel_rfl) (fun _ _ _ h => h) (Or.inr ⟨by rfl, rfl⟩) (by assumption) ?vrest7
              try simp only [Act.put, List.getElem_toArray, List.getElem_cons_succ, List.getElem_cons_zero, List.setIfInBounds_toArray, List.set_cons_zero, List.set_cons_succ]
              refine wpAnyH_take (i := 8) (v := undef) rfl (by kernel_rfl) (by kernel_rfl) (by kernel_rfl) (fun _ _ _ h => h) (Or.inr ⟨by rfl, rfl⟩) (by assumption) ?vrest8
              try simp only [Act.put, List.getElem_toArray, List.getElem_cons_succ, List.getElem_cons_zero, List.setIfInBounds_toArray, List.set_cons_zero, List.set_cons_succ]
              refine wpAnyH_take (i := 9) (v := undef) rfl (by kernel_rfl) (by kernel_rfl) (by kernel_rfl) (fun _ _ _ h => h) (Or.inr ⟨by rfl, rfl⟩) (by assumption) ?vrest9
              try simp only [Act.put, List.getElem_toArray, List.getElem_cons_succ, List.getElem_cons_zero, List.setIfInBounds_toArray, List.set_cons_zero, List.set_cons_succ]
              refine wpAnyH_take (i := 10) (v := ?vvv10) rfl (by kernel_rfl) (by kernel_rfl) (by kernel_rfl) (fun _ _ _ h => h) (Or.inl ⟨by rfl, ?vhy10⟩) (by assumption) ?vrest10
              case vhy10 =>
                intro u hSu
                obtain ⟨s0, s1, s2⟩ := hSu
                go_simp
                try with_reducible rfl
              try simp only [Act.put, List.getElem_toArray, List.getElem_cons_succ, List.getElem_cons_zero, List.setIfInBounds_toArray, List.set_cons_zero, List.set_cons_succ]
              refine wpAnyH_take (i := 11) (v := ?vvv11) rfl (by kernel_rfl) (by kernel_rfl) (by kernel_rfl) (fun _ _ _ h => h) (Or.inl ⟨by rfl, ?vhy11⟩) (by assumption) ?vrest11
              case vhy11 =>
                intro u hSu
                obtain ⟨s0, s1, s2⟩ := hSu
                go_simp
                try with_reducible rfl
              try simp only [Act.put, List.getElem_toArray, List.getElem_cons_succ, List.getElem_cons_zero, List.setIfInBounds_toArray, List.set_cons_zero, List.set_cons_succ]
              refine wpAnyH_take (i := 12) (v := undef) rfl (by kernel_rfl) (by kernel_rfl) (by kernel_rfl) (fun _ _ _ h => h) (Or.inr ⟨by rfl, rfl⟩) (by assumption) ?vrest12
              try simp only [Act.put, List.getElem_toArray, List.getElem_cons_succ, List.getElem_cons_zero, List.setIfInBounds_toArray, List.set_cons_zero, List.set_cons_succ]
              refine wpAnyH_take (i := 13) (v := undef) rfl (by kernel_rfl) (by kernel_rfl) (by kernel_rfl) (fun _ _ _ h => h) (Or.inr ⟨by rfl, rfl⟩) (by assumption) ?vrest13
              try simp only [Act.put, List.getElem_toArray, List.getElem_cons_succ, List.getElem_cons_zero, List.setIfInBounds_toArray, List.set_cons_zero, List.set_cons_succ]
              refine wpAnyH_take (i := 14) (v := undef) rfl (by kernel_rfl) (by kernel_rfl) (by kernel_rfl) (fun _ _ _ h => h) (Or.inr ⟨by rfl, rfl⟩) (by assumption) ?vrest14
              try simp only [Act.put, List.getElem_toArray, List.getElem_cons_succ, List.getElem_cons_zero, List.setIfInBounds_toArray, List.set_cons_zero, List.set_cons_succ]
              refine wpAnyH_take (i := 15) (v := undef) rfl (by kernel_rfl) (by kernel_rfl) (by kernel_rfl) (fun _ _ _ h => h) (Or.inr ⟨by rfl, rfl⟩) (by assumption) ?vrest15
              try simp only [Act.put, List.getElem_toArray, List.getElem_cons_succ, List.getElem_cons_zero, List.setIfInBounds_toArray, List.set_cons_zero, List.set_cons_succ]
              refine wpAnyH_take (i := 16) (v := undef) rfl (by kernel_rfl) (by kernel_rfl) (by kernel_rfl) (fun _ _ _ h => h) (Or.inr ⟨by rfl, rfl⟩) (by assumption) ?vrest16
              try simp only [Act.put, List.getElem_toArray, List.getElem_cons_succ, List.getElem_cons_zero, List.setIfInBounds_toArray, List.set_cons_zero, List.set_cons_succ]
              refine wpAnyH_take (i := 17) (v := undef) rfl (by kernel_rfl) (by kernel_rfl) (by kernel_rfl) (fun _ _ _ h => h) (Or.inr ⟨by rfl, rfl⟩) (by assumption) ?vrest17
              try simp only [Act.put, List.getElem_toArray, List.getElem_cons_succ, List.getElem_cons_zero, List.setIfInBounds_toArray, List.set_cons_zero, List.set_cons_succ]
              refine wpAnyH_take (i := 18) (v := undef) rfl (by kernel_rfl) (by kernel_rfl) (by kernel_rfl) (fun _ _ _ h => h) (Or.inr ⟨by rfl, rfl⟩) (by assumption) ?vrest18
              try simp only [Act.put, List.getElem_toArray, List.getElem_cons_succ, List.getElem_cons_zero, List.setIfInBounds_toArray, List.set_cons_zero, List.set_cons_succ]
              refine wpAnyH_take (i := 19) (v := undef) rfl (by kernel_rfl) (by kernel_rfl) (by kernel_rfl) (fun _ _ _ h => h) (Or.inr ⟨by rfl, rfl⟩) (by assumption) ?vrest19
              try simp only [Act.put, List.getElem_toArray, List.getElem_cons_succ, List.getElem_cons_zero, List.setIfInBounds_toArray, List.set_cons_zero, List.set_cons_succ]
              refine wpAnyH_take (i := 20) (v := undef) rfl (by kernel_rfl) (by kernel_rfl) (by kernel_rfl) (fun _ _ _ h => h) (Or.inr ⟨by rfl, rfl⟩) (by assumption) ?vrest20
              try simp only [Act.put, List.getElem_toArray, List.getElem_cons_succ, List.getElem_cons_zero, List.setIfInBounds_toArray, List.set_cons_zero, List.set_cons_succ]
              refine wpAnyH_take (i := 21) (v := ?vvv21) rfl (by kernel_rfl) (by kernel_rfl) (by kernel_rfl) (fun _ _ _ h => h) (Or.inl ⟨by rfl, ?vhy21⟩) (by assumption) ?vrest21
              case vhy21 =>
                intro u hSu
                obtain ⟨s0, s1, s2⟩ := hSu
                go_simp
                try with_reducible rfl
              try simp only [Act.put, List.getElem_toArray, List.getElem_cons_succ, List.getElem_cons_zero, List.setIfInBounds_toArray, List.set_cons_zero, List.set_cons_succ]
              refine wpAnyH_take (i := 22) (v := ?vvv22) rfl (by kernel_rfl) (by kernel_rfl) (by kernel_rfl) (fun _ _ _ h => h) (Or.inl ⟨by rfl, ?vhy22⟩) (by assumption) ?vrest22
              case vhy22 =>
                intro u hSu
                obtain ⟨s0, s1, s2⟩ := hSu
                go_simp
                try with_reducible rfl
              try simp only [Act.put, List.getElem_toArray, List.getElem_cons_succ, List.getElem_cons_zero, List.setIfInBounds_toArray, List.set_cons_zero, List.set_cons_succ]
              refine wpAnyH_done (by kernel_rfl) ?_ _
              have HBx := Lib.hid HBw.out
              clear K0
              obtain ⟨x1, x2, x3⟩ := KC.out _ HBx.out
              clear KC
              cases N0 with
              | true =>
                go_wp2_with fail
                go_roundw
                case rel => exact ⟨i + 1, by omega, by go_num, by rw [HR.out]; rfl, by rw [HN.out]; rfl, HBx⟩
                case measure => simp [intOf]; omega
              | false =>
                go_wp2_with (go_at_call 17; (with_reducible refine (CHd.out _ HBx.out).mono ?_); rintro e w9 ⟨rfl, hB9⟩; have HB9 := Lib.hid (below_of HBx.out hB9); clear hB9)
                go_roundw
                case rel => exact ⟨i + 1, by omega, by go_num, by rw [HR.out]; rfl, by rw [HN.out]; rfl, HB9⟩
                case measure => simp [intOf]; omega
            | false =>
              go_upto_region 12 with fail
              have K0 := KC.out _ HBw.out
              refine wp_region_held_drew (S := fun u : World => u.cell? ⟨pb, 1, none⟩ = some (.string y6) ∧ u.cell? ⟨pb, 2, none⟩ = some (.slice (some ⟨gb, off, none⟩) nn6 nc6) ∧ u.cell? ⟨gb, off + i, none⟩ = some (.string Y)) (by kernel_rfl) K0 (fun hHeld => ?_)
              refine wpAnyH_take (i := 0) (v := ?xvv0) rfl (by kernel_rfl) (by kernel_rfl) (by kernel_rfl) (fun _ _ _ h => h) (Or.inl ⟨by rfl, ?xhy0⟩) (by assumption) ?xrest0
              case xhy0 =>
                intro u hSu
                obtain ⟨s0, s1, s2⟩ := hSu
                go_simp
                try with_reducible rfl
              try simp only [Act.put, List.getElem_toArray, List.getElem_cons_succ, List.getElem_cons_zero, List.setIfInBounds_toArray, List.set_cons_zero, List.set_cons_succ]
              refine wpAnyH_take (i := 1) (v := ?xvv1) rfl (by kernel_rfl) (by kernel_rfl) (by kernel_rfl) (fun _ _ _ h => h) (Or.inl ⟨by rfl, ?xhy1⟩) (by assumption) ?xrest1
              case xhy1 =>
                intro u hSu
                obtain ⟨s0, s1, s2⟩ := hSu
                go_simp
                try with_reducible rfl
              try simp only [Act.put, List.getElem_toArray, List.getElem_cons_succ, List.getElem_cons_zero, List.setIfInBounds_toArray, List.set_cons_zero, List.set_cons_succ]
              refine wpAnyH_take (i := 2) (v := ?xvv2) rfl (by kernel_rfl) (by kernel_rfl) (by kernel_rfl) (fun _ _ _ h => h) (Or.inl ⟨by rfl, ?xhy2⟩) (by assumption) ?xrest2
              case xhy2 =>
                intro u hSu
                obtain ⟨s0, s1, s2⟩ := hSu
                go_simp
                try with_reducible rfl
              try simp only [Act.put, List.getElem_toArray, List.getElem_cons_succ, List.getElem_cons_zero, List.setIfInBounds_toArray, List.set_cons_zero, List.set_cons_succ]
              refine wpAnyH_take (i := 3) (v := ?xvv3) rfl (by kernel_rfl) (by kernel_rfl) (by kernel_rfl) (fun _ _ _ h => h) (Or.inl ⟨by rfl, ?xhy3⟩) (by assumption) ?xrest3
              case xhy3 =>
                intro u hSu
                obtain ⟨s0, s1, s2⟩ := hSu
                go_simp
                try with_reducible rfl
              try simp only [Act.put, List.getElem_toArray, List.getElem_cons_succ, List.getElem_cons_zero, List.setIfInBounds_toArray, List.set_cons_zero, List.set_cons_succ]
              refine wpAnyH_take (i := 4) (v := ?xvv4) rfl (by kernel_rfl) (by kernel_rfl) (by kernel_rfl) (fun _ _ _ h => h) (Or.inl ⟨by rfl, ?xhy4⟩) (by assumption) ?xrest4
              case xhy4 =>
                intro u hSu
                obtain ⟨s0, s1, s2⟩ := hSu
                go_simp
                try with_reducible rfl
              try simp only [Act.put, List.getElem_toArray, List.getElem_cons_succ, List.getElem_cons_zero, List.setIfInBounds_toArray, List.set_cons_zero, List.set_cons_succ]
              refine wpAnyH_take (i := 5) (v := ?xvv5) rfl (by kernel_rfl) (by kernel_rfl) (by kernel_rfl) (fun _ _ _ h => h) (Or.inl ⟨by rfl, ?xhy5⟩) (by assumption) ?xrest5
              case xhy5 =>
                intro u hSu
                obtain ⟨s0, s1, s2⟩ := hSu
                go_simp
                try with_reducible rfl
              try simp only [Act.put, List.getElem_toArray, List.getElem_cons_succ, List.getElem_cons_zero, List.setIfInBounds_toArray, List.set_cons_zero, List.set_cons_succ]
              refine wpAnyH_take (i := 6) (v := ?xvv6) rfl (by kernel_rfl) (by kernel_rfl) (by kernel_rfl) (fun _ _ _ h => h) (Or.inl ⟨by rfl, ?xhy6⟩) (by assumption) ?xrest6
              case xhy6 =>
                intro u hSu
                obtain ⟨s0, s1, s2⟩ := hSu
                go_simp
                try with_reducible rfl
              try simp only [Act.put, List.getElem_toArray, List.getElem_cons_succ, List.getElem_cons_zero, List.setIfInBounds_toArray, List.set_cons_zero, List.set_cons_succ]
              refine wpAnyH_take (i := 7) (v := ?xvv7) rfl (by kernel_rfl) (by kernel_rfl) (by kernel_rfl) (fun _ _ _ h => h) (Or.inl ⟨by rfl, ?xhy7⟩) (by assumption) ?xrest7
              case xhy7 =>
                intro u hSu
                obtain ⟨s0, s1, s2⟩ := hSu
                go_simp
                try with_reducible rfl
              try simp only [Act.put, List.getElem_toArray, List.getElem_cons_succ, List.getElem_cons_zero, List.setIfInBounds_toArray, List.set_cons_zero, List.set_cons_succ]
              refine wpAnyH_take (i := 8) (v := ?xvv8) rfl (by kernel_rfl) (by kernel_rfl) (by kernel_rfl) (fun _ _ _ h => h) (Or.inl ⟨by rfl, ?xhy8⟩) (by assumption) ?xrest8
              case xhy8 =>
                intro u hSu
                obtain ⟨s0, s1, s2⟩ := hSu
                go_simp
                try with_reducible rfl
              try simp only [Act.put, List.getElem_toArray, List.getElem_cons_succ, List.getElem_cons_zero, List.setIfInBounds_toArray, List.set_cons_zero, List.set_cons_succ]
              refine wpAnyH_take (i := 9) (v := ?xvv9) rfl (by kernel_rfl) (by kernel_rfl) (by kernel_rfl) (fun _ _ _ h => h) (Or.inl ⟨by rfl, ?xhy9⟩) (by assumption) ?xrest9
              case xhy9 =>
                intro u hSu
                obtain ⟨s0, s1, s2⟩ := hSu
                go_simp
                try with_reducible rfl
              try simp only [Act.put, List.getElem_toArray, List.getElem_cons_succ, List.getElem_cons_zero, List.setIfInBounds_toArray, List.set_cons_zero, List.set_cons_succ]
              refine wpAnyH_take (i := 10) (v := ?xvv10) rfl (by kernel_rfl) (by kernel_rfl) (by kernel_rfl) (fun _ _ _ h => h) (Or.inl ⟨by rfl, ?xhy10⟩) (by assumption) ?xrest10
              case xhy10 =>
                intro u hSu
                obtain ⟨s0, s1, s2⟩ := hSu
                go_simp
                try with_reducible rfl
              try simp only [Act.put, List.getElem_toArray, List.getElem_cons_succ, List.getElem_cons_zero, List.setIfInBounds_toArray, List.set_cons_zero, List.set_cons_succ]
              refine wpAnyH_take (i := 11) (v := ?xvv11) rfl (by kernel_rfl) (by kernel_rfl) (by kernel_rfl) (fun _ _ _ h => h) (Or.inl ⟨by rfl, ?xhy11⟩) (by assumption) ?xrest11
              case xhy11 =>
                intro u hSu
                obtain ⟨s0, s1, s2⟩ := hSu
                go_simp
                try with_reducible rfl
              try simp only [Act.put, List.getElem_toArray, List.getElem_cons_succ, List.getElem_cons_zero, List.setIfInBounds_toArray, List.set_cons_zero, List.set_cons_succ]
              refine wpAnyH_take (i := 12) (v := ?xvv12) rfl (by kernel_rfl) (by kernel_rfl) (by kernel_rfl) (fun _ _ _ h => h) (Or.inl ⟨by rfl, ?xhy12⟩) (by assumption) ?xrest12
              case xhy12 =>
                intro u hSu
                obtain ⟨s0, s1, s2⟩ := hSu
                go_simp
                try with_reducible rfl
              try simp only [Act.put, List.getElem_toArray, List.getElem_cons_succ, List.getElem_cons_zero, List.setIfInBounds_toArray, List.set_cons_zero, List.set_cons_succ]
              refine wpAnyH_take (i := 13) (v := ?xvv13) rfl (by kernel_rfl) (by kernel_rfl) (by kernel_rfl) (fun _ _ _ h => h) (Or.inl ⟨by rfl, ?xhy13⟩) (by assumption) ?xrest13
              case xhy13 =>
                intro u hSu
                obtain ⟨s0, s1, s2⟩ := hSu
                go_simp
                try with_reducible rfl
              try simp only [Act.put, List.getElem_toArray, List.getElem_cons_succ, List.getElem_cons_zero, List.setIfInBounds_toArray, List.set_cons_zero, List.set_cons_succ]
              refine wpAnyH_take (i := 14) (v := ?xvv14) rfl (by kernel_rfl) (by kernel_rfl) (by kernel_rfl) (fun _ _ _ h => h) (Or.inl ⟨by rfl, ?xhy14⟩) (by assumption) ?xrest14
              case xhy14 =>
                intro u hSu
                obtain ⟨s0, s1, s2⟩ := hSu
                go_simp
                try with_reducible rfl
              try simp only [Act.put, List.getElem_toArray, List.getElem_cons_succ, List.getElem_cons_zero, List.setIfInBounds_toArray, List.set_cons_zero, List.set_cons_succ]
              refine wpAnyH_take (i := 15) (v := ?xvv15) rfl (by kernel_rfl) (by kernel_rfl) (by kernel_rfl) (fun _ _ _ h => h) (Or.inl ⟨by rfl, ?xhy15⟩) (by assumption) ?xrest15
              case xhy15 =>
                intro u hSu
                obtain ⟨s0, s1, s2⟩ := hSu
                go_simp
                try with_reducible rfl
              try simp only [Act.put, List.getElem_toArray, List.getElem_cons_succ, List.getElem_cons_zero, List.setIfInBounds_toArray, List.set_cons_zero, List.set_cons_succ]
              refine wpAnyH_take (i := 16) (v := ?xvv16) rfl (by kernel_rfl) (by kernel_rfl) (by kernel_rfl) (fun _ _ _ h => h) (Or.inl ⟨by rfl, ?xhy16⟩) (by assumption) ?xrest16
              case xhy16 =>
                intro u hSu
                obtain ⟨s0, s1, s2⟩ := hSu
                go_simp
                try with_reducible rfl
              try simp only [Act.put, List.getElem_toArray, List.getElem_cons_succ, List.getElem_cons_zero, List.setIfInBounds_toArray, List.set_cons_zero, List.set_cons_succ]
              refine wpAnyH_take (i := 17) (v := ?xvv17) rfl (by kernel_rfl) (by kernel_rfl) (by kernel_rfl) (fun _ _ _ h => h) (Or.inl ⟨by rfl, ?xhy17⟩) (by assumption) ?xrest17
              case xhy17 =>
                intro u hSu
                obtain ⟨s0, s1, s2⟩ := hSu
                go_simp
                try with_reducible rfl
              try simp only [Act.put, List.getElem_toArray, List.getElem_cons_succ, List.getElem_cons_zero, List.setIfInBounds_toArray, List.set_cons_zero, List.set_cons_succ]
              refine wpAnyH_take (i := 18) (v := ?xvv18) rfl (by kernel_rfl) (by kernel_rfl) (by kernel_rfl) (fun _ _ _ h => h) (Or.inl ⟨by rfl, ?xhy18⟩) (by assumption) ?xrest18
              case xhy18 =>
                intro u hSu
                obtain ⟨s0, s1, s2⟩ := hSu
                go_simp
                try with_reducible rfl
              try simp only [Act.put, List.getElem_toArray, List.getElem_cons_succ, List.getElem_cons_zero, List.setIfInBounds_toArray, List.set_cons_zero, List.set_cons_succ]
              refine wpAnyH_take (i := 19) (v := ?xvv19) rfl (by kernel_rfl) (by kernel_rfl) (by kernel_rfl) (fun _ _ _ h => h) (Or.inl ⟨by rfl, ?xhy19⟩) (by assumption) ?xrest19
              case xhy19 =>
                intro u hSu
                obtain ⟨s0, s1, s2⟩ := hSu
                go_simp
                try with_reducible rfl
              try simp only [Act.put, List.getElem_toArray, List.getElem_cons_succ, List.getElem_cons_zero, List.setIfInBounds_toArray, List.set_cons_zero, List.set_cons_succ]
              refine wpAnyH_ready (rs := [20]) (by kernel_rfl) (by simp) ?_
              refine AllReadyH.cons rfl (fun K hK => ?_) AllReadyH.nil
              (go_simp; go_at_call 20; (with_reducible refine (CRd.out _ HBw.out).mono ?_); rintro e w6 ⟨rfl, hB⟩; have HBx := Lib.hid (below_of HBw.out hB); have K6 := KC.out _ HBx.out; clear hB)
              refine hK.out _ _ ?xhS20 (fun hHeld => ?xrest20)
              case xhS20 => first | exact K6 | exact K0
              clear hK K
              try simp only [Act.put, List.getElem_toArray, List.getElem_cons_succ, List.getElem_cons_zero, List.setIfInBounds_toArray, List.set_cons_zero, List.set_cons_succ]
              refine wpAnyH_take (i := 21) (v := ?xvv21) rfl (by kernel_rfl) (by kernel_rfl) (by kernel_rfl) (fun _ _ _ h => h) (Or.inl ⟨by rfl, ?xhy21⟩) (by assumption) ?xrest21
              case xhy21 =>
                intro u hSu
                obtain ⟨s0, s1, s2⟩ := hSu
                go_simp
                try with_reducible rfl
              try simp only [Act.put, List.getElem_toArray, List.getElem_cons_succ, List.getElem_cons_zero, List.setIfInBounds_toArray, List.set_cons_zero, List.set_cons_succ]
              refine wpAnyH_take (i := 22) (v := ?xvv22) rfl (by kernel_rfl) (by kernel_rfl) (by kernel_rfl) (fun _ _ _ h => h) (Or.inl ⟨by rfl, ?xhy22⟩) (by assumption) ?xrest22
              case xhy22 =>
                intro u hSu
                obtain ⟨s0, s1, s2⟩ := hSu
                go_simp
                try with_reducible rfl
              try simp only [Act.put, List.getElem_toArray, List.getElem_cons_succ, List.getElem_cons_zero, List.setIfInBounds_toArray, List.set_cons_zero, List.set_cons_succ]
              refine wpAnyH_done (by kernel_rfl) ?_ _
              clear K0 K6
              obtain ⟨x1, x2, x3⟩ := KC.out _ HBx.out
              clear KC
              cases N0 with
              | true =>
                go_wp2_with fail
                go_roundw
                case rel => exact ⟨i + 1, by omega, by go_num, by rw [HR.out, decide_eq_false hq]; rfl, by rw [HN.out]; rfl, HBx⟩
                case measure => simp [intOf]; omega
              | false =>
                go_wp2_with (go_at_call 17; (with_reducible refine (CHd.out _ HBx.out).mono ?_); rintro e w9 ⟨rfl, hB9⟩; have HB9 := Lib.hid (below_of HBx.out hB9); clear hB9)
                go_roundw
                case rel => exact ⟨i + 1, by omega, by go_num, by rw [HR.out, decide_eq_false hq]; rfl, by rw [HN.out]; rfl, HB9⟩
                case measure => simp [intOf]; omega
        · obtain rfl : i = nn6 := by omega
          have et : ns6.take i = ns6 := List.take_of_length_le (by rw [HXL.out]; omega)
          obtain ⟨R, hR⟩ : ∃ R, R = rndM T xn6 (ns6.take i) := ⟨_, rfl⟩
          obtain ⟨N, hN⟩ : ∃ N, N = nonM T xn6 (ns6.take i) := ⟨_, rfl⟩
          rw [← hR, ← hN]
          rw [et] at hR hN
          clear et
          have hJ := J.out.belowS HB.out
          have CTt : Hid (Calls Try.prog 16 #[.pointer (some va), .string y6, .slice na6 i nc6] wr fun e u' => e = .returned (.int .i64 (turnM T xn6 ns6).2) ∧ Below V0.heap.size V0 u' ∧ (∃ S', PT S' u' (.pointer (some va)) (turnM T xn6 ns6).1) ∧ ((turnM T xn6 ns6).1 = T → ∃ S', PJ V0 p G S' u' (.pointer (some va)) la ln lc T)) := Lib.hid (by rw [HY.out]; exact hJ.turn_ hgd (by omega) xn6 HXN.out HX.out HXS.out (by rw [HXL.out]; omega))
          obtain ⟨x1, x2⟩ := KX.out _ BV.out
          clear hJ CH CRr HB J
          cases N with
          | true =>
            rw [turn_non hN.symm] at CTt
            clear hN hR
            go_upto_region 15 with (go_at_call 16; (with_reducible refine CTt.out.mono ?_); rintro e w9 ⟨rfl, hB9, hp9, hj9⟩; obtain ⟨S9, hJ9⟩ := hj9 rfl; have J9 := Lib.hid hJ9; clear hB9 hp9 hj9 hJ9)
            clear x1 x2 CTt
            obtain ⟨x1, x2⟩ := KX.out _ J9.out.B
            have z0 := J9.out.Z.cell 0
            have z6 := J9.out.Z.lt
            have CS : Hid (Calls Try.prog 12 #[.pointer (some va), gV la ln lc, .string y6, .string ⟨#[97]⟩] w9 fun e u' => e = .returned (.bool true) ∧ Below w9.heap.size w9 u') := Lib.hid (by rw [HY.out]; exact J9.out.same_ hgd (by omega) xn6 [97] HXN.out (by decide))
            go_wp2_with (first | (go_at_call 12; (with_reducible refine CS.out.mono ?_); rintro e w10 ⟨rfl, hB10⟩; have B10 := Lib.hid hB10; clear hB10) | (go_at_call 9; (with_reducible refine (AW.out _).mono ?_); rintro e w11 ⟨rfl, hB11⟩))
            go_ret
            exact ⟨rfl, below_of HB00.out (J9.out.B.trans ((below_of B10.out hB11).mono J9.out.B.size))⟩
          | false =>
            cases R with
            | true =>
              rw [turn_rnd hN.symm hR.symm] at CTt
              clear hN hR
              go_upto_region 15 with (go_at_call 16; (with_reducible refine CTt.out.mono ?_); rintro e w9 ⟨rfl, hB9, hp9, hj9⟩; obtain ⟨S9, hJ9⟩ := hj9 rfl; have J9 := Lib.hid hJ9; clear hB9 hp9 hj9 hJ9)
              clear x1 x2 CTt
              obtain ⟨x1, x2⟩ := KX.out _ J9.out.B
              have z0 := J9.out.Z.cell 0
              have z6 := J9.out.Z.lt
              have CS : Hid (Calls Try.prog 12 #[.pointer (some va), gV la ln lc, .string y6, .string ⟨#[97]⟩] w9 fun e u' => e = .returned (.bool true) ∧ Below w9.heap.size w9 u') := Lib.hid (by rw [HY.out]; exact J9.out.same_ hgd (by omega) xn6 [97] HXN.out (by decide))
              go_wp2_with (first | (go_at_call 12; (with_reducible refine CS.out.mono ?_); rintro e w10 ⟨rfl, hB10⟩; have B10 := Lib.hid hB10; clear hB10) | (go_at_call 9; (with_reducible refine (AW.out _).mono ?_); rintro e w11 ⟨rfl, hB11⟩))
              go_ret
              exact ⟨rfl, below_of HB00.out (J9.out.B.trans ((below_of B10.out hB11).mono J9.out.B.size))⟩
            | false =>
              obtain ⟨e2, e3⟩ := turn_ok hgd hN.symm hR.symm
              have hg9 := good_turn hgd xn6 ns6
              have hl9 : (turnM T xn6 ns6).1.length ≤ T.length + 1 := by
                have := act_size T (⟨3, xn6, none, 0, 0, ns6⟩ : Ac)
                simpa [actM] using this
              rw [e2] at CTt
              have HG9 := Lib.hid hg9
              have HL9 := Lib.hid (show (turnM T xn6 ns6).1.length ≤ 100 by omega)
              have HE9 := Lib.hid e3
              clear hN hR e2 e3 hg9 hl9
              generalize (turnM T xn6 ns6).1 = T9 at *
              go_upto_region 15 with (go_at_call 16; (with_reducible refine CTt.out.mono ?_); rintro e w9 ⟨rfl, hB9, hp9, hj9⟩; obtain ⟨S9, hP9⟩ := hp9; have P9 := Lib.hid hP9; have B9 := Lib.hid hB9; clear hB9 hP9 hj9)
              clear x1 x2 CTt
              have CDp : Hid (∀ u, Below w9.heap.size w9 u → Calls Try.prog 18 #[.pointer (some va), .string y6] u (IsL u (setM ns6))) := Lib.hid (fun u hu => by
                have hp := P9.out.keep hu.size fun g hg => hu.block g (P9.out.lt g hg)
                have := deps_any hp HG9.out HL9.out xn6 (by have := HXN.out; omega)
                rw [HE9.out, ← HY.out] at this
                exact this)
              have CSt : Hid (∀ u, Below V0.heap.size V0 u → Calls Try.prog 23 #[.slice na6 i nc6] u (IsL u (setM ns6))) := Lib.hid (fun u hu => refSet_any ((HX.out.below hu).mono fun g hg => Nat.lt_of_lt_of_le hg hu.size) (by omega))
              have CSm : Hid (∀ (u : World) (a b : Option Addr) (c c2 : Nat), Reads (· < u.heap.size) u (.slice a (setM ns6).length c) (strs (setM ns6)) → Reads (· < u.heap.size) u (.slice b (setM ns6).length c2) (strs (setM ns6)) → Calls Try.prog 22 #[.slice a (setM ns6).length c, .slice b (setM ns6).length c2] u fun e w' => e = .returned (.bool true) ∧ Below u.heap.size u w') := Lib.hid (fun u a b c c2 h1 h2 => by
                have := refSame_any h1 h2
                rw [decide_eq_true rfl] at this
                exact this)
              go_upto_region 19 with fail
              have hb9 : Below w9.heap.size w9 w9.drew := (Below.refl _ _).drew
              have HB9 := Lib.hid hb9
              have K0 := KX.out _ (B9.out.trans (hb9.mono B9.out.size))
              clear hb9
              refine wp_region_held_drew (S := fun u : World => u.cell? ⟨pb, 1, none⟩ = some (.string y6) ∧ u.cell? ⟨pb, 2, none⟩ = some (.slice na6 i nc6)) (by kernel_rfl) K0 (fun hHeld => ?_)
              refine wpAnyH_take (i := 0) (v := ?zvv0) rfl (by kernel_rfl) (by kernel_rfl) (by kernel_rfl) (fun _ _ _ h => h) (Or.inl ⟨by rfl, ?zhy0⟩) (by assumption) ?zrest0
              case zhy0 =>
                intro u hSu
                obtain ⟨s0, s1⟩ := hSu
                go_simp
                try with_reducible rfl
              try simp only [Act.put, List.getElem_toArray, List.getElem_cons_succ, List.getElem_cons_zero, List.setIfInBounds_toArray, List.set_cons_zero, List.set_cons_succ]
              refine wpAnyH_take (i := 1) (v := ?zvv1) rfl (by kernel_rfl) (by kernel_rfl) (by kernel_rfl) (fun _ _ _ h => h) (Or.inl ⟨by rfl, ?zhy1⟩) (by assumption) ?zrest1
              case zhy1 =>
                intro u hSu
                obtain ⟨s0, s1⟩ := hSu
                go_simp
                try with_reducible rfl
              try simp only [Act.put, List.getElem_toArray, List.getElem_cons_succ, List.getElem_cons_zero, List.setIfInBounds_toArray, List.set_cons_zero, List.set_cons_succ]
              refine wpAnyH_take (i := 2) (v := ?zvv2) rfl (by kernel_rfl) (by kernel_rfl) (by kernel_rfl) (fun _ _ _ h => h) (Or.inl ⟨by rfl, ?zhy2⟩) (by assumption) ?zrest2
              case zhy2 =>
                intro u hSu
                obtain ⟨s0, s1⟩ := hSu
                go_simp
                try with_reducible rfl
              try simp only [Act.put, List.getElem_toArray, List.getElem_cons_succ, List.getElem_cons_zero, List.setIfInBounds_toArray, List.set_cons_zero, List.set_cons_succ]
              refine wpAnyH_take (i := 3) (v := ?zvv3) rfl (by kernel_rfl) (by kernel_rfl) (by kernel_rfl) (fun _ _ _ h => h) (Or.inl ⟨by rfl, ?zhy3⟩) (by assumption) ?zrest3
              case zhy3 =>
                intro u hSu
                obtain ⟨s0, s1⟩ := hSu
                go_simp
                try with_reducible rfl
              try simp only [Act.put, List.getElem_toArray, List.getElem_cons_succ, List.getElem_cons_zero, List.setIfInBounds_toArray, List.set_cons_zero, List.set_cons_succ]
              refine wpAnyH_take (i := 4) (v := ?zvv4) rfl (by kernel_rfl) (by kernel_rfl) (by kernel_rfl) (fun _ _ _ h => h) (Or.inl ⟨by rfl, ?zhy4⟩) (by assumption) ?zrest4
              case zhy4 =>
                intro u hSu
                obtain ⟨s0, s1⟩ := hSu
                go_simp
                try with_reducible rfl
              try simp only [Act.put, List.getElem_toArray, List.getElem_cons_succ, List.getElem_cons_zero, List.setIfInBounds_toArray, List.set_cons_zero, List.set_cons_succ]
              refine wpAnyH_take (i := 5) (v := ?zvv5) rfl (by kernel_rfl) (by kernel_rfl) (by kernel_rfl) (fun _ _ _ h => h) (Or.inl ⟨by rfl, ?zhy5⟩) (by assumption) ?zrest5
              case zhy5 =>
                intro u hSu
                obtain ⟨s0, s1⟩ := hSu
                go_simp
                try with_reducible rfl
              try simp only [Act.put, List.getElem_toArray, List.getElem_cons_succ, List.getElem_cons_zero, List.setIfInBounds_toArray, List.set_cons_zero, List.set_cons_succ]
              refine wpAnyH_take (i := 7) (v := ?zvv7) rfl (by kernel_rfl) (by kernel_rfl) (by kernel_rfl) (fun _ _ _ h => h) (Or.inl ⟨by rfl, ?zhy7⟩) (by assumption) ?zrest7
              case zhy7 =>
                intro u hSu
                obtain ⟨s0, s1⟩ := hSu
                go_simp
                try with_reducible rfl
              try simp only [Act.put, List.getElem_toArray, List.getElem_cons_succ, List.getElem_cons_zero, List.setIfInBounds_toArray, List.set_cons_zero, List.set_cons_succ]
              refine wpAnyH_take (i := 8) (v := ?zvv8) rfl (by kernel_rfl) (by kernel_rfl) (by kernel_rfl) (fun _ _ _ h => h) (Or.inl ⟨by rfl, ?zhy8⟩) (by assumption) ?zrest8
              case zhy8 =>
                intro u hSu
                obtain ⟨s0, s1⟩ := hSu
                go_simp
                try with_reducible rfl
              try simp only [Act.put, List.getElem_toArray, List.getElem_cons_succ, List.getElem_cons_zero, List.setIfInBounds_toArray, List.set_cons_zero, List.set_cons_succ]
              refine wpAnyH_ready (rs := [6]) (by kernel_rfl) (by simp) ?_
              refine AllReadyH.cons rfl (fun K hK => ?_) AllReadyH.nil
              (go_simp; go_at_call 18; (with_reducible refine (CDp.out _ HB9.out).mono ?_); rintro e w10 ⟨da, dc, rfl, hR10, hB10⟩; have R10 := Lib.hid (hR10.mono fun g hg => hg.2); have HB10 := Lib.hid (below_of HB9.out hB10); have K10 := KX.out _ (B9.out.trans (HB10.out.mono B9.out.size)); clear hR10 hB10)
              refine hK.out _ _ ?zhS6 (fun hHeld => ?zrest6)
              case zhS6 => first | exact K13 | exact K12 | exact K11 | exact K10 | exact K0
              clear hK K
              try simp only [Act.put, List.getElem_toArray, List.getElem_cons_succ, List.getElem_cons_zero, List.setIfInBounds_toArray, List.set_cons_zero, List.set_cons_succ]
              refine wpAnyH_ready (rs := [9]) (by kernel_rfl) (by simp) ?_
              refine AllReadyH.cons rfl (fun K hK => ?_) AllReadyH.nil
              (go_simp; go_at_call 23; (with_reducible refine (CSt.out _ (B9.out.trans (HB10.out.mono B9.out.size))).mono ?_); rintro e w11 ⟨ea, ec, rfl, hR11, hB11⟩; have R11 := Lib.hid (hR11.mono fun g hg => hg.2); have R10' := Lib.hid ((R10.out.below hB11).mono fun g hg => Nat.lt_of_lt_of_le hg hB11.size); have HB11 := Lib.hid (below_of HB10.out hB11); have K11 := KX.out _ (B9.out.trans (HB11.out.mono B9.out.size)); clear hR11 hB11)
              refine hK.out _ _ ?zhS9 (fun hHeld => ?zrest9)
              case zhS9 => first | exact K13 | exact K12 | exact K11 | exact K10 | exact K0
              clear hK K
              try simp only [Act.put, List.getElem_toArray, List.getElem_cons_succ, List.getElem_cons_zero, List.setIfInBounds_toArray, List.set_cons_zero, List.set_cons_succ]
              refine wpAnyH_ready (rs := [10]) (by kernel_rfl) (by simp) ?_
              refine AllReadyH.cons rfl (fun K hK => ?_) AllReadyH.nil
              (go_simp; go_at_call 22; (with_reducible refine (CSm.out _ _ _ _ _ R10'.out R11.out).mono ?_); rintro e w12 ⟨rfl, hB12⟩; have HB12 := Lib.hid (below_of HB11.out hB12); have K12 := KX.out _ (B9.out.trans (HB12.out.mono B9.out.size)); clear hB12)
              refine hK.out _ _ ?zhS10 (fun hHeld => ?zrest10)
              case zhS10 => first | exact K13 | exact K12 | exact K11 | exact K10 | exact K0
              clear hK K
              try simp only [Act.put, List.getElem_toArray, List.getElem_cons_succ, List.getElem_cons_zero, List.setIfInBounds_toArray, List.set_cons_zero, List.set_cons_succ]
              refine wpAnyH_take (i := 11) (v := ?zvv11) rfl (by kernel_rfl) (by kernel_rfl) (by kernel_rfl) (fun _ _ _ h => h) (Or.inl ⟨by rfl, ?zhy11⟩) (by assumption) ?zrest11
              case zhy11 =>
                intro u hSu
                obtain ⟨s0, s1⟩ := hSu
                go_simp
                try with_reducible rfl
              try simp only [Act.put, List.getElem_toArray, List.getElem_cons_succ, List.getElem_cons_zero, List.setIfInBounds_toArray, List.set_cons_zero, List.set_cons_succ]
              refine wpAnyH_take (i := 12) (v := ?zvv12) rfl (by kernel_rfl) (by kernel_rfl) (by kernel_rfl) (fun _ _ _ h => h) (Or.inl ⟨by rfl, ?zhy12⟩) (by assumption) ?zrest12
              case zhy12 =>
                intro u hSu
                obtain ⟨s0, s1⟩ := hSu
                go_simp
                try with_reducible rfl
              try simp only [Act.put, List.getElem_toArray, List.getElem_cons_succ, List.getElem_cons_zero, List.setIfInBounds_toArray, List.set_cons_zero, List.set_cons_succ]
              refine wpAnyH_ready (rs := [13]) (by kernel_rfl) (by simp) ?_
              refine AllReadyH.cons rfl (fun K hK => ?_) AllReadyH.nil
              (go_simp; go_at_call 9; (with_reducible refine (AW.out _).mono ?_); rintro e w13 ⟨rfl, hB13⟩; have HB13 := Lib.hid (below_of HB12.out hB13); have K13 := KX.out _ (B9.out.trans (HB13.out.mono B9.out.size)); clear hB13)
              refine hK.out _ _ ?zhS13 (fun hHeld => ?zrest13)
              case zhS13 => first | exact K13 | exact K12 | exact K11 | exact K10 | exact K0
              clear hK K
              try simp only [Act.put, List.getElem_toArray, List.getElem_cons_succ, List.getElem_cons_zero, List.setIfInBounds_toArray, List.set_cons_zero, List.set_cons_succ]
              refine wpAnyH_take (i := 14) (v := ?zvv14) rfl (by kernel_rfl) (by kernel_rfl) (by kernel_rfl) (fun _ _ _ h => h) (Or.inl ⟨by rfl, ?zhy14⟩) (by assumption) ?zrest14
              case zhy14 =>
                intro u hSu
                obtain ⟨s0, s1⟩ := hSu
                go_simp
                try with_reducible rfl
              try simp only [Act.put, List.getElem_toArray, List.getElem_cons_succ, List.getElem_cons_zero, List.setIfInBounds_toArray, List.set_cons_zero, List.set_cons_succ]
              refine wpAnyH_take (i := 15) (v := ?zvv15) rfl (by kernel_rfl) (by kernel_rfl) (by kernel_rfl) (fun _ _ _ h => h) (Or.inl ⟨by rfl, ?zhy15⟩) (by assumption) ?zrest15
              case zhy15 =>
                intro u hSu
                obtain ⟨s0, s1⟩ := hSu
                go_simp
                try with_reducible rfl
              try simp only [Act.put, List.getElem_toArray, List.getElem_cons_succ, List.getElem_cons_zero, List.setIfInBounds_toArray, List.set_cons_zero, List.set_cons_succ]
              refine wpAnyH_done (by kernel_rfl) ?_ _
              clear K0 K10 K11 K12 K13
              go_wp2_with fail
              go_ret
              exact ⟨rfl, below_of HB00.out (B9.out.trans (HB13.out.mono B9.out.size))⟩
end
end Go.Proofs.Ytijcojidfallkaa.WK
