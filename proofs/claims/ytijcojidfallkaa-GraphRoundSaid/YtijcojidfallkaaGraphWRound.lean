/-
  The walk of GraphRound, over what the program's functions tell. Nothing here is a statement of the seed.
-/
import Derived.Test.YtijcojidfallkaaGraphRun
set_option linter.unusedSimpArgs false
set_option linter.unusedVariables false
namespace Go.Proofs.Ytijcojidfallkaa.WK
open Go.RowKit WM NR OM OR GM GR GF GP GL MV
set_option maxHeartbeats 4000000
set_option maxRecDepth 10000
/-- a map of bools: true, what the list has -/
def camF (l : List Tx) (s : Tx) : Option Value := if s ∈ l then some (.bool true) else none
theorem camF_get (l : List Tx) (s : Tx) : (camF l s).getD (.bool false) = .bool (decide (s ∈ l)) := by
  unfold camF
  split
  · next h => simp [h]
  · next h => simp [h]
theorem camF_in {l : List Tx} {s : Tx} (h : (camF l s).isSome = true) : s ∈ l := by
  unfold camF at h
  split at h
  · assumption
  · cases h
theorem camF_take (xs : List Tx) (k : Nat) (h : k < xs.length) (s : Tx) : (if s = xs.getD k [] then some (.bool true) else camF (xs.take k) s) = camF (xs.take (k + 1)) s := by
  have e : xs.take (k + 1) = xs.take k ++ [xs.getD k []] := by
    rw [List.take_add_one, List.getElem?_eq_getElem h, List.getD_eq_getElem?_getD, List.getElem?_eq_getElem h]
    rfl
  rw [e]
  unfold camF
  by_cases h1 : s = xs.getD k []
  · rw [if_pos h1, if_pos (by rw [h1]; simp)]
  · rw [if_neg h1]
    by_cases h2 : s ∈ xs.take k
    · rw [if_pos h2, if_pos (List.mem_append_left _ h2)]
    · rw [if_neg h2, if_neg (by rw [List.mem_append, List.mem_singleton]; exact fun h => h.elim h2 h1)]
theorem zeroB (w : World) : (zeroValue 4).run Try.prog w = .ok (.bool false) w := by kernel_rfl
theorem cam_look {u : World} {b : Nat} {l : List Tx} (h : ME u b (camF l)) {s : Tx} (hs : s.length ≤ maxLen) :
    (Instr.lookup 45 (.map (some b)) (.string (bs s)) false).run Try.prog u = .ok (.bool (decide (s ∈ l))) u := by
  have := h.look (T := 45) (E := 4) Try.underlying9 Try.underlying45 zeroB rfl hs
  rw [camF_get] at this
  exact this
theorem not_take {l : List Tx} (h : l.Nodup) {k : Nat} (hk : k < l.length) : l.getD k [] ∉ l.take k := by
  intro hm
  obtain ⟨j, hj, e⟩ := List.mem_iff_getElem.1 hm
  rw [List.length_take] at hj
  rw [List.getElem_take, List.getD_eq_getElem?_getD, List.getElem?_eq_getElem hk] at e
  exact (List.pairwise_iff_getElem.1 h) j k (by omega) hk (by omega) e
theorem no_round {g : List Nd} (hg : GM.Good g) (a : Tx) : reachesM g a a = false := by
  cases h : reachesM g a a with
  | false => rfl
  | true => exact absurd ((reaches_iff hg).1 h) (hg.acy a)
section
variable {w : World} {a : Option Addr} {n c : Nat} {l : List Ac}
theorem GraphRound_walk (h : ReadsA (· < w.heap.size) w (.slice a n c) l) (hs : ∀ x ∈ l, x.nm.length ≤ 140737488351232 ∧ ∀ s ∈ x.ns, s.length ≤ 140737488351232) :
    Calls Try.prog 5 #[.slice a n c] w fun e w' => e = .returned (.bool true) ∧ Below w.heap.size w w' := by
  obtain ⟨n1, m1, m2⟩ := h.len
  unfold maxLen at m2
  have hn : (n : Int) ≤ 9223372036854775807 := by omega
  have CF := Lib.hid (few_any h)
  have AW := Lib.hid awake_any
  cases hf : fewB l with
  | false =>
    rw [hf] at CF
    clear h hs n1 m1 m2 hf
    go_enter Try.func5, Try.ntmps5
    go_wp2_with (first | (go_at_call 8; (with_reducible refine CF.out.mono ?_); rintro e w1 ⟨rfl, hb1⟩) | (go_at_call 9; (with_reducible refine (AW.out _).mono ?_); rintro e w2 ⟨rfl, hb2⟩))
    go_ret
    exact ⟨rfl, hb1.trans (hb2.mono hb1.size)⟩
  | true =>
  rw [hf] at CF
  have HS3 : Hid (∀ k, k < n → (l.getD k ac0).ns.length ≤ 1000) := Lib.hid (fun k hk => Nat.le_trans (few_len h hf k hk) (by omega))
  have h24 : n ≤ 24 := by
    unfold fewB at hf
    rw [Bool.and_eq_true] at hf
    have := of_decide_eq_true hf.1
    omega
  have HA := Lib.hid h
  have HS : Hid (∀ k, k < n → (l.getD k ac0).nm.length ≤ 140737488351232 ∧ ∀ s ∈ (l.getD k ac0).ns, s.length ≤ 140737488351232) := Lib.hid (fun k hk => hs _ (by rw [List.getD_eq_getElem?_getD, List.getElem?_eq_getElem (by omega)]; exact List.getElem_mem _))
  have HL := Lib.hid n1
  have q2 : (n : Int) ≤ c := by omega
  have hmm := @run_makeMap Try.prog
  clear h hs n1 m2 hf
  go_enter Try.func5, Try.ntmps5
  go_upto_region 3 with (go_at_call 8; (with_reducible refine CF.out.mono ?_); rintro e w1 ⟨rfl, hb1⟩; have B1 := Lib.hid hb1; clear hb1)
  go_upto_region 4 with (go_at_call 10; (with_reducible refine (new_any _).mono ?_); rintro e w2 ⟨v, S, rfl, hP, hS, hb2⟩; have P2 := Lib.hid hP; have S2 := Lib.hid (fun b hb => Nat.le_trans B1.out.size (hS b hb)); have B2 := Lib.hid (B1.out.trans (hb2.mono B1.out.size)); clear hP hS hb2)
  have J0 : Hid (PJ w w2.heap.size (fun _ => False) S (w2.alloc (.cells #[.slice none 0 0] 29)) v none 0 0 []) := Lib.hid (PJ.zero P2.out S2.out B2.out)
  obtain ⟨va, rfl⟩ := P2.out.form
  clear P2 S2 B2 B1 CF
  generalize w2.alloc (.cells #[.slice none 0 0] 29) = W3 at *
  generalize w2.heap.size = p at *
  go_wp2_with fail
  go_loopw [5] (fun i wr => ∃ k : Nat, k ≤ n ∧ i = .int .i64 (k : Int) ∧ ∃ G S la ln lc, Hid (PJ w p G S wr (.pointer (some va)) la ln lc (runM [] (l.take k)))) (fun i _ => n - (intOf i).toNat)
  case atStart => exact ⟨0, by omega, rfl, _, _, _, _, _, J0⟩
  case round =>
    obtain ⟨k, hk, rfl, G, S, la, ln, lc, J⟩ := hrel
    clear J0
    by_cases hlt : k < n
    · have hlt' : (k : Int) < n := by omega
      have hbd := run_bd l k (by rw [HL.out]; exact h24)
      have hgd := run_good (l.take k) _ good_nil
      obtain ⟨g, off, rfl, q1, hat, hok⟩ := HA.out.at J.out.B hlt
      have hb0 : Below wr.heap.size wr wr.drew := (Below.refl _ _).drew
      have J1 := Lib.hid (J.out.belowS hb0)
      have KA : Hid (∀ u, Below w.heap.size w u → AcAt u g (off + k * 3) (l.getD k ac0) ∧ AcOk (· < w.heap.size) u (l.getD k ac0)) := Lib.hid (fun u hu => by
        obtain ⟨g', off', e, _, e1, e2⟩ := HA.out.at hu hlt
        simp only [Option.some.injEq, Addr.mk.injEq, and_true] at e
        obtain ⟨rfl, rfl⟩ := e
        exact ⟨e1, e2⟩)
      have CD := Lib.hid (J1.out.do_ hgd (by omega) (l.getD k ac0) (KA.out _ J1.out.B).2 (HS.out k hlt).1 (HS.out k hlt).2 (HS3.out k hlt))
      have hrt := runM_take [] l k (by rw [HL.out]; exact hlt)
      rw [← hrt] at CD
      have KB : Hid (∀ u, Below w.heap.size w u → AcAt u g (off + k * 3) (l.getD k ac0)) := Lib.hid (fun u hu => (KA.out u hu).1)
      clear hbd hgd hat hok hrt KA
      obtain ⟨T9, hT⟩ : ∃ T9, T9 = runM [] (l.take (k + 1)) := ⟨_, rfl⟩
      rw [← hT] at CD
      have HT := Lib.hid hT
      clear hT
      obtain ⟨X, hX⟩ : ∃ X, X = l.getD k ac0 := ⟨_, rfl⟩
      rw [← hX] at CD KB
      clear hX
      obtain ⟨xk, xn, na, nn, nc, ns⟩ := X
      change Hid (Calls _ _ #[_, _, .agg #[.int .u8 xk, .string (bs xn), .slice na nn nc]] _ _) at CD
      have KB : Hid (∀ u : World, Below w.heap.size w u → u.cell? ⟨g, off + k * 3, none⟩ = some (.int .u8 xk) ∧ u.cell? ⟨g, off + k * 3 + 1, none⟩ = some (.string (bs xn)) ∧ u.cell? ⟨g, off + k * 3 + 2, none⟩ = some (.slice na nn nc)) := KB
      generalize bs xn = y at *
      have K0 := KB.out _ J1.out.B
      have z0 := J1.out.Z.cell 0
      have z6 := J1.out.Z.lt
      go_upto_region 7 with fail
      refine wp_region_held_drew (S := fun u => u.cell? ⟨g, off + k * 3, none⟩ = some (.int .u8 xk) ∧ u.cell? ⟨g, off + k * 3 + 1, none⟩ = some (.string y) ∧ u.cell? ⟨g, off + k * 3 + 2, none⟩ = some (.slice na nn nc)) (by kernel_rfl) K0 (fun hHeld => ?_)
      refine wpAnyH_take (i := 0) (v := ?aavv0) rfl (by kernel_rfl) (by kernel_rfl) (by kernel_rfl) (fun _ _ _ h => h) (Or.inl ⟨by rfl, ?aahy0⟩) (by assumption) ?aarest0
      case aahy0 =>
        intro u hSu
        obtain ⟨s0, s1, s2⟩ := hSu
        go_simp
        try with_reducible rfl
      try simp only [Act.put, List.getElem_toArray, List.getElem_cons_succ, List.getElem_cons_zero, List.setIfInBounds_toArray, List.set_cons_zero, List.set_cons_succ]
      refine wpAnyH_take (i := 2) (v := ?aavv2) rfl (by kernel_rfl) (by kernel_rfl) (by kernel_rfl) (fun _ _ _ h => h) (Or.inl ⟨by rfl, ?aahy2⟩) (by assumption) ?aarest2
      case aahy2 =>
        intro u hSu
        obtain ⟨s0, s1, s2⟩ := hSu
        go_simp
        try with_reducible rfl
      try simp only [Act.put, List.getElem_toArray, List.getElem_cons_succ, List.getElem_cons_zero, List.setIfInBounds_toArray, List.set_cons_zero, List.set_cons_succ]
      refine wpAnyH_take (i := 3) (v := ?aavv3) rfl (by kernel_rfl) (by kernel_rfl) (by kernel_rfl) (fun _ _ _ h => h) (Or.inl ⟨by rfl, ?aahy3⟩) (by assumption) ?aarest3
      case aahy3 =>
        intro u hSu
        obtain ⟨s0, s1, s2⟩ := hSu
        go_simp
        try with_reducible rfl
      try simp only [Act.put, List.getElem_toArray, List.getElem_cons_succ, List.getElem_cons_zero, List.setIfInBounds_toArray, List.set_cons_zero, List.set_cons_succ]
      refine wpAnyH_take (i := 4) (v := ?aavv4) rfl (by kernel_rfl) (by kernel_rfl) (by kernel_rfl) (fun _ _ _ h => h) (Or.inl ⟨by rfl, ?aahy4⟩) (by assumption) ?aarest4
      case aahy4 =>
        intro u hSu
        obtain ⟨s0, s1, s2⟩ := hSu
        go_simp
        try with_reducible rfl
      try simp only [Act.put, List.getElem_toArray, List.getElem_cons_succ, List.getElem_cons_zero, List.setIfInBounds_toArray, List.set_cons_zero, List.set_cons_succ]
      refine wpAnyH_take (i := 5) (v := ?aavv5) rfl (by kernel_rfl) (by kernel_rfl) (by kernel_rfl) (fun _ _ _ h => h) (Or.inl ⟨by rfl, ?aahy5⟩) (by assumption) ?aarest5
      case aahy5 =>
        intro u hSu
        obtain ⟨s0, s1, s2⟩ := hSu
        go_simp
        try with_reducible rfl
      try simp only [Act.put, List.getElem_toArray, List.getElem_cons_succ, List.getElem_cons_zero, List.setIfInBounds_toArray, List.set_cons_zero, List.set_cons_succ]
      refine wpAnyH_ready (rs := [1]) (by kernel_rfl) (by simp) ?_
      refine AllReadyH.cons rfl (fun K hK => ?_) AllReadyH.nil
      go_simp
      refine hK.out _ _ K0 (fun hHeld => ?_)
      clear hK K
      try simp only [Act.put, List.getElem_toArray, List.getElem_cons_succ, List.getElem_cons_zero, List.setIfInBounds_toArray, List.set_cons_zero, List.set_cons_succ]
      refine wpAnyH_ready (rs := [6]) (by kernel_rfl) (by simp) ?_
      refine AllReadyH.cons rfl (fun K hK => ?_) AllReadyH.nil
      (go_simp; go_at_call 11; (with_reducible refine (CD.out).mono ?_); rintro e w5 ⟨la', ln', lc', G', S', rfl, hB5, zz, J5⟩; have K5 := KB.out _ hB5; have K6 := KB.out _ J5.B; have J6 := Lib.hid J5; have y0 := zz.cell 0; have y6 := zz.lt; have yf0 := zz.frozen 0; clear hB5 J5 zz)
      refine hK.out _ _ ?abhS6 (fun hHeld => ?abrest6)
      case abhS6 => first | exact K6 | exact K5 | exact K0
      clear hK K
      try simp only [Act.put, List.getElem_toArray, List.getElem_cons_succ, List.getElem_cons_zero, List.setIfInBounds_toArray, List.set_cons_zero, List.set_cons_succ]
      refine wpAnyH_take (i := 7) (v := ?abvv7) rfl (by kernel_rfl) (by kernel_rfl) (by kernel_rfl) (fun _ _ _ h => h) (Or.inl ⟨by rfl, ?abhy7⟩) (by assumption) ?abrest7
      case abhy7 =>
        intro u hSu
        obtain ⟨s0, s1, s2⟩ := hSu
        go_simp
        try with_reducible rfl
      try simp only [Act.put, List.getElem_toArray, List.getElem_cons_succ, List.getElem_cons_zero, List.setIfInBounds_toArray, List.set_cons_zero, List.set_cons_succ]
      refine wpAnyH_take (i := 8) (v := ?abvv8) rfl (by kernel_rfl) (by kernel_rfl) (by kernel_rfl) (fun _ _ _ h => h) (Or.inl ⟨by rfl, ?abhy8⟩) (by assumption) ?abrest8
      case abhy8 =>
        intro u hSu
        obtain ⟨s0, s1, s2⟩ := hSu
        go_simp
        try with_reducible rfl
      try simp only [Act.put, List.getElem_toArray, List.getElem_cons_succ, List.getElem_cons_zero, List.setIfInBounds_toArray, List.set_cons_zero, List.set_cons_succ]
      refine wpAnyH_take (i := 9) (v := ?abvv9) rfl (by kernel_rfl) (by kernel_rfl) (by kernel_rfl) (fun _ _ _ h => h) (Or.inl ⟨by rfl, ?abhy9⟩) (by assumption) ?abrest9
      case abhy9 =>
        intro u hSu
        obtain ⟨s0, s1, s2⟩ := hSu
        go_simp
        try with_reducible rfl
      try simp only [Act.put, List.getElem_toArray, List.getElem_cons_succ, List.getElem_cons_zero, List.setIfInBounds_toArray, List.set_cons_zero, List.set_cons_succ]
      refine wpAnyH_ready (rs := [10]) (by kernel_rfl) (by simp) ?_
      refine AllReadyH.cons rfl (fun K hK => ?_) AllReadyH.nil
      go_simp
      refine hK.out _ _ ?abhS10 (fun hHeld => ?abrest10)
      case abhS10 => first | exact K6 | exact K5 | exact K0
      clear hK K
      try simp only [Act.put, List.getElem_toArray, List.getElem_cons_succ, List.getElem_cons_zero, List.setIfInBounds_toArray, List.set_cons_zero, List.set_cons_succ]
      refine wpAnyH_done (by kernel_rfl) ?_ _
      rw [HT.out] at J6
      clear K0 K5 K6 y0 y6 yf0 z0 z6 J1 CD HT KB
      clear J
      go_wp2_with fail
      go_roundw
      case rel => exact ⟨k + 1, by omega, by go_num, _, _, _, _, _, J6⟩
      case measure => simp [intOf]; omega
    · obtain rfl : k = n := by omega
      have hgd := run_good l _ good_nil
      have hbd := run_bd l k (by rw [HL.out]; exact h24)
      rw [List.take_of_length_le (by rw [HL.out]; omega)] at hbd J
      obtain ⟨T, hT⟩ : ∃ T, T = runM [] l := ⟨_, rfl⟩
      rw [← hT] at hbd J hgd
      clear hT
      obtain ⟨n, hnk⟩ : ∃ n', n' = k := ⟨_, rfl⟩
      subst hnk
      have PTU : Hid (∀ u, Below wr.heap.size wr u → PT S u (.pointer (some va)) T) := Lib.hid (fun u hb => (J.out.belowS hb).pt)
      have JB := Lib.hid J.out.B
      obtain ⟨ho, hol⟩ := order_all hgd
      have HZ : Hid (∀ x, hasM T x = true → x.length ≤ 9223372036854775807) := Lib.hid (fun x hx => by
        obtain ⟨pa, pb, pk, _, hp⟩ := PTU.out wr (Below.refl _ _)
        have := hp.has_len hx
        unfold maxLen at this
        exact this)
      have CO : Hid (∀ u, Below wr.heap.size wr u → Calls Try.prog 21 #[.pointer (some va)] u (IsL u (orderM T))) := Lib.hid (fun u hb => order_any (PTU.out u hb) hgd (by omega))
      have CD : Hid (∀ x : Tx, x.length ≤ 9223372036854775807 → ∀ u, Below wr.heap.size wr u → Calls Try.prog 18 #[.pointer (some va), .string (bs x)] u (IsL u (depsM T x))) := Lib.hid (fun x hx u hb => deps_any (PTU.out u hb) hgd (by omega) x hx)
      have CH : Hid (∀ x : Tx, x.length ≤ 9223372036854775807 → ∀ u, Below wr.heap.size wr u → Calls Try.prog 17 #[.pointer (some va), .string (bs x)] u fun e u' => e = .returned (.bool (hasM T x)) ∧ Below u.heap.size u u') := Lib.hid (fun x hx u hb => has_any (PTU.out u hb) hgd (by omega) x hx)
      have CR : Hid (∀ x : Tx, x.length ≤ 9223372036854775807 → ∀ u, Below wr.heap.size wr u → Calls Try.prog 20 #[.pointer (some va), .string (bs x), .string (bs x)] u fun e u' => e = .returned (.bool false) ∧ Below u.heap.size u u') := Lib.hid (fun x hx u hb => by have := reaches_any (PTU.out u hb) hgd (by omega) x x hx hx; rw [no_round hgd] at this; exact this)
      have HM : Hid (∀ x, x ∈ orderM T ↔ hasM T x = true) := Lib.hid (order_mem hgd)
      have HDL : Hid (∀ x, (depsM T x).length ≤ 24 ∧ ∀ d ∈ depsM T x, d.length ≤ 9223372036854775807) := Lib.hid (fun x => ⟨Nat.le_trans (nodup_len (hgd.deps_rise x).nodup fun y hy => hgd.dep_node hy) hbd, fun d hd => HZ.out d (hgd.dep_node hd)⟩)
      have HO := Lib.hid ho
      have hol : (orderM T).length ≤ 24 := by omega
      clear ho hgd hbd J HS3
      obtain ⟨w7, hw7⟩ : ∃ x, x = wr := ⟨_, rfl⟩
      subst hw7
      obtain ⟨O, hO⟩ : ∃ O, O = orderM T := ⟨_, rfl⟩
      rw [← hO] at CO HM HO hol
      clear hO
      go_upto_region 9 with (go_at_call 21; (with_reducible refine (CO.out _ (Below.refl _ _)).mono ?_); rintro e w3 ⟨oa, oc, rfl, hR, hB⟩; have R3 := Lib.hid hR; have B3 := Lib.hid hB; clear hR hB)
      clear CO
      go_upto_region 10 with fail
      have HM0 : Hid (ME (w3.alloc (.map #[] 0)) w3.heap.size (camF (O.take 0))) := Lib.hid ((MapV.made (P := Try.prog) (K := 9) (ok := any) w3).as (fun s _ => rfl))
      have HB0 : Hid (Below w3.heap.size w3 (w3.alloc (.map #[] 0))) := Lib.hid (below_new _ _)
      generalize w3.alloc (.map #[] 0) = W4 at *
      obtain ⟨cm, hcm⟩ : ∃ cm, cm = w3.heap.size := ⟨_, rfl⟩
      rw [← hcm] at HM0 ⊢
      have HCM := Lib.hid hcm
      clear hcm hmm
      have olz : (O.length : Int) ≤ 24 := by omega
      go_wp2_with fail
      go_loopw [8] (fun i wr => ∃ k : Nat, k ≤ O.length ∧ i = .int .i64 (k : Int) ∧ Hid (ME wr cm (camF (O.take k))) ∧ Hid (Below w3.heap.size w3 wr)) (fun i _ => O.length - (intOf i).toNat)
      case atStart => exact ⟨0, by omega, rfl, HM0, HB0⟩
      case round =>
        obtain ⟨k, hk, rfl, HE, HB⟩ := hrel
        clear HM0 HB0
        by_cases hlt : k < O.length
        · have hlt' : (k : Int) < O.length := by omega
          obtain ⟨gb, off, rfl, q1, hKC⟩ := strs_reads R3.out hlt
          have q1z : (O.length : Int) ≤ oc := by omega
          have KC : Hid (∀ u, Below w3.heap.size w3 u → u.cell? ⟨gb, off + k, none⟩ = some (.string (bs (O.getD k [])))) := Lib.hid (fun u hu => hKC u fun g hg _ => hu.block g hg.2)
          clear hKC
          have hh := HO.out.sub _ (getD_in hlt)
          have hx := HZ.out _ hh
          have B7 := Lib.hid (below_of B3.out HB.out)
          have CDk := Lib.hid (CD.out _ hx wr B7.out)
          have CHk := Lib.hid (CH.out _ hx)
          rw [hh] at CHk
          have CRk := Lib.hid (CR.out _ hx)
          have HDk := Lib.hid (HO.out.ahead k hlt)
          obtain ⟨hdl, hdz⟩ := HDL.out (O.getD k [])
          have HDZ := Lib.hid hdz
          have LKo := Lib.hid (fun (u : World) (hu : ME u cm (camF (O.take k))) => cam_look hu (s := O.getD k []) (by unfold maxLen; omega))
          rw [decide_eq_false (not_take HO.out.nd hlt)] at LKo
          have PU := Lib.hid (fun (u : World) (hu : ME u cm (camF (O.take k))) => hu.put (T := 45) Try.underlying9 Try.underlying45 (l := O.take k) (fun s _ h => camF_in h) (by rw [List.length_take]; unfold maxLen; omega) (s := O.getD k []) (by unfold maxLen; omega) (v := .bool true) rfl)
          have ET := Lib.hid (camF_take O k hlt)
          have c1 := KC.out _ HB.out
          obtain ⟨D, hD⟩ : ∃ D, D = depsM T (O.getD k []) := ⟨_, rfl⟩
          rw [← hD] at CDk HDk hdl HDZ
          clear hD hdz hh hx
          obtain ⟨X, hX⟩ : ∃ X, X = bs (O.getD k []) := ⟨_, rfl⟩
          rw [← hX] at CDk CHk CRk LKo PU KC c1
          clear hX
          have hdlz : (D.length : Int) ≤ 24 := by omega
          go_upto_region 14 with (go_at_call 18; (with_reducible refine CDk.out.mono ?_); rintro e w5 ⟨da, dc, rfl, hR5, hB5⟩; have R5 := Lib.hid hR5; have B5 := Lib.hid hB5; clear hR5 hB5)
          clear c1 CDk
          have HE5 := Lib.hid (HE.out.belowS B5.out)
          have B35 := Lib.hid (below_of HB.out B5.out)
          have B75 := Lib.hid (below_of B7.out B5.out)
          have LK : Hid (∀ j, j < D.length → (Instr.lookup 45 (.map (some cm)) (.string (bs (D.getD j []))) false).run Try.prog w5 = .ok (.bool true) w5) := Lib.hid (fun j hj => by
            have := cam_look HE5.out (s := D.getD j []) (by have := HDZ.out _ (getD_in hj); unfold maxLen; omega)
            rw [decide_eq_true (HDk.out _ (getD_in hj))] at this
            exact this)
          clear HE HB B7 B5 HDk HDZ
          go_wp2_with fail
          go_loopw [10] (fun i wr => ∃ j : Nat, j ≤ D.length ∧ i = .int .i64 (j : Int) ∧ wr = w5) (fun i _ => D.length - (intOf i).toNat)
          case atStart => exact ⟨0, by omega, rfl, by first | rfl | trivial⟩
          case round =>
            obtain ⟨j, hj, rfl, hw⟩ := hrel
            subst hw
            by_cases hl2 : j < D.length
            · have hl2' : (j : Int) < D.length := by omega
              obtain ⟨gd, ofd, rfl, q5, hc5⟩ := strs_reads R5.out hl2
              have c5 := hc5 _ (fun _ _ _ => rfl)
              have q5z : (D.length : Int) ≤ dc := by omega
              have lk := LK.out j hl2
              clear hc5
              generalize bs (D.getD j []) = y at *
              go_wp2_with fail
              go_roundw
              case rel => exact ⟨j + 1, by omega, by go_num, by first | rfl | trivial⟩
              case measure => simp [intOf]; omega
            · obtain rfl : j = D.length := by omega
              clear LK R5
              go_upto_region 19 with fail
              rename World => w5
              have hb0 : Below w5.heap.size w5 w5.drew := (Below.refl _ _).drew
              have HB0 := Lib.hid hb0
              have KB : Hid (∀ u : World, Below w5.heap.size w5 u → u.cell? ⟨gb, off + k, none⟩ = some (.string X) ∧ (Instr.lookup 45 (.map (some cm)) (.string X) false).run Try.prog u = .ok (.bool false) u) := Lib.hid (fun u hu => ⟨KC.out _ (below_of B35.out hu), LKo.out _ (HE5.out.belowS hu)⟩)
              have K0 := KB.out _ hb0
              clear hb0
              refine wp_region_held_drew (S := fun u : World => u.cell? ⟨gb, off + k, none⟩ = some (.string X) ∧ (Instr.lookup 45 (.map (some cm)) (.string X) false).run Try.prog u = .ok (.bool false) u) (by kernel_rfl) K0 (fun hHeld => ?_)
              refine wpAnyH_take (i := 0) (v := ?rvv0) rfl (by kernel_rfl) (by kernel_rfl) (by kernel_rfl) (fun _ _ _ h => h) (Or.inl ⟨by rfl, ?rhy0⟩) (by assumption) ?rrest0
              case rhy0 =>
                intro u hSu
                obtain ⟨s0, s1⟩ := hSu
                go_simp
                try with_reducible rfl
              try simp only [Act.put, List.getElem_toArray, List.getElem_cons_succ, List.getElem_cons_zero, List.setIfInBounds_toArray, List.set_cons_zero, List.set_cons_succ]
              refine wpAnyH_take (i := 1) (v := ?rvv1) rfl (by kernel_rfl) (by kernel_rfl) (by kernel_rfl) (fun _ _ _ h => h) (Or.inl ⟨by rfl, ?rhy1⟩) (by assumption) ?rrest1
              case rhy1 =>
                intro u hSu
                obtain ⟨s0, s1⟩ := hSu
                go_simp
                try with_reducible rfl
              try simp only [Act.put, List.getElem_toArray, List.getElem_cons_succ, List.getElem_cons_zero, List.setIfInBounds_toArray, List.set_cons_zero, List.set_cons_succ]
              refine wpAnyH_take (i := 2) (v := ?rvv2) rfl (by kernel_rfl) (by kernel_rfl) (by kernel_rfl) (fun _ _ _ h => h) (Or.inl ⟨by rfl, ?rhy2⟩) (by assumption) ?rrest2
              case rhy2 =>
                intro u hSu
                obtain ⟨s0, s1⟩ := hSu
                go_simp
                try with_reducible rfl
              try simp only [Act.put, List.getElem_toArray, List.getElem_cons_succ, List.getElem_cons_zero, List.setIfInBounds_toArray, List.set_cons_zero, List.set_cons_succ]
              refine wpAnyH_take (i := 3) (v := ?rvv3) rfl (by kernel_rfl) (by kernel_rfl) (by kernel_rfl) (fun _ _ _ h => h) (Or.inl ⟨by rfl, ?rhy3⟩) (by assumption) ?rrest3
              case rhy3 =>
                intro u hSu
                obtain ⟨s0, s1⟩ := hSu
                go_simp
                try with_reducible rfl
              try simp only [Act.put, List.getElem_toArray, List.getElem_cons_succ, List.getElem_cons_zero, List.setIfInBounds_toArray, List.set_cons_zero, List.set_cons_succ]
              refine wpAnyH_take (i := 4) (v := ?rvv4) rfl (by kernel_rfl) (by kernel_rfl) (by kernel_rfl) (fun _ _ _ h => h) (Or.inl ⟨by rfl, ?rhy4⟩) (by assumption) ?rrest4
              case rhy4 =>
                intro u hSu
                obtain ⟨s0, s1⟩ := hSu
                go_simp
                try with_reducible rfl
              try simp only [Act.put, List.getElem_toArray, List.getElem_cons_succ, List.getElem_cons_zero, List.setIfInBounds_toArray, List.set_cons_zero, List.set_cons_succ]
              refine wpAnyH_take (i := 5) (v := ?rvv5) rfl (by kernel_rfl) (by kernel_rfl) (by kernel_rfl) (fun _ _ _ h => h) (Or.inl ⟨by rfl, ?rhy5⟩) (by assumption) ?rrest5
              case rhy5 =>
                intro u hSu
                obtain ⟨s0, s1⟩ := hSu
                go_simp
                try with_reducible rfl
              try simp only [Act.put, List.getElem_toArray, List.getElem_cons_succ, List.getElem_cons_zero, List.setIfInBounds_toArray, List.set_cons_zero, List.set_cons_succ]
              refine wpAnyH_take (i := 6) (v := ?rvv6) rfl (by kernel_rfl) (by kernel_rfl) (by kernel_rfl) (fun _ _ _ h => h) (Or.inl ⟨by rfl, ?rhy6⟩) (by assumption) ?rrest6
              case rhy6 =>
                intro u hSu
                obtain ⟨s0, s1⟩ := hSu
                go_simp
                try with_reducible rfl
              try simp only [Act.put, List.getElem_toArray, List.getElem_cons_succ, List.getElem_cons_zero, List.setIfInBounds_toArray, List.set_cons_zero, List.set_cons_succ]
              refine wpAnyH_take (i := 7) (v := ?rvv7) rfl (by kernel_rfl) (by kernel_rfl) (by kernel_rfl) (fun _ _ _ h => h) (Or.inl ⟨by rfl, ?rhy7⟩) (by assumption) ?rrest7
              case rhy7 =>
                intro u hSu
                obtain ⟨s0, s1⟩ := hSu
                go_simp
                try with_reducible rfl
              try simp only [Act.put, List.getElem_toArray, List.getElem_cons_succ, List.getElem_cons_zero, List.setIfInBounds_toArray, List.set_cons_zero, List.set_cons_succ]
              refine wpAnyH_take (i := 8) (v := ?rvv8) rfl (by kernel_rfl) (by kernel_rfl) (by kernel_rfl) (fun _ _ _ h => h) (Or.inl ⟨by rfl, ?rhy8⟩) (by assumption) ?rrest8
              case rhy8 =>
                intro u hSu
                obtain ⟨s0, s1⟩ := hSu
                go_simp
                try with_reducible rfl
              try simp only [Act.put, List.getElem_toArray, List.getElem_cons_succ, List.getElem_cons_zero, List.setIfInBounds_toArray, List.set_cons_zero, List.set_cons_succ]
              refine wpAnyH_take (i := 9) (v := ?rvv9) rfl (by kernel_rfl) (by kernel_rfl) (by kernel_rfl) (fun _ _ _ h => h) (Or.inl ⟨by rfl, ?rhy9⟩) (by assumption) ?rrest9
              case rhy9 =>
                intro u hSu
                obtain ⟨s0, s1⟩ := hSu
                go_simp
                try with_reducible rfl
              try simp only [Act.put, List.getElem_toArray, List.getElem_cons_succ, List.getElem_cons_zero, List.setIfInBounds_toArray, List.set_cons_zero, List.set_cons_succ]
              refine wpAnyH_take (i := 10) (v := ?rvv10) rfl (by kernel_rfl) (by kernel_rfl) (by kernel_rfl) (fun _ _ _ h => h) (Or.inl ⟨by rfl, ?rhy10⟩) (by assumption) ?rrest10
              case rhy10 =>
                intro u hSu
                obtain ⟨s0, s1⟩ := hSu
                go_simp
                try with_reducible rfl
              try simp only [Act.put, List.getElem_toArray, List.getElem_cons_succ, List.getElem_cons_zero, List.setIfInBounds_toArray, List.set_cons_zero, List.set_cons_succ]
              refine wpAnyH_take (i := 11) (v := ?rvv11) rfl (by kernel_rfl) (by kernel_rfl) (by kernel_rfl) (fun _ _ _ h => h) (Or.inl ⟨by rfl, ?rhy11⟩) (by assumption) ?rrest11
              case rhy11 =>
                intro u hSu
                obtain ⟨s0, s1⟩ := hSu
                go_simp
                try with_reducible rfl
              try simp only [Act.put, List.getElem_toArray, List.getElem_cons_succ, List.getElem_cons_zero, List.setIfInBounds_toArray, List.set_cons_zero, List.set_cons_succ]
              refine wpAnyH_ready (rs := [12]) (by kernel_rfl) (by simp) ?_
              refine AllReadyH.cons rfl (fun K hK => ?_) AllReadyH.nil
              (go_simp; go_at_call 17; (with_reducible refine (CHk.out _ (below_of B75.out HB0.out)).mono ?_); rintro e w6 ⟨rfl, hB⟩; have HB6 := Lib.hid (below_of HB0.out hB); have K6 := KB.out _ HB6.out; clear hB)
              refine hK.out _ _ ?rhS12 (fun hHeld => ?rrest12)
              case rhS12 => first | exact K8 | exact K6 | exact K0
              clear hK K
              try simp only [Act.put, List.getElem_toArray, List.getElem_cons_succ, List.getElem_cons_zero, List.setIfInBounds_toArray, List.set_cons_zero, List.set_cons_succ]
              refine wpAnyH_take (i := 13) (v := ?rvv13) rfl (by kernel_rfl) (by kernel_rfl) (by kernel_rfl) (fun _ _ _ h => h) (Or.inl ⟨by rfl, ?rhy13⟩) (by assumption) ?rrest13
              case rhy13 =>
                intro u hSu
                obtain ⟨s0, s1⟩ := hSu
                go_simp
                try with_reducible rfl
              try simp only [Act.put, List.getElem_toArray, List.getElem_cons_succ, List.getElem_cons_zero, List.setIfInBounds_toArray, List.set_cons_zero, List.set_cons_succ]
              refine wpAnyH_take (i := 14) (v := ?rvv14) rfl (by kernel_rfl) (by kernel_rfl) (by kernel_rfl) (fun _ _ _ h => h) (Or.inl ⟨by rfl, ?rhy14⟩) (by assumption) ?rrest14
              case rhy14 =>
                intro u hSu
                obtain ⟨s0, s1⟩ := hSu
                go_simp
                try with_reducible rfl
              try simp only [Act.put, List.getElem_toArray, List.getElem_cons_succ, List.getElem_cons_zero, List.setIfInBounds_toArray, List.set_cons_zero, List.set_cons_succ]
              refine wpAnyH_take (i := 15) (v := ?rvv15) rfl (by kernel_rfl) (by kernel_rfl) (by kernel_rfl) (fun _ _ _ h => h) (Or.inl ⟨by rfl, ?rhy15⟩) (by assumption) ?rrest15
              case rhy15 =>
                intro u hSu
                obtain ⟨s0, s1⟩ := hSu
                go_simp
                try with_reducible rfl
              try simp only [Act.put, List.getElem_toArray, List.getElem_cons_succ, List.getElem_cons_zero, List.setIfInBounds_toArray, List.set_cons_zero, List.set_cons_succ]
              refine wpAnyH_take (i := 16) (v := ?rvv16) rfl (by kernel_rfl) (by kernel_rfl) (by kernel_rfl) (fun _ _ _ h => h) (Or.inl ⟨by rfl, ?rhy16⟩) (by assumption) ?rrest16
              case rhy16 =>
                intro u hSu
                obtain ⟨s0, s1⟩ := hSu
                go_simp
                try with_reducible rfl
              try simp only [Act.put, List.getElem_toArray, List.getElem_cons_succ, List.getElem_cons_zero, List.setIfInBounds_toArray, List.set_cons_zero, List.set_cons_succ]
              refine wpAnyH_take (i := 17) (v := ?rvv17) rfl (by kernel_rfl) (by kernel_rfl) (by kernel_rfl) (fun _ _ _ h => h) (Or.inl ⟨by rfl, ?rhy17⟩) (by assumption) ?rrest17
              case rhy17 =>
                intro u hSu
                obtain ⟨s0, s1⟩ := hSu
                go_simp
                try with_reducible rfl
              try simp only [Act.put, List.getElem_toArray, List.getElem_cons_succ, List.getElem_cons_zero, List.setIfInBounds_toArray, List.set_cons_zero, List.set_cons_succ]
              refine wpAnyH_take (i := 18) (v := ?rvv18) rfl (by kernel_rfl) (by kernel_rfl) (by kernel_rfl) (fun _ _ _ h => h) (Or.inl ⟨by rfl, ?rhy18⟩) (by assumption) ?rrest18
              case rhy18 =>
                intro u hSu
                obtain ⟨s0, s1⟩ := hSu
                go_simp
                try with_reducible rfl
              try simp only [Act.put, List.getElem_toArray, List.getElem_cons_succ, List.getElem_cons_zero, List.setIfInBounds_toArray, List.set_cons_zero, List.set_cons_succ]
              refine wpAnyH_take (i := 19) (v := ?rvv19) rfl (by kernel_rfl) (by kernel_rfl) (by kernel_rfl) (fun _ _ _ h => h) (Or.inl ⟨by rfl, ?rhy19⟩) (by assumption) ?rrest19
              case rhy19 =>
                intro u hSu
                obtain ⟨s0, s1⟩ := hSu
                go_simp
                try with_reducible rfl
              try simp only [Act.put, List.getElem_toArray, List.getElem_cons_succ, List.getElem_cons_zero, List.setIfInBounds_toArray, List.set_cons_zero, List.set_cons_succ]
              refine wpAnyH_take (i := 20) (v := ?rvv20) rfl (by kernel_rfl) (by kernel_rfl) (by kernel_rfl) (fun _ _ _ h => h) (Or.inl ⟨by rfl, ?rhy20⟩) (by assumption) ?rrest20
              case rhy20 =>
                intro u hSu
                obtain ⟨s0, s1⟩ := hSu
                go_simp
                try with_reducible rfl
              try simp only [Act.put, List.getElem_toArray, List.getElem_cons_succ, List.getElem_cons_zero, List.setIfInBounds_toArray, List.set_cons_zero, List.set_cons_succ]
              refine wpAnyH_take (i := 21) (v := ?rvv21) rfl (by kernel_rfl) (by kernel_rfl) (by kernel_rfl) (fun _ _ _ h => h) (Or.inl ⟨by rfl, ?rhy21⟩) (by assumption) ?rrest21
              case rhy21 =>
                intro u hSu
                obtain ⟨s0, s1⟩ := hSu
                go_simp
                try with_reducible rfl
              try simp only [Act.put, List.getElem_toArray, List.getElem_cons_succ, List.getElem_cons_zero, List.setIfInBounds_toArray, List.set_cons_zero, List.set_cons_succ]
              refine wpAnyH_take (i := 22) (v := ?rvv22) rfl (by kernel_rfl) (by kernel_rfl) (by kernel_rfl) (fun _ _ _ h => h) (Or.inl ⟨by rfl, ?rhy22⟩) (by assumption) ?rrest22
              case rhy22 =>
                intro u hSu
                obtain ⟨s0, s1⟩ := hSu
                go_simp
                try with_reducible rfl
              try simp only [Act.put, List.getElem_toArray, List.getElem_cons_succ, List.getElem_cons_zero, List.setIfInBounds_toArray, List.set_cons_zero, List.set_cons_succ]
              refine wpAnyH_take (i := 23) (v := ?rvv23) rfl (by kernel_rfl) (by kernel_rfl) (by kernel_rfl) (fun _ _ _ h => h) (Or.inl ⟨by rfl, ?rhy23⟩) (by assumption) ?rrest23
              case rhy23 =>
                intro u hSu
                obtain ⟨s0, s1⟩ := hSu
                go_simp
                try with_reducible rfl
              try simp only [Act.put, List.getElem_toArray, List.getElem_cons_succ, List.getElem_cons_zero, List.setIfInBounds_toArray, List.set_cons_zero, List.set_cons_succ]
              refine wpAnyH_take (i := 24) (v := ?rvv24) rfl (by kernel_rfl) (by kernel_rfl) (by kernel_rfl) (fun _ _ _ h => h) (Or.inl ⟨by rfl, ?rhy24⟩) (by assumption) ?rrest24
              case rhy24 =>
                intro u hSu
                obtain ⟨s0, s1⟩ := hSu
                go_simp
                try with_reducible rfl
              try simp only [Act.put, List.getElem_toArray, List.getElem_cons_succ, List.getElem_cons_zero, List.setIfInBounds_toArray, List.set_cons_zero, List.set_cons_succ]
              refine wpAnyH_ready (rs := [25]) (by kernel_rfl) (by simp) ?_
              refine AllReadyH.cons rfl (fun K hK => ?_) AllReadyH.nil
              (go_simp; go_at_call 20; (with_reducible refine (CRk.out _ (below_of B75.out HB6.out)).mono ?_); rintro e w8 ⟨rfl, hB⟩; have HB8 := Lib.hid (below_of HB6.out hB); have K8 := KB.out _ HB8.out; clear hB)
              refine hK.out _ _ ?rhS25 (fun hHeld => ?rrest25)
              case rhS25 => first | exact K8 | exact K6 | exact K0
              clear hK K
              try simp only [Act.put, List.getElem_toArray, List.getElem_cons_succ, List.getElem_cons_zero, List.setIfInBounds_toArray, List.set_cons_zero, List.set_cons_succ]
              refine wpAnyH_take (i := 26) (v := ?rvv26) rfl (by kernel_rfl) (by kernel_rfl) (by kernel_rfl) (fun _ _ _ h => h) (Or.inl ⟨by rfl, ?rhy26⟩) (by assumption) ?rrest26
              case rhy26 =>
                intro u hSu
                obtain ⟨s0, s1⟩ := hSu
                go_simp
                try with_reducible rfl
              try simp only [Act.put, List.getElem_toArray, List.getElem_cons_succ, List.getElem_cons_zero, List.setIfInBounds_toArray, List.set_cons_zero, List.set_cons_succ]
              refine wpAnyH_done (by kernel_rfl) ?_ _
              obtain ⟨c8, lk8⟩ := K8
              obtain ⟨w9, hr9, hm9, hg9⟩ := PU.out w8 (HE5.out.belowS HB8.out)
              have HM9 := Lib.hid hm9
              have HG9 := Lib.hid hg9
              clear hm9 hg9 K0 K6 lk8
              go_wp2_with fail
              go_roundw
              case rel => exact ⟨k + 1, by omega, by go_num, Lib.hid (HM9.out.as fun s _ => ET.out s), Lib.hid ((below_of B35.out HB8.out).grown HG9.out (below_of B35.out HB8.out).size (fun i hi => by cases hi; exact Nat.le_of_eq HCM.out.symm))⟩
              case measure => simp [intOf]; omega
        · obtain rfl : k = O.length := by omega
          have hE := HE.out
          rw [List.take_of_length_le (Nat.le_refl _)] at hE
          have HE1 := Lib.hid hE
          have B7 := Lib.hid (below_of B3.out HB.out)
          have LKa : Hid (∀ (u : World) (x : Tx), x.length ≤ 9223372036854775807 → Below wr.heap.size wr u → (Instr.lookup 45 (.map (some cm)) (.string (bs x)) false).run Try.prog u = .ok (.bool (hasM T x)) u) := Lib.hid (fun u x hx hu => by
            have := cam_look (HE1.out.belowS hu) (s := x) (by unfold maxLen; omega)
            rw [this]
            congr 2
            rw [Bool.eq_iff_iff, decide_eq_true_eq]
            exact HM.out x)
          clear HE hE CD CR HM HO HDL R3 HB HZ
          obtain ⟨w10, hw10⟩ : ∃ x, x = wr := ⟨_, rfl⟩
          subst hw10
          go_wp2_with fail
          go_loopw [11] (fun i wr => ∃ k : Nat, k ≤ n ∧ i = .int .i64 (k : Int) ∧ Hid (Below w10.heap.size w10 wr)) (fun i _ => n - (intOf i).toNat)
          case atStart => exact ⟨0, by omega, rfl, Lib.hid (Below.refl _ _)⟩
          case round =>
            obtain ⟨k, hk, rfl, HB⟩ := hrel
            have BA := Lib.hid (below_of (JB.out.trans (B7.out.mono JB.out.size)) HB.out)
            by_cases hlt : k < n
            · have hlt' : (k : Int) < n := by omega
              obtain ⟨g, off, rfl, q1, hat, hok⟩ := HA.out.at BA.out hlt
              have hx := (HS.out k hlt).1
              have CHk := Lib.hid (CH.out (l.getD k ac0).nm (by omega))
              have KA : Hid (∀ u : World, Below wr.heap.size wr u → u.cell? ⟨g, off + k * 3 + 1, none⟩ = some (.string (bs (l.getD k ac0).nm)) ∧ (Instr.lookup 45 (.map (some cm)) (.string (bs (l.getD k ac0).nm)) false).run Try.prog u = .ok (.bool (hasM T (l.getD k ac0).nm)) u) := Lib.hid (fun u hu => by
                obtain ⟨g', off', e, _, e1, e2⟩ := HA.out.at (below_of BA.out hu) hlt
                simp only [Option.some.injEq, Addr.mk.injEq, and_true] at e
                obtain ⟨rfl, rfl⟩ := e
                exact ⟨e1.2.1, LKa.out _ _ (by omega) (below_of HB.out hu)⟩)
              clear hat hok hx
              generalize hasM T (l.getD k ac0).nm = q at *
              generalize bs (l.getD k ac0).nm = y at *
              go_upto_region 25 with fail
              have hb0 : Below wr.heap.size wr wr.drew := (Below.refl _ _).drew
              have HB0 := Lib.hid hb0
              have K0 := KA.out _ hb0
              clear hb0
              refine wp_region_held_drew (S := fun u : World => u.cell? ⟨g, off + k * 3 + 1, none⟩ = some (.string y) ∧ (Instr.lookup 45 (.map (some cm)) (.string y) false).run Try.prog u = .ok (.bool q) u) (by kernel_rfl) K0 (fun hHeld => ?_)
              refine wpAnyH_take (i := 0) (v := ?svv0) rfl (by kernel_rfl) (by kernel_rfl) (by kernel_rfl) (fun _ _ _ h => h) (Or.inl ⟨by rfl, ?shy0⟩) (by assumption) ?srest0
              case shy0 =>
                intro u hSu
                obtain ⟨s0, s1⟩ := hSu
                go_simp
                try with_reducible rfl
              try simp only [Act.put, List.getElem_toArray, List.getElem_cons_succ, List.getElem_cons_zero, List.setIfInBounds_toArray, List.set_cons_zero, List.set_cons_succ]
              refine wpAnyH_take (i := 1) (v := ?svv1) rfl (by kernel_rfl) (by kernel_rfl) (by kernel_rfl) (fun _ _ _ h => h) (Or.inl ⟨by rfl, ?shy1⟩) (by assumption) ?srest1
              case shy1 =>
                intro u hSu
                obtain ⟨s0, s1⟩ := hSu
                go_simp
                try with_reducible rfl
              try simp only [Act.put, List.getElem_toArray, List.getElem_cons_succ, List.getElem_cons_zero, List.setIfInBounds_toArray, List.set_cons_zero, List.set_cons_succ]
              refine wpAnyH_take (i := 2) (v := ?svv2) rfl (by kernel_rfl) (by kernel_rfl) (by kernel_rfl) (fun _ _ _ h => h) (Or.inl ⟨by rfl, ?shy2⟩) (by assumption) ?srest2
              case shy2 =>
                intro u hSu
                obtain ⟨s0, s1⟩ := hSu
                go_simp
                try with_reducible rfl
              try simp only [Act.put, List.getElem_toArray, List.getElem_cons_succ, List.getElem_cons_zero, List.setIfInBounds_toArray, List.set_cons_zero, List.set_cons_succ]
              refine wpAnyH_take (i := 3) (v := ?svv3) rfl (by kernel_rfl) (by kernel_rfl) (by kernel_rfl) (fun _ _ _ h => h) (Or.inl ⟨by rfl, ?shy3⟩) (by assumption) ?srest3
              case shy3 =>
                intro u hSu
                obtain ⟨s0, s1⟩ := hSu
                go_simp
                try with_reducible rfl
              try simp only [Act.put, List.getElem_toArray, List.getElem_cons_succ, List.getElem_cons_zero, List.setIfInBounds_toArray, List.set_cons_zero, List.set_cons_succ]
              refine wpAnyH_take (i := 4) (v := ?svv4) rfl (by kernel_rfl) (by kernel_rfl) (by kernel_rfl) (fun _ _ _ h => h) (Or.inl ⟨by rfl, ?shy4⟩) (by assumption) ?srest4
              case shy4 =>
                intro u hSu
                obtain ⟨s0, s1⟩ := hSu
                go_simp
                try with_reducible rfl
              try simp only [Act.put, List.getElem_toArray, List.getElem_cons_succ, List.getElem_cons_zero, List.setIfInBounds_toArray, List.set_cons_zero, List.set_cons_succ]
              refine wpAnyH_take (i := 5) (v := ?svv5) rfl (by kernel_rfl) (by kernel_rfl) (by kernel_rfl) (fun _ _ _ h => h) (Or.inl ⟨by rfl, ?shy5⟩) (by assumption) ?srest5
              case shy5 =>
                intro u hSu
                obtain ⟨s0, s1⟩ := hSu
                go_simp
                try with_reducible rfl
              try simp only [Act.put, List.getElem_toArray, List.getElem_cons_succ, List.getElem_cons_zero, List.setIfInBounds_toArray, List.set_cons_zero, List.set_cons_succ]
              refine wpAnyH_take (i := 7) (v := ?svv7) rfl (by kernel_rfl) (by kernel_rfl) (by kernel_rfl) (fun _ _ _ h => h) (Or.inl ⟨by rfl, ?shy7⟩) (by assumption) ?srest7
              case shy7 =>
                intro u hSu
                obtain ⟨s0, s1⟩ := hSu
                go_simp
                try with_reducible rfl
              try simp only [Act.put, List.getElem_toArray, List.getElem_cons_succ, List.getElem_cons_zero, List.setIfInBounds_toArray, List.set_cons_zero, List.set_cons_succ]
              refine wpAnyH_take (i := 8) (v := ?svv8) rfl (by kernel_rfl) (by kernel_rfl) (by kernel_rfl) (fun _ _ _ h => h) (Or.inl ⟨by rfl, ?shy8⟩) (by assumption) ?srest8
              case shy8 =>
                intro u hSu
                obtain ⟨s0, s1⟩ := hSu
                go_simp
                try with_reducible rfl
              try simp only [Act.put, List.getElem_toArray, List.getElem_cons_succ, List.getElem_cons_zero, List.setIfInBounds_toArray, List.set_cons_zero, List.set_cons_succ]
              refine wpAnyH_take (i := 9) (v := ?svv9) rfl (by kernel_rfl) (by kernel_rfl) (by kernel_rfl) (fun _ _ _ h => h) (Or.inl ⟨by rfl, ?shy9⟩) (by assumption) ?srest9
              case shy9 =>
                intro u hSu
                obtain ⟨s0, s1⟩ := hSu
                go_simp
                try with_reducible rfl
              try simp only [Act.put, List.getElem_toArray, List.getElem_cons_succ, List.getElem_cons_zero, List.setIfInBounds_toArray, List.set_cons_zero, List.set_cons_succ]
              refine wpAnyH_take (i := 10) (v := ?svv10) rfl (by kernel_rfl) (by kernel_rfl) (by kernel_rfl) (fun _ _ _ h => h) (Or.inl ⟨by rfl, ?shy10⟩) (by assumption) ?srest10
              case shy10 =>
                intro u hSu
                obtain ⟨s0, s1⟩ := hSu
                go_simp
                try with_reducible rfl
              try simp only [Act.put, List.getElem_toArray, List.getElem_cons_succ, List.getElem_cons_zero, List.setIfInBounds_toArray, List.set_cons_zero, List.set_cons_succ]
              refine wpAnyH_take (i := 11) (v := ?svv11) rfl (by kernel_rfl) (by kernel_rfl) (by kernel_rfl) (fun _ _ _ h => h) (Or.inl ⟨by rfl, ?shy11⟩) (by assumption) ?srest11
              case shy11 =>
                intro u hSu
                obtain ⟨s0, s1⟩ := hSu
                go_simp
                try with_reducible rfl
              try simp only [Act.put, List.getElem_toArray, List.getElem_cons_succ, List.getElem_cons_zero, List.setIfInBounds_toArray, List.set_cons_zero, List.set_cons_succ]
              refine wpAnyH_take (i := 12) (v := ?svv12) rfl (by kernel_rfl) (by kernel_rfl) (by kernel_rfl) (fun _ _ _ h => h) (Or.inl ⟨by rfl, ?shy12⟩) (by assumption) ?srest12
              case shy12 =>
                intro u hSu
                obtain ⟨s0, s1⟩ := hSu
                go_simp
                try with_reducible rfl
              try simp only [Act.put, List.getElem_toArray, List.getElem_cons_succ, List.getElem_cons_zero, List.setIfInBounds_toArray, List.set_cons_zero, List.set_cons_succ]
              refine wpAnyH_take (i := 13) (v := ?svv13) rfl (by kernel_rfl) (by kernel_rfl) (by kernel_rfl) (fun _ _ _ h => h) (Or.inl ⟨by rfl, ?shy13⟩) (by assumption) ?srest13
              case shy13 =>
                intro u hSu
                obtain ⟨s0, s1⟩ := hSu
                go_simp
                try with_reducible rfl
              try simp only [Act.put, List.getElem_toArray, List.getElem_cons_succ, List.getElem_cons_zero, List.setIfInBounds_toArray, List.set_cons_zero, List.set_cons_succ]
              refine wpAnyH_ready (rs := [6]) (by kernel_rfl) (by simp) ?_
              refine AllReadyH.cons rfl (fun K hK => ?_) AllReadyH.nil
              (go_simp; go_at_call 17; (with_reducible refine (CHk.out _ (below_of B7.out (below_of HB.out HB0.out))).mono ?_); rintro e w6 ⟨rfl, hB⟩; have HB6 := Lib.hid (below_of HB0.out hB); have K6 := KA.out _ HB6.out; clear hB)
              refine hK.out _ _ ?shS6 (fun hHeld => ?srest6)
              case shS6 => first | exact K6 | exact K0
              clear hK K
              try simp only [Act.put, List.getElem_toArray, List.getElem_cons_succ, List.getElem_cons_zero, List.setIfInBounds_toArray, List.set_cons_zero, List.set_cons_succ]
              refine wpAnyH_take (i := 14) (v := ?svv14) rfl (by kernel_rfl) (by kernel_rfl) (by kernel_rfl) (fun _ _ _ h => h) (Or.inl ⟨by rfl, ?shy14⟩) (by assumption) ?srest14
              case shy14 =>
                intro u hSu
                obtain ⟨s0, s1⟩ := hSu
                go_simp
                try with_reducible rfl
              try simp only [Act.put, List.getElem_toArray, List.getElem_cons_succ, List.getElem_cons_zero, List.setIfInBounds_toArray, List.set_cons_zero, List.set_cons_succ]
              refine wpAnyH_done (by kernel_rfl) ?_ _
              clear K0 K6 KA
              have hqq : decide (q ≠ q) = false := by simp
              go_wp2_with fail
              go_roundw
              case rel => exact ⟨k + 1, by omega, by go_num, Lib.hid (below_of HB.out HB6.out)⟩
              case measure => simp [intOf]; omega
            · obtain rfl : k = n := by omega
              clear HA HS CH LKa
              go_wp2_with (go_at_call 9; (with_reducible refine (AW.out _).mono ?_); rintro e w9 ⟨rfl, hb9⟩)
              go_ret
              exact ⟨rfl, below_of BA.out hb9⟩
end
end Go.Proofs.Ytijcojidfallkaa.WK
