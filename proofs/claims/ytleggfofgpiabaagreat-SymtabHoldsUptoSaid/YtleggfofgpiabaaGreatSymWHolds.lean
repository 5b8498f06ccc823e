/-
  The walk of SymtabHolds, over what the program's functions tell. Nothing here is a statement of the seed.
-/
import Derived.Test.YtleggfofgpiabaaGreatSymRun
set_option linter.unusedSimpArgs false
set_option linter.unusedVariables false
namespace Go.Proofs.YtleggfofgpiabaaGreat.WK
open Go.RowKit WM NR OM OR SM SR SF SP
set_option maxHeartbeats 4000000
set_option maxRecDepth 10000
theorem hold_codes {t : Tb} (h : SM.Good t) (ns : List (List UInt8)) : (countM t ns 1).2 = 0 ∨ ((countM t ns 1).1 = t ∧ ((countM t ns 1).2 = 8 ∨ (countM t ns 1).2 = 25)) := by
  unfold countM
  by_cases h1 : ∃ n ∈ ns, plc t.L n < 0
  · rw [if_pos h1]; exact Or.inr ⟨rfl, Or.inl rfl⟩
  · rw [if_neg h1]
    have hx : ∀ n ∈ ns, 0 ≤ plc t.L n := fun n hn => Classical.byContradiction fun hh => h1 ⟨n, hn, by omega⟩
    rcases cnt_up ns t.L (srt_uniq h.srt) hx (fun e he => ⟨(h.bd e he).2.2.2.2.1, (h.bd e he).2.2.2.2.2⟩) with ⟨h2, _⟩ | ⟨h2, _⟩
    · rw [if_pos h2]; exact Or.inl rfl
    · rw [if_neg (by omega)]; exact Or.inr ⟨rfl, Or.inr h2⟩
section
variable {w : World} {a : Option Addr} {n c : Nat} {l : List Ac} {na : Option Addr} {nn nc : Nat} {xs : List (List UInt8)}
theorem SymtabHolds_walk (h : ReadsA (· < w.heap.size) w (.slice a n c) l) (hs : ∀ x ∈ l, x.nm.length ≤ 2097152 ∧ ∀ s ∈ x.ns, s.length ≤ 2097152) (hx : Reads (· < w.heap.size) w (.slice na nn nc) (strs xs)) (hxs : ∀ s ∈ xs, s.length ≤ 2097152) :
    Calls Tryz.prog 5 #[.slice a n c, .slice na nn nc] w fun e w' => e = .returned (.bool true) ∧ Below w.heap.size w w' := by
  obtain ⟨n1, m1, m2⟩ := h.len
  unfold maxLen at m2
  have hn : (n : Int) ≤ 9223372036854775807 := by omega
  obtain ⟨x1, x2, x3⟩ := reads_len hx
  rw [strs_len] at x1
  unfold maxLen at x3
  have hnx : (nn : Int) ≤ 9223372036854775807 := by omega
  have q3 : (nn : Int) ≤ nc := by omega
  have HA := Lib.hid h
  have XO := Lib.hid hx
  have AW := Lib.hid awake_any
  have HS : Hid (∀ k, k < n → (l.getD k ac0).nm.length ≤ 2097152 ∧ ∀ s ∈ (l.getD k ac0).ns, s.length ≤ 2097152) := Lib.hid (fun k hk => hs _ (by rw [List.getD_eq_getElem?_getD, List.getElem?_eq_getElem (by omega)]; exact List.getElem_mem _))
  have HL := Lib.hid n1
  have q2 : (n : Int) ≤ c := by omega
  have XN := Lib.hid (And.intro x1 hxs)
  have CF := Lib.hid (few_any h)
  clear h hs n1 m2 hx hxs x1 x2 x3
  go_enter Tryz.func5, Tryz.ntmps5
  cases hf : fewB l with
  | false =>
    rw [hf] at CF
    clear HA HS hf
    go_wp2_with (first | (go_at_call 8; (with_reducible refine CF.out.mono ?_); rintro e w1 ⟨rfl, hb1⟩) | (go_at_call 9; (with_reducible refine (AW.out _).mono ?_); rintro e w2 ⟨rfl, hb2⟩))
    go_ret
    exact ⟨rfl, hb1.trans (hb2.mono hb1.size)⟩
  | true =>
  rw [hf] at CF
  have HS3 : Hid (∀ k, k < n → (l.getD k ac0).ns.length ≤ 1000) := Lib.hid (by first | exact few_len h hf | exact few_len HA.out hf)
  have h60 : n ≤ 60 := by
    unfold fewB at hf
    rw [Bool.and_eq_true] at hf
    have := of_decide_eq_true hf.1
    have := HL.out
    omega
  clear hf
  by_cases h20 : (20 : Int) < (nn : Int)
  · clear HA HS
    go_wp2_with (first | (go_at_call 8; (with_reducible refine CF.out.mono ?_); rintro e w1 ⟨rfl, hb1⟩) | (go_at_call 9; (with_reducible refine (AW.out _).mono ?_); rintro e w2 ⟨rfl, hb2⟩))
    go_ret
    exact ⟨rfl, hb1.trans (hb2.mono hb1.size)⟩
  go_upto_region 3 with (go_at_call 8; (with_reducible refine CF.out.mono ?_); rintro e w1 ⟨rfl, hb1⟩; have B1 := Lib.hid hb1; clear hb1)
  go_upto_region 4 with (go_at_call 10; (with_reducible refine (new_any _).mono ?_); rintro e w2 ⟨v, S, rfl, hP, hS, hb2⟩; have P2 := Lib.hid hP; have S2 := Lib.hid hS; have B2 := Lib.hid (B1.out.trans (hb2.mono B1.out.size)); clear hP hS hb2)
  have bn := below_new w2 (.cells #[.slice none 0 0, .slice none 0 0] 30)
  have J0 : Hid (PJ w w2.heap.size (fun _ => False) S (w2.alloc (.cells #[.slice none 0 0, .slice none 0 0] 30)) v none 0 0 none 0 0 ⟨[], []⟩) := Lib.hid ⟨Whole.new _ _ _, ⟨P2.out.keep bn.size (fun g hg => bn.block g (P2.out.lt g hg)), RdT.zero _ _, fun g hg => hg.elim⟩, B2.out.trans (bn.mono B2.out.size), fun g hg => ⟨by have := S2.out g hg; have := B1.out.size; omega, by have := P2.out.lt g hg; omega⟩, fun g hg => hg.elim, B2.out.size⟩
  obtain ⟨va, rfl⟩ := P2.out.form
  clear bn P2 S2 B2 B1 CF
  generalize w2.alloc (.cells #[.slice none 0 0, .slice none 0 0] 30) = W3 at *
  generalize w2.heap.size = p at *
  go_wp2_with fail
  go_loopw [7] (fun i wr => ∃ k : Nat, k ≤ n ∧ i = .int .i64 (k : Int) ∧ ∃ G S ma mn mc la ln lc, Hid (PJ w p G S wr (.pointer (some va)) ma mn mc la ln lc (runM ⟨[], []⟩ (l.take k)))) (fun i _ => n - (intOf i).toNat)
  case atStart => exact ⟨0, by omega, rfl, _, _, _, _, _, _, _, _, J0⟩
  case round =>
    obtain ⟨k, hk, rfl, G, S, ma, mn, mc, la, ln, lc, J⟩ := hrel
    clear J0
    by_cases hlt : k < n
    · have hlt' : (k : Int) < n := by omega
      have hbd := run_bd l k (by omega)
      have hgd := run_good (l.take k) _ good_nil
      obtain ⟨g, off, rfl, q1, hat, hok⟩ := HA.out.at J.out.B hlt
      have hb0 : Below wr.heap.size wr wr.drew := (Below.refl _ _).drew
      have J1 := Lib.hid (J.out.belowS hb0)
      have KA : Hid (∀ u, Below w.heap.size w u → AcAt u g (off + k * 4) (l.getD k ac0) ∧ AcOk (· < w.heap.size) u (l.getD k ac0)) := Lib.hid (fun u hu => by
        obtain ⟨g', off', e, _, e1, e2⟩ := HA.out.at hu hlt
        simp only [Option.some.injEq, Addr.mk.injEq, and_true] at e
        obtain ⟨rfl, rfl⟩ := e
        exact ⟨e1, e2⟩)
      have CD := Lib.hid (do_any J1.out.D hgd hbd (l.getD k ac0) (J1.out.act (KA.out _ J1.out.B).2) (HS.out k hlt).1 (HS.out k hlt).2 (HS3.out k hlt))
      have hrt := runM_take ⟨[], []⟩ l k (by rw [HL.out]; exact hlt)
      rw [← hrt] at CD
      unfold IsDo at CD
      have KB : Hid (∀ u, Below w.heap.size w u → AcAt u g (off + k * 4) (l.getD k ac0)) := Lib.hid (fun u hu => (KA.out u hu).1)
      clear hbd hgd hat hok hrt KA
      obtain ⟨T, hT⟩ : ∃ T, T = runM ⟨[], []⟩ (l.take (k + 1)) := ⟨_, rfl⟩
      rw [← hT] at CD
      have HT := Lib.hid hT
      clear hT
      obtain ⟨X, hX⟩ : ∃ X, X = l.getD k ac0 := ⟨_, rfl⟩
      rw [← hX] at CD KB
      clear hX
      obtain ⟨xk, xn, xg, na, nn, nc, ns⟩ := X
      change Hid (Calls _ _ #[_, _, .agg #[.int .u8 xk, .string (bs xn), .int .i64 xg, .slice na nn nc]] _ _) at CD
      have KB : Hid (∀ u : World, Below w.heap.size w u → u.cell? ⟨g, off + k * 4, none⟩ = some (.int .u8 xk) ∧ u.cell? ⟨g, off + k * 4 + 1, none⟩ = some (.string (bs xn)) ∧ u.cell? ⟨g, off + k * 4 + 2, none⟩ = some (.int .i64 xg) ∧ u.cell? ⟨g, off + k * 4 + 3, none⟩ = some (.slice na nn nc)) := KB
      generalize bs xn = y at *
      have K0 := KB.out _ J1.out.B
      obtain ⟨z0, z1⟩ := two_cells J1.out.Z
      have z6 := J1.out.Z.lt
      go_upto_region 7 with fail
      refine wp_region_held_drew (S := fun u => u.cell? ⟨g, off + k * 4, none⟩ = some (.int .u8 xk) ∧ u.cell? ⟨g, off + k * 4 + 1, none⟩ = some (.string y) ∧ u.cell? ⟨g, off + k * 4 + 2, none⟩ = some (.int .i64 xg) ∧ u.cell? ⟨g, off + k * 4 + 3, none⟩ = some (.slice na nn nc)) (by kernel_rfl) K0 (fun hHeld => ?_)
      refine wpAnyH_take (i := 0) (v := ?avv0) rfl (by kernel_rfl) (by kernel_rfl) (by kernel_rfl) (fun _ _ _ h => h) (Or.inl ⟨by rfl, ?ahy0⟩) (by assumption) ?arest0
      case ahy0 =>
        intro u hSu
        obtain ⟨s0, s1, s2, s3⟩ := hSu
        go_simp
        try with_reducible rfl
      try simp only [Act.put, List.getElem_toArray, List.getElem_cons_succ, List.getElem_cons_zero, List.setIfInBounds_toArray, List.set_cons_zero, List.set_cons_succ]
      refine wpAnyH_take (i := 2) (v := ?avv2) rfl (by kernel_rfl) (by kernel_rfl) (by kernel_rfl) (fun _ _ _ h => h) (Or.inl ⟨by rfl, ?ahy2⟩) (by assumption) ?arest2
      case ahy2 =>
        intro u hSu
        obtain ⟨s0, s1, s2, s3⟩ := hSu
        go_simp
        try with_reducible rfl
      try simp only [Act.put, List.getElem_toArray, List.getElem_cons_succ, List.getElem_cons_zero, List.setIfInBounds_toArray, List.set_cons_zero, List.set_cons_succ]
      refine wpAnyH_take (i := 3) (v := ?avv3) rfl (by kernel_rfl) (by kernel_rfl) (by kernel_rfl) (fun _ _ _ h => h) (Or.inl ⟨by rfl, ?ahy3⟩) (by assumption) ?arest3
      case ahy3 =>
        intro u hSu
        obtain ⟨s0, s1, s2, s3⟩ := hSu
        go_simp
        try with_reducible rfl
      try simp only [Act.put, List.getElem_toArray, List.getElem_cons_succ, List.getElem_cons_zero, List.setIfInBounds_toArray, List.set_cons_zero, List.set_cons_succ]
      refine wpAnyH_take (i := 4) (v := ?avv4) rfl (by kernel_rfl) (by kernel_rfl) (by kernel_rfl) (fun _ _ _ h => h) (Or.inl ⟨by rfl, ?ahy4⟩) (by assumption) ?arest4
      case ahy4 =>
        intro u hSu
        obtain ⟨s0, s1, s2, s3⟩ := hSu
        go_simp
        try with_reducible rfl
      try simp only [Act.put, List.getElem_toArray, List.getElem_cons_succ, List.getElem_cons_zero, List.setIfInBounds_toArray, List.set_cons_zero, List.set_cons_succ]
      refine wpAnyH_take (i := 5) (v := ?avv5) rfl (by kernel_rfl) (by kernel_rfl) (by kernel_rfl) (fun _ _ _ h => h) (Or.inl ⟨by rfl, ?ahy5⟩) (by assumption) ?arest5
      case ahy5 =>
        intro u hSu
        obtain ⟨s0, s1, s2, s3⟩ := hSu
        go_simp
        try with_reducible rfl
      try simp only [Act.put, List.getElem_toArray, List.getElem_cons_succ, List.getElem_cons_zero, List.setIfInBounds_toArray, List.set_cons_zero, List.set_cons_succ]
      refine wpAnyH_ready (rs := [1]) (by kernel_rfl) (by simp) ?_
      refine AllReadyH.cons rfl (fun K hK => ?_) AllReadyH.nil
      go_simp
      refine hK.out _ _ K0 (fun hHeld => ?_)
      clear hK K
      try simp only [Act.put, List.getElem_toArray, List.getElem_cons_succ, List.getElem_cons_zero, List.setIfInBounds_toArray, List.set_cons_zero, List.set_cons_succ]
      refine wpAnyH_ready (rs := [6]) (by kernel_rfl) (by simp) ?_
      refine AllReadyH.cons rfl (fun K hK => ?_) AllReadyH.nil
      (go_simp; go_at_call 11; (with_reducible refine (CD.out).mono ?_); rintro e w5 ⟨ma', mn', mc', la', ln', lc', G', S', rfl, hD, hS', hG', hF⟩; obtain ⟨zz, J5⟩ := J1.out.step hD hS' hG' hF; have K5 := KB.out _ (Below.fr J1.out.B hF J1.out.B.size fun i hi => (J1.out.SB i hi).1); have K6 := KB.out _ J5.B; have J6 := Lib.hid J5; have y0 := zz.cell 0; have y1 := zz.cell 1; have y6 := zz.lt; have yf0 := zz.frozen 0; have yf1 := zz.frozen 1; clear hD hS' hG' hF J5 zz)
      refine hK.out _ _ ?bhS6 (fun hHeld => ?brest6)
      case bhS6 => first | exact K6 | exact K5 | exact K0
      clear hK K
      try simp only [Act.put, List.getElem_toArray, List.getElem_cons_succ, List.getElem_cons_zero, List.setIfInBounds_toArray, List.set_cons_zero, List.set_cons_succ]
      refine wpAnyH_take (i := 7) (v := ?bvv7) rfl (by kernel_rfl) (by kernel_rfl) (by kernel_rfl) (fun _ _ _ h => h) (Or.inl ⟨by rfl, ?bhy7⟩) (by assumption) ?brest7
      case bhy7 =>
        intro u hSu
        obtain ⟨s0, s1, s2, s3⟩ := hSu
        go_simp
        try with_reducible rfl
      try simp only [Act.put, List.getElem_toArray, List.getElem_cons_succ, List.getElem_cons_zero, List.setIfInBounds_toArray, List.set_cons_zero, List.set_cons_succ]
      refine wpAnyH_take (i := 8) (v := ?bvv8) rfl (by kernel_rfl) (by kernel_rfl) (by kernel_rfl) (fun _ _ _ h => h) (Or.inl ⟨by rfl, ?bhy8⟩) (by assumption) ?brest8
      case bhy8 =>
        intro u hSu
        obtain ⟨s0, s1, s2, s3⟩ := hSu
        go_simp
        try with_reducible rfl
      try simp only [Act.put, List.getElem_toArray, List.getElem_cons_succ, List.getElem_cons_zero, List.setIfInBounds_toArray, List.set_cons_zero, List.set_cons_succ]
      refine wpAnyH_take (i := 9) (v := ?bvv9) rfl (by kernel_rfl) (by kernel_rfl) (by kernel_rfl) (fun _ _ _ h => h) (Or.inl ⟨by rfl, ?bhy9⟩) (by assumption) ?brest9
      case bhy9 =>
        intro u hSu
        obtain ⟨s0, s1, s2, s3⟩ := hSu
        go_simp
        try with_reducible rfl
      try simp only [Act.put, List.getElem_toArray, List.getElem_cons_succ, List.getElem_cons_zero, List.setIfInBounds_toArray, List.set_cons_zero, List.set_cons_succ]
      refine wpAnyH_ready (rs := [10]) (by kernel_rfl) (by simp) ?_
      refine AllReadyH.cons rfl (fun K hK => ?_) AllReadyH.nil
      go_simp
      refine hK.out _ _ ?bhS10 (fun hHeld => ?brest10)
      case bhS10 => first | exact K6 | exact K5 | exact K0
      clear hK K
      try simp only [Act.put, List.getElem_toArray, List.getElem_cons_succ, List.getElem_cons_zero, List.setIfInBounds_toArray, List.set_cons_zero, List.set_cons_succ]
      refine wpAnyH_done (by kernel_rfl) ?_ _
      rw [HT.out] at J6
      clear K0 K5 K6 y0 y1 y6 yf0 yf1 z0 z1 z6 J1 J CD HT KB
      go_wp2_with fail
      go_roundw
      case rel => exact ⟨k + 1, by omega, by go_num, _, _, _, _, _, _, _, _, J6⟩
      case measure => simp [intOf]; omega
    · obtain rfl : k = n := by omega
      have hgd := run_good l _ good_nil
      have hbd := run_bd l k (by omega)
      rw [List.take_of_length_le (by rw [HL.out]; omega)] at hbd J
      obtain ⟨T, hT⟩ : ∃ T, T = runM ⟨[], []⟩ l := ⟨_, rfl⟩
      rw [← hT] at hbd J hgd
      clear hT HA HS
      have X0 := Lib.hid J.out.x
      have CA := Lib.hid (hold_any X0.out.P hgd hbd (X0.out.strs_ XO.out) (fun s hs => Nat.le_trans (XN.out.2 s hs) (by omega)) (by have := XN.out.1; omega))
      have CS : Hid (∀ (G S : Nat → Prop) (u : World) (ma : Option Addr) (mn mc : Nat) (la : Option Addr) (ln lc : Nat), PX w p G S u (.pointer (some va)) ma mn mc la ln lc T T → Calls Tryz.prog 12 #[.pointer (some va), tbV ma mn mc la ln lc, .agg #[.int .u8 0, .string ⟨#[]⟩, .int .i64 0, .slice na nn nc]] u fun e u' => e = .returned (.bool true) ∧ Below u.heap.size u u') := Lib.hid (fun G S u ma mn mc la ln lc hj => same_any hj.j.D hgd hbd ⟨0, [], 0, na, nn, nc, xs⟩ (hj.act ⟨by simp only; omega, by simp only; omega, XO.out.below hj.B⟩) (by simp) XN.out.2)
      have hco := hold_codes hgd xs
      obtain ⟨t', ht'⟩ : ∃ t', t' = (countM T xs 1).1 := ⟨_, rfl⟩
      obtain ⟨M, hM⟩ : ∃ M, M = (countM T xs 1).2 := ⟨_, rfl⟩
      rw [← ht', ← hM] at CA hco
      clear J
      by_cases h0 : M = 0
      · have ha : countM T xs 1 = (t', 0) := by rw [ht', ← h0, hM]
        have hgd' : SM.Good t' := by have := good_count hgd xs 1 (Or.inl rfl); rw [ha] at this; exact this
        have hbd' : t'.mods.length ≤ 10000 ∧ t'.L.length ≤ 80000 := by
          have h1 := count_size T xs 1
          rw [ha] at h1
          simp only at h1
          omega
        obtain ⟨r1, r2, r3⟩ := hold_drop hgd xs ha
        subst h0
        have CD : Hid (∀ (G S : Nat → Prop) (u : World) (ma : Option Addr) (mn mc : Nat) (la : Option Addr) (ln lc : Nat), PX w p G S u (.pointer (some va)) ma mn mc la ln lc t' T → Calls Tryz.prog 18 #[.pointer (some va), .slice na nn nc] u fun e u' => e = .returned (.int .i64 0) ∧ Chg S u (.pointer (some va)) T u') := Lib.hid (fun G S u ma mn mc la ln lc hj => by have := drop_any hj.P hgd' hbd' (hj.strs_ XO.out) (fun s hs => Nat.le_trans (XN.out.2 s hs) (by omega)) (by have := XN.out.1; omega); rw [r1] at this; exact this)
        have HE : Hid (∀ k, k < nn → ∃ E : En, (1 ≤ E.refs ∧ E.refs ≤ 8) ∧ (∀ (G S : Nat → Prop) (u : World) (ma : Option Addr) (mn mc : Nat) (la : Option Addr) (ln lc : Nat), PX w p G S u (.pointer (some va)) ma mn mc la ln lc t' T → Calls Tryz.prog 14 #[.pointer (some va), .string (bs (xs.getD k []))] u fun e u' => e = .returned (.tuple #[enV E, .int .i64 0]) ∧ Below u.heap.size u u') ∧ (∀ (G S : Nat → Prop) (u : World) (ma : Option Addr) (mn mc : Nat) (la : Option Addr) (ln lc : Nat), PX w p G S u (.pointer (some va)) ma mn mc la ln lc t' T → Calls Tryz.prog 16 #[.pointer (some va), .string (bs E.md)] u fun e u' => e = .returned (.int .i64 26) ∧ Chg S u (.pointer (some va)) t' u')) := Lib.hid (fun k hk => by
          have hm : xs.getD k [] ∈ xs := by rw [List.getD_eq_getElem?_getD, List.getElem?_eq_getElem (by rw [XN.out.1]; exact hk)]; exact List.getElem_mem _
          obtain ⟨p1, p2, p3⟩ := r2 _ hm
          have plt := plc_lt t'.L (xs.getD k [])
          have hE := getD_mem (l := t'.L) (k := (plc t'.L (xs.getD k [])).toNat) (by omega)
          have hf : findM t'.L (xs.getD k []) = (t'.L.getD (plc t'.L (xs.getD k [])).toNat e0, 0) := by unfold findM; rw [if_neg (by omega)]
          refine ⟨_, ⟨p2, p3⟩, fun G S u ma mn mc la ln lc hj => ?_, fun G S u ma mn mc la ln lc hj => ?_⟩
          · have := find_any hj.P hgd' hbd' (xs.getD k []) (Nat.le_trans (XN.out.2 _ hm) (by omega))
            rw [hf] at this
            exact this
          · have := remove_any hj.P hgd' hbd' (t'.L.getD (plc t'.L (xs.getD k [])).toNat e0).md (Nat.le_trans (chk_size (hgd'.mds _ (hgd'.home _ hE))) (by omega))
            rw [remove_held hgd' hE p2] at this
            exact this)
        have RE : Hid (∀ k, k < nn → ∀ u, Below w.heap.size w u → ∃ g off, na = some ⟨g, off, none⟩ ∧ u.cell? ⟨g, off + k, none⟩ = some (.string (bs (xs.getD k [])))) := Lib.hid (fun k hk u hu => by
          obtain ⟨g', off', e2, _, e3⟩ := reads_at XO.out hu hk
          rw [strs_at (by rw [XN.out.1]; exact hk)] at e3
          exact ⟨g', off', e2, e3⟩)
        clear ht' hM ha hgd' hbd' r1 r2 r3 hgd hbd XO XN hco
        obtain ⟨z0, z1⟩ := two_cells X0.out.Z; have z6 := X0.out.Z.lt
        go_upto_region 11 with (go_at_call 17; (with_reducible refine (CA.out).mono ?_); rintro e w4 ⟨rfl, hc⟩; obtain ⟨S1, hx1⟩ := X0.out.chg hc; have X1 := Lib.hid hx1; clear hc hx1)
        clear z0 z1 z6 X0 CA
        go_wp2_with fail
        go_loopw [9] (fun i wr => ∃ k2 : Nat, k2 ≤ nn ∧ i = .int .i64 (k2 : Int) ∧ ∃ S, Hid (PX w p G S wr (.pointer (some va)) ma mn mc la ln lc t' T)) (fun i _ => nn - (intOf i).toNat)
        case atStart => exact ⟨0, by omega, rfl, _, X1⟩
        case round =>
          obtain ⟨k2, hk2, rfl, S2, X2⟩ := hrel
          clear X1
          by_cases hlt : k2 < nn
          · have hlt' : (k2 : Int) < nn := by omega
            obtain ⟨q, off, rfl, r0⟩ := RE.out k2 hlt wr X2.out.B
            obtain ⟨E, hE1, hE2, hE3⟩ := HE.out k2 hlt
            have C1 := Lib.hid hE2
            have C2 := Lib.hid hE3
            clear hE2 hE3
            obtain ⟨en, em, eg, ei, er⟩ := E
            simp only at hE1
            obtain ⟨hr1, hr2⟩ := hE1
            change Hid (∀ (G S : Nat → Prop) (u : World) (ma : Option Addr) (mn mc : Nat) (la : Option Addr) (ln lc : Nat), PX w p G S u (.pointer (some va)) ma mn mc la ln lc t' T → Calls _ _ _ u fun e u' => e = .returned (.tuple #[.agg #[.string (bs en), .string (bs em), .int .i64 eg, .int .i64 ei, .int .i64 er], .int .i64 0]) ∧ Below u.heap.size u u') at C1
            change Hid (∀ (G S : Nat → Prop) (u : World) (ma : Option Addr) (mn mc : Nat) (la : Option Addr) (ln lc : Nat), PX w p G S u (.pointer (some va)) ma mn mc la ln lc t' T → Calls _ _ #[_, .string (bs em)] u _) at C2
            generalize bs (xs.getD k2 []) = z at *
            generalize bs en = b1 at *
            generalize bs em = b2 at *
            go_upto_region 15 with (go_at_call 14; (with_reducible refine (C1.out _ _ _ _ _ _ _ _ _ X2.out).mono ?_); rintro e w5 ⟨rfl, hB⟩; have X3 := Lib.hid (X2.out.belowS hB); clear hB)
            have bn := below_new w5 (.cells #[.string b1, .string b2, .int .i64 eg, .int .i64 ei, .int .i64 er] 37)
            have X4 := Lib.hid (X3.out.belowS bn)
            have BX := Whole.new w5 37 #[.string b1, .string b2, .int .i64 eg, .int .i64 ei, .int .i64 er]
            clear bn X2 X3 r0
            generalize w5.alloc (.cells #[.string b1, .string b2, .int .i64 eg, .int .i64 ei, .int .i64 er] 37) = W6 at *
            obtain ⟨y0, y1, y2, y3, y4⟩ := five_cells BX
            have y6 := BX.lt
            go_wp2_with (go_at_call 16; (with_reducible refine (C2.out _ _ _ _ _ _ _ _ _ X4.out).mono ?_); rintro e w7 ⟨rfl, hc⟩; obtain ⟨S5, hx5⟩ := X4.out.chg hc; have X5 := Lib.hid hx5; clear hc hx5)
            go_roundw
            case rel => exact ⟨k2 + 1, by omega, by go_num, _, X5⟩
            case measure => simp [intOf]; omega
          · obtain rfl : k2 = nn := by omega
            clear HE RE
            obtain ⟨z0, z1⟩ := two_cells X2.out.Z; have z6 := X2.out.Z.lt
            go_wp2_with (first | (go_at_call 18; (with_reducible refine (CD.out _ _ _ _ _ _ _ _ _ X2.out).mono ?_); rintro e w7 ⟨rfl, hc⟩; obtain ⟨S5, hx5⟩ := X2.out.chg hc; have X5 := Lib.hid hx5; clear hc hx5; clear z0 z1 z6; obtain ⟨z0, z1⟩ := two_cells X5.out.Z; have z6 := X5.out.Z.lt) | (go_at_call 12; (with_reducible refine (CS.out _ _ _ _ _ _ _ _ _ (X5.out)).mono ?_); rintro e w8 ⟨rfl, hB8⟩; have X8 := Lib.hid (X5.out.belowS hB8); clear hB8) | (go_at_call 9; (with_reducible refine (AW.out _).mono ?_); rintro e w9 ⟨rfl, hB9⟩))
            go_ret
            exact ⟨rfl, X8.out.B.trans (hB9.mono X8.out.B.size)⟩
      · rcases hco with hco | ⟨hsame, hco⟩
        · exact absurd hco h0
        rw [hsame] at CA
        have h0' : (M == 0) = false := by simpa using h0
        clear ht' hM hsame hgd hbd XO XN h0
        rcases hco with rfl | rfl
        all_goals
          obtain ⟨z0, z1⟩ := two_cells X0.out.Z; have z6 := X0.out.Z.lt
          go_upto_region 10 with (go_at_call 17; (with_reducible refine (CA.out).mono ?_); rintro e w4 ⟨rfl, hc⟩; obtain ⟨S1, hx1⟩ := X0.out.chg hc; have X1 := Lib.hid hx1; clear hc hx1)
          clear z0 z1 z6
          obtain ⟨z0, z1⟩ := two_cells X1.out.Z; have z6 := X1.out.Z.lt
          go_wp2_with (first | (go_at_call 12; (with_reducible refine (CS.out _ _ _ _ _ _ _ _ _ (X1.out)).mono ?_); rintro e w8 ⟨rfl, hB8⟩; have X8 := Lib.hid (X1.out.belowS hB8); clear hB8) | (go_at_call 9; (with_reducible refine (AW.out _).mono ?_); rintro e w9 ⟨rfl, hB9⟩))
          go_ret
          exact ⟨rfl, X8.out.B.trans (hB9.mono X8.out.B.size)⟩
end
end Go.Proofs.YtleggfofgpiabaaGreat.WK
