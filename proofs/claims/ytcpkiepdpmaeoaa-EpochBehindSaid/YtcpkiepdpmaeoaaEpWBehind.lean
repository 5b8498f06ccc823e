/-
  The walk of EpochBehind, over what the program's functions tell. Nothing here is a statement of the seed.
-/
import Derived.Test.YtcpkiepdpmaeoaaEpRun
set_option linter.unusedSimpArgs false
set_option linter.unusedVariables false
namespace Go.Proofs.Ytcpkiepdpmaeoaa.WK
open Go.RowKit WM NR OM OR EM ER EF EP EL
set_option maxHeartbeats 4000000
set_option maxRecDepth 10000
section
variable {w : World} {a : Option Addr} {n c : Nat} {l : List Ac} {a2 : Option Addr} {n2 c2 : Nat} {hs : List Hr}
/-- those that wait, as they lie -/
theorem wt_reads {B : Nat} {u : World} {q : Value} {l : List Wt} (h : IsWt B u q l) : ∃ a c, q = .slice a l.length c ∧ l.length ≤ c ∧ c ≤ maxLen ∧ ∀ u', Below u.heap.size u u' → ∀ k, k < l.length → ∃ g, a = some ⟨g, 0, none⟩ ∧ u'.cell? ⟨g, k * 2, none⟩ = some (.int .u16 (l.getD k EM.w0).ow) ∧ u'.cell? ⟨g, k * 2 + 1, none⟩ = some (.int .u64 (l.getD k EM.w0).ep) := by
  obtain ⟨a, c, rfl, h1, h2, h3⟩ := h
  refine ⟨a, c, rfl, h1, h2, fun u' hb k hk => ?_⟩
  rcases h3 with h3 | h3
  · subst h3; simp at hk
  · have h4 := h3
    rcases h3.2 with ⟨e, h0⟩ | ⟨g, cap, cur, e, hB, hh, h5, h6, h7, h8⟩
    · omega
    · simp only [Value.slice.injEq] at e
      obtain ⟨rfl, _, rfl⟩ := e
      have hlt := (Array.getElem?_eq_some_iff.1 hh).1
      obtain ⟨y0, y1⟩ := wC_at l k hk
      have hl := wC_len l
      exact ⟨g, rfl, (hb.cell (p := ⟨g, _, none⟩) hlt).trans ((h4.cellAt (k * 2) (by omega)).trans y0), (hb.cell (p := ⟨g, _, none⟩) hlt).trans ((h4.cellAt (k * 2 + 1) (by omega)).trans y1)⟩
theorem due_at {hs : List Hr} {l : List Wt} {i : Nat} (hi : i < l.length) (hp : pasB hs (l.getD i EM.w0).ep = true) : (dueM hs (l.take i)).length < (dueM hs l).length ∧ (dueM hs l).getD (dueM hs (l.take i)).length 0 = (l.getD i EM.w0).ow ∧ (dueM hs (l.take (i + 1))).length = (dueM hs (l.take i)).length + 1 := by
  have e : l = l.take i ++ ([l.getD i EM.w0] ++ l.drop (i + 1)) := by
    rw [← List.append_assoc, ← take_succ' (d := EM.w0) l i hi, List.take_append_drop]
  have h1 : dueM hs [l.getD i EM.w0] = [(l.getD i EM.w0).ow] := by unfold dueM; simp only [List.filter_cons, hp, if_true, List.filter_nil, List.map_cons, List.map_nil]
  have ha : ∀ x y, dueM hs (x ++ y) = dueM hs x ++ dueM hs y := fun x y => by unfold dueM; rw [List.filter_append, List.map_append]
  have h2 : dueM hs l = dueM hs (l.take i) ++ ([(l.getD i EM.w0).ow] ++ dueM hs (l.drop (i + 1))) := by
    rw [← h1, ← ha, ← ha, ← e]
  refine ⟨?_, ?_, ?_⟩
  · rw [h2]; simp
  · rw [h2]; simp [List.getD_eq_getElem?_getD, List.getElem?_append_right]
  · rw [take_succ' (d := EM.w0) l i hi, ha, h1]; simp
theorem due_not {hs : List Hr} {l : List Wt} {i : Nat} (hi : i < l.length) (hp : pasB hs (l.getD i EM.w0).ep = false) : (dueM hs (l.take (i + 1))).length = (dueM hs (l.take i)).length := by
  have h1 := due_snoc hs (l.take i) (l.getD i EM.w0)
  rw [← take_succ' (d := EM.w0) l i hi, hp, if_neg (by decide)] at h1
  rw [h1]
theorem EpochBehind_walk (h : ReadsA (· < w.heap.size) w (.slice a n c) l) (hr : ReadsH (· < w.heap.size) w (.slice a2 n2 c2) hs) :
    Calls Try.prog 6 #[.slice a n c, .slice a2 n2 c2] w fun e w' => e = .returned (.bool true) ∧ Below w.heap.size w w' := by
  obtain ⟨n1, m1, m2⟩ := h.len
  unfold maxLen at m2
  have hn : (n : Int) ≤ 9223372036854775807 := by omega
  have AW := Lib.hid awake_any
  by_cases h60 : n ≤ 60
  case neg =>
    have h60' : (60 : Int) < n := by omega
    clear h n1 m1 m2 hr
    go_enter Try.func6, Try.ntmps6
    go_wp2_with (first | (go_at_call 8; (with_reducible refine (AW.out _).mono ?_); rintro e w2 ⟨rfl, hb2⟩))
    go_ret
    exact ⟨rfl, hb2⟩
  have h60' : ¬ (60 : Int) < n := by omega
  have HA := Lib.hid h
  have HL := Lib.hid n1
  have HOW := Lib.hid h.ows
  have HR := Lib.hid hr
  clear h n1 m2 hr
  have q2 : (n : Int) ≤ c := by omega
  go_enter Try.func6, Try.ntmps6
  go_upto_region 4 with (go_at_call 9; (with_reducible refine (new_any _).mono ?_); rintro e w2 ⟨v, S, rfl, hP, hS, hb2⟩; have P2 := Lib.hid hP; have J0 := Lib.hid (PJ.zero hP hS hb2); clear hP hS hb2)
  obtain ⟨va, rfl⟩ := P2.out.form
  clear P2
  generalize w2.alloc (.cells (ckC 0 none 0 0) 29) = W3 at *
  generalize w2.heap.size = p at *
  go_wp2_with fail
  go_loopw [7] (fun i wr => ∃ k : Nat, k ≤ n ∧ i = .int .i64 (k : Int) ∧ ∃ G S la ln lc, Hid (PJ w p G S wr (.pointer (some va)) la ln lc (runM c0 (l.take k)))) (fun i _ => n - (intOf i).toNat)
  case atStart => exact ⟨0, by omega, rfl, _, _, _, _, _, J0⟩
  case round =>
    obtain ⟨k, hk, rfl, G, S, la, ln, lc, J⟩ := hrel
    clear J0
    by_cases hlt : k < n
    · have hlt' : (k : Int) < n := by omega
      have hn1k : l.length ≤ 1000 := by rw [HL.out]; omega
      have hgd := gd_take HOW.out k
      obtain ⟨g, off, rfl, q1, hglt, hat, hok⟩ := HA.out.at J.out.B (Nat.le_refl _) hlt
      have hb0 : Below wr.heap.size wr wr.drew := (Below.refl _ _).drew
      have J1 := Lib.hid (J.out.belowS hb0)
      have KA : Hid (∀ u, Below w.heap.size w u → AcAt u g (off + k * 3) (l.getD k ac0) ∧ AcOk (· < w.heap.size) u (l.getD k ac0)) := Lib.hid (fun u hu => by
        obtain ⟨g', off', e, _, _, e1, e2⟩ := HA.out.at hu (Nat.le_refl _) hlt
        simp only [Option.some.injEq, Addr.mk.injEq, and_true] at e
        obtain ⟨rfl, rfl⟩ := e
        exact ⟨e1, e2⟩)
      have CD := Lib.hid (J1.out.do_ hgd hn1k (l.getD k ac0) (KA.out _ J1.out.B).2)
      have hrt := run_take c0 l k (by rw [HL.out]; exact hlt)
      rw [← hrt] at CD
      have KB : Hid (∀ u, Below w.heap.size w u → AcAt u g (off + k * 3) (l.getD k ac0)) := Lib.hid (fun u hu => (KA.out u hu).1)
      obtain ⟨T9, hT⟩ : ∃ T8, T8 = runM c0 (l.take (k + 1)) := ⟨_, rfl⟩
      rw [← hT] at CD
      have HT := Lib.hid hT
      clear hT hat hok hrt KA
      obtain ⟨X, hX⟩ : ∃ X, X = l.getD k ac0 := ⟨_, rfl⟩
      rw [← hX] at CD KB
      have HXX := Lib.hid hX
      clear hX
      obtain ⟨xk, xo, na, nn, nc, hs⟩ := X
      obtain ⟨NW, hNW⟩ : ∃ q, (runM c0 (l.take k)).now = q := ⟨_, rfl⟩
      rw [hNW] at CD
      have JZ := J1.out.Z
      rw [hNW] at JZ
      have HNW := Lib.hid hNW
      clear hNW
      obtain ⟨N2, hN2⟩ : ∃ q, T9.now = q := ⟨_, rfl⟩
      rw [hN2] at CD
      have HN2 := Lib.hid hN2
      clear hN2
      change Hid (Calls _ _ #[_, _, .agg #[.int .u8 xk, .int .u16 xo, .slice na nn nc]] _ _) at CD
      have KB : Hid (∀ u : World, Below w.heap.size w u → u.cell? ⟨g, off + k * 3, none⟩ = some (.int .u8 xk) ∧ u.cell? ⟨g, off + k * 3 + 1, none⟩ = some (.int .u16 xo) ∧ u.cell? ⟨g, off + k * 3 + 2, none⟩ = some (.slice na nn nc)) := KB
      clear hgd HXX
      have K0 := KB.out _ J1.out.B
      obtain ⟨z0, z1⟩ := two_of JZ
      have z6 := JZ.lt
      go_upto_region 7 with fail
      refine wp_region_held_drew (S := fun u => u.cell? ⟨g, off + k * 3, none⟩ = some (.int .u8 xk) ∧ u.cell? ⟨g, off + k * 3 + 1, none⟩ = some (.int .u16 xo) ∧ u.cell? ⟨g, off + k * 3 + 2, none⟩ = some (.slice na nn nc)) (by kernel_rfl) K0 (fun hHeld => ?_)
      refine wpAnyH_take (i := 0) (v := ?tavv0) rfl (by kernel_rfl) (by kernel_rfl) (by kernel_rfl) (fun _ _ _ h => h) (Or.inl ⟨by rfl, ?tahy0⟩) (by assumption) ?tarest0
      case tahy0 =>
        intro u hSu
        obtain ⟨s0, s1, s2⟩ := hSu
        go_simp
        try with_reducible rfl
      try simp only [Act.put, List.getElem_toArray, List.getElem_cons_succ, List.getElem_cons_zero, List.setIfInBounds_toArray, List.set_cons_zero, List.set_cons_succ]
      refine wpAnyH_take (i := 2) (v := ?tavv2) rfl (by kernel_rfl) (by kernel_rfl) (by kernel_rfl) (fun _ _ _ h => h) (Or.inl ⟨by rfl, ?tahy2⟩) (by assumption) ?tarest2
      case tahy2 =>
        intro u hSu
        obtain ⟨s0, s1, s2⟩ := hSu
        go_simp
        try with_reducible rfl
      try simp only [Act.put, List.getElem_toArray, List.getElem_cons_succ, List.getElem_cons_zero, List.setIfInBounds_toArray, List.set_cons_zero, List.set_cons_succ]
      refine wpAnyH_take (i := 3) (v := ?tavv3) rfl (by kernel_rfl) (by kernel_rfl) (by kernel_rfl) (fun _ _ _ h => h) (Or.inl ⟨by rfl, ?tahy3⟩) (by assumption) ?tarest3
      case tahy3 =>
        intro u hSu
        obtain ⟨s0, s1, s2⟩ := hSu
        go_simp
        try with_reducible rfl
      try simp only [Act.put, List.getElem_toArray, List.getElem_cons_succ, List.getElem_cons_zero, List.setIfInBounds_toArray, List.set_cons_zero, List.set_cons_succ]
      refine wpAnyH_take (i := 4) (v := ?tavv4) rfl (by kernel_rfl) (by kernel_rfl) (by kernel_rfl) (fun _ _ _ h => h) (Or.inl ⟨by rfl, ?tahy4⟩) (by assumption) ?tarest4
      case tahy4 =>
        intro u hSu
        obtain ⟨s0, s1, s2⟩ := hSu
        go_simp
        try with_reducible rfl
      try simp only [Act.put, List.getElem_toArray, List.getElem_cons_succ, List.getElem_cons_zero, List.setIfInBounds_toArray, List.set_cons_zero, List.set_cons_succ]
      refine wpAnyH_take (i := 5) (v := ?tavv5) rfl (by kernel_rfl) (by kernel_rfl) (by kernel_rfl) (fun _ _ _ h => h) (Or.inl ⟨by rfl, ?tahy5⟩) (by assumption) ?tarest5
      case tahy5 =>
        intro u hSu
        obtain ⟨s0, s1, s2⟩ := hSu
        go_simp
        try with_reducible rfl
      try simp only [Act.put, List.getElem_toArray, List.getElem_cons_succ, List.getElem_cons_zero, List.setIfInBounds_toArray, List.set_cons_zero, List.set_cons_succ]
      refine wpAnyH_ready (rs := [1]) (by kernel_rfl) (by simp) ?_
      refine AllReadyH.cons rfl (fun K hK => ?_) AllReadyH.nil
      go_simp
      refine hK.out _ _ K0 (fun hHeld => ?_)
      clear hK K
      try simp only [Act.put, List.getElem_toArray, List.getElem_cons_succ, List.getElem_cons_zero, List.setIfInBounds_toArray, List.set_cons_zero, List.set_cons_succ]
      refine wpAnyH_ready (rs := [6]) (by kernel_rfl) (by simp) ?_
      refine AllReadyH.cons rfl (fun K hK => ?_) AllReadyH.nil
      (go_simp; go_at_call 10; (with_reducible refine (CD.out).mono ?_); rintro e w5 ⟨la', ln', lc', G', S', rfl, hB5, zz, J5⟩; have K5 := KB.out _ hB5; have K6 := KB.out _ J5.B; have J6 := Lib.hid J5; obtain ⟨y0, y1⟩ := two_of zz; have y6 := zz.lt; have yf0 := zz.frozen 0; have yf1 := zz.frozen 1; clear hB5 J5 zz)
      refine hK.out _ _ ?tbhS6 (fun hHeld => ?tbrest6)
      case tbhS6 => first | exact K6 | exact K5 | exact K0
      clear hK K
      try simp only [Act.put, List.getElem_toArray, List.getElem_cons_succ, List.getElem_cons_zero, List.setIfInBounds_toArray, List.set_cons_zero, List.set_cons_succ]
      refine wpAnyH_take (i := 7) (v := ?tbvv7) rfl (by kernel_rfl) (by kernel_rfl) (by kernel_rfl) (fun _ _ _ h => h) (Or.inl ⟨by rfl, ?tbhy7⟩) (by assumption) ?tbrest7
      case tbhy7 =>
        intro u hSu
        obtain ⟨s0, s1, s2⟩ := hSu
        go_simp
        try with_reducible rfl
      try simp only [Act.put, List.getElem_toArray, List.getElem_cons_succ, List.getElem_cons_zero, List.setIfInBounds_toArray, List.set_cons_zero, List.set_cons_succ]
      refine wpAnyH_take (i := 8) (v := ?tbvv8) rfl (by kernel_rfl) (by kernel_rfl) (by kernel_rfl) (fun _ _ _ h => h) (Or.inl ⟨by rfl, ?tbhy8⟩) (by assumption) ?tbrest8
      case tbhy8 =>
        intro u hSu
        obtain ⟨s0, s1, s2⟩ := hSu
        go_simp
        try with_reducible rfl
      try simp only [Act.put, List.getElem_toArray, List.getElem_cons_succ, List.getElem_cons_zero, List.setIfInBounds_toArray, List.set_cons_zero, List.set_cons_succ]
      refine wpAnyH_take (i := 9) (v := ?tbvv9) rfl (by kernel_rfl) (by kernel_rfl) (by kernel_rfl) (fun _ _ _ h => h) (Or.inl ⟨by rfl, ?tbhy9⟩) (by assumption) ?tbrest9
      case tbhy9 =>
        intro u hSu
        obtain ⟨s0, s1, s2⟩ := hSu
        go_simp
        try with_reducible rfl
      try simp only [Act.put, List.getElem_toArray, List.getElem_cons_succ, List.getElem_cons_zero, List.setIfInBounds_toArray, List.set_cons_zero, List.set_cons_succ]
      refine wpAnyH_ready (rs := [10]) (by kernel_rfl) (by simp) ?_
      refine AllReadyH.cons rfl (fun K hK => ?_) AllReadyH.nil
      go_simp
      refine hK.out _ _ ?tbhS10 (fun hHeld => ?tbrest10)
      case tbhS10 => first | exact K6 | exact K5 | exact K0
      clear hK K
      try simp only [Act.put, List.getElem_toArray, List.getElem_cons_succ, List.getElem_cons_zero, List.setIfInBounds_toArray, List.set_cons_zero, List.set_cons_succ]
      refine wpAnyH_done (by kernel_rfl) ?_ _
      clear K0 K5 K6 y0 y1 y6 yf0 yf1 z0 z1 z6 J1 CD JZ
      generalize (w5.setCell ⟨p, 0, none⟩ (.int .u64 N2)).setCell ⟨p, 1, none⟩ (.slice la' ln' lc') = W6 at *
      rw [HT.out] at J6
      clear KB HT HN2 HNW
      clear J
      go_wp2_with fail
      go_roundw
      case rel => exact ⟨k + 1, by omega, by go_num, _, _, _, _, _, J6⟩
      case measure => simp [intOf]; omega
    · obtain rfl : k = n := by omega
      have hn1k : l.length ≤ 1000 := by rw [HL.out]; omega
      have hgd := gd_take HOW.out k
      have hll : l.length = k := HL.out
      obtain ⟨T, hT⟩ : ∃ T, T = runM c0 (l.take k) := ⟨_, rfl⟩
      rw [← hT] at hgd J
      clear hT HA HOW
      obtain ⟨w7, hw7⟩ : ∃ x, x = wr := ⟨_, rfl⟩
      subst hw7
      have C1 := Lib.hid (least_any (w := w7) ((HR.out.go J.out.B (Nat.le_refl _)).mono fun g hg hl => hl))
      have C2 := Lib.hid (fun (u : World) (hb : Below w7.heap.size w7 u) => due_any (J.out.belowS hb).D.P hgd hn1k ((J.out.belowS hb).rdH (HR.out.go (J.out.belowS hb).B (Nat.le_refl _))))
      have C3 := Lib.hid (fun (u : World) (hb : Below w7.heap.size w7 u) => wait_any (J.out.belowS hb).D.P hgd hn1k)
      have C4 := Lib.hid (fun (u : World) (hb : Below w7.heap.size w7 u) => now_any (J.out.belowS hb).D.P hgd hn1k)
      have HP := Lib.hid (fun e he => pas_lst hs e he)
      have HGB := Lib.hid (fun i hi => hgd.bd (T.l.getD i EM.w0) (EM.getD_mem (k := i) hi))
      have HGU := Lib.hid hgd.up
      have HGL := Lib.hid (And.intro hgd.now hgd.ln)
      obtain ⟨LE, hLE⟩ : ∃ q, (lstM hs).1 = q := ⟨_, rfl⟩
      obtain ⟨SM, hSM⟩ : ∃ q, (lstM hs).2 = q := ⟨_, rfl⟩
      rw [hLE, hSM] at C1 HP
      obtain ⟨NOW, hNOW⟩ : ∃ q, T.now = q := ⟨_, rfl⟩
      rw [hNOW] at C4 HGB HGL
      clear hLE hSM hNOW
      have B7 := Lib.hid J.out.B
      clear HR hgd J
      go_upto_region 11 with (first
        | (go_at_call 12; (with_reducible refine C1.out.mono ?_); rintro e w8 ⟨rfl, hB⟩; have BA := Lib.hid hB; clear hB)
        | (go_at_call 19; (with_reducible refine (C2.out _ BA.out).mono ?_); rintro e w9 ⟨qd, rfl, hq, hB⟩; have BB := Lib.hid (BA.out.trans (hB.mono BA.out.size)); obtain ⟨da, dn, dc, hdf⟩ := Reads.form hq; subst hdf; have HD := Lib.hid hq; clear hq hB)
        | (go_at_call 21; (with_reducible refine (C3.out _ BB.out).mono ?_); rintro e w10 ⟨qw, rfl, hq, hB⟩; have HW := Lib.hid hq; have BC := Lib.hid (BB.out.trans (hB.mono BB.out.size)); have HBD := Lib.hid hB; clear hq hB))
      obtain ⟨wa, wc, rfl, wle, wlm, HWR⟩ := wt_reads HW.out
      have HD2 := Lib.hid ((HD.out.keep (w' := w10) (fun g _ hl => HBD.out.block g hl)).mono fun g hg => Nat.lt_of_lt_of_le hg.2 HBD.out.size)
      obtain ⟨d1, d2, d3⟩ := reads_len HD2.out
      rw [oC_len] at d1
      have HDL := Lib.hid d1
      unfold maxLen at d3 wlm
      have HWR := Lib.hid HWR
      obtain ⟨N, hN⟩ : ∃ q, T.l.length = q := ⟨_, rfl⟩
      have HNN := Lib.hid hN
      have hNle : N ≤ 1000 := by rw [← hN]; have := HGL.out.2; omega
      rw [hN] at wle HWR
      rw [hN] at HGB ⊢
      have d2' : (dn : Int) ≤ dc := by omega
      have d3' : (dn : Int) ≤ 9223372036854775807 := by omega
      have wle' : (N : Int) ≤ wc := by omega
      clear C1 C2 C3 BA BB HW HD HBD d1 hN
      have BT := Lib.hid (B7.out.trans (BC.out.mono B7.out.size))
      have C4 := Lib.hid (fun (u : World) (hb : Below w10.heap.size w10 u) => C4.out u (BC.out.trans (hb.mono BC.out.size)))
      clear B7 BC
      go_wp2_with fail
      go_loopw [12, 13] (fun kk i wr => ∃ j : Nat, j ≤ N ∧ i = .int .i64 (j : Int) ∧ ∃ q : Nat, q ≤ j ∧ kk = .int .i64 (q : Int) ∧ Hid (q = (dueM hs (T.l.take j)).length) ∧ Hid (Below w10.heap.size w10 wr)) (fun _ i _ => N - (intOf i).toNat)
      case atStart => exact ⟨0, by omega, rfl, 0, by omega, rfl, Lib.hid (by simp [dueM]), Lib.hid (Below.refl _ _)⟩
      case round =>
        obtain ⟨j, hj, rfl, q, hq0, rfl, HQ, HB⟩ := hrel
        by_cases hjl : j < N
        · have hjl' : (j : Int) < N := by omega
          have jl : j < T.l.length := by rw [HNN.out]; exact hjl
          obtain ⟨g, rfl, x0, x1⟩ := HWR.out wr HB.out j hjl
          obtain ⟨b1, b2, b3, b4⟩ := HGB.out j hjl
          have hup : Hid (0 < j → (T.l.getD (j - 1) EM.w0).ep < (T.l.getD j EM.w0).ep) := Lib.hid (fun h => by
            have := List.pairwise_iff_getElem.1 HGU.out (j - 1) j (by omega) jl (by omega)
            rw [List.getD_eq_getElem?_getD, List.getD_eq_getElem?_getD, List.getElem?_eq_getElem jl, List.getElem?_eq_getElem (show j - 1 < T.l.length by omega)]
            exact this)
          have KB : Hid (∀ u, Below w10.heap.size w10 u → u.cell? ⟨g, j * 2 + 1, none⟩ = some (.int .u64 (T.l.getD j EM.w0).ep) ∧ u.cell? ⟨g, j * 2, none⟩ = some (.int .u16 (T.l.getD j EM.w0).ow) ∧ (0 < j → u.cell? ⟨g, (j - 1) * 2 + 1, none⟩ = some (.int .u64 (T.l.getD (j - 1) EM.w0).ep))) := Lib.hid (fun u hu => by
            obtain ⟨g', e, e1, e2⟩ := HWR.out u hu j hjl
            simp only [Option.some.injEq, Addr.mk.injEq, and_true] at e
            subst e
            refine ⟨e2, e1, fun h => ?_⟩
            obtain ⟨g'', e', e3, e4⟩ := HWR.out u hu (j - 1) (by omega)
            simp only [Option.some.injEq, Addr.mk.injEq, and_true] at e'
            subst e'
            exact e4)
          have HPB := Lib.hid (HP.out (T.l.getD j EM.w0).ep (by omega))
          have HDA := Lib.hid (due_at (hs := hs) jl)
          have HDN := Lib.hid (due_not (hs := hs) jl)
          obtain ⟨E, hE⟩ : ∃ q, (T.l.getD j EM.w0).ep = q := ⟨_, rfl⟩
          obtain ⟨O, hO⟩ : ∃ q, (T.l.getD j EM.w0).ow = q := ⟨_, rfl⟩
          obtain ⟨E9, hE9⟩ : ∃ q, (T.l.getD (j - 1) EM.w0).ep = q := ⟨_, rfl⟩
          rw [hE] at x1 b1 b2 hup KB HPB HDA HDN
          rw [hO] at x0 KB HDA
          rw [hE9] at hup KB
          clear hE hO hE9 jl b3 b4
          have e1 : decide (E < 1) = false := decide_eq_false (by omega)
          have e2 : decide (NOW < E) = false := decide_eq_false (by omega)
          have hbd0 : Below w10.heap.size w10 wr.drew := HB.out.drew
          have CN := Lib.hid (C4.out _ hbd0)
          clear x0 x1
          by_cases hz : j = 0
          · obtain rfl : j = 0 := by omega
            have e3 : decide ((0 : Int) < ((0 : Nat) : Int)) = false := by decide
            have K0 := (KB.out _ hbd0).1
            go_upto_region 15 with fail
            refine wp_region_held_drew (S := fun u => u.cell? ⟨g, 0 * 2 + 1, none⟩ = some (.int .u64 E)) (by kernel_rfl) K0 (fun hHeld => ?_)
            refine wpAnyH_take (i := 0) (v := ?zvv0) rfl (by kernel_rfl) (by kernel_rfl) (by kernel_rfl) (fun _ _ _ h => h) (Or.inl ⟨by rfl, ?zhy0⟩) (by assumption) ?zrest0
            case zhy0 =>
              intro u hSu
              have s0 := hSu
              go_simp
              try with_reducible rfl
            try simp only [Act.put, List.getElem_toArray, List.getElem_cons_succ, List.getElem_cons_zero, List.setIfInBounds_toArray, List.set_cons_zero, List.set_cons_succ]
            refine wpAnyH_take (i := 1) (v := ?zvv1) rfl (by kernel_rfl) (by kernel_rfl) (by kernel_rfl) (fun _ _ _ h => h) (Or.inl ⟨by rfl, ?zhy1⟩) (by assumption) ?zrest1
            case zhy1 =>
              intro u hSu
              have s0 := hSu
              go_simp
              try with_reducible rfl
            try simp only [Act.put, List.getElem_toArray, List.getElem_cons_succ, List.getElem_cons_zero, List.setIfInBounds_toArray, List.set_cons_zero, List.set_cons_succ]
            refine wpAnyH_take (i := 2) (v := ?zvv2) rfl (by kernel_rfl) (by kernel_rfl) (by kernel_rfl) (fun _ _ _ h => h) (Or.inl ⟨by rfl, ?zhy2⟩) (by assumption) ?zrest2
            case zhy2 =>
              intro u hSu
              have s0 := hSu
              go_simp
              try with_reducible rfl
            try simp only [Act.put, List.getElem_toArray, List.getElem_cons_succ, List.getElem_cons_zero, List.setIfInBounds_toArray, List.set_cons_zero, List.set_cons_succ]
            refine wpAnyH_take (i := 3) (v := ?zvv3) rfl (by kernel_rfl) (by kernel_rfl) (by kernel_rfl) (fun _ _ _ h => h) (Or.inl ⟨by rfl, ?zhy3⟩) (by assumption) ?zrest3
            case zhy3 =>
              intro u hSu
              have s0 := hSu
              go_simp
              try with_reducible rfl
            try simp only [Act.put, List.getElem_toArray, List.getElem_cons_succ, List.getElem_cons_zero, List.setIfInBounds_toArray, List.set_cons_zero, List.set_cons_succ]
            refine wpAnyH_take (i := 4) (v := ?zvv4) rfl (by kernel_rfl) (by kernel_rfl) (by kernel_rfl) (fun _ _ _ h => h) (Or.inl ⟨by rfl, ?zhy4⟩) (by assumption) ?zrest4
            case zhy4 =>
              intro u hSu
              have s0 := hSu
              go_simp
              try with_reducible rfl
            try simp only [Act.put, List.getElem_toArray, List.getElem_cons_succ, List.getElem_cons_zero, List.setIfInBounds_toArray, List.set_cons_zero, List.set_cons_succ]
            refine wpAnyH_take (i := 5) (v := ?zvv5) rfl (by kernel_rfl) (by kernel_rfl) (by kernel_rfl) (fun _ _ _ h => h) (Or.inl ⟨by rfl, ?zhy5⟩) (by assumption) ?zrest5
            case zhy5 =>
              intro u hSu
              have s0 := hSu
              go_simp
              try with_reducible rfl
            try simp only [Act.put, List.getElem_toArray, List.getElem_cons_succ, List.getElem_cons_zero, List.setIfInBounds_toArray, List.set_cons_zero, List.set_cons_succ]
            refine wpAnyH_take (i := 6) (v := ?zvv6) rfl (by kernel_rfl) (by kernel_rfl) (by kernel_rfl) (fun _ _ _ h => h) (Or.inl ⟨by rfl, ?zhy6⟩) (by assumption) ?zrest6
            case zhy6 =>
              intro u hSu
              have s0 := hSu
              go_simp
              try with_reducible rfl
            try simp only [Act.put, List.getElem_toArray, List.getElem_cons_succ, List.getElem_cons_zero, List.setIfInBounds_toArray, List.set_cons_zero, List.set_cons_succ]
            refine wpAnyH_take (i := 7) (v := ?zvv7) rfl (by kernel_rfl) (by kernel_rfl) (by kernel_rfl) (fun _ _ _ h => h) (Or.inl ⟨by rfl, ?zhy7⟩) (by assumption) ?zrest7
            case zhy7 =>
              intro u hSu
              have s0 := hSu
              go_simp
              try with_reducible rfl
            try simp only [Act.put, List.getElem_toArray, List.getElem_cons_succ, List.getElem_cons_zero, List.setIfInBounds_toArray, List.set_cons_zero, List.set_cons_succ]
            refine wpAnyH_take (i := 8) (v := ?zvv8) rfl (by kernel_rfl) (by kernel_rfl) (by kernel_rfl) (fun _ _ _ h => h) (Or.inl ⟨by rfl, ?zhy8⟩) (by assumption) ?zrest8
            case zhy8 =>
              intro u hSu
              have s0 := hSu
              go_simp
              try with_reducible rfl
            try simp only [Act.put, List.getElem_toArray, List.getElem_cons_succ, List.getElem_cons_zero, List.setIfInBounds_toArray, List.set_cons_zero, List.set_cons_succ]
            refine wpAnyH_take (i := 9) (v := ?zvv9) rfl (by kernel_rfl) (by kernel_rfl) (by kernel_rfl) (fun _ _ _ h => h) (Or.inl ⟨by rfl, ?zhy9⟩) (by assumption) ?zrest9
            case zhy9 =>
              intro u hSu
              have s0 := hSu
              go_simp
              try with_reducible rfl
            try simp only [Act.put, List.getElem_toArray, List.getElem_cons_succ, List.getElem_cons_zero, List.setIfInBounds_toArray, List.set_cons_zero, List.set_cons_succ]
            refine wpAnyH_take (i := 10) (v := ?zvv10) rfl (by kernel_rfl) (by kernel_rfl) (by kernel_rfl) (fun _ _ _ h => h) (Or.inl ⟨by rfl, ?zhy10⟩) (by assumption) ?zrest10
            case zhy10 =>
              intro u hSu
              have s0 := hSu
              go_simp
              try with_reducible rfl
            try simp only [Act.put, List.getElem_toArray, List.getElem_cons_succ, List.getElem_cons_zero, List.setIfInBounds_toArray, List.set_cons_zero, List.set_cons_succ]
            refine wpAnyH_take (i := 11) (v := ?zvv11) rfl (by kernel_rfl) (by kernel_rfl) (by kernel_rfl) (fun _ _ _ h => h) (Or.inl ⟨by rfl, ?zhy11⟩) (by assumption) ?zrest11
            case zhy11 =>
              intro u hSu
              have s0 := hSu
              go_simp
              try with_reducible rfl
            try simp only [Act.put, List.getElem_toArray, List.getElem_cons_succ, List.getElem_cons_zero, List.setIfInBounds_toArray, List.set_cons_zero, List.set_cons_succ]
            refine wpAnyH_take (i := 12) (v := ?zvv12) rfl (by kernel_rfl) (by kernel_rfl) (by kernel_rfl) (fun _ _ _ h => h) (Or.inl ⟨by rfl, ?zhy12⟩) (by assumption) ?zrest12
            case zhy12 =>
              intro u hSu
              have s0 := hSu
              go_simp
              try with_reducible rfl
            try simp only [Act.put, List.getElem_toArray, List.getElem_cons_succ, List.getElem_cons_zero, List.setIfInBounds_toArray, List.set_cons_zero, List.set_cons_succ]
            refine wpAnyH_ready (rs := [13]) (by kernel_rfl) (by simp) ?_
            refine AllReadyH.cons rfl (fun K hK => ?_) AllReadyH.nil
            (go_simp; go_at_call 18; (with_reducible refine CN.out.mono ?_); rintro e w11 ⟨rfl, hB2⟩; have HB2 := Lib.hid (hbd0.trans (hB2.mono hbd0.size)); have K2 := (KB.out _ HB2.out).1)
            refine hK.out _ _ ?zhS13 (fun hHeld => ?zrest13)
            case zhS13 => exact K2
            clear hK K
            try simp only [Act.put, List.getElem_toArray, List.getElem_cons_succ, List.getElem_cons_zero, List.setIfInBounds_toArray, List.set_cons_zero, List.set_cons_succ]
            refine wpAnyH_take (i := 14) (v := ?zvv14) rfl (by kernel_rfl) (by kernel_rfl) (by kernel_rfl) (fun _ _ _ h => h) (Or.inl ⟨by rfl, ?zhy14⟩) (by assumption) ?zrest14
            case zhy14 =>
              intro u hSu
              have s0 := hSu
              go_simp
              try with_reducible rfl
            try simp only [Act.put, List.getElem_toArray, List.getElem_cons_succ, List.getElem_cons_zero, List.setIfInBounds_toArray, List.set_cons_zero, List.set_cons_succ]
            refine wpAnyH_take (i := 15) (v := ?zvv15) rfl (by kernel_rfl) (by kernel_rfl) (by kernel_rfl) (fun _ _ _ h => h) (Or.inl ⟨by rfl, ?zhy15⟩) (by assumption) ?zrest15
            case zhy15 =>
              intro u hSu
              have s0 := hSu
              go_simp
              try with_reducible rfl
            try simp only [Act.put, List.getElem_toArray, List.getElem_cons_succ, List.getElem_cons_zero, List.setIfInBounds_toArray, List.set_cons_zero, List.set_cons_succ]
            refine wpAnyH_take (i := 16) (v := ?zvv16) rfl (by kernel_rfl) (by kernel_rfl) (by kernel_rfl) (fun _ _ _ h => h) (Or.inl ⟨by rfl, ?zhy16⟩) (by assumption) ?zrest16
            case zhy16 =>
              intro u hSu
              have s0 := hSu
              go_simp
              try with_reducible rfl
            try simp only [Act.put, List.getElem_toArray, List.getElem_cons_succ, List.getElem_cons_zero, List.setIfInBounds_toArray, List.set_cons_zero, List.set_cons_succ]
            refine wpAnyH_take (i := 17) (v := ?zvv17) rfl (by kernel_rfl) (by kernel_rfl) (by kernel_rfl) (fun _ _ _ h => h) (Or.inl ⟨by rfl, ?zhy17⟩) (by assumption) ?zrest17
            case zhy17 =>
              intro u hSu
              have s0 := hSu
              go_simp
              try with_reducible rfl
            try simp only [Act.put, List.getElem_toArray, List.getElem_cons_succ, List.getElem_cons_zero, List.setIfInBounds_toArray, List.set_cons_zero, List.set_cons_succ]
            refine wpAnyH_take (i := 18) (v := ?zvv18) rfl (by kernel_rfl) (by kernel_rfl) (by kernel_rfl) (fun _ _ _ h => h) (Or.inl ⟨by rfl, ?zhy18⟩) (by assumption) ?zrest18
            case zhy18 =>
              intro u hSu
              have s0 := hSu
              go_simp
              try with_reducible rfl
            try simp only [Act.put, List.getElem_toArray, List.getElem_cons_succ, List.getElem_cons_zero, List.setIfInBounds_toArray, List.set_cons_zero, List.set_cons_succ]
            refine wpAnyH_take (i := 19) (v := ?zvv19) rfl (by kernel_rfl) (by kernel_rfl) (by kernel_rfl) (fun _ _ _ h => h) (Or.inl ⟨by rfl, ?zhy19⟩) (by assumption) ?zrest19
            case zhy19 =>
              intro u hSu
              have s0 := hSu
              go_simp
              try with_reducible rfl
            try simp only [Act.put, List.getElem_toArray, List.getElem_cons_succ, List.getElem_cons_zero, List.setIfInBounds_toArray, List.set_cons_zero, List.set_cons_succ]
            refine wpAnyH_take (i := 20) (v := undef) rfl (by kernel_rfl) (by kernel_rfl) (by kernel_rfl) (fun _ _ _ h => h) (Or.inr ⟨by rfl, rfl⟩) (by assumption) ?zrest20
            try simp only [Act.put, List.getElem_toArray, List.getElem_cons_succ, List.getElem_cons_zero, List.setIfInBounds_toArray, List.set_cons_zero, List.set_cons_succ]
            refine wpAnyH_take (i := 21) (v := undef) rfl (by kernel_rfl) (by kernel_rfl) (by kernel_rfl) (fun _ _ _ h => h) (Or.inr ⟨by rfl, rfl⟩) (by assumption) ?zrest21
            try simp only [Act.put, List.getElem_toArray, List.getElem_cons_succ, List.getElem_cons_zero, List.setIfInBounds_toArray, List.set_cons_zero, List.set_cons_succ]
            refine wpAnyH_take (i := 22) (v := undef) rfl (by kernel_rfl) (by kernel_rfl) (by kernel_rfl) (fun _ _ _ h => h) (Or.inr ⟨by rfl, rfl⟩) (by assumption) ?zrest22
            try simp only [Act.put, List.getElem_toArray, List.getElem_cons_succ, List.getElem_cons_zero, List.setIfInBounds_toArray, List.set_cons_zero, List.set_cons_succ]
            refine wpAnyH_take (i := 23) (v := undef) rfl (by kernel_rfl) (by kernel_rfl) (by kernel_rfl) (fun _ _ _ h => h) (Or.inr ⟨by rfl, rfl⟩) (by assumption) ?zrest23
            try simp only [Act.put, List.getElem_toArray, List.getElem_cons_succ, List.getElem_cons_zero, List.setIfInBounds_toArray, List.set_cons_zero, List.set_cons_succ]
            refine wpAnyH_take (i := 24) (v := undef) rfl (by kernel_rfl) (by kernel_rfl) (by kernel_rfl) (fun _ _ _ h => h) (Or.inr ⟨by rfl, rfl⟩) (by assumption) ?zrest24
            try simp only [Act.put, List.getElem_toArray, List.getElem_cons_succ, List.getElem_cons_zero, List.setIfInBounds_toArray, List.set_cons_zero, List.set_cons_succ]
            refine wpAnyH_take (i := 25) (v := undef) rfl (by kernel_rfl) (by kernel_rfl) (by kernel_rfl) (fun _ _ _ h => h) (Or.inr ⟨by rfl, rfl⟩) (by assumption) ?zrest25
            try simp only [Act.put, List.getElem_toArray, List.getElem_cons_succ, List.getElem_cons_zero, List.setIfInBounds_toArray, List.set_cons_zero, List.set_cons_succ]
            refine wpAnyH_take (i := 26) (v := undef) rfl (by kernel_rfl) (by kernel_rfl) (by kernel_rfl) (fun _ _ _ h => h) (Or.inr ⟨by rfl, rfl⟩) (by assumption) ?zrest26
            try simp only [Act.put, List.getElem_toArray, List.getElem_cons_succ, List.getElem_cons_zero, List.setIfInBounds_toArray, List.set_cons_zero, List.set_cons_succ]
            refine wpAnyH_take (i := 27) (v := undef) rfl (by kernel_rfl) (by kernel_rfl) (by kernel_rfl) (fun _ _ _ h => h) (Or.inr ⟨by rfl, rfl⟩) (by assumption) ?zrest27
            try simp only [Act.put, List.getElem_toArray, List.getElem_cons_succ, List.getElem_cons_zero, List.setIfInBounds_toArray, List.set_cons_zero, List.set_cons_succ]
            refine wpAnyH_take (i := 28) (v := undef) rfl (by kernel_rfl) (by kernel_rfl) (by kernel_rfl) (fun _ _ _ h => h) (Or.inr ⟨by rfl, rfl⟩) (by assumption) ?zrest28
            try simp only [Act.put, List.getElem_toArray, List.getElem_cons_succ, List.getElem_cons_zero, List.setIfInBounds_toArray, List.set_cons_zero, List.set_cons_succ]
            refine wpAnyH_take (i := 29) (v := undef) rfl (by kernel_rfl) (by kernel_rfl) (by kernel_rfl) (fun _ _ _ h => h) (Or.inr ⟨by rfl, rfl⟩) (by assumption) ?zrest29
            try simp only [Act.put, List.getElem_toArray, List.getElem_cons_succ, List.getElem_cons_zero, List.setIfInBounds_toArray, List.set_cons_zero, List.set_cons_succ]
            refine wpAnyH_take (i := 30) (v := undef) rfl (by kernel_rfl) (by kernel_rfl) (by kernel_rfl) (fun _ _ _ h => h) (Or.inr ⟨by rfl, rfl⟩) (by assumption) ?zrest30
            try simp only [Act.put, List.getElem_toArray, List.getElem_cons_succ, List.getElem_cons_zero, List.setIfInBounds_toArray, List.set_cons_zero, List.set_cons_succ]
            refine wpAnyH_take (i := 31) (v := undef) rfl (by kernel_rfl) (by kernel_rfl) (by kernel_rfl) (fun _ _ _ h => h) (Or.inr ⟨by rfl, rfl⟩) (by assumption) ?zrest31
            try simp only [Act.put, List.getElem_toArray, List.getElem_cons_succ, List.getElem_cons_zero, List.setIfInBounds_toArray, List.set_cons_zero, List.set_cons_succ]
            refine wpAnyH_take (i := 32) (v := ?zvv32) rfl (by kernel_rfl) (by kernel_rfl) (by kernel_rfl) (fun _ _ _ h => h) (Or.inl ⟨by rfl, ?zhy32⟩) (by assumption) ?zrest32
            case zhy32 =>
              intro u hSu
              have s0 := hSu
              go_simp
              try with_reducible rfl
            try simp only [Act.put, List.getElem_toArray, List.getElem_cons_succ, List.getElem_cons_zero, List.setIfInBounds_toArray, List.set_cons_zero, List.set_cons_succ]
            refine wpAnyH_take (i := 33) (v := ?zvv33) rfl (by kernel_rfl) (by kernel_rfl) (by kernel_rfl) (fun _ _ _ h => h) (Or.inl ⟨by rfl, ?zhy33⟩) (by assumption) ?zrest33
            case zhy33 =>
              intro u hSu
              have s0 := hSu
              go_simp
              try with_reducible rfl
            try simp only [Act.put, List.getElem_toArray, List.getElem_cons_succ, List.getElem_cons_zero, List.setIfInBounds_toArray, List.set_cons_zero, List.set_cons_succ]
            refine wpAnyH_done (by kernel_rfl) ?_ _
            clear K0 K2 hHeld hbd0 hB2 CN e1 e2 e3
            obtain ⟨x1, x0, _⟩ := KB.out _ HB2.out
            have hgt : (SM = true → LE < E → pasB hs E = false) ∧ (SM = false → pasB hs E = true) ∧ (¬ LE < E → pasB hs E = true) := by
              have := HPB.out
              refine ⟨fun h1 h2 => ?_, fun h1 => ?_, fun h1 => ?_⟩
              · rw [this, h1, decide_eq_true h2]; rfl
              · rw [this, h1]; rfl
              · rw [this, decide_eq_false h1, Bool.and_false]; rfl
            obtain ⟨t1, t2, t3⟩ := hgt
            by_cases hp : pasB hs E = true
            · obtain ⟨p1, p2, p3⟩ := HDA.out hp
              rw [← HQ.out] at p1 p2 p3
              rw [HDL.out] at p1
              obtain ⟨gd, od, hda, _, y0⟩ := reads_at HD2.out HB2.out p1
              subst hda
              rw [oC_at (by rw [HDL.out]; exact p1), p2] at y0
              have p1' : (q : Int) < dn := by omega
              have e5 : decide ((dn : Int) ≤ (q : Int)) = false := decide_eq_false (by omega)
              have e6 : decide (dn ≤ q) = false := decide_eq_false (by omega)
              have hoo : (O != O) = false := by simp
              have HQ2 := Lib.hid p3
              clear p1 p2 p3 HPB HDA HDN
              have HBN := Lib.hid HB2.out.drew
              have K0 : (fun u : World => u.cell? ⟨g, 0 * 2, none⟩ = some (.int .u16 O) ∧ u.cell? ⟨gd, od + q, none⟩ = some (.int .u16 O)) w11.drew := ⟨x0, y0⟩
              cases hsm : SM with
              | true =>
                have hle : ¬ LE < E := fun h => by rw [t1 hsm h] at hp; cases hp
                have hd9 : decide (LE < E) = false := decide_eq_false hle
                subst hsm
                clear t1 t2 t3 hp HB
                go_upto_region 18 with fail
                refine wp_region_held_drew (S := fun u => u.cell? ⟨g, 0 * 2, none⟩ = some (.int .u16 O) ∧ u.cell? ⟨gd, od + q, none⟩ = some (.int .u16 O)) (by kernel_rfl) K0 (fun hHeld => ?_)
                refine wpAnyH_take (i := 0) (v := ?zzavv0) rfl (by kernel_rfl) (by kernel_rfl) (by kernel_rfl) (fun _ _ _ h => h) (Or.inl ⟨by rfl, ?zzahy0⟩) (by assumption) ?zzarest0
                case zzahy0 =>
                  intro u hSu
                  obtain ⟨s0, s1⟩ := hSu
                  go_simp
                  try with_reducible rfl
                try simp only [Act.put, List.getElem_toArray, List.getElem_cons_succ, List.getElem_cons_zero, List.setIfInBounds_toArray, List.set_cons_zero, List.set_cons_succ]
                refine wpAnyH_take (i := 1) (v := ?zzavv1) rfl (by kernel_rfl) (by kernel_rfl) (by kernel_rfl) (fun _ _ _ h => h) (Or.inl ⟨by rfl, ?zzahy1⟩) (by assumption) ?zzarest1
                case zzahy1 =>
                  intro u hSu
                  obtain ⟨s0, s1⟩ := hSu
                  go_simp
                  try with_reducible rfl
                try simp only [Act.put, List.getElem_toArray, List.getElem_cons_succ, List.getElem_cons_zero, List.setIfInBounds_toArray, List.set_cons_zero, List.set_cons_succ]
                refine wpAnyH_take (i := 2) (v := ?zzavv2) rfl (by kernel_rfl) (by kernel_rfl) (by kernel_rfl) (fun _ _ _ h => h) (Or.inl ⟨by rfl, ?zzahy2⟩) (by assumption) ?zzarest2
                case zzahy2 =>
                  intro u hSu
                  obtain ⟨s0, s1⟩ := hSu
                  go_simp
                  try with_reducible rfl
                try simp only [Act.put, List.getElem_toArray, List.getElem_cons_succ, List.getElem_cons_zero, List.setIfInBounds_toArray, List.set_cons_zero, List.set_cons_succ]
                refine wpAnyH_take (i := 3) (v := ?zzavv3) rfl (by kernel_rfl) (by kernel_rfl) (by kernel_rfl) (fun _ _ _ h => h) (Or.inl ⟨by rfl, ?zzahy3⟩) (by assumption) ?zzarest3
                case zzahy3 =>
                  intro u hSu
                  obtain ⟨s0, s1⟩ := hSu
                  go_simp
                  try with_reducible rfl
                try simp only [Act.put, List.getElem_toArray, List.getElem_cons_succ, List.getElem_cons_zero, List.setIfInBounds_toArray, List.set_cons_zero, List.set_cons_succ]
                refine wpAnyH_take (i := 4) (v := ?zzavv4) rfl (by kernel_rfl) (by kernel_rfl) (by kernel_rfl) (fun _ _ _ h => h) (Or.inl ⟨by rfl, ?zzahy4⟩) (by assumption) ?zzarest4
                case zzahy4 =>
                  intro u hSu
                  obtain ⟨s0, s1⟩ := hSu
                  go_simp
                  try with_reducible rfl
                try simp only [Act.put, List.getElem_toArray, List.getElem_cons_succ, List.getElem_cons_zero, List.setIfInBounds_toArray, List.set_cons_zero, List.set_cons_succ]
                refine wpAnyH_take (i := 5) (v := ?zzavv5) rfl (by kernel_rfl) (by kernel_rfl) (by kernel_rfl) (fun _ _ _ h => h) (Or.inl ⟨by rfl, ?zzahy5⟩) (by assumption) ?zzarest5
                case zzahy5 =>
                  intro u hSu
                  obtain ⟨s0, s1⟩ := hSu
                  go_simp
                  try with_reducible rfl
                try simp only [Act.put, List.getElem_toArray, List.getElem_cons_succ, List.getElem_cons_zero, List.setIfInBounds_toArray, List.set_cons_zero, List.set_cons_succ]
                refine wpAnyH_take (i := 6) (v := ?zzavv6) rfl (by kernel_rfl) (by kernel_rfl) (by kernel_rfl) (fun _ _ _ h => h) (Or.inl ⟨by rfl, ?zzahy6⟩) (by assumption) ?zzarest6
                case zzahy6 =>
                  intro u hSu
                  obtain ⟨s0, s1⟩ := hSu
                  go_simp
                  try with_reducible rfl
                try simp only [Act.put, List.getElem_toArray, List.getElem_cons_succ, List.getElem_cons_zero, List.setIfInBounds_toArray, List.set_cons_zero, List.set_cons_succ]
                refine wpAnyH_take (i := 7) (v := ?zzavv7) rfl (by kernel_rfl) (by kernel_rfl) (by kernel_rfl) (fun _ _ _ h => h) (Or.inl ⟨by rfl, ?zzahy7⟩) (by assumption) ?zzarest7
                case zzahy7 =>
                  intro u hSu
                  obtain ⟨s0, s1⟩ := hSu
                  go_simp
                  try with_reducible rfl
                try simp only [Act.put, List.getElem_toArray, List.getElem_cons_succ, List.getElem_cons_zero, List.setIfInBounds_toArray, List.set_cons_zero, List.set_cons_succ]
                refine wpAnyH_take (i := 8) (v := ?zzavv8) rfl (by kernel_rfl) (by kernel_rfl) (by kernel_rfl) (fun _ _ _ h => h) (Or.inl ⟨by rfl, ?zzahy8⟩) (by assumption) ?zzarest8
                case zzahy8 =>
                  intro u hSu
                  obtain ⟨s0, s1⟩ := hSu
                  go_simp
                  try with_reducible rfl
                try simp only [Act.put, List.getElem_toArray, List.getElem_cons_succ, List.getElem_cons_zero, List.setIfInBounds_toArray, List.set_cons_zero, List.set_cons_succ]
                refine wpAnyH_take (i := 9) (v := ?zzavv9) rfl (by kernel_rfl) (by kernel_rfl) (by kernel_rfl) (fun _ _ _ h => h) (Or.inl ⟨by rfl, ?zzahy9⟩) (by assumption) ?zzarest9
                case zzahy9 =>
                  intro u hSu
                  obtain ⟨s0, s1⟩ := hSu
                  go_simp
                  try with_reducible rfl
                try simp only [Act.put, List.getElem_toArray, List.getElem_cons_succ, List.getElem_cons_zero, List.setIfInBounds_toArray, List.set_cons_zero, List.set_cons_succ]
                refine wpAnyH_take (i := 10) (v := ?zzavv10) rfl (by kernel_rfl) (by kernel_rfl) (by kernel_rfl) (fun _ _ _ h => h) (Or.inl ⟨by rfl, ?zzahy10⟩) (by assumption) ?zzarest10
                case zzahy10 =>
                  intro u hSu
                  obtain ⟨s0, s1⟩ := hSu
                  go_simp
                  try with_reducible rfl
                try simp only [Act.put, List.getElem_toArray, List.getElem_cons_succ, List.getElem_cons_zero, List.setIfInBounds_toArray, List.set_cons_zero, List.set_cons_succ]
                refine wpAnyH_take (i := 11) (v := ?zzavv11) rfl (by kernel_rfl) (by kernel_rfl) (by kernel_rfl) (fun _ _ _ h => h) (Or.inl ⟨by rfl, ?zzahy11⟩) (by assumption) ?zzarest11
                case zzahy11 =>
                  intro u hSu
                  obtain ⟨s0, s1⟩ := hSu
                  go_simp
                  try with_reducible rfl
                try simp only [Act.put, List.getElem_toArray, List.getElem_cons_succ, List.getElem_cons_zero, List.setIfInBounds_toArray, List.set_cons_zero, List.set_cons_succ]
                refine wpAnyH_take (i := 12) (v := ?zzavv12) rfl (by kernel_rfl) (by kernel_rfl) (by kernel_rfl) (fun _ _ _ h => h) (Or.inl ⟨by rfl, ?zzahy12⟩) (by assumption) ?zzarest12
                case zzahy12 =>
                  intro u hSu
                  obtain ⟨s0, s1⟩ := hSu
                  go_simp
                  try with_reducible rfl
                try simp only [Act.put, List.getElem_toArray, List.getElem_cons_succ, List.getElem_cons_zero, List.setIfInBounds_toArray, List.set_cons_zero, List.set_cons_succ]
                refine wpAnyH_take (i := 13) (v := ?zzavv13) rfl (by kernel_rfl) (by kernel_rfl) (by kernel_rfl) (fun _ _ _ h => h) (Or.inl ⟨by rfl, ?zzahy13⟩) (by assumption) ?zzarest13
                case zzahy13 =>
                  intro u hSu
                  obtain ⟨s0, s1⟩ := hSu
                  go_simp
                  try with_reducible rfl
                try simp only [Act.put, List.getElem_toArray, List.getElem_cons_succ, List.getElem_cons_zero, List.setIfInBounds_toArray, List.set_cons_zero, List.set_cons_succ]
                refine wpAnyH_take (i := 14) (v := ?zzavv14) rfl (by kernel_rfl) (by kernel_rfl) (by kernel_rfl) (fun _ _ _ h => h) (Or.inl ⟨by rfl, ?zzahy14⟩) (by assumption) ?zzarest14
                case zzahy14 =>
                  intro u hSu
                  obtain ⟨s0, s1⟩ := hSu
                  go_simp
                  try with_reducible rfl
                try simp only [Act.put, List.getElem_toArray, List.getElem_cons_succ, List.getElem_cons_zero, List.setIfInBounds_toArray, List.set_cons_zero, List.set_cons_succ]
                refine wpAnyH_take (i := 15) (v := ?zzavv15) rfl (by kernel_rfl) (by kernel_rfl) (by kernel_rfl) (fun _ _ _ h => h) (Or.inl ⟨by rfl, ?zzahy15⟩) (by assumption) ?zzarest15
                case zzahy15 =>
                  intro u hSu
                  obtain ⟨s0, s1⟩ := hSu
                  go_simp
                  try with_reducible rfl
                try simp only [Act.put, List.getElem_toArray, List.getElem_cons_succ, List.getElem_cons_zero, List.setIfInBounds_toArray, List.set_cons_zero, List.set_cons_succ]
                refine wpAnyH_done (by kernel_rfl) ?_ _
                clear hHeld K0
                go_wp2_with fail
                go_roundw
                case rel => exact ⟨0 + 1, by omega, by go_num, q + 1, by omega, by go_num, Lib.hid HQ2.out.symm, HBN⟩
                case measure => simp [intOf]; omega
              | false =>
                subst hsm
                clear t1 t2 t3 hp HB
                go_upto_region 18 with fail
                refine wp_region_held_drew (S := fun u => u.cell? ⟨g, 0 * 2, none⟩ = some (.int .u16 O) ∧ u.cell? ⟨gd, od + q, none⟩ = some (.int .u16 O)) (by kernel_rfl) K0 (fun hHeld => ?_)
                refine wpAnyH_take (i := 0) (v := ?zzbvv0) rfl (by kernel_rfl) (by kernel_rfl) (by kernel_rfl) (fun _ _ _ h => h) (Or.inl ⟨by rfl, ?zzbhy0⟩) (by assumption) ?zzbrest0
                case zzbhy0 =>
                  intro u hSu
                  obtain ⟨s0, s1⟩ := hSu
                  go_simp
                  try with_reducible rfl
                try simp only [Act.put, List.getElem_toArray, List.getElem_cons_succ, List.getElem_cons_zero, List.setIfInBounds_toArray, List.set_cons_zero, List.set_cons_succ]
                refine wpAnyH_take (i := 1) (v := ?zzbvv1) rfl (by kernel_rfl) (by kernel_rfl) (by kernel_rfl) (fun _ _ _ h => h) (Or.inl ⟨by rfl, ?zzbhy1⟩) (by assumption) ?zzbrest1
                case zzbhy1 =>
                  intro u hSu
                  obtain ⟨s0, s1⟩ := hSu
                  go_simp
                  try with_reducible rfl
                try simp only [Act.put, List.getElem_toArray, List.getElem_cons_succ, List.getElem_cons_zero, List.setIfInBounds_toArray, List.set_cons_zero, List.set_cons_succ]
                refine wpAnyH_take (i := 2) (v := ?zzbvv2) rfl (by kernel_rfl) (by kernel_rfl) (by kernel_rfl) (fun _ _ _ h => h) (Or.inl ⟨by rfl, ?zzbhy2⟩) (by assumption) ?zzbrest2
                case zzbhy2 =>
                  intro u hSu
                  obtain ⟨s0, s1⟩ := hSu
                  go_simp
                  try with_reducible rfl
                try simp only [Act.put, List.getElem_toArray, List.getElem_cons_succ, List.getElem_cons_zero, List.setIfInBounds_toArray, List.set_cons_zero, List.set_cons_succ]
                refine wpAnyH_take (i := 3) (v := ?zzbvv3) rfl (by kernel_rfl) (by kernel_rfl) (by kernel_rfl) (fun _ _ _ h => h) (Or.inl ⟨by rfl, ?zzbhy3⟩) (by assumption) ?zzbrest3
                case zzbhy3 =>
                  intro u hSu
                  obtain ⟨s0, s1⟩ := hSu
                  go_simp
                  try with_reducible rfl
                try simp only [Act.put, List.getElem_toArray, List.getElem_cons_succ, List.getElem_cons_zero, List.setIfInBounds_toArray, List.set_cons_zero, List.set_cons_succ]
                refine wpAnyH_take (i := 4) (v := ?zzbvv4) rfl (by kernel_rfl) (by kernel_rfl) (by kernel_rfl) (fun _ _ _ h => h) (Or.inl ⟨by rfl, ?zzbhy4⟩) (by assumption) ?zzbrest4
                case zzbhy4 =>
                  intro u hSu
                  obtain ⟨s0, s1⟩ := hSu
                  go_simp
                  try with_reducible rfl
                try simp only [Act.put, List.getElem_toArray, List.getElem_cons_succ, List.getElem_cons_zero, List.setIfInBounds_toArray, List.set_cons_zero, List.set_cons_succ]
                refine wpAnyH_take (i := 5) (v := ?zzbvv5) rfl (by kernel_rfl) (by kernel_rfl) (by kernel_rfl) (fun _ _ _ h => h) (Or.inl ⟨by rfl, ?zzbhy5⟩) (by assumption) ?zzbrest5
                case zzbhy5 =>
                  intro u hSu
                  obtain ⟨s0, s1⟩ := hSu
                  go_simp
                  try with_reducible rfl
                try simp only [Act.put, List.getElem_toArray, List.getElem_cons_succ, List.getElem_cons_zero, List.setIfInBounds_toArray, List.set_cons_zero, List.set_cons_succ]
                refine wpAnyH_take (i := 6) (v := ?zzbvv6) rfl (by kernel_rfl) (by kernel_rfl) (by kernel_rfl) (fun _ _ _ h => h) (Or.inl ⟨by rfl, ?zzbhy6⟩) (by assumption) ?zzbrest6
                case zzbhy6 =>
                  intro u hSu
                  obtain ⟨s0, s1⟩ := hSu
                  go_simp
                  try with_reducible rfl
                try simp only [Act.put, List.getElem_toArray, List.getElem_cons_succ, List.getElem_cons_zero, List.setIfInBounds_toArray, List.set_cons_zero, List.set_cons_succ]
                refine wpAnyH_take (i := 7) (v := ?zzbvv7) rfl (by kernel_rfl) (by kernel_rfl) (by kernel_rfl) (fun _ _ _ h => h) (Or.inl ⟨by rfl, ?zzbhy7⟩) (by assumption) ?zzbrest7
                case zzbhy7 =>
                  intro u hSu
                  obtain ⟨s0, s1⟩ := hSu
                  go_simp
                  try with_reducible rfl
                try simp only [Act.put, List.getElem_toArray, List.getElem_cons_succ, List.getElem_cons_zero, List.setIfInBounds_toArray, List.set_cons_zero, List.set_cons_succ]
                refine wpAnyH_take (i := 8) (v := ?zzbvv8) rfl (by kernel_rfl) (by kernel_rfl) (by kernel_rfl) (fun _ _ _ h => h) (Or.inl ⟨by rfl, ?zzbhy8⟩) (by assumption) ?zzbrest8
                case zzbhy8 =>
                  intro u hSu
                  obtain ⟨s0, s1⟩ := hSu
                  go_simp
                  try with_reducible rfl
                try simp only [Act.put, List.getElem_toArray, List.getElem_cons_succ, List.getElem_cons_zero, List.setIfInBounds_toArray, List.set_cons_zero, List.set_cons_succ]
                refine wpAnyH_take (i := 9) (v := ?zzbvv9) rfl (by kernel_rfl) (by kernel_rfl) (by kernel_rfl) (fun _ _ _ h => h) (Or.inl ⟨by rfl, ?zzbhy9⟩) (by assumption) ?zzbrest9
                case zzbhy9 =>
                  intro u hSu
                  obtain ⟨s0, s1⟩ := hSu
                  go_simp
                  try with_reducible rfl
                try simp only [Act.put, List.getElem_toArray, List.getElem_cons_succ, List.getElem_cons_zero, List.setIfInBounds_toArray, List.set_cons_zero, List.set_cons_succ]
                refine wpAnyH_take (i := 10) (v := ?zzbvv10) rfl (by kernel_rfl) (by kernel_rfl) (by kernel_rfl) (fun _ _ _ h => h) (Or.inl ⟨by rfl, ?zzbhy10⟩) (by assumption) ?zzbrest10
                case zzbhy10 =>
                  intro u hSu
                  obtain ⟨s0, s1⟩ := hSu
                  go_simp
                  try with_reducible rfl
                try simp only [Act.put, List.getElem_toArray, List.getElem_cons_succ, List.getElem_cons_zero, List.setIfInBounds_toArray, List.set_cons_zero, List.set_cons_succ]
                refine wpAnyH_take (i := 11) (v := ?zzbvv11) rfl (by kernel_rfl) (by kernel_rfl) (by kernel_rfl) (fun _ _ _ h => h) (Or.inl ⟨by rfl, ?zzbhy11⟩) (by assumption) ?zzbrest11
                case zzbhy11 =>
                  intro u hSu
                  obtain ⟨s0, s1⟩ := hSu
                  go_simp
                  try with_reducible rfl
                try simp only [Act.put, List.getElem_toArray, List.getElem_cons_succ, List.getElem_cons_zero, List.setIfInBounds_toArray, List.set_cons_zero, List.set_cons_succ]
                refine wpAnyH_take (i := 12) (v := ?zzbvv12) rfl (by kernel_rfl) (by kernel_rfl) (by kernel_rfl) (fun _ _ _ h => h) (Or.inl ⟨by rfl, ?zzbhy12⟩) (by assumption) ?zzbrest12
                case zzbhy12 =>
                  intro u hSu
                  obtain ⟨s0, s1⟩ := hSu
                  go_simp
                  try with_reducible rfl
                try simp only [Act.put, List.getElem_toArray, List.getElem_cons_succ, List.getElem_cons_zero, List.setIfInBounds_toArray, List.set_cons_zero, List.set_cons_succ]
                refine wpAnyH_take (i := 13) (v := ?zzbvv13) rfl (by kernel_rfl) (by kernel_rfl) (by kernel_rfl) (fun _ _ _ h => h) (Or.inl ⟨by rfl, ?zzbhy13⟩) (by assumption) ?zzbrest13
                case zzbhy13 =>
                  intro u hSu
                  obtain ⟨s0, s1⟩ := hSu
                  go_simp
                  try with_reducible rfl
                try simp only [Act.put, List.getElem_toArray, List.getElem_cons_succ, List.getElem_cons_zero, List.setIfInBounds_toArray, List.set_cons_zero, List.set_cons_succ]
                refine wpAnyH_take (i := 14) (v := ?zzbvv14) rfl (by kernel_rfl) (by kernel_rfl) (by kernel_rfl) (fun _ _ _ h => h) (Or.inl ⟨by rfl, ?zzbhy14⟩) (by assumption) ?zzbrest14
                case zzbhy14 =>
                  intro u hSu
                  obtain ⟨s0, s1⟩ := hSu
                  go_simp
                  try with_reducible rfl
                try simp only [Act.put, List.getElem_toArray, List.getElem_cons_succ, List.getElem_cons_zero, List.setIfInBounds_toArray, List.set_cons_zero, List.set_cons_succ]
                refine wpAnyH_take (i := 15) (v := ?zzbvv15) rfl (by kernel_rfl) (by kernel_rfl) (by kernel_rfl) (fun _ _ _ h => h) (Or.inl ⟨by rfl, ?zzbhy15⟩) (by assumption) ?zzbrest15
                case zzbhy15 =>
                  intro u hSu
                  obtain ⟨s0, s1⟩ := hSu
                  go_simp
                  try with_reducible rfl
                try simp only [Act.put, List.getElem_toArray, List.getElem_cons_succ, List.getElem_cons_zero, List.setIfInBounds_toArray, List.set_cons_zero, List.set_cons_succ]
                refine wpAnyH_done (by kernel_rfl) ?_ _
                clear hHeld K0
                go_wp2_with fail
                go_roundw
                case rel => exact ⟨0 + 1, by omega, by go_num, q + 1, by omega, by go_num, Lib.hid HQ2.out.symm, HBN⟩
                case measure => simp [intOf]; omega
            · have hp : pasB hs E = false := by simpa using hp
              have p3 := HDN.out hp
              rw [← HQ.out] at p3
              have HQ2 := Lib.hid p3
              have hsm : SM = true := by
                cases h : SM with
                | true => rfl
                | false => rw [t2 h] at hp; cases hp
              have hle : LE < E := by
                by_cases h : LE < E
                · exact h
                · rw [t3 h] at hp; cases hp
              have hd9 : decide (LE < E) = true := decide_eq_true hle
              subst hsm
              clear t1 t2 t3 hp p3 HPB HDA HDN HB
              go_wp2_with fail
              go_roundw
              case rel => exact ⟨0 + 1, by omega, by go_num, q, by omega, rfl, Lib.hid HQ2.out.symm, HB2⟩
              case measure => simp [intOf]; omega

          · have j0 : 0 < j := by omega
            have j0' : (0 : Int) < j := by omega
            have e3 : decide ((0 : Int) < (j : Int)) = true := decide_eq_true j0'
            have e4 : decide (E ≤ E9) = false := decide_eq_false (by have := hup.out j0; omega)
            have ej : ((j : Int) - 1).toNat = j - 1 := by omega
            have j1 : (0 : Int) ≤ (j : Int) - 1 := by omega
            have j3 : (1 : Int) ≤ (j : Int) := by omega
            have j2 : (j : Int) - 1 < N := by omega
            have hwj : IntKind.i64.wrap ((j : Int) - 1) = (j : Int) - 1 := by rw [IntKind.wrap_i64]; omega
            have K0 := And.intro (KB.out _ hbd0).1 ((KB.out _ hbd0).2.2 j0)
            go_upto_region 15 with fail
            refine wp_region_held_drew (S := fun u => u.cell? ⟨g, j * 2 + 1, none⟩ = some (.int .u64 E) ∧ u.cell? ⟨g, (j - 1) * 2 + 1, none⟩ = some (.int .u64 E9)) (by kernel_rfl) K0 (fun hHeld => ?_)
            refine wpAnyH_take (i := 0) (v := ?yvv0) rfl (by kernel_rfl) (by kernel_rfl) (by kernel_rfl) (fun _ _ _ h => h) (Or.inl ⟨by rfl, ?yhy0⟩) (by assumption) ?yrest0
            case yhy0 =>
              intro u hSu
              obtain ⟨s0, s1⟩ := hSu
              go_simp
              try with_reducible rfl
            try simp only [Act.put, List.getElem_toArray, List.getElem_cons_succ, List.getElem_cons_zero, List.setIfInBounds_toArray, List.set_cons_zero, List.set_cons_succ]
            refine wpAnyH_take (i := 1) (v := ?yvv1) rfl (by kernel_rfl) (by kernel_rfl) (by kernel_rfl) (fun _ _ _ h => h) (Or.inl ⟨by rfl, ?yhy1⟩) (by assumption) ?yrest1
            case yhy1 =>
              intro u hSu
              obtain ⟨s0, s1⟩ := hSu
              go_simp
              try with_reducible rfl
            try simp only [Act.put, List.getElem_toArray, List.getElem_cons_succ, List.getElem_cons_zero, List.setIfInBounds_toArray, List.set_cons_zero, List.set_cons_succ]
            refine wpAnyH_take (i := 2) (v := ?yvv2) rfl (by kernel_rfl) (by kernel_rfl) (by kernel_rfl) (fun _ _ _ h => h) (Or.inl ⟨by rfl, ?yhy2⟩) (by assumption) ?yrest2
            case yhy2 =>
              intro u hSu
              obtain ⟨s0, s1⟩ := hSu
              go_simp
              try with_reducible rfl
            try simp only [Act.put, List.getElem_toArray, List.getElem_cons_succ, List.getElem_cons_zero, List.setIfInBounds_toArray, List.set_cons_zero, List.set_cons_succ]
            refine wpAnyH_take (i := 3) (v := ?yvv3) rfl (by kernel_rfl) (by kernel_rfl) (by kernel_rfl) (fun _ _ _ h => h) (Or.inl ⟨by rfl, ?yhy3⟩) (by assumption) ?yrest3
            case yhy3 =>
              intro u hSu
              obtain ⟨s0, s1⟩ := hSu
              go_simp
              try with_reducible rfl
            try simp only [Act.put, List.getElem_toArray, List.getElem_cons_succ, List.getElem_cons_zero, List.setIfInBounds_toArray, List.set_cons_zero, List.set_cons_succ]
            refine wpAnyH_take (i := 4) (v := ?yvv4) rfl (by kernel_rfl) (by kernel_rfl) (by kernel_rfl) (fun _ _ _ h => h) (Or.inl ⟨by rfl, ?yhy4⟩) (by assumption) ?yrest4
            case yhy4 =>
              intro u hSu
              obtain ⟨s0, s1⟩ := hSu
              go_simp
              try with_reducible rfl
            try simp only [Act.put, List.getElem_toArray, List.getElem_cons_succ, List.getElem_cons_zero, List.setIfInBounds_toArray, List.set_cons_zero, List.set_cons_succ]
            refine wpAnyH_take (i := 5) (v := ?yvv5) rfl (by kernel_rfl) (by kernel_rfl) (by kernel_rfl) (fun _ _ _ h => h) (Or.inl ⟨by rfl, ?yhy5⟩) (by assumption) ?yrest5
            case yhy5 =>
              intro u hSu
              obtain ⟨s0, s1⟩ := hSu
              go_simp
              try with_reducible rfl
            try simp only [Act.put, List.getElem_toArray, List.getElem_cons_succ, List.getElem_cons_zero, List.setIfInBounds_toArray, List.set_cons_zero, List.set_cons_succ]
            refine wpAnyH_take (i := 6) (v := ?yvv6) rfl (by kernel_rfl) (by kernel_rfl) (by kernel_rfl) (fun _ _ _ h => h) (Or.inl ⟨by rfl, ?yhy6⟩) (by assumption) ?yrest6
            case yhy6 =>
              intro u hSu
              obtain ⟨s0, s1⟩ := hSu
              go_simp
              try with_reducible rfl
            try simp only [Act.put, List.getElem_toArray, List.getElem_cons_succ, List.getElem_cons_zero, List.setIfInBounds_toArray, List.set_cons_zero, List.set_cons_succ]
            refine wpAnyH_take (i := 7) (v := ?yvv7) rfl (by kernel_rfl) (by kernel_rfl) (by kernel_rfl) (fun _ _ _ h => h) (Or.inl ⟨by rfl, ?yhy7⟩) (by assumption) ?yrest7
            case yhy7 =>
              intro u hSu
              obtain ⟨s0, s1⟩ := hSu
              go_simp
              try with_reducible rfl
            try simp only [Act.put, List.getElem_toArray, List.getElem_cons_succ, List.getElem_cons_zero, List.setIfInBounds_toArray, List.set_cons_zero, List.set_cons_succ]
            refine wpAnyH_take (i := 8) (v := ?yvv8) rfl (by kernel_rfl) (by kernel_rfl) (by kernel_rfl) (fun _ _ _ h => h) (Or.inl ⟨by rfl, ?yhy8⟩) (by assumption) ?yrest8
            case yhy8 =>
              intro u hSu
              obtain ⟨s0, s1⟩ := hSu
              go_simp
              try with_reducible rfl
            try simp only [Act.put, List.getElem_toArray, List.getElem_cons_succ, List.getElem_cons_zero, List.setIfInBounds_toArray, List.set_cons_zero, List.set_cons_succ]
            refine wpAnyH_take (i := 9) (v := ?yvv9) rfl (by kernel_rfl) (by kernel_rfl) (by kernel_rfl) (fun _ _ _ h => h) (Or.inl ⟨by rfl, ?yhy9⟩) (by assumption) ?yrest9
            case yhy9 =>
              intro u hSu
              obtain ⟨s0, s1⟩ := hSu
              go_simp
              try with_reducible rfl
            try simp only [Act.put, List.getElem_toArray, List.getElem_cons_succ, List.getElem_cons_zero, List.setIfInBounds_toArray, List.set_cons_zero, List.set_cons_succ]
            refine wpAnyH_take (i := 10) (v := ?yvv10) rfl (by kernel_rfl) (by kernel_rfl) (by kernel_rfl) (fun _ _ _ h => h) (Or.inl ⟨by rfl, ?yhy10⟩) (by assumption) ?yrest10
            case yhy10 =>
              intro u hSu
              obtain ⟨s0, s1⟩ := hSu
              go_simp
              try with_reducible rfl
            try simp only [Act.put, List.getElem_toArray, List.getElem_cons_succ, List.getElem_cons_zero, List.setIfInBounds_toArray, List.set_cons_zero, List.set_cons_succ]
            refine wpAnyH_take (i := 11) (v := ?yvv11) rfl (by kernel_rfl) (by kernel_rfl) (by kernel_rfl) (fun _ _ _ h => h) (Or.inl ⟨by rfl, ?yhy11⟩) (by assumption) ?yrest11
            case yhy11 =>
              intro u hSu
              obtain ⟨s0, s1⟩ := hSu
              go_simp
              try with_reducible rfl
            try simp only [Act.put, List.getElem_toArray, List.getElem_cons_succ, List.getElem_cons_zero, List.setIfInBounds_toArray, List.set_cons_zero, List.set_cons_succ]
            refine wpAnyH_take (i := 12) (v := ?yvv12) rfl (by kernel_rfl) (by kernel_rfl) (by kernel_rfl) (fun _ _ _ h => h) (Or.inl ⟨by rfl, ?yhy12⟩) (by assumption) ?yrest12
            case yhy12 =>
              intro u hSu
              obtain ⟨s0, s1⟩ := hSu
              go_simp
              try with_reducible rfl
            try simp only [Act.put, List.getElem_toArray, List.getElem_cons_succ, List.getElem_cons_zero, List.setIfInBounds_toArray, List.set_cons_zero, List.set_cons_succ]
            refine wpAnyH_ready (rs := [13]) (by kernel_rfl) (by simp) ?_
            refine AllReadyH.cons rfl (fun K hK => ?_) AllReadyH.nil
            (go_simp; go_at_call 18; (with_reducible refine CN.out.mono ?_); rintro e w11 ⟨rfl, hB2⟩; have HB2 := Lib.hid (hbd0.trans (hB2.mono hbd0.size)); have K2 := And.intro (KB.out _ HB2.out).1 ((KB.out _ HB2.out).2.2 j0))
            refine hK.out _ _ ?yhS13 (fun hHeld => ?yrest13)
            case yhS13 => exact K2
            clear hK K
            try simp only [Act.put, List.getElem_toArray, List.getElem_cons_succ, List.getElem_cons_zero, List.setIfInBounds_toArray, List.set_cons_zero, List.set_cons_succ]
            refine wpAnyH_take (i := 14) (v := ?yvv14) rfl (by kernel_rfl) (by kernel_rfl) (by kernel_rfl) (fun _ _ _ h => h) (Or.inl ⟨by rfl, ?yhy14⟩) (by assumption) ?yrest14
            case yhy14 =>
              intro u hSu
              obtain ⟨s0, s1⟩ := hSu
              go_simp
              try with_reducible rfl
            try simp only [Act.put, List.getElem_toArray, List.getElem_cons_succ, List.getElem_cons_zero, List.setIfInBounds_toArray, List.set_cons_zero, List.set_cons_succ]
            refine wpAnyH_take (i := 15) (v := ?yvv15) rfl (by kernel_rfl) (by kernel_rfl) (by kernel_rfl) (fun _ _ _ h => h) (Or.inl ⟨by rfl, ?yhy15⟩) (by assumption) ?yrest15
            case yhy15 =>
              intro u hSu
              obtain ⟨s0, s1⟩ := hSu
              go_simp
              try with_reducible rfl
            try simp only [Act.put, List.getElem_toArray, List.getElem_cons_succ, List.getElem_cons_zero, List.setIfInBounds_toArray, List.set_cons_zero, List.set_cons_succ]
            refine wpAnyH_take (i := 16) (v := ?yvv16) rfl (by kernel_rfl) (by kernel_rfl) (by kernel_rfl) (fun _ _ _ h => h) (Or.inl ⟨by rfl, ?yhy16⟩) (by assumption) ?yrest16
            case yhy16 =>
              intro u hSu
              obtain ⟨s0, s1⟩ := hSu
              go_simp
              try with_reducible rfl
            try simp only [Act.put, List.getElem_toArray, List.getElem_cons_succ, List.getElem_cons_zero, List.setIfInBounds_toArray, List.set_cons_zero, List.set_cons_succ]
            refine wpAnyH_take (i := 17) (v := ?yvv17) rfl (by kernel_rfl) (by kernel_rfl) (by kernel_rfl) (fun _ _ _ h => h) (Or.inl ⟨by rfl, ?yhy17⟩) (by assumption) ?yrest17
            case yhy17 =>
              intro u hSu
              obtain ⟨s0, s1⟩ := hSu
              go_simp
              try with_reducible rfl
            try simp only [Act.put, List.getElem_toArray, List.getElem_cons_succ, List.getElem_cons_zero, List.setIfInBounds_toArray, List.set_cons_zero, List.set_cons_succ]
            refine wpAnyH_take (i := 18) (v := ?yvv18) rfl (by kernel_rfl) (by kernel_rfl) (by kernel_rfl) (fun _ _ _ h => h) (Or.inl ⟨by rfl, ?yhy18⟩) (by assumption) ?yrest18
            case yhy18 =>
              intro u hSu
              obtain ⟨s0, s1⟩ := hSu
              go_simp
              try with_reducible rfl
            try simp only [Act.put, List.getElem_toArray, List.getElem_cons_succ, List.getElem_cons_zero, List.setIfInBounds_toArray, List.set_cons_zero, List.set_cons_succ]
            refine wpAnyH_take (i := 19) (v := ?yvv19) rfl (by kernel_rfl) (by kernel_rfl) (by kernel_rfl) (fun _ _ _ h => h) (Or.inl ⟨by rfl, ?yhy19⟩) (by assumption) ?yrest19
            case yhy19 =>
              intro u hSu
              obtain ⟨s0, s1⟩ := hSu
              go_simp
              try with_reducible rfl
            try simp only [Act.put, List.getElem_toArray, List.getElem_cons_succ, List.getElem_cons_zero, List.setIfInBounds_toArray, List.set_cons_zero, List.set_cons_succ]
            refine wpAnyH_take (i := 20) (v := ?yvv20) rfl (by kernel_rfl) (by kernel_rfl) (by kernel_rfl) (fun _ _ _ h => h) (Or.inl ⟨by rfl, ?yhy20⟩) (by assumption) ?yrest20
            case yhy20 =>
              intro u hSu
              obtain ⟨s0, s1⟩ := hSu
              go_simp
              try with_reducible rfl
            try simp only [Act.put, List.getElem_toArray, List.getElem_cons_succ, List.getElem_cons_zero, List.setIfInBounds_toArray, List.set_cons_zero, List.set_cons_succ]
            refine wpAnyH_take (i := 21) (v := ?yvv21) rfl (by kernel_rfl) (by kernel_rfl) (by kernel_rfl) (fun _ _ _ h => h) (Or.inl ⟨by rfl, ?yhy21⟩) (by assumption) ?yrest21
            case yhy21 =>
              intro u hSu
              obtain ⟨s0, s1⟩ := hSu
              go_simp
              try with_reducible rfl
            try simp only [Act.put, List.getElem_toArray, List.getElem_cons_succ, List.getElem_cons_zero, List.setIfInBounds_toArray, List.set_cons_zero, List.set_cons_succ]
            refine wpAnyH_take (i := 22) (v := ?yvv22) rfl (by kernel_rfl) (by kernel_rfl) (by kernel_rfl) (fun _ _ _ h => h) (Or.inl ⟨by rfl, ?yhy22⟩) (by assumption) ?yrest22
            case yhy22 =>
              intro u hSu
              obtain ⟨s0, s1⟩ := hSu
              go_simp
              try with_reducible rfl
            try simp only [Act.put, List.getElem_toArray, List.getElem_cons_succ, List.getElem_cons_zero, List.setIfInBounds_toArray, List.set_cons_zero, List.set_cons_succ]
            refine wpAnyH_take (i := 23) (v := ?yvv23) rfl (by kernel_rfl) (by kernel_rfl) (by kernel_rfl) (fun _ _ _ h => h) (Or.inl ⟨by rfl, ?yhy23⟩) (by assumption) ?yrest23
            case yhy23 =>
              intro u hSu
              obtain ⟨s0, s1⟩ := hSu
              go_simp
              try with_reducible rfl
            try simp only [Act.put, List.getElem_toArray, List.getElem_cons_succ, List.getElem_cons_zero, List.setIfInBounds_toArray, List.set_cons_zero, List.set_cons_succ]
            refine wpAnyH_take (i := 24) (v := ?yvv24) rfl (by kernel_rfl) (by kernel_rfl) (by kernel_rfl) (fun _ _ _ h => h) (Or.inl ⟨by rfl, ?yhy24⟩) (by assumption) ?yrest24
            case yhy24 =>
              intro u hSu
              obtain ⟨s0, s1⟩ := hSu
              go_simp
              try with_reducible rfl
            try simp only [Act.put, List.getElem_toArray, List.getElem_cons_succ, List.getElem_cons_zero, List.setIfInBounds_toArray, List.set_cons_zero, List.set_cons_succ]
            refine wpAnyH_take (i := 25) (v := ?yvv25) rfl (by kernel_rfl) (by kernel_rfl) (by kernel_rfl) (fun _ _ _ h => h) (Or.inl ⟨by rfl, ?yhy25⟩) (by assumption) ?yrest25
            case yhy25 =>
              intro u hSu
              obtain ⟨s0, s1⟩ := hSu
              go_simp
              try with_reducible rfl
            try simp only [Act.put, List.getElem_toArray, List.getElem_cons_succ, List.getElem_cons_zero, List.setIfInBounds_toArray, List.set_cons_zero, List.set_cons_succ]
            refine wpAnyH_take (i := 26) (v := ?yvv26) rfl (by kernel_rfl) (by kernel_rfl) (by kernel_rfl) (fun _ _ _ h => h) (Or.inl ⟨by rfl, ?yhy26⟩) (by assumption) ?yrest26
            case yhy26 =>
              intro u hSu
              obtain ⟨s0, s1⟩ := hSu
              go_simp
              try with_reducible rfl
            try simp only [Act.put, List.getElem_toArray, List.getElem_cons_succ, List.getElem_cons_zero, List.setIfInBounds_toArray, List.set_cons_zero, List.set_cons_succ]
            refine wpAnyH_take (i := 27) (v := ?yvv27) rfl (by kernel_rfl) (by kernel_rfl) (by kernel_rfl) (fun _ _ _ h => h) (Or.inl ⟨by rfl, ?yhy27⟩) (by assumption) ?yrest27
            case yhy27 =>
              intro u hSu
              obtain ⟨s0, s1⟩ := hSu
              go_simp
              try with_reducible rfl
            try simp only [Act.put, List.getElem_toArray, List.getElem_cons_succ, List.getElem_cons_zero, List.setIfInBounds_toArray, List.set_cons_zero, List.set_cons_succ]
            refine wpAnyH_take (i := 28) (v := ?yvv28) rfl (by kernel_rfl) (by kernel_rfl) (by kernel_rfl) (fun _ _ _ h => h) (Or.inl ⟨by rfl, ?yhy28⟩) (by assumption) ?yrest28
            case yhy28 =>
              intro u hSu
              obtain ⟨s0, s1⟩ := hSu
              go_simp
              try with_reducible rfl
            try simp only [Act.put, List.getElem_toArray, List.getElem_cons_succ, List.getElem_cons_zero, List.setIfInBounds_toArray, List.set_cons_zero, List.set_cons_succ]
            refine wpAnyH_take (i := 29) (v := ?yvv29) rfl (by kernel_rfl) (by kernel_rfl) (by kernel_rfl) (fun _ _ _ h => h) (Or.inl ⟨by rfl, ?yhy29⟩) (by assumption) ?yrest29
            case yhy29 =>
              intro u hSu
              obtain ⟨s0, s1⟩ := hSu
              go_simp
              try with_reducible rfl
            try simp only [Act.put, List.getElem_toArray, List.getElem_cons_succ, List.getElem_cons_zero, List.setIfInBounds_toArray, List.set_cons_zero, List.set_cons_succ]
            refine wpAnyH_take (i := 30) (v := ?yvv30) rfl (by kernel_rfl) (by kernel_rfl) (by kernel_rfl) (fun _ _ _ h => h) (Or.inl ⟨by rfl, ?yhy30⟩) (by assumption) ?yrest30
            case yhy30 =>
              intro u hSu
              obtain ⟨s0, s1⟩ := hSu
              go_simp
              try with_reducible rfl
            try simp only [Act.put, List.getElem_toArray, List.getElem_cons_succ, List.getElem_cons_zero, List.setIfInBounds_toArray, List.set_cons_zero, List.set_cons_succ]
            refine wpAnyH_take (i := 31) (v := ?yvv31) rfl (by kernel_rfl) (by kernel_rfl) (by kernel_rfl) (fun _ _ _ h => h) (Or.inl ⟨by rfl, ?yhy31⟩) (by assumption) ?yrest31
            case yhy31 =>
              intro u hSu
              obtain ⟨s0, s1⟩ := hSu
              go_simp
              try with_reducible rfl
            try simp only [Act.put, List.getElem_toArray, List.getElem_cons_succ, List.getElem_cons_zero, List.setIfInBounds_toArray, List.set_cons_zero, List.set_cons_succ]
            refine wpAnyH_take (i := 32) (v := ?yvv32) rfl (by kernel_rfl) (by kernel_rfl) (by kernel_rfl) (fun _ _ _ h => h) (Or.inl ⟨by rfl, ?yhy32⟩) (by assumption) ?yrest32
            case yhy32 =>
              intro u hSu
              obtain ⟨s0, s1⟩ := hSu
              go_simp
              try with_reducible rfl
            try simp only [Act.put, List.getElem_toArray, List.getElem_cons_succ, List.getElem_cons_zero, List.setIfInBounds_toArray, List.set_cons_zero, List.set_cons_succ]
            refine wpAnyH_take (i := 33) (v := ?yvv33) rfl (by kernel_rfl) (by kernel_rfl) (by kernel_rfl) (fun _ _ _ h => h) (Or.inl ⟨by rfl, ?yhy33⟩) (by assumption) ?yrest33
            case yhy33 =>
              intro u hSu
              obtain ⟨s0, s1⟩ := hSu
              go_simp
              try with_reducible rfl
            try simp only [Act.put, List.getElem_toArray, List.getElem_cons_succ, List.getElem_cons_zero, List.setIfInBounds_toArray, List.set_cons_zero, List.set_cons_succ]
            refine wpAnyH_done (by kernel_rfl) ?_ _
            clear K0 K2 hHeld hbd0 hB2 CN e1 e2 e3 e4 j1 j2 j3
            obtain ⟨x1, x0, _⟩ := KB.out _ HB2.out
            have hgt : (SM = true → LE < E → pasB hs E = false) ∧ (SM = false → pasB hs E = true) ∧ (¬ LE < E → pasB hs E = true) := by
              have := HPB.out
              refine ⟨fun h1 h2 => ?_, fun h1 => ?_, fun h1 => ?_⟩
              · rw [this, h1, decide_eq_true h2]; rfl
              · rw [this, h1]; rfl
              · rw [this, decide_eq_false h1, Bool.and_false]; rfl
            obtain ⟨t1, t2, t3⟩ := hgt
            by_cases hp : pasB hs E = true
            · obtain ⟨p1, p2, p3⟩ := HDA.out hp
              rw [← HQ.out] at p1 p2 p3
              rw [HDL.out] at p1
              obtain ⟨gd, od, hda, _, y0⟩ := reads_at HD2.out HB2.out p1
              subst hda
              rw [oC_at (by rw [HDL.out]; exact p1), p2] at y0
              have p1' : (q : Int) < dn := by omega
              have e5 : decide ((dn : Int) ≤ (q : Int)) = false := decide_eq_false (by omega)
              have e6 : decide (dn ≤ q) = false := decide_eq_false (by omega)
              have hoo : (O != O) = false := by simp
              have HQ2 := Lib.hid p3
              clear p1 p2 p3 HPB HDA HDN
              have HBN := Lib.hid HB2.out.drew
              have K0 : (fun u : World => u.cell? ⟨g, j * 2, none⟩ = some (.int .u16 O) ∧ u.cell? ⟨gd, od + q, none⟩ = some (.int .u16 O)) w11.drew := ⟨x0, y0⟩
              cases hsm : SM with
              | true =>
                have hle : ¬ LE < E := fun h => by rw [t1 hsm h] at hp; cases hp
                have hd9 : decide (LE < E) = false := decide_eq_false hle
                subst hsm
                clear t1 t2 t3 hp HB
                go_upto_region 18 with fail
                refine wp_region_held_drew (S := fun u => u.cell? ⟨g, j * 2, none⟩ = some (.int .u16 O) ∧ u.cell? ⟨gd, od + q, none⟩ = some (.int .u16 O)) (by kernel_rfl) K0 (fun hHeld => ?_)
                refine wpAnyH_take (i := 0) (v := ?yyavv0) rfl (by kernel_rfl) (by kernel_rfl) (by kernel_rfl) (fun _ _ _ h => h) (Or.inl ⟨by rfl, ?yyahy0⟩) (by assumption) ?yyarest0
                case yyahy0 =>
                  intro u hSu
                  obtain ⟨s0, s1⟩ := hSu
                  go_simp
                  try with_reducible rfl
                try simp only [Act.put, List.getElem_toArray, List.getElem_cons_succ, List.getElem_cons_zero, List.setIfInBounds_toArray, List.set_cons_zero, List.set_cons_succ]
                refine wpAnyH_take (i := 1) (v := ?yyavv1) rfl (by kernel_rfl) (by kernel_rfl) (by kernel_rfl) (fun _ _ _ h => h) (Or.inl ⟨by rfl, ?yyahy1⟩) (by assumption) ?yyarest1
                case yyahy1 =>
                  intro u hSu
                  obtain ⟨s0, s1⟩ := hSu
                  go_simp
                  try with_reducible rfl
                try simp only [Act.put, List.getElem_toArray, List.getElem_cons_succ, List.getElem_cons_zero, List.setIfInBounds_toArray, List.set_cons_zero, List.set_cons_succ]
                refine wpAnyH_take (i := 2) (v := ?yyavv2) rfl (by kernel_rfl) (by kernel_rfl) (by kernel_rfl) (fun _ _ _ h => h) (Or.inl ⟨by rfl, ?yyahy2⟩) (by assumption) ?yyarest2
                case yyahy2 =>
                  intro u hSu
                  obtain ⟨s0, s1⟩ := hSu
                  go_simp
                  try with_reducible rfl
                try simp only [Act.put, List.getElem_toArray, List.getElem_cons_succ, List.getElem_cons_zero, List.setIfInBounds_toArray, List.set_cons_zero, List.set_cons_succ]
                refine wpAnyH_take (i := 3) (v := ?yyavv3) rfl (by kernel_rfl) (by kernel_rfl) (by kernel_rfl) (fun _ _ _ h => h) (Or.inl ⟨by rfl, ?yyahy3⟩) (by assumption) ?yyarest3
                case yyahy3 =>
                  intro u hSu
                  obtain ⟨s0, s1⟩ := hSu
                  go_simp
                  try with_reducible rfl
                try simp only [Act.put, List.getElem_toArray, List.getElem_cons_succ, List.getElem_cons_zero, List.setIfInBounds_toArray, List.set_cons_zero, List.set_cons_succ]
                refine wpAnyH_take (i := 4) (v := ?yyavv4) rfl (by kernel_rfl) (by kernel_rfl) (by kernel_rfl) (fun _ _ _ h => h) (Or.inl ⟨by rfl, ?yyahy4⟩) (by assumption) ?yyarest4
                case yyahy4 =>
                  intro u hSu
                  obtain ⟨s0, s1⟩ := hSu
                  go_simp
                  try with_reducible rfl
                try simp only [Act.put, List.getElem_toArray, List.getElem_cons_succ, List.getElem_cons_zero, List.setIfInBounds_toArray, List.set_cons_zero, List.set_cons_succ]
                refine wpAnyH_take (i := 5) (v := ?yyavv5) rfl (by kernel_rfl) (by kernel_rfl) (by kernel_rfl) (fun _ _ _ h => h) (Or.inl ⟨by rfl, ?yyahy5⟩) (by assumption) ?yyarest5
                case yyahy5 =>
                  intro u hSu
                  obtain ⟨s0, s1⟩ := hSu
                  go_simp
                  try with_reducible rfl
                try simp only [Act.put, List.getElem_toArray, List.getElem_cons_succ, List.getElem_cons_zero, List.setIfInBounds_toArray, List.set_cons_zero, List.set_cons_succ]
                refine wpAnyH_take (i := 6) (v := ?yyavv6) rfl (by kernel_rfl) (by kernel_rfl) (by kernel_rfl) (fun _ _ _ h => h) (Or.inl ⟨by rfl, ?yyahy6⟩) (by assumption) ?yyarest6
                case yyahy6 =>
                  intro u hSu
                  obtain ⟨s0, s1⟩ := hSu
                  go_simp
                  try with_reducible rfl
                try simp only [Act.put, List.getElem_toArray, List.getElem_cons_succ, List.getElem_cons_zero, List.setIfInBounds_toArray, List.set_cons_zero, List.set_cons_succ]
                refine wpAnyH_take (i := 7) (v := ?yyavv7) rfl (by kernel_rfl) (by kernel_rfl) (by kernel_rfl) (fun _ _ _ h => h) (Or.inl ⟨by rfl, ?yyahy7⟩) (by assumption) ?yyarest7
                case yyahy7 =>
                  intro u hSu
                  obtain ⟨s0, s1⟩ := hSu
                  go_simp
                  try with_reducible rfl
                try simp only [Act.put, List.getElem_toArray, List.getElem_cons_succ, List.getElem_cons_zero, List.setIfInBounds_toArray, List.set_cons_zero, List.set_cons_succ]
                refine wpAnyH_take (i := 8) (v := ?yyavv8) rfl (by kernel_rfl) (by kernel_rfl) (by kernel_rfl) (fun _ _ _ h => h) (Or.inl ⟨by rfl, ?yyahy8⟩) (by assumption) ?yyarest8
                case yyahy8 =>
                  intro u hSu
                  obtain ⟨s0, s1⟩ := hSu
                  go_simp
                  try with_reducible rfl
                try simp only [Act.put, List.getElem_toArray, List.getElem_cons_succ, List.getElem_cons_zero, List.setIfInBounds_toArray, List.set_cons_zero, List.set_cons_succ]
                refine wpAnyH_take (i := 9) (v := ?yyavv9) rfl (by kernel_rfl) (by kernel_rfl) (by kernel_rfl) (fun _ _ _ h => h) (Or.inl ⟨by rfl, ?yyahy9⟩) (by assumption) ?yyarest9
                case yyahy9 =>
                  intro u hSu
                  obtain ⟨s0, s1⟩ := hSu
                  go_simp
                  try with_reducible rfl
                try simp only [Act.put, List.getElem_toArray, List.getElem_cons_succ, List.getElem_cons_zero, List.setIfInBounds_toArray, List.set_cons_zero, List.set_cons_succ]
                refine wpAnyH_take (i := 10) (v := ?yyavv10) rfl (by kernel_rfl) (by kernel_rfl) (by kernel_rfl) (fun _ _ _ h => h) (Or.inl ⟨by rfl, ?yyahy10⟩) (by assumption) ?yyarest10
                case yyahy10 =>
                  intro u hSu
                  obtain ⟨s0, s1⟩ := hSu
                  go_simp
                  try with_reducible rfl
                try simp only [Act.put, List.getElem_toArray, List.getElem_cons_succ, List.getElem_cons_zero, List.setIfInBounds_toArray, List.set_cons_zero, List.set_cons_succ]
                refine wpAnyH_take (i := 11) (v := ?yyavv11) rfl (by kernel_rfl) (by kernel_rfl) (by kernel_rfl) (fun _ _ _ h => h) (Or.inl ⟨by rfl, ?yyahy11⟩) (by assumption) ?yyarest11
                case yyahy11 =>
                  intro u hSu
                  obtain ⟨s0, s1⟩ := hSu
                  go_simp
                  try with_reducible rfl
                try simp only [Act.put, List.getElem_toArray, List.getElem_cons_succ, List.getElem_cons_zero, List.setIfInBounds_toArray, List.set_cons_zero, List.set_cons_succ]
                refine wpAnyH_take (i := 12) (v := ?yyavv12) rfl (by kernel_rfl) (by kernel_rfl) (by kernel_rfl) (fun _ _ _ h => h) (Or.inl ⟨by rfl, ?yyahy12⟩) (by assumption) ?yyarest12
                case yyahy12 =>
                  intro u hSu
                  obtain ⟨s0, s1⟩ := hSu
                  go_simp
                  try with_reducible rfl
                try simp only [Act.put, List.getElem_toArray, List.getElem_cons_succ, List.getElem_cons_zero, List.setIfInBounds_toArray, List.set_cons_zero, List.set_cons_succ]
                refine wpAnyH_take (i := 13) (v := ?yyavv13) rfl (by kernel_rfl) (by kernel_rfl) (by kernel_rfl) (fun _ _ _ h => h) (Or.inl ⟨by rfl, ?yyahy13⟩) (by assumption) ?yyarest13
                case yyahy13 =>
                  intro u hSu
                  obtain ⟨s0, s1⟩ := hSu
                  go_simp
                  try with_reducible rfl
                try simp only [Act.put, List.getElem_toArray, List.getElem_cons_succ, List.getElem_cons_zero, List.setIfInBounds_toArray, List.set_cons_zero, List.set_cons_succ]
                refine wpAnyH_take (i := 14) (v := ?yyavv14) rfl (by kernel_rfl) (by kernel_rfl) (by kernel_rfl) (fun _ _ _ h => h) (Or.inl ⟨by rfl, ?yyahy14⟩) (by assumption) ?yyarest14
                case yyahy14 =>
                  intro u hSu
                  obtain ⟨s0, s1⟩ := hSu
                  go_simp
                  try with_reducible rfl
                try simp only [Act.put, List.getElem_toArray, List.getElem_cons_succ, List.getElem_cons_zero, List.setIfInBounds_toArray, List.set_cons_zero, List.set_cons_succ]
                refine wpAnyH_take (i := 15) (v := ?yyavv15) rfl (by kernel_rfl) (by kernel_rfl) (by kernel_rfl) (fun _ _ _ h => h) (Or.inl ⟨by rfl, ?yyahy15⟩) (by assumption) ?yyarest15
                case yyahy15 =>
                  intro u hSu
                  obtain ⟨s0, s1⟩ := hSu
                  go_simp
                  try with_reducible rfl
                try simp only [Act.put, List.getElem_toArray, List.getElem_cons_succ, List.getElem_cons_zero, List.setIfInBounds_toArray, List.set_cons_zero, List.set_cons_succ]
                refine wpAnyH_done (by kernel_rfl) ?_ _
                clear hHeld K0
                go_wp2_with fail
                go_roundw
                case rel => exact ⟨j + 1, by omega, by go_num, q + 1, by omega, by go_num, Lib.hid HQ2.out.symm, HBN⟩
                case measure => simp [intOf]; omega
              | false =>
                subst hsm
                clear t1 t2 t3 hp HB
                go_upto_region 18 with fail
                refine wp_region_held_drew (S := fun u => u.cell? ⟨g, j * 2, none⟩ = some (.int .u16 O) ∧ u.cell? ⟨gd, od + q, none⟩ = some (.int .u16 O)) (by kernel_rfl) K0 (fun hHeld => ?_)
                refine wpAnyH_take (i := 0) (v := ?yybvv0) rfl (by kernel_rfl) (by kernel_rfl) (by kernel_rfl) (fun _ _ _ h => h) (Or.inl ⟨by rfl, ?yybhy0⟩) (by assumption) ?yybrest0
                case yybhy0 =>
                  intro u hSu
                  obtain ⟨s0, s1⟩ := hSu
                  go_simp
                  try with_reducible rfl
                try simp only [Act.put, List.getElem_toArray, List.getElem_cons_succ, List.getElem_cons_zero, List.setIfInBounds_toArray, List.set_cons_zero, List.set_cons_succ]
                refine wpAnyH_take (i := 1) (v := ?yybvv1) rfl (by kernel_rfl) (by kernel_rfl) (by kernel_rfl) (fun _ _ _ h => h) (Or.inl ⟨by rfl, ?yybhy1⟩) (by assumption) ?yybrest1
                case yybhy1 =>
                  intro u hSu
                  obtain ⟨s0, s1⟩ := hSu
                  go_simp
                  try with_reducible rfl
                try simp only [Act.put, List.getElem_toArray, List.getElem_cons_succ, List.getElem_cons_zero, List.setIfInBounds_toArray, List.set_cons_zero, List.set_cons_succ]
                refine wpAnyH_take (i := 2) (v := ?yybvv2) rfl (by kernel_rfl) (by kernel_rfl) (by kernel_rfl) (fun _ _ _ h => h) (Or.inl ⟨by rfl, ?yybhy2⟩) (by assumption) ?yybrest2
                case yybhy2 =>
                  intro u hSu
                  obtain ⟨s0, s1⟩ := hSu
                  go_simp
                  try with_reducible rfl
                try simp only [Act.put, List.getElem_toArray, List.getElem_cons_succ, List.getElem_cons_zero, List.setIfInBounds_toArray, List.set_cons_zero, List.set_cons_succ]
                refine wpAnyH_take (i := 3) (v := ?yybvv3) rfl (by kernel_rfl) (by kernel_rfl) (by kernel_rfl) (fun _ _ _ h => h) (Or.inl ⟨by rfl, ?yybhy3⟩) (by assumption) ?yybrest3
                case yybhy3 =>
                  intro u hSu
                  obtain ⟨s0, s1⟩ := hSu
                  go_simp
                  try with_reducible rfl
                try simp only [Act.put, List.getElem_toArray, List.getElem_cons_succ, List.getElem_cons_zero, List.setIfInBounds_toArray, List.set_cons_zero, List.set_cons_succ]
                refine wpAnyH_take (i := 4) (v := ?yybvv4) rfl (by kernel_rfl) (by kernel_rfl) (by kernel_rfl) (fun _ _ _ h => h) (Or.inl ⟨by rfl, ?yybhy4⟩) (by assumption) ?yybrest4
                case yybhy4 =>
                  intro u hSu
                  obtain ⟨s0, s1⟩ := hSu
                  go_simp
                  try with_reducible rfl
                try simp only [Act.put, List.getElem_toArray, List.getElem_cons_succ, List.getElem_cons_zero, List.setIfInBounds_toArray, List.set_cons_zero, List.set_cons_succ]
                refine wpAnyH_take (i := 5) (v := ?yybvv5) rfl (by kernel_rfl) (by kernel_rfl) (by kernel_rfl) (fun _ _ _ h => h) (Or.inl ⟨by rfl, ?yybhy5⟩) (by assumption) ?yybrest5
                case yybhy5 =>
                  intro u hSu
                  obtain ⟨s0, s1⟩ := hSu
                  go_simp
                  try with_reducible rfl
                try simp only [Act.put, List.getElem_toArray, List.getElem_cons_succ, List.getElem_cons_zero, List.setIfInBounds_toArray, List.set_cons_zero, List.set_cons_succ]
                refine wpAnyH_take (i := 6) (v := ?yybvv6) rfl (by kernel_rfl) (by kernel_rfl) (by kernel_rfl) (fun _ _ _ h => h) (Or.inl ⟨by rfl, ?yybhy6⟩) (by assumption) ?yybrest6
                case yybhy6 =>
                  intro u hSu
                  obtain ⟨s0, s1⟩ := hSu
                  go_simp
                  try with_reducible rfl
                try simp only [Act.put, List.getElem_toArray, List.getElem_cons_succ, List.getElem_cons_zero, List.setIfInBounds_toArray, List.set_cons_zero, List.set_cons_succ]
                refine wpAnyH_take (i := 7) (v := ?yybvv7) rfl (by kernel_rfl) (by kernel_rfl) (by kernel_rfl) (fun _ _ _ h => h) (Or.inl ⟨by rfl, ?yybhy7⟩) (by assumption) ?yybrest7
                case yybhy7 =>
                  intro u hSu
                  obtain ⟨s0, s1⟩ := hSu
                  go_simp
                  try with_reducible rfl
                try simp only [Act.put, List.getElem_toArray, List.getElem_cons_succ, List.getElem_cons_zero, List.setIfInBounds_toArray, List.set_cons_zero, List.set_cons_succ]
                refine wpAnyH_take (i := 8) (v := ?yybvv8) rfl (by kernel_rfl) (by kernel_rfl) (by kernel_rfl) (fun _ _ _ h => h) (Or.inl ⟨by rfl, ?yybhy8⟩) (by assumption) ?yybrest8
                case yybhy8 =>
                  intro u hSu
                  obtain ⟨s0, s1⟩ := hSu
                  go_simp
                  try with_reducible rfl
                try simp only [Act.put, List.getElem_toArray, List.getElem_cons_succ, List.getElem_cons_zero, List.setIfInBounds_toArray, List.set_cons_zero, List.set_cons_succ]
                refine wpAnyH_take (i := 9) (v := ?yybvv9) rfl (by kernel_rfl) (by kernel_rfl) (by kernel_rfl) (fun _ _ _ h => h) (Or.inl ⟨by rfl, ?yybhy9⟩) (by assumption) ?yybrest9
                case yybhy9 =>
                  intro u hSu
                  obtain ⟨s0, s1⟩ := hSu
                  go_simp
                  try with_reducible rfl
                try simp only [Act.put, List.getElem_toArray, List.getElem_cons_succ, List.getElem_cons_zero, List.setIfInBounds_toArray, List.set_cons_zero, List.set_cons_succ]
                refine wpAnyH_take (i := 10) (v := ?yybvv10) rfl (by kernel_rfl) (by kernel_rfl) (by kernel_rfl) (fun _ _ _ h => h) (Or.inl ⟨by rfl, ?yybhy10⟩) (by assumption) ?yybrest10
                case yybhy10 =>
                  intro u hSu
                  obtain ⟨s0, s1⟩ := hSu
                  go_simp
                  try with_reducible rfl
                try simp only [Act.put, List.getElem_toArray, List.getElem_cons_succ, List.getElem_cons_zero, List.setIfInBounds_toArray, List.set_cons_zero, List.set_cons_succ]
                refine wpAnyH_take (i := 11) (v := ?yybvv11) rfl (by kernel_rfl) (by kernel_rfl) (by kernel_rfl) (fun _ _ _ h => h) (Or.inl ⟨by rfl, ?yybhy11⟩) (by assumption) ?yybrest11
                case yybhy11 =>
                  intro u hSu
                  obtain ⟨s0, s1⟩ := hSu
                  go_simp
                  try with_reducible rfl
                try simp only [Act.put, List.getElem_toArray, List.getElem_cons_succ, List.getElem_cons_zero, List.setIfInBounds_toArray, List.set_cons_zero, List.set_cons_succ]
                refine wpAnyH_take (i := 12) (v := ?yybvv12) rfl (by kernel_rfl) (by kernel_rfl) (by kernel_rfl) (fun _ _ _ h => h) (Or.inl ⟨by rfl, ?yybhy12⟩) (by assumption) ?yybrest12
                case yybhy12 =>
                  intro u hSu
                  obtain ⟨s0, s1⟩ := hSu
                  go_simp
                  try with_reducible rfl
                try simp only [Act.put, List.getElem_toArray, List.getElem_cons_succ, List.getElem_cons_zero, List.setIfInBounds_toArray, List.set_cons_zero, List.set_cons_succ]
                refine wpAnyH_take (i := 13) (v := ?yybvv13) rfl (by kernel_rfl) (by kernel_rfl) (by kernel_rfl) (fun _ _ _ h => h) (Or.inl ⟨by rfl, ?yybhy13⟩) (by assumption) ?yybrest13
                case yybhy13 =>
                  intro u hSu
                  obtain ⟨s0, s1⟩ := hSu
                  go_simp
                  try with_reducible rfl
                try simp only [Act.put, List.getElem_toArray, List.getElem_cons_succ, List.getElem_cons_zero, List.setIfInBounds_toArray, List.set_cons_zero, List.set_cons_succ]
                refine wpAnyH_take (i := 14) (v := ?yybvv14) rfl (by kernel_rfl) (by kernel_rfl) (by kernel_rfl) (fun _ _ _ h => h) (Or.inl ⟨by rfl, ?yybhy14⟩) (by assumption) ?yybrest14
                case yybhy14 =>
                  intro u hSu
                  obtain ⟨s0, s1⟩ := hSu
                  go_simp
                  try with_reducible rfl
                try simp only [Act.put, List.getElem_toArray, List.getElem_cons_succ, List.getElem_cons_zero, List.setIfInBounds_toArray, List.set_cons_zero, List.set_cons_succ]
                refine wpAnyH_take (i := 15) (v := ?yybvv15) rfl (by kernel_rfl) (by kernel_rfl) (by kernel_rfl) (fun _ _ _ h => h) (Or.inl ⟨by rfl, ?yybhy15⟩) (by assumption) ?yybrest15
                case yybhy15 =>
                  intro u hSu
                  obtain ⟨s0, s1⟩ := hSu
                  go_simp
                  try with_reducible rfl
                try simp only [Act.put, List.getElem_toArray, List.getElem_cons_succ, List.getElem_cons_zero, List.setIfInBounds_toArray, List.set_cons_zero, List.set_cons_succ]
                refine wpAnyH_done (by kernel_rfl) ?_ _
                clear hHeld K0
                go_wp2_with fail
                go_roundw
                case rel => exact ⟨j + 1, by omega, by go_num, q + 1, by omega, by go_num, Lib.hid HQ2.out.symm, HBN⟩
                case measure => simp [intOf]; omega
            · have hp : pasB hs E = false := by simpa using hp
              have p3 := HDN.out hp
              rw [← HQ.out] at p3
              have HQ2 := Lib.hid p3
              have hsm : SM = true := by
                cases h : SM with
                | true => rfl
                | false => rw [t2 h] at hp; cases hp
              have hle : LE < E := by
                by_cases h : LE < E
                · exact h
                · rw [t3 h] at hp; cases hp
              have hd9 : decide (LE < E) = true := decide_eq_true hle
              subst hsm
              clear t1 t2 t3 hp p3 HPB HDA HDN HB
              go_wp2_with fail
              go_roundw
              case rel => exact ⟨j + 1, by omega, by go_num, q, by omega, rfl, Lib.hid HQ2.out.symm, HB2⟩
              case measure => simp [intOf]; omega
        · obtain rfl : j = N := by omega
          have hqd : q = dn := by
            have := HQ.out
            rw [List.take_of_length_le (by rw [HNN.out]; exact Nat.le_refl _), HDL.out] at this
            exact this
          subst hqd
          have eqq : ((q : Int) == (q : Int)) = true := by simp
          clear HQ HWR HD2
          go_wp2_with (go_at_call 8; (with_reducible refine (AW.out _).mono ?_); rintro e w12 ⟨rfl, hb9⟩)
          go_ret
          exact ⟨rfl, (BT.out.trans (HB.out.mono BT.out.size)).trans (hb9.mono (BT.out.trans (HB.out.mono BT.out.size)).size)⟩
end
end Go.Proofs.Ytcpkiepdpmaeoaa.WK
