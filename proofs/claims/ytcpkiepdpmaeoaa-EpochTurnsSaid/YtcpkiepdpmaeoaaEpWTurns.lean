/-
  The walk of EpochTurns, over what the program's functions tell. Nothing here is a statement of the seed.
-/
import Derived.Test.YtcpkiepdpmaeoaaEpRun
set_option linter.unusedSimpArgs false
set_option linter.unusedVariables false
namespace Go.Proofs.Ytcpkiepdpmaeoaa.WK
open Go.RowKit WM NR OM OR EM ER EF EP EL
set_option maxHeartbeats 4000000
set_option maxRecDepth 10000
section
variable {w : World} {a : Option Addr} {n c : Nat} {l : List Ac}
theorem turns_act {c : Ck} {n : Nat} (h : Gd c n) (hn : n ≤ 1000) (x : Ac) : (x.kind % 4 < 2 → 0 ≤ x.kind → (actM c x).now = c.now + 1 ∧ (actM c x).l.length = c.l.length + 1) ∧ (¬ x.kind % 4 < 2 → (actM c x).now = c.now ∧ (actM c x).l.length ≤ c.l.length) := by
  have hr := ret_open h hn x.ow
  refine ⟨fun h1 h2 => ?_, fun h1 => ?_⟩
  · unfold actM
    rw [if_neg (by omega), if_neg (by omega), hr.1]
    simp
  · unfold actM
    split
    · exact ⟨rfl, lef_len _ _⟩
    · rw [if_pos (by omega)]
      exact ⟨rfl, lef_len _ _⟩
theorem EpochTurns_walk (h : ReadsA (· < w.heap.size) w (.slice a n c) l) :
    Calls Try.prog 7 #[.slice a n c] w fun e w' => e = .returned (.bool true) ∧ Below w.heap.size w w' := by
  obtain ⟨n1, m1, m2⟩ := h.len
  unfold maxLen at m2
  have hn : (n : Int) ≤ 9223372036854775807 := by omega
  have AW := Lib.hid awake_any
  by_cases h60 : n ≤ 60
  case neg =>
    have h60' : (60 : Int) < n := by omega
    clear h n1 m1 m2
    go_enter Try.func7, Try.ntmps7
    go_wp2_with (first | (go_at_call 8; (with_reducible refine (AW.out _).mono ?_); rintro e w2 ⟨rfl, hb2⟩))
    go_ret
    exact ⟨rfl, hb2⟩
  have h60' : ¬ (60 : Int) < n := by omega
  have HA := Lib.hid h
  have HL := Lib.hid n1
  have HOW := Lib.hid h.ows
  clear h n1 m2
  have q2 : (n : Int) ≤ c := by omega
  go_enter Try.func7, Try.ntmps7
  go_upto_region 4 with (go_at_call 9; (with_reducible refine (new_any _).mono ?_); rintro e w2 ⟨v, S, rfl, hP, hS, hb2⟩; have P2 := Lib.hid hP; have J0 := Lib.hid (PJ.zero hP hS hb2); clear hP hS hb2)
  obtain ⟨va, rfl⟩ := P2.out.form
  clear P2
  generalize w2.alloc (.cells (ckC 0 none 0 0) 29) = W3 at *
  generalize w2.heap.size = p at *
  go_wp2_with fail
  go_loopw [5] (fun i wr => ∃ k : Nat, k ≤ n ∧ i = .int .i64 (k : Int) ∧ ∃ G S la ln lc, Hid (PJ w p G S wr (.pointer (some va)) la ln lc (runM c0 (l.take k)))) (fun i _ => n - (intOf i).toNat)
  case atStart => exact ⟨0, by omega, rfl, _, _, _, _, _, J0⟩
  case round =>
    obtain ⟨k, hk, rfl, G, S, la, ln, lc, J⟩ := hrel
    clear J0
    by_cases hlt : k < n
    · have hlt' : (k : Int) < n := by omega
      have hn1k : l.length ≤ 1000 := by rw [HL.out]; omega
      have hgd := gd_take HOW.out k
      have hgd2 := gd_take HOW.out (k + 1)
      have hta := turns_act hgd hn1k (l.getD k ac0)
      have CN := Lib.hid (now_any J.out.D.P hgd hn1k)
      have CW := Lib.hid (fun (u : World) (hb : Below wr.heap.size wr u) => wait_any (J.out.belowS hb).D.P hgd hn1k)
      obtain ⟨N0, hN0⟩ : ∃ q, (runM c0 (l.take k)).now = q := ⟨_, rfl⟩
      obtain ⟨L0, hL0⟩ : ∃ q, (runM c0 (l.take k)).l.length = q := ⟨_, rfl⟩
      have hgn := hgd.now
      have hgl := hgd.ln
      rw [hN0] at CN hta hgn
      rw [hL0] at hta hgl
      have HL0 := Lib.hid hL0
      have HN0 := Lib.hid hN0
      clear hN0 hL0
      have HTA := Lib.hid hta
      have HGN := Lib.hid (And.intro hgn hgl)
      clear hta hgn hgl
      go_upto_region 8 with (first
        | (go_at_call 18; (with_reducible refine CN.out.mono ?_); rintro e w7 ⟨rfl, hB⟩; have BA := Lib.hid hB; clear hB)
        | (go_at_call 21; (with_reducible refine (CW.out _ BA.out).mono ?_); rintro e w8 ⟨q, rfl, ⟨qa, qc, hqq, qle, qlm, _⟩, hB⟩; rw [HL0.out] at hqq qle; subst hqq; have BB := Lib.hid (BA.out.trans (hB.mono BA.out.size)); clear hB qlm))
      have J := Lib.hid (J.out.belowS BB.out)
      clear BA BB CN CW
      obtain ⟨wr0, hw0⟩ : ∃ x, x = wr := ⟨_, rfl⟩
      clear hw0
      have qle' : (L0 : Int) ≤ qc := by omega
      obtain ⟨wr, hw8⟩ : ∃ x, x = w8 := ⟨_, rfl⟩
      subst hw8
      obtain ⟨g, off, rfl, q1, hglt, hat, hok⟩ := HA.out.at J.out.B (Nat.le_refl _) hlt
      have hb0 : Below wr.heap.size wr wr.drew := (Below.refl _ _).drew
      have J1 := Lib.hid (J.out.belowS hb0)
      have KA : Hid (∀ u, Below w.heap.size w u → AcAt u g (off + k * 3) (l.getD k ac0) ∧ AcOk (· < w.heap.size) u (l.getD k ac0)) := Lib.hid (fun u hu => by
        obtain ⟨g', off', e, _, _, e1, e2⟩ := HA.out.at hu (Nat.le_refl _) hlt
        simp only [Option.some.injEq, Addr.mk.injEq, and_true] at e
        obtain ⟨rfl, rfl⟩ := e
        exact ⟨e1, e2⟩)
      have CD := Lib.hid (J1.out.do_ hgd hn1k (l.getD k ac0) (KA.out _ J1.out.B).2)
      have hrt := run_take c0 l k (by rw [HL.out]; exact hlt)
      rw [← hrt] at CD
      have KB : Hid (∀ u, Below w.heap.size w u → AcAt u g (off + k * 3) (l.getD k ac0)) := Lib.hid (fun u hu => (KA.out u hu).1)
      obtain ⟨T9, hT⟩ : ∃ T8, T8 = runM c0 (l.take (k + 1)) := ⟨_, rfl⟩
      rw [← hT] at CD
      have HT := Lib.hid hT
      have CN := Lib.hid (fun (G S : Nat → Prop) (u : World) (la : Option Addr) (ln lc : Nat) (hj : PJ w p G S u (.pointer (some va)) la ln lc T9) => now_any (hT ▸ hj.D.P) hgd2 hn1k)
      have CW := Lib.hid (fun (G S : Nat → Prop) (u : World) (la : Option Addr) (ln lc : Nat) (hj : PJ w p G S u (.pointer (some va)) la ln lc T9) => wait_any (hT ▸ hj.D.P) hgd2 hn1k)
      have hTA := HTA.out
      rw [← run_take c0 l k (by rw [HL.out]; exact hlt), ← hT] at hTA
      rw [← hT] at CN CW
      have hkd := hok.kind
      clear hT hat hok hrt KA
      obtain ⟨X, hX⟩ : ∃ X, X = l.getD k ac0 := ⟨_, rfl⟩
      rw [← hX] at CD KB
      have HXX := Lib.hid hX
      clear hX
      obtain ⟨xk, xo, na, nn, nc, hs⟩ := X
      obtain ⟨NW, hNW⟩ : ∃ q, (runM c0 (l.take k)).now = q := ⟨_, rfl⟩
      rw [hNW] at CD
      have JZ := J1.out.Z
      rw [hNW] at JZ
      have HNW := Lib.hid hNW
      clear hNW
      obtain ⟨N2, hN2⟩ : ∃ q, T9.now = q := ⟨_, rfl⟩
      rw [hN2] at CD
      have HN2 := Lib.hid hN2
      clear hN2
      change Hid (Calls _ _ #[_, _, .agg #[.int .u8 xk, .int .u16 xo, .slice na nn nc]] _ _) at CD
      have KB : Hid (∀ u : World, Below w.heap.size w u → u.cell? ⟨g, off + k * 3, none⟩ = some (.int .u8 xk) ∧ u.cell? ⟨g, off + k * 3 + 1, none⟩ = some (.int .u16 xo) ∧ u.cell? ⟨g, off + k * 3 + 2, none⟩ = some (.slice na nn nc)) := KB
      rw [HN2.out] at CN hTA
      rw [← HXX.out] at hTA hkd
      simp only at hTA hkd
      obtain ⟨L2, hL2⟩ : ∃ q, T9.l.length = q := ⟨_, rfl⟩
      rw [hL2] at hTA
      have HL2 := Lib.hid hL2
      have HTB := Lib.hid hTA
      have HKD := Lib.hid hkd
      clear hTA hkd hL2 HTA HXX hgd hgd2
      have K0 := KB.out _ J1.out.B
      obtain ⟨z0, z1⟩ := two_of JZ
      have z6 := JZ.lt
      go_upto_region 8 with fail
      refine wp_region_held_drew (S := fun u => u.cell? ⟨g, off + k * 3, none⟩ = some (.int .u8 xk) ∧ u.cell? ⟨g, off + k * 3 + 1, none⟩ = some (.int .u16 xo) ∧ u.cell? ⟨g, off + k * 3 + 2, none⟩ = some (.slice na nn nc)) (by kernel_rfl) K0 (fun hHeld => ?_)
      refine wpAnyH_take (i := 0) (v := ?tavv0) rfl (by kernel_rfl) (by kernel_rfl) (by kernel_rfl) (fun _ _ _ h => h) (Or.inl ⟨by rfl, ?tahy0⟩) (by assumption) ?tarest0
      case tahy0 =>
        intro u hSu
        obtain ⟨s0, s1, s2⟩ := hSu
        go_simp
        try with_reducible rfl
      try simp only [Act.put, List.getElem_toArray, List.getElem_cons_succ, List.getElem_cons_zero, List.setIfInBounds_toArray, List.set_cons_zero, List.set_cons_succ]
      refine wpAnyH_take (i := 2) (v := ?tavv2) rfl (by kernel_rfl) (by kernel_rfl) (by kernel_rfl) (fun _ _ _ h => h) (Or.inl ⟨by rfl, ?tahy2⟩) (by assumption) ?tarest2
      case tahy2 =>
        intro u hSu
        obtain ⟨s0, s1, s2⟩ := hSu
        go_simp
        try with_reducible rfl
      try simp only [Act.put, List.getElem_toArray, List.getElem_cons_succ, List.getElem_cons_zero, List.setIfInBounds_toArray, List.set_cons_zero, List.set_cons_succ]
      refine wpAnyH_take (i := 3) (v := ?tavv3) rfl (by kernel_rfl) (by kernel_rfl) (by kernel_rfl) (fun _ _ _ h => h) (Or.inl ⟨by rfl, ?tahy3⟩) (by assumption) ?tarest3
      case tahy3 =>
        intro u hSu
        obtain ⟨s0, s1, s2⟩ := hSu
        go_simp
        try with_reducible rfl
      try simp only [Act.put, List.getElem_toArray, List.getElem_cons_succ, List.getElem_cons_zero, List.setIfInBounds_toArray, List.set_cons_zero, List.set_cons_succ]
      refine wpAnyH_take (i := 4) (v := ?tavv4) rfl (by kernel_rfl) (by kernel_rfl) (by kernel_rfl) (fun _ _ _ h => h) (Or.inl ⟨by rfl, ?tahy4⟩) (by assumption) ?tarest4
      case tahy4 =>
        intro u hSu
        obtain ⟨s0, s1, s2⟩ := hSu
        go_simp
        try with_reducible rfl
      try simp only [Act.put, List.getElem_toArray, List.getElem_cons_succ, List.getElem_cons_zero, List.setIfInBounds_toArray, List.set_cons_zero, List.set_cons_succ]
      refine wpAnyH_take (i := 5) (v := ?tavv5) rfl (by kernel_rfl) (by kernel_rfl) (by kernel_rfl) (fun _ _ _ h => h) (Or.inl ⟨by rfl, ?tahy5⟩) (by assumption) ?tarest5
      case tahy5 =>
        intro u hSu
        obtain ⟨s0, s1, s2⟩ := hSu
        go_simp
        try with_reducible rfl
      try simp only [Act.put, List.getElem_toArray, List.getElem_cons_succ, List.getElem_cons_zero, List.setIfInBounds_toArray, List.set_cons_zero, List.set_cons_succ]
      refine wpAnyH_ready (rs := [1]) (by kernel_rfl) (by simp) ?_
      refine AllReadyH.cons rfl (fun K hK => ?_) AllReadyH.nil
      go_simp
      refine hK.out _ _ K0 (fun hHeld => ?_)
      clear hK K
      try simp only [Act.put, List.getElem_toArray, List.getElem_cons_succ, List.getElem_cons_zero, List.setIfInBounds_toArray, List.set_cons_zero, List.set_cons_succ]
      refine wpAnyH_ready (rs := [6]) (by kernel_rfl) (by simp) ?_
      refine AllReadyH.cons rfl (fun K hK => ?_) AllReadyH.nil
      (go_simp; go_at_call 10; (with_reducible refine (CD.out).mono ?_); rintro e w5 ⟨la', ln', lc', G', S', rfl, hB5, zz, J5⟩; have K5 := KB.out _ hB5; have K6 := KB.out _ J5.B; have J6 := Lib.hid J5; obtain ⟨y0, y1⟩ := two_of zz; have y6 := zz.lt; have yf0 := zz.frozen 0; have yf1 := zz.frozen 1; clear hB5 J5 zz)
      refine hK.out _ _ ?tbhS6 (fun hHeld => ?tbrest6)
      case tbhS6 => first | exact K6 | exact K5 | exact K0
      clear hK K
      try simp only [Act.put, List.getElem_toArray, List.getElem_cons_succ, List.getElem_cons_zero, List.setIfInBounds_toArray, List.set_cons_zero, List.set_cons_succ]
      refine wpAnyH_take (i := 7) (v := ?tbvv7) rfl (by kernel_rfl) (by kernel_rfl) (by kernel_rfl) (fun _ _ _ h => h) (Or.inl ⟨by rfl, ?tbhy7⟩) (by assumption) ?tbrest7
      case tbhy7 =>
        intro u hSu
        obtain ⟨s0, s1, s2⟩ := hSu
        go_simp
        try with_reducible rfl
      try simp only [Act.put, List.getElem_toArray, List.getElem_cons_succ, List.getElem_cons_zero, List.setIfInBounds_toArray, List.set_cons_zero, List.set_cons_succ]
      refine wpAnyH_take (i := 8) (v := ?tbvv8) rfl (by kernel_rfl) (by kernel_rfl) (by kernel_rfl) (fun _ _ _ h => h) (Or.inl ⟨by rfl, ?tbhy8⟩) (by assumption) ?tbrest8
      case tbhy8 =>
        intro u hSu
        obtain ⟨s0, s1, s2⟩ := hSu
        go_simp
        try with_reducible rfl
      try simp only [Act.put, List.getElem_toArray, List.getElem_cons_succ, List.getElem_cons_zero, List.setIfInBounds_toArray, List.set_cons_zero, List.set_cons_succ]
      refine wpAnyH_take (i := 9) (v := ?tbvv9) rfl (by kernel_rfl) (by kernel_rfl) (by kernel_rfl) (fun _ _ _ h => h) (Or.inl ⟨by rfl, ?tbhy9⟩) (by assumption) ?tbrest9
      case tbhy9 =>
        intro u hSu
        obtain ⟨s0, s1, s2⟩ := hSu
        go_simp
        try with_reducible rfl
      try simp only [Act.put, List.getElem_toArray, List.getElem_cons_succ, List.getElem_cons_zero, List.setIfInBounds_toArray, List.set_cons_zero, List.set_cons_succ]
      refine wpAnyH_ready (rs := [10]) (by kernel_rfl) (by simp) ?_
      refine AllReadyH.cons rfl (fun K hK => ?_) AllReadyH.nil
      go_simp
      refine hK.out _ _ ?tbhS10 (fun hHeld => ?tbrest10)
      case tbhS10 => first | exact K6 | exact K5 | exact K0
      clear hK K
      try simp only [Act.put, List.getElem_toArray, List.getElem_cons_succ, List.getElem_cons_zero, List.setIfInBounds_toArray, List.set_cons_zero, List.set_cons_succ]
      refine wpAnyH_done (by kernel_rfl) ?_ _
      clear K0 K5 K6 y0 y1 y6 yf0 yf1 z0 z1 z6 J1 CD JZ
      generalize (w5.setCell ⟨p, 0, none⟩ (.int .u64 N2)).setCell ⟨p, 1, none⟩ (.slice la' ln' lc') = W6 at *
      have CN6 := Lib.hid (CN.out _ _ _ _ _ _ J6.out)
      have CW6 := Lib.hid (fun (u : World) (hb : Below W6.heap.size W6 u) => CW.out _ _ _ _ _ _ (J6.out.belowS hb))
      obtain ⟨b0, b1, b2⟩ := KB.out _ J6.out.B
      have hkt : xk.tmod 4 = xk % 4 := by rw [Int.tmod_eq_emod_of_nonneg (by have := HKD.out; omega)]
      have hk0 := HKD.out.1
      have hk3 := HKD.out.2
      have hkm : 0 ≤ xk % 4 := by omega
      have hkn : xk % 4 < 4 := by omega
      have hgN := HGN.out.1
      have hgL := HGN.out.2
      have qlz : (L2 : Int) ≤ L2 := by omega
      have HTN := Lib.hid (fun (h : xk % 4 < 2) => HTB.out.1 h hk0)
      have HTM := Lib.hid HTB.out.2
      have HKK := Lib.hid hkt
      clear CN CW HTB HKD hkt hk0 hk3
      generalize xk % 4 = kk at *
      have hkt := HKK.out
      by_cases ht : kk < 2
      · obtain ⟨r1, r2⟩ := HTN.out ht
        subst r1 r2
        have hw1 : IntKind.u64.wrap (N0 + 1) = N0 + 1 := by rw [IntKind.wrap_u64]; omega
        have hd : decide (kk < 2) = true := decide_eq_true ht
        clear HTN HTM
        go_wp2_with (first
          | (go_at_call 18; (with_reducible refine CN6.out.mono ?_); rintro e w9 ⟨rfl, hB⟩; have BC := Lib.hid hB; clear hB)
          | (go_at_call 21; (with_reducible refine (CW6.out _ BC.out).mono ?_); rintro e w10 ⟨q9, rfl, ⟨ra, rc, hrr, rle, _, _⟩, hB⟩; rw [HL2.out] at hrr; subst hrr; have BD := Lib.hid (BC.out.trans (hB.mono BC.out.size)); clear hB rle))
        have J8 := Lib.hid (J6.out.belowS BD.out)
        rw [HT.out] at J8
        go_roundw
        case rel => exact ⟨k + 1, by omega, by go_num, _, _, _, _, _, J8⟩
        case measure => simp [intOf]; omega
      · obtain ⟨r1, r2⟩ := HTM.out (by omega)
        subst r1
        have hd : decide (kk < 2) = false := decide_eq_false ht
        have r2' : (L2 : Int) ≤ L0 := by omega
        clear HTN HTM
        go_wp2_with (first
          | (go_at_call 18; (with_reducible refine CN6.out.mono ?_); rintro e w9 ⟨rfl, hB⟩; have BC := Lib.hid hB; clear hB)
          | (go_at_call 21; (with_reducible refine (CW6.out _ BC.out).mono ?_); rintro e w10 ⟨q9, rfl, ⟨ra, rc, hrr, rle, _, _⟩, hB⟩; rw [HL2.out] at hrr; subst hrr; have BD := Lib.hid (BC.out.trans (hB.mono BC.out.size)); clear hB rle))
        have J8 := Lib.hid (J6.out.belowS BD.out)
        rw [HT.out] at J8
        go_roundw
        case rel => exact ⟨k + 1, by omega, by go_num, _, _, _, _, _, J8⟩
        case measure => simp [intOf]; omega
    · obtain rfl : k = n := by omega
      clear HA
      go_wp2_with (go_at_call 8; (with_reducible refine (AW.out _).mono ?_); rintro e w9 ⟨rfl, hb9⟩)
      go_ret
      exact ⟨rfl, J.out.B.trans (hb9.mono J.out.B.size)⟩
end
end Go.Proofs.Ytcpkiepdpmaeoaa.WK
