/-
  The walk of LayoutAll, over what the program's functions tell. Nothing here is a statement of the seed.
-/
import Derived.Test.YtijacjcfnilaiaaLayPlans
import Derived.Test.YtijacjcfnilaiaaObjSizeR
set_option linter.unusedSimpArgs false
set_option linter.unusedVariables false
namespace Go.Proofs.Ytijacjcfnilaiaa.WK
open Go.RowKit WM NR OM OR YM YR
set_option maxHeartbeats 4000000
set_option maxRecDepth 10000
section
variable {w : World} {ea : Option Addr} {en ec : Nat} {ia : Option Addr} {im ic : Nat} {ca : Option Addr} {cn cc : Nat} {da : Option Addr} {dn dc : Nat} {ra : Option Addr} {rn rc : Nat} {m : Md}
theorem LayoutAll_walk (h : RdM (· < w.heap.size) w ea en ec ia im ic ca cn cc da dn dc ra rn rc m) (hl : cn * 4 ≤ 140737488355328 ∧ dn * 4 ≤ 140737488355328) :
    Calls Try.prog 6 #[mV (bs m.name) ea en ec ia im ic ca cn cc da dn dc ra rn rc] w fun e w' => e = .returned (.bool true) ∧ Below w.heap.size w w' := by
  obtain ⟨l1, l2, l3, l4, l5⟩ := h.lens
  have JJ := Lib.hid (SJ.new w (mCs (bs m.name) ea en ec ia im ic ca cn cc da dn dc ra rn rc))
  have S1 := Lib.hid (fun (u : World) (hb : Below w.heap.size w u) => size_any (h.go hb hb.size))
  have C1 := Lib.hid (fun (u : World) (hb : Below w.heap.size w u) => of_any (h.go hb hb.size) hl)
  have CS := Lib.hid (fun (i : Int) (hi : -9223372036854775808 ≤ i ∧ i ≤ 9223372036854775807) (u : World) (hb : Below w.heap.size w u) => spot_any (h.go hb hb.size) hl i hi)
  have CR := Lib.hid (fun (i : Int) (hi : -9223372036854775808 ≤ i ∧ i ≤ 9223372036854775807) (u : World) (hb : Below w.heap.size w u) => raw_any (h.go hb hb.size) hl i hi)
  have AW := Lib.hid awake_any
  have HC := Lib.hid h.cd
  have HD := Lib.hid h.dt
  by_cases hs : 2000 < szF en [im, cn, dn, rn]
  · have hs' : (2000 : Int) < ((szF en [im, cn, dn, rn] : Nat) : Int) := by omega
    clear CS CR HC HD h hl hs C1 l1 l2 l3 l4 l5
    generalize bs m.name = x at *
    generalize ((szF en [im, cn, dn, rn] : Nat) : Int) = s1 at *
    go_enter Try.func6, Try.ntmps6
    go_upto_region 1 with fail
    generalize w.alloc (.cells (mCs x ea en ec ia im ic ca cn cc da dn dc ra rn rc) 26) = W at *
    obtain ⟨c0, c1, c2, c3, c4, c5⟩ := mod_cells JJ.out.X
    have c6 := JJ.out.X.lt
    go_wp2_with (first | (go_at_call 22; (with_reducible refine (S1.out _ JJ.out.B).mono ?_); rintro e w1 ⟨rfl, hb⟩; have J1 := Lib.hid (JJ.out.belowS hb); clear hb) | (go_at_call 15; (with_reducible refine (AW.out _).mono ?_); rintro e w6 ⟨rfl, hb⟩; have J6 := Lib.hid (J1.out.belowS hb); clear hb))
    go_ret
    exact ⟨rfl, J6.out.B⟩
  have hs' : ¬ (2000 : Int) < ((szF en [im, cn, dn, rn] : Nat) : Int) := by omega
  obtain ⟨_, _, z3, z4, _⟩ := szF_five (Nat.le_of_not_lt hs)
  have y3 := pgs_le (n := cn) (k := 125) (by omega)
  have y4 := pgs_le (n := dn) (k := 125) (by omega)
  have CW := Lib.hid (words_any ((pgs cn : Nat) : Int) ((pgs dn : Nat) : Int) (by omega) (by omega))
  rw [pgP_small (by omega) (by omega), show (16 : Int) * ((pgs cn + pgs dn : Nat) : Int) = ((16 * (pgs cn + pgs dn) : Nat) : Int) by omega] at CW
  obtain ⟨N, hN⟩ : ∃ N, N = 16 * (pgs cn + pgs dn) := ⟨_, rfl⟩
  obtain ⟨E1, E2⟩ := rounds_end cn dn
  have E3 : Hid (∀ (u : World) (hb : Below w.heap.size w u), Calls Try.prog 18 #[mV (bs m.name) ea en ec ia im ic ca cn cc da dn dc ra rn rc, .int .i64 ((16 * (pgs cn + pgs dn) : Nat) : Int)] u fun e w' => e = .returned (.tuple #[.bool false, .int .i64 0, .bool false]) ∧ Below u.heap.size u w') := Lib.hid (fun u hb => by
    have := CS.out ((16 * (pgs cn + pgs dn) : Nat) : Int) (by omega) u hb
    rw [beyond cn dn] at this
    exact this)
  rw [← hN] at CW E1 E2 E3
  have hNb : N ≤ 4000 := by omega
  have EE := Lib.hid (And.intro E1 E2)
  have HL := Lib.hid (And.intro l3 l4)
  clear hN E1 E2 h hl l1 l2 l3 l4 l5 hs z3 z4 y3 y4
  generalize bs m.name = x at *
  generalize ((szF en [im, cn, dn, rn] : Nat) : Int) = s1 at *
  obtain ⟨P1, hP1⟩ : ∃ P1, P1 = pgs cn := ⟨_, rfl⟩
  obtain ⟨P2, hP2⟩ : ∃ P2, P2 = pgs dn := ⟨_, rfl⟩
  rw [← hP1, ← hP2] at C1 CW
  have HP := Lib.hid hP1
  clear hP1 hP2
  go_enter Try.func6, Try.ntmps6
  go_upto_region 1 with fail
  generalize w.alloc (.cells (mCs x ea en ec ia im ic ca cn cc da dn dc ra rn rc) 26) = W at *
  obtain ⟨c0, c1, c2, c3, c4, c5⟩ := mod_cells JJ.out.X
  have c6 := JJ.out.X.lt
  go_upto_region 4 with (first | (go_at_call 22; (with_reducible refine (S1.out _ JJ.out.B).mono ?_); rintro e w1 ⟨rfl, hb⟩; have J1 := Lib.hid (JJ.out.belowS hb); clear c0 c1 c2 c3 c4 c5 c6; obtain ⟨c0, c1, c2, c3, c4, c5⟩ := mod_cells J1.out.X; have c6 := J1.out.X.lt; clear hb) | (go_at_call 9; (with_reducible refine (C1.out _ J1.out.B).mono ?_); rintro e w2 ⟨rfl, hb⟩; have J2 := Lib.hid (J1.out.belowS hb); clear hb))
  have bn := below_new w2 (.cells #[.int .i64 (P1 : Int), .int .i64 (P2 : Int)] 28)
  have PP := Lib.hid (Whole.new w2 28 #[.int .i64 (P1 : Int), .int .i64 (P2 : Int)])
  have J3 := Lib.hid (J2.out.belowS bn)
  clear bn c0 c1 c2 c3 c4 c5 c6 S1 C1 hs' J1 J2 JJ
  generalize w2.alloc (.cells #[.int .i64 (P1 : Int), .int .i64 (P2 : Int)] 28) = W3 at *
  go_wp2_with fail
  go_loopw [4, 5, 6] (fun a d i wr => ∃ k : Nat, k ≤ N ∧ i = .int .i64 (k : Int) ∧ a = .int .i64 ((nC cn k : Nat) : Int) ∧ d = .int .i64 ((nD cn dn k : Nat) : Int) ∧ Below W3.heap.size W3 wr) (fun _ _ i _ => N - (intOf i).toNat)
  case atStart => exact ⟨0, by omega, rfl, by rw [nC_zero]; rfl, by rw [nD_zero]; rfl, Below.refl _ _⟩
  case round =>
    obtain ⟨k, hk, rfl, rfl, rfl, hbl⟩ := hrel
    have J := Lib.hid (J3.out.belowS hbl)
    have Q := Lib.hid (PP.out.belowS hbl)
    obtain ⟨c0, c1, c2, c3, c4, c5⟩ := mod_cells J.out.X
    have c6 := J.out.X.lt
    obtain ⟨d0, d1⟩ := two_cells Q.out
    have d6 := Q.out.lt
    by_cases hlt : k < N
    · have hlt' : (k : Int) < (N : Int) := by omega
      have hw : IntKind.i64.wrap ((k : Int) + 1) = (k : Int) + 1 := by rw [IntKind.wrap_i64]; omega
      have SK := Lib.hid (CS.out (k : Int) (by omega))
      have RW := Lib.hid (CR.out (k : Int) (by omega))
      by_cases h1 : k < cn
      · obtain ⟨r1, r2, r3, r4⟩ := round_code (dn := dn) h1
        rw [spV_code (show 0 ≤ (k : Int) ∧ (k : Int) < cn by omega)] at SK
        rw [rawV_code (by rw [HL.out.1]; exact h1)] at RW
        simp only at SK
        rw [r1, r3]
        obtain ⟨g, off, rfl, e1⟩ := word_at HC.out HL.out.1 h1
        have RE := Lib.hid e1
        have h1' : (k : Int) < (cn : Int) := by omega
        have R2 := Lib.hid (And.intro r2 r4)
        generalize ((m.code.getD k 0 : Nat) : Int) = y at *
        clear e1 r1 r2 r3 r4 h1 hlt EE HP
        go_upto_region 16 with (first | (go_at_call 13; (with_reducible refine (CW.out _).mono ?_); rintro e w4 ⟨rfl, hb⟩; have J4 := Lib.hid (J.out.belowS hb); have hbl4 := hbl.trans (hb.mono hbl.size); obtain ⟨c0, c1, c2, c3, c4, c5⟩ := mod_cells J4.out.X; have c6 := J4.out.X.lt; clear hb) | (go_at_call 18; (with_reducible refine (SK.out _ J4.out.B).mono ?_); rintro e w5 ⟨rfl, hb⟩; have J5 := Lib.hid (J4.out.belowS hb); have hbl5 := hbl4.trans (hb.mono hbl4.size); obtain ⟨c0, c1, c2, c3, c4, c5⟩ := mod_cells J5.out.X; have c6 := J5.out.X.lt; clear hb))
        have KK : MC w.heap.size x ea en ec ia im ic (some ⟨g, off, none⟩) cn cc da dn dc ra rn rc w5.drew ∧ w5.drew.cell? ⟨g, off + k, none⟩ = some (.int .u32 y) := And.intro (mod_cells (J5.out.belowS (Below.refl _ _).drew).X) (RE.out _ (J5.out.belowS (Below.refl _ _).drew).B)
        have hX5 := (J5.out.belowS (Below.refl _ _).drew)
        clear c0 c1 c2 c3 c4 c5 c6 d0 d1 d6
        refine wp_region_held_drew (S := fun u => MC w.heap.size x ea en ec ia im ic (some ⟨g, off, none⟩) cn cc da dn dc ra rn rc u ∧ u.cell? ⟨g, off + k, none⟩ = some (.int .u32 y)) (by kernel_rfl) KK (fun hHeld => ?_)
        refine wpAnyH_take (i := 0) (v := ?avv0) rfl (by kernel_rfl) (by kernel_rfl) (by kernel_rfl) (fun _ _ _ h => h) (Or.inl ⟨by rfl, ?ahy0⟩) (by assumption) ?arest0
        case ahy0 =>
          intro u hSu
          obtain ⟨⟨s0, s1, s2, s3, s4, s5⟩, s6⟩ := hSu
          go_simp
          try with_reducible rfl
        try simp only [Act.put, List.getElem_toArray, List.getElem_cons_succ, List.getElem_cons_zero, List.setIfInBounds_toArray, List.set_cons_zero, List.set_cons_succ]
        refine wpAnyH_take (i := 1) (v := ?avv1) rfl (by kernel_rfl) (by kernel_rfl) (by kernel_rfl) (fun _ _ _ h => h) (Or.inl ⟨by rfl, ?ahy1⟩) (by assumption) ?arest1
        case ahy1 =>
          intro u hSu
          obtain ⟨⟨s0, s1, s2, s3, s4, s5⟩, s6⟩ := hSu
          go_simp
          try with_reducible rfl
        try simp only [Act.put, List.getElem_toArray, List.getElem_cons_succ, List.getElem_cons_zero, List.setIfInBounds_toArray, List.set_cons_zero, List.set_cons_succ]
        refine wpAnyH_take (i := 2) (v := ?avv2) rfl (by kernel_rfl) (by kernel_rfl) (by kernel_rfl) (fun _ _ _ h => h) (Or.inl ⟨by rfl, ?ahy2⟩) (by assumption) ?arest2
        case ahy2 =>
          intro u hSu
          obtain ⟨⟨s0, s1, s2, s3, s4, s5⟩, s6⟩ := hSu
          go_simp
          try with_reducible rfl
        try simp only [Act.put, List.getElem_toArray, List.getElem_cons_succ, List.getElem_cons_zero, List.setIfInBounds_toArray, List.set_cons_zero, List.set_cons_succ]
        refine wpAnyH_take (i := 3) (v := ?avv3) rfl (by kernel_rfl) (by kernel_rfl) (by kernel_rfl) (fun _ _ _ h => h) (Or.inl ⟨by rfl, ?ahy3⟩) (by assumption) ?arest3
        case ahy3 =>
          intro u hSu
          obtain ⟨⟨s0, s1, s2, s3, s4, s5⟩, s6⟩ := hSu
          go_simp
          try with_reducible rfl
        try simp only [Act.put, List.getElem_toArray, List.getElem_cons_succ, List.getElem_cons_zero, List.setIfInBounds_toArray, List.set_cons_zero, List.set_cons_succ]
        refine wpAnyH_take (i := 4) (v := ?avv4) rfl (by kernel_rfl) (by kernel_rfl) (by kernel_rfl) (fun _ _ _ h => h) (Or.inl ⟨by rfl, ?ahy4⟩) (by assumption) ?arest4
        case ahy4 =>
          intro u hSu
          obtain ⟨⟨s0, s1, s2, s3, s4, s5⟩, s6⟩ := hSu
          go_simp
          try with_reducible rfl
        try simp only [Act.put, List.getElem_toArray, List.getElem_cons_succ, List.getElem_cons_zero, List.setIfInBounds_toArray, List.set_cons_zero, List.set_cons_succ]
        refine wpAnyH_take (i := 5) (v := ?avv5) rfl (by kernel_rfl) (by kernel_rfl) (by kernel_rfl) (fun _ _ _ h => h) (Or.inl ⟨by rfl, ?ahy5⟩) (by assumption) ?arest5
        case ahy5 =>
          intro u hSu
          obtain ⟨⟨s0, s1, s2, s3, s4, s5⟩, s6⟩ := hSu
          go_simp
          try with_reducible rfl
        try simp only [Act.put, List.getElem_toArray, List.getElem_cons_succ, List.getElem_cons_zero, List.setIfInBounds_toArray, List.set_cons_zero, List.set_cons_succ]
        refine wpAnyH_take (i := 7) (v := ?avv7) rfl (by kernel_rfl) (by kernel_rfl) (by kernel_rfl) (fun _ _ _ h => h) (Or.inl ⟨by rfl, ?ahy7⟩) (by assumption) ?arest7
        case ahy7 =>
          intro u hSu
          obtain ⟨⟨s0, s1, s2, s3, s4, s5⟩, s6⟩ := hSu
          go_simp
          try with_reducible rfl
        try simp only [Act.put, List.getElem_toArray, List.getElem_cons_succ, List.getElem_cons_zero, List.setIfInBounds_toArray, List.set_cons_zero, List.set_cons_succ]
        refine wpAnyH_take (i := 8) (v := ?avv8) rfl (by kernel_rfl) (by kernel_rfl) (by kernel_rfl) (fun _ _ _ h => h) (Or.inl ⟨by rfl, ?ahy8⟩) (by assumption) ?arest8
        case ahy8 =>
          intro u hSu
          obtain ⟨⟨s0, s1, s2, s3, s4, s5⟩, s6⟩ := hSu
          go_simp
          try with_reducible rfl
        try simp only [Act.put, List.getElem_toArray, List.getElem_cons_succ, List.getElem_cons_zero, List.setIfInBounds_toArray, List.set_cons_zero, List.set_cons_succ]
        refine wpAnyH_take (i := 9) (v := ?avv9) rfl (by kernel_rfl) (by kernel_rfl) (by kernel_rfl) (fun _ _ _ h => h) (Or.inl ⟨by rfl, ?ahy9⟩) (by assumption) ?arest9
        case ahy9 =>
          intro u hSu
          obtain ⟨⟨s0, s1, s2, s3, s4, s5⟩, s6⟩ := hSu
          go_simp
          try with_reducible rfl
        try simp only [Act.put, List.getElem_toArray, List.getElem_cons_succ, List.getElem_cons_zero, List.setIfInBounds_toArray, List.set_cons_zero, List.set_cons_succ]
        refine wpAnyH_take (i := 10) (v := ?avv10) rfl (by kernel_rfl) (by kernel_rfl) (by kernel_rfl) (fun _ _ _ h => h) (Or.inl ⟨by rfl, ?ahy10⟩) (by assumption) ?arest10
        case ahy10 =>
          intro u hSu
          obtain ⟨⟨s0, s1, s2, s3, s4, s5⟩, s6⟩ := hSu
          go_simp
          try with_reducible rfl
        try simp only [Act.put, List.getElem_toArray, List.getElem_cons_succ, List.getElem_cons_zero, List.setIfInBounds_toArray, List.set_cons_zero, List.set_cons_succ]
        refine wpAnyH_take (i := 11) (v := ?avv11) rfl (by kernel_rfl) (by kernel_rfl) (by kernel_rfl) (fun _ _ _ h => h) (Or.inl ⟨by rfl, ?ahy11⟩) (by assumption) ?arest11
        case ahy11 =>
          intro u hSu
          obtain ⟨⟨s0, s1, s2, s3, s4, s5⟩, s6⟩ := hSu
          go_simp
          try with_reducible rfl
        try simp only [Act.put, List.getElem_toArray, List.getElem_cons_succ, List.getElem_cons_zero, List.setIfInBounds_toArray, List.set_cons_zero, List.set_cons_succ]
        refine wpAnyH_ready (rs := [6]) (by kernel_rfl) (by simp) ?_
        refine AllReadyH.cons rfl (fun K hK => ?_) AllReadyH.nil
        (go_simp; go_at_call 20; (with_reducible refine (RW.out _ hX5.B).mono ?_); rintro e w6 ⟨rfl, hb⟩; have J6 := hX5.belowS hb; have hbl6 := hbl5.drew.trans (hb.mono hbl5.drew.size); have K6 := And.intro (mod_cells J6.X) (RE.out _ J6.B); clear hb)
        refine hK.out _ _ ?ahS6 (fun hHeld => ?arest6)
        case ahS6 => first | exact KK | exact K6
        clear hK K
        try simp only [Act.put, List.getElem_toArray, List.getElem_cons_succ, List.getElem_cons_zero, List.setIfInBounds_toArray, List.set_cons_zero, List.set_cons_succ]
        refine wpAnyH_take (i := 12) (v := ?avv12) rfl (by kernel_rfl) (by kernel_rfl) (by kernel_rfl) (fun _ _ _ h => h) (Or.inl ⟨by rfl, ?ahy12⟩) (by assumption) ?arest12
        case ahy12 =>
          intro u hSu
          obtain ⟨⟨s0, s1, s2, s3, s4, s5⟩, s6⟩ := hSu
          go_simp
          try with_reducible rfl
        try simp only [Act.put, List.getElem_toArray, List.getElem_cons_succ, List.getElem_cons_zero, List.setIfInBounds_toArray, List.set_cons_zero, List.set_cons_succ]
        refine wpAnyH_take (i := 13) (v := ?avv13) rfl (by kernel_rfl) (by kernel_rfl) (by kernel_rfl) (fun _ _ _ h => h) (Or.inl ⟨by rfl, ?ahy13⟩) (by assumption) ?arest13
        case ahy13 =>
          intro u hSu
          obtain ⟨⟨s0, s1, s2, s3, s4, s5⟩, s6⟩ := hSu
          go_simp
          try with_reducible rfl
        try simp only [Act.put, List.getElem_toArray, List.getElem_cons_succ, List.getElem_cons_zero, List.setIfInBounds_toArray, List.set_cons_zero, List.set_cons_succ]
        refine wpAnyH_done (by kernel_rfl) ?_ _
        go_wp2_with fail
        go_roundw
        case rel => exact ⟨k + 1, by omega, by go_num, by rw [R2.out.1]; go_num, by rw [R2.out.2]; rfl, hbl6⟩
        case measure => simp [intOf]; omega
      by_cases h2 : 16 * pgs cn ≤ k ∧ k - 16 * pgs cn < dn
      · obtain ⟨r1, r2, r3⟩ := round_data h2.1 h2.2
        obtain ⟨j, hj⟩ : ∃ j, j = k - 16 * pgs cn := ⟨_, rfl⟩
        have jd : j < dn := by omega
        rw [spV_data (show 16 * (pgs cn : Int) ≤ (k : Int) by omega) (show (k : Int) - 16 * (pgs cn : Int) < dn by omega), show (k : Int) - 16 * (pgs cn : Int) = (j : Int) by omega] at SK
        rw [rawV_data (j := j) (by rw [HL.out.1]; omega) (by rw [HL.out.2]; exact jd)] at RW
        simp only at SK
        rw [← hj] at r1
        rw [r1] at r2 ⊢
        obtain ⟨g, off, rfl, e1⟩ := word_at HD.out HL.out.2 jd
        have RE := Lib.hid e1
        have h1' : (j : Int) < (dn : Int) := by omega
        have hwj : IntKind.i64.wrap ((j : Int) + 1) = (j : Int) + 1 := by rw [IntKind.wrap_i64]; omega
        have R2 := Lib.hid (And.intro r2 r3)
        generalize ((m.data.getD j 0 : Nat) : Int) = y at *
        clear e1 r1 r2 r3 h1 h2 hlt EE HP hj jd
        generalize hA : ((nC cn k : Nat) : Int) = A at *
        go_upto_region 9 with (first | (go_at_call 13; (with_reducible refine (CW.out _).mono ?_); rintro e w4 ⟨rfl, hb⟩; have J4 := Lib.hid (J.out.belowS hb); have hbl4 := hbl.trans (hb.mono hbl.size); obtain ⟨c0, c1, c2, c3, c4, c5⟩ := mod_cells J4.out.X; have c6 := J4.out.X.lt; clear hb) | (go_at_call 18; (with_reducible refine (SK.out _ J4.out.B).mono ?_); rintro e w5 ⟨rfl, hb⟩; have J5 := Lib.hid (J4.out.belowS hb); have hbl5 := hbl4.trans (hb.mono hbl4.size); obtain ⟨c0, c1, c2, c3, c4, c5⟩ := mod_cells J5.out.X; have c6 := J5.out.X.lt; clear hb))
        have KK : MC w.heap.size x ea en ec ia im ic ca cn cc (some ⟨g, off, none⟩) dn dc ra rn rc w5.drew ∧ w5.drew.cell? ⟨g, off + j, none⟩ = some (.int .u32 y) := And.intro (mod_cells (J5.out.belowS (Below.refl _ _).drew).X) (RE.out _ (J5.out.belowS (Below.refl _ _).drew).B)
        have hX5 := (J5.out.belowS (Below.refl _ _).drew)
        clear c0 c1 c2 c3 c4 c5 c6 d0 d1 d6
        refine wp_region_held_drew (S := fun u => MC w.heap.size x ea en ec ia im ic ca cn cc (some ⟨g, off, none⟩) dn dc ra rn rc u ∧ u.cell? ⟨g, off + j, none⟩ = some (.int .u32 y)) (by kernel_rfl) KK (fun hHeld => ?_)
        refine wpAnyH_take (i := 0) (v := ?bvv0) rfl (by kernel_rfl) (by kernel_rfl) (by kernel_rfl) (fun _ _ _ h => h) (Or.inl ⟨by rfl, ?bhy0⟩) (by assumption) ?brest0
        case bhy0 =>
          intro u hSu
          obtain ⟨⟨s0, s1, s2, s3, s4, s5⟩, s6⟩ := hSu
          go_simp
          try with_reducible rfl
        try simp only [Act.put, List.getElem_toArray, List.getElem_cons_succ, List.getElem_cons_zero, List.setIfInBounds_toArray, List.set_cons_zero, List.set_cons_succ]
        refine wpAnyH_take (i := 1) (v := ?bvv1) rfl (by kernel_rfl) (by kernel_rfl) (by kernel_rfl) (fun _ _ _ h => h) (Or.inl ⟨by rfl, ?bhy1⟩) (by assumption) ?brest1
        case bhy1 =>
          intro u hSu
          obtain ⟨⟨s0, s1, s2, s3, s4, s5⟩, s6⟩ := hSu
          go_simp
          try with_reducible rfl
        try simp only [Act.put, List.getElem_toArray, List.getElem_cons_succ, List.getElem_cons_zero, List.setIfInBounds_toArray, List.set_cons_zero, List.set_cons_succ]
        refine wpAnyH_take (i := 2) (v := ?bvv2) rfl (by kernel_rfl) (by kernel_rfl) (by kernel_rfl) (fun _ _ _ h => h) (Or.inl ⟨by rfl, ?bhy2⟩) (by assumption) ?brest2
        case bhy2 =>
          intro u hSu
          obtain ⟨⟨s0, s1, s2, s3, s4, s5⟩, s6⟩ := hSu
          go_simp
          try with_reducible rfl
        try simp only [Act.put, List.getElem_toArray, List.getElem_cons_succ, List.getElem_cons_zero, List.setIfInBounds_toArray, List.set_cons_zero, List.set_cons_succ]
        refine wpAnyH_take (i := 3) (v := ?bvv3) rfl (by kernel_rfl) (by kernel_rfl) (by kernel_rfl) (fun _ _ _ h => h) (Or.inl ⟨by rfl, ?bhy3⟩) (by assumption) ?brest3
        case bhy3 =>
          intro u hSu
          obtain ⟨⟨s0, s1, s2, s3, s4, s5⟩, s6⟩ := hSu
          go_simp
          try with_reducible rfl
        try simp only [Act.put, List.getElem_toArray, List.getElem_cons_succ, List.getElem_cons_zero, List.setIfInBounds_toArray, List.set_cons_zero, List.set_cons_succ]
        refine wpAnyH_take (i := 4) (v := ?bvv4) rfl (by kernel_rfl) (by kernel_rfl) (by kernel_rfl) (fun _ _ _ h => h) (Or.inl ⟨by rfl, ?bhy4⟩) (by assumption) ?brest4
        case bhy4 =>
          intro u hSu
          obtain ⟨⟨s0, s1, s2, s3, s4, s5⟩, s6⟩ := hSu
          go_simp
          try with_reducible rfl
        try simp only [Act.put, List.getElem_toArray, List.getElem_cons_succ, List.getElem_cons_zero, List.setIfInBounds_toArray, List.set_cons_zero, List.set_cons_succ]
        refine wpAnyH_take (i := 5) (v := ?bvv5) rfl (by kernel_rfl) (by kernel_rfl) (by kernel_rfl) (fun _ _ _ h => h) (Or.inl ⟨by rfl, ?bhy5⟩) (by assumption) ?brest5
        case bhy5 =>
          intro u hSu
          obtain ⟨⟨s0, s1, s2, s3, s4, s5⟩, s6⟩ := hSu
          go_simp
          try with_reducible rfl
        try simp only [Act.put, List.getElem_toArray, List.getElem_cons_succ, List.getElem_cons_zero, List.setIfInBounds_toArray, List.set_cons_zero, List.set_cons_succ]
        refine wpAnyH_take (i := 7) (v := ?bvv7) rfl (by kernel_rfl) (by kernel_rfl) (by kernel_rfl) (fun _ _ _ h => h) (Or.inl ⟨by rfl, ?bhy7⟩) (by assumption) ?brest7
        case bhy7 =>
          intro u hSu
          obtain ⟨⟨s0, s1, s2, s3, s4, s5⟩, s6⟩ := hSu
          go_simp
          try with_reducible rfl
        try simp only [Act.put, List.getElem_toArray, List.getElem_cons_succ, List.getElem_cons_zero, List.setIfInBounds_toArray, List.set_cons_zero, List.set_cons_succ]
        refine wpAnyH_take (i := 8) (v := ?bvv8) rfl (by kernel_rfl) (by kernel_rfl) (by kernel_rfl) (fun _ _ _ h => h) (Or.inl ⟨by rfl, ?bhy8⟩) (by assumption) ?brest8
        case bhy8 =>
          intro u hSu
          obtain ⟨⟨s0, s1, s2, s3, s4, s5⟩, s6⟩ := hSu
          go_simp
          try with_reducible rfl
        try simp only [Act.put, List.getElem_toArray, List.getElem_cons_succ, List.getElem_cons_zero, List.setIfInBounds_toArray, List.set_cons_zero, List.set_cons_succ]
        refine wpAnyH_take (i := 9) (v := ?bvv9) rfl (by kernel_rfl) (by kernel_rfl) (by kernel_rfl) (fun _ _ _ h => h) (Or.inl ⟨by rfl, ?bhy9⟩) (by assumption) ?brest9
        case bhy9 =>
          intro u hSu
          obtain ⟨⟨s0, s1, s2, s3, s4, s5⟩, s6⟩ := hSu
          go_simp
          try with_reducible rfl
        try simp only [Act.put, List.getElem_toArray, List.getElem_cons_succ, List.getElem_cons_zero, List.setIfInBounds_toArray, List.set_cons_zero, List.set_cons_succ]
        refine wpAnyH_take (i := 10) (v := ?bvv10) rfl (by kernel_rfl) (by kernel_rfl) (by kernel_rfl) (fun _ _ _ h => h) (Or.inl ⟨by rfl, ?bhy10⟩) (by assumption) ?brest10
        case bhy10 =>
          intro u hSu
          obtain ⟨⟨s0, s1, s2, s3, s4, s5⟩, s6⟩ := hSu
          go_simp
          try with_reducible rfl
        try simp only [Act.put, List.getElem_toArray, List.getElem_cons_succ, List.getElem_cons_zero, List.setIfInBounds_toArray, List.set_cons_zero, List.set_cons_succ]
        refine wpAnyH_take (i := 11) (v := ?bvv11) rfl (by kernel_rfl) (by kernel_rfl) (by kernel_rfl) (fun _ _ _ h => h) (Or.inl ⟨by rfl, ?bhy11⟩) (by assumption) ?brest11
        case bhy11 =>
          intro u hSu
          obtain ⟨⟨s0, s1, s2, s3, s4, s5⟩, s6⟩ := hSu
          go_simp
          try with_reducible rfl
        try simp only [Act.put, List.getElem_toArray, List.getElem_cons_succ, List.getElem_cons_zero, List.setIfInBounds_toArray, List.set_cons_zero, List.set_cons_succ]
        refine wpAnyH_ready (rs := [6]) (by kernel_rfl) (by simp) ?_
        refine AllReadyH.cons rfl (fun K hK => ?_) AllReadyH.nil
        (go_simp; go_at_call 20; (with_reducible refine (RW.out _ hX5.B).mono ?_); rintro e w6 ⟨rfl, hb⟩; have J6 := hX5.belowS hb; have hbl6 := hbl5.drew.trans (hb.mono hbl5.drew.size); have K6 := And.intro (mod_cells J6.X) (RE.out _ J6.B); clear hb)
        refine hK.out _ _ ?bhS6 (fun hHeld => ?brest6)
        case bhS6 => first | exact KK | exact K6
        clear hK K
        try simp only [Act.put, List.getElem_toArray, List.getElem_cons_succ, List.getElem_cons_zero, List.setIfInBounds_toArray, List.set_cons_zero, List.set_cons_succ]
        refine wpAnyH_take (i := 12) (v := ?bvv12) rfl (by kernel_rfl) (by kernel_rfl) (by kernel_rfl) (fun _ _ _ h => h) (Or.inl ⟨by rfl, ?bhy12⟩) (by assumption) ?brest12
        case bhy12 =>
          intro u hSu
          obtain ⟨⟨s0, s1, s2, s3, s4, s5⟩, s6⟩ := hSu
          go_simp
          try with_reducible rfl
        try simp only [Act.put, List.getElem_toArray, List.getElem_cons_succ, List.getElem_cons_zero, List.setIfInBounds_toArray, List.set_cons_zero, List.set_cons_succ]
        refine wpAnyH_take (i := 13) (v := ?bvv13) rfl (by kernel_rfl) (by kernel_rfl) (by kernel_rfl) (fun _ _ _ h => h) (Or.inl ⟨by rfl, ?bhy13⟩) (by assumption) ?brest13
        case bhy13 =>
          intro u hSu
          obtain ⟨⟨s0, s1, s2, s3, s4, s5⟩, s6⟩ := hSu
          go_simp
          try with_reducible rfl
        try simp only [Act.put, List.getElem_toArray, List.getElem_cons_succ, List.getElem_cons_zero, List.setIfInBounds_toArray, List.set_cons_zero, List.set_cons_succ]
        refine wpAnyH_done (by kernel_rfl) ?_ _
        go_wp2_with fail
        go_roundw
        case rel => exact ⟨k + 1, by omega, by go_num, by rw [R2.out.2, hA], by rw [R2.out.1]; go_num, hbl6⟩
        case measure => simp [intOf]; omega
      · obtain ⟨r1, r2⟩ := round_none h1 h2
        rw [spV_none (show ¬ (0 ≤ (k : Int) ∧ (k : Int) < cn) by omega) (show ¬ (16 * (pgs cn : Int) ≤ (k : Int) ∧ (k : Int) - 16 * (pgs cn : Int) < dn) by omega)] at SK
        rw [rawV_none (by rw [HL.out.1]; omega) (by rw [HL.out.1, HL.out.2]; omega)] at RW
        simp only at SK
        have R2 := Lib.hid (And.intro r1 r2)
        clear r1 r2 h1 h2 hlt EE HP
        generalize hA : ((nC cn k : Nat) : Int) = A at *
        generalize hD : ((nD cn dn k : Nat) : Int) = D at *
        go_wp2_with (first | (go_at_call 13; (with_reducible refine (CW.out _).mono ?_); rintro e w4 ⟨rfl, hb⟩; have J4 := Lib.hid (J.out.belowS hb); have hbl4 := hbl.trans (hb.mono hbl.size); obtain ⟨c0, c1, c2, c3, c4, c5⟩ := mod_cells J4.out.X; have c6 := J4.out.X.lt; clear hb) | (go_at_call 18; (with_reducible refine (SK.out _ J4.out.B).mono ?_); rintro e w5 ⟨rfl, hb⟩; have J5 := Lib.hid (J4.out.belowS hb); have hbl5 := hbl4.trans (hb.mono hbl4.size); obtain ⟨c0, c1, c2, c3, c4, c5⟩ := mod_cells J5.out.X; have c6 := J5.out.X.lt; clear hb) | (go_at_call 20; (with_reducible refine (RW.out _ J5.out.B).mono ?_); rintro e w6 ⟨rfl, hb⟩; have J6 := Lib.hid (J5.out.belowS hb); have hbl6 := hbl5.trans (hb.mono hbl5.size); clear hb))
        go_roundw
        case rel => exact ⟨k + 1, by omega, by go_num, by rw [R2.out.1, hA], by rw [R2.out.2, hD], hbl6⟩
        case measure => simp [intOf]; omega
    · obtain rfl : k = N := by omega
      obtain ⟨x1, x2⟩ := EE.out
      rw [x1, x2]
      clear x1 x2 EE CS CR HC HD HL HP hlt
      go_upto_region 19 with (go_at_call 13; (with_reducible refine (CW.out _).mono ?_); rintro e w4 ⟨rfl, hb⟩; have J4 := Lib.hid (J.out.belowS hb); have Q4 := Lib.hid (Q.out.belowS hb); clear hb)
      clear c0 c1 c2 c3 c4 c5 c6 d0 d1 d6
      have hX4 := J4.out.belowS (Below.refl _ _).drew
      have hQ4 := Q4.out.belowS (Below.refl _ _).drew
      have KK := And.intro (mod_cells hX4.X) (two_cells hQ4)
      refine wp_region_held_drew (S := fun u => MC w.heap.size x ea en ec ia im ic ca cn cc da dn dc ra rn rc u ∧ PC w2.heap.size (.int .i64 (P1 : Int)) (.int .i64 (P2 : Int)) u) (by kernel_rfl) KK (fun hHeld => ?_)
      refine wpAnyH_take (i := 0) (v := ?cvv0) rfl (by kernel_rfl) (by kernel_rfl) (by kernel_rfl) (fun _ _ _ h => h) (Or.inl ⟨by rfl, ?chy0⟩) (by assumption) ?crest0
      case chy0 =>
        intro u hSu
        obtain ⟨⟨s0, s1, s2, s3, s4, s5⟩, s6, s7⟩ := hSu
        go_simp
        try with_reducible rfl
      try simp only [Act.put, List.getElem_toArray, List.getElem_cons_succ, List.getElem_cons_zero, List.setIfInBounds_toArray, List.set_cons_zero, List.set_cons_succ]
      refine wpAnyH_take (i := 1) (v := ?cvv1) rfl (by kernel_rfl) (by kernel_rfl) (by kernel_rfl) (fun _ _ _ h => h) (Or.inl ⟨by rfl, ?chy1⟩) (by assumption) ?crest1
      case chy1 =>
        intro u hSu
        obtain ⟨⟨s0, s1, s2, s3, s4, s5⟩, s6, s7⟩ := hSu
        go_simp
        try with_reducible rfl
      try simp only [Act.put, List.getElem_toArray, List.getElem_cons_succ, List.getElem_cons_zero, List.setIfInBounds_toArray, List.set_cons_zero, List.set_cons_succ]
      refine wpAnyH_ready (rs := [2]) (by kernel_rfl) (by simp) ?_
      refine AllReadyH.cons rfl (fun K hK => ?_) AllReadyH.nil
      (go_simp; go_at_call 13; (with_reducible refine (CW.out _).mono ?_); rintro e w7 ⟨rfl, hb⟩; have J7 := hX4.belowS hb; have Q7 := hQ4.belowS hb; have K7 := And.intro (mod_cells J7.X) (two_cells Q7); clear hb)
      refine hK.out _ _ ?chS2 (fun hHeld => ?crest2)
      case chS2 => first | exact K8 | exact K7
      clear hK K
      try simp only [Act.put, List.getElem_toArray, List.getElem_cons_succ, List.getElem_cons_zero, List.setIfInBounds_toArray, List.set_cons_zero, List.set_cons_succ]
      refine wpAnyH_ready (rs := [3]) (by kernel_rfl) (by simp) ?_
      refine AllReadyH.cons rfl (fun K hK => ?_) AllReadyH.nil
      (go_simp; go_at_call 18; (with_reducible refine (E3.out _ J7.B).mono ?_); rintro e w8 ⟨rfl, hb⟩; have J8 := Lib.hid (J7.belowS hb); have Q8 := Q7.belowS hb; have K8 := And.intro (mod_cells J8.out.X) (two_cells Q8); clear hb)
      refine hK.out _ _ ?chS3 (fun hHeld => ?crest3)
      case chS3 => first | exact K8 | exact K7
      clear hK K
      try simp only [Act.put, List.getElem_toArray, List.getElem_cons_succ, List.getElem_cons_zero, List.setIfInBounds_toArray, List.set_cons_zero, List.set_cons_succ]
      refine wpAnyH_take (i := 4) (v := ?cvv4) rfl (by kernel_rfl) (by kernel_rfl) (by kernel_rfl) (fun _ _ _ h => h) (Or.inl ⟨by rfl, ?chy4⟩) (by assumption) ?crest4
      case chy4 =>
        intro u hSu
        obtain ⟨⟨s0, s1, s2, s3, s4, s5⟩, s6, s7⟩ := hSu
        go_simp
        try with_reducible rfl
      try simp only [Act.put, List.getElem_toArray, List.getElem_cons_succ, List.getElem_cons_zero, List.setIfInBounds_toArray, List.set_cons_zero, List.set_cons_succ]
      refine wpAnyH_take (i := 5) (v := ?cvv5) rfl (by kernel_rfl) (by kernel_rfl) (by kernel_rfl) (fun _ _ _ h => h) (Or.inl ⟨by rfl, ?chy5⟩) (by assumption) ?crest5
      case chy5 =>
        intro u hSu
        obtain ⟨⟨s0, s1, s2, s3, s4, s5⟩, s6, s7⟩ := hSu
        go_simp
        try with_reducible rfl
      try simp only [Act.put, List.getElem_toArray, List.getElem_cons_succ, List.getElem_cons_zero, List.setIfInBounds_toArray, List.set_cons_zero, List.set_cons_succ]
      refine wpAnyH_take (i := 6) (v := ?cvv6) rfl (by kernel_rfl) (by kernel_rfl) (by kernel_rfl) (fun _ _ _ h => h) (Or.inl ⟨by rfl, ?chy6⟩) (by assumption) ?crest6
      case chy6 =>
        intro u hSu
        obtain ⟨⟨s0, s1, s2, s3, s4, s5⟩, s6, s7⟩ := hSu
        go_simp
        try with_reducible rfl
      try simp only [Act.put, List.getElem_toArray, List.getElem_cons_succ, List.getElem_cons_zero, List.setIfInBounds_toArray, List.set_cons_zero, List.set_cons_succ]
      refine wpAnyH_take (i := 7) (v := ?cvv7) rfl (by kernel_rfl) (by kernel_rfl) (by kernel_rfl) (fun _ _ _ h => h) (Or.inl ⟨by rfl, ?chy7⟩) (by assumption) ?crest7
      case chy7 =>
        intro u hSu
        obtain ⟨⟨s0, s1, s2, s3, s4, s5⟩, s6, s7⟩ := hSu
        go_simp
        try with_reducible rfl
      try simp only [Act.put, List.getElem_toArray, List.getElem_cons_succ, List.getElem_cons_zero, List.setIfInBounds_toArray, List.set_cons_zero, List.set_cons_succ]
      refine wpAnyH_take (i := 8) (v := ?cvv8) rfl (by kernel_rfl) (by kernel_rfl) (by kernel_rfl) (fun _ _ _ h => h) (Or.inl ⟨by rfl, ?chy8⟩) (by assumption) ?crest8
      case chy8 =>
        intro u hSu
        obtain ⟨⟨s0, s1, s2, s3, s4, s5⟩, s6, s7⟩ := hSu
        go_simp
        try with_reducible rfl
      try simp only [Act.put, List.getElem_toArray, List.getElem_cons_succ, List.getElem_cons_zero, List.setIfInBounds_toArray, List.set_cons_zero, List.set_cons_succ]
      refine wpAnyH_take (i := 9) (v := ?cvv9) rfl (by kernel_rfl) (by kernel_rfl) (by kernel_rfl) (fun _ _ _ h => h) (Or.inl ⟨by rfl, ?chy9⟩) (by assumption) ?crest9
      case chy9 =>
        intro u hSu
        obtain ⟨⟨s0, s1, s2, s3, s4, s5⟩, s6, s7⟩ := hSu
        go_simp
        try with_reducible rfl
      try simp only [Act.put, List.getElem_toArray, List.getElem_cons_succ, List.getElem_cons_zero, List.setIfInBounds_toArray, List.set_cons_zero, List.set_cons_succ]
      refine wpAnyH_take (i := 10) (v := ?cvv10) rfl (by kernel_rfl) (by kernel_rfl) (by kernel_rfl) (fun _ _ _ h => h) (Or.inl ⟨by rfl, ?chy10⟩) (by assumption) ?crest10
      case chy10 =>
        intro u hSu
        obtain ⟨⟨s0, s1, s2, s3, s4, s5⟩, s6, s7⟩ := hSu
        go_simp
        try with_reducible rfl
      try simp only [Act.put, List.getElem_toArray, List.getElem_cons_succ, List.getElem_cons_zero, List.setIfInBounds_toArray, List.set_cons_zero, List.set_cons_succ]
      refine wpAnyH_done (by kernel_rfl) ?_ _
      obtain ⟨c0, c1, c2, c3, c4, c5⟩ := mod_cells J8.out.X
      have c6 := J8.out.X.lt
      go_wp2_with (go_at_call 15; (with_reducible refine (AW.out _).mono ?_); rintro e w9 ⟨rfl, hb⟩; have J9 := Lib.hid (J8.out.belowS hb); clear hb)
      go_ret
      exact ⟨rfl, J9.out.B⟩
end
end Go.Proofs.Ytijacjcfnilaiaa.WK
