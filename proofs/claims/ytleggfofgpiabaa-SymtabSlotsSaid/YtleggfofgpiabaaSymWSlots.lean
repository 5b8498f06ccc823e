/-
  The walk of SymtabSlots, over what the program's functions tell. Nothing here is a statement of the seed.
-/
import Derived.Test.YtleggfofgpiabaaSymRun
set_option linter.unusedSimpArgs false
set_option linter.unusedVariables false
namespace Go.Proofs.Ytleggfofgpiabaa.WK
open Go.RowKit WM NR OM OR SM SR SF SP
set_option maxHeartbeats 4000000
set_option maxRecDepth 10000
/-- the program's table alone, on the way -/
structure SX (w : World) (S : Nat → Prop) (u : World) (v : Value) (t : Tb) : Prop where
  P : PT S u v t
  B : Below w.heap.size w u
  SB : ∀ g, S g → w.heap.size ≤ g
theorem SX.belowS {w u u' : World} {S : Nat → Prop} {v : Value} {t : Tb} (h : SX w S u v t) (hb : Below u.heap.size u u') : SX w S u' v t := ⟨h.P.keep hb.size fun g hg => hb.block g (h.P.lt g hg), h.B.trans (hb.mono h.B.size), h.SB⟩
theorem SX.chg {w u u' : World} {S : Nat → Prop} {v : Value} {t t' : Tb} (h : SX w S u v t) (hc : Chg S u v t' u') : ∃ S', SX w S' u' v t' := by
  obtain ⟨S', hP, hS', hF⟩ := hc
  have hw := h.B.size
  refine ⟨S', hP, Below.fr h.B hF h.B.size h.SB, fun g hg => ?_⟩
  rcases hS' g hg with h1 | h1
  · exact h.SB g h1
  · omega
theorem SX.strs_ {w u : World} {S : Nat → Prop} {v : Value} {t : Tb} (h : SX w S u v t) {a : Option Addr} {n c : Nat} {l : List (List UInt8)} (hx : Reads (· < w.heap.size) u (.slice a n c) (strs l)) : Reads (fun g => ¬ S g ∧ g < u.heap.size) u (.slice a n c) (strs l) :=
  hx.mono fun g hg => ⟨fun hh => by have := h.SB g hh; omega, Nat.lt_of_lt_of_le hg h.B.size⟩
section
variable {w : World} {a : Option Addr} {n c : Nat} {ms : List (List UInt8)} {a2 : Option Addr} {n2 c2 : Nat} {es : List Sx}
theorem SymtabSlots_walk (h : Reads (· < w.heap.size) w (.slice a n c) (strs ms)) (h2 : ReadsS (· < w.heap.size) w (.slice a2 n2 c2) es) (hs : ∀ s ∈ ms, s.length ≤ 9223372036854775807) (hs2 : ∀ x ∈ es, ∀ s ∈ x.l, s.length ≤ 9223372036854775807) :
    Calls Try.prog 3 #[.slice a n c, .slice a2 n2 c2] w fun e w' => e = .returned (.bool true) ∧ Below w.heap.size w w' := by
  obtain ⟨n1, m1, m2⟩ := reads_len h
  obtain ⟨n3, m3, m4⟩ := h2.len
  rw [strs_len] at n1
  unfold maxLen at m2 m4
  have hn : (n : Int) ≤ 9223372036854775807 := by omega
  have hn2 : (n2 : Int) ≤ 9223372036854775807 := by omega
  have q1 : (n : Int) ≤ c := by omega
  have q2 : (n2 : Int) ≤ c2 := by omega
  have HA := Lib.hid h
  have HE := Lib.hid h2
  have AW := Lib.hid awake_any
  have HL := Lib.hid (And.intro n1 n3)
  have HS := Lib.hid (And.intro hs hs2)
  clear h h2 n1 n3 m1 m2 m3 m4 hs hs2
  go_enter Try.func3, Try.ntmps3
  go_upto_region 2 with (go_at_call 4; (with_reducible refine (new_any _).mono ?_); rintro e w2 ⟨v, S, rfl, hP, hS, hb2⟩; have J0 := Lib.hid (show SX w S w2 v ⟨[], []⟩ from ⟨hP, hb2, hS⟩); clear hP hS hb2)
  obtain ⟨va, rfl⟩ := J0.out.P.form
  go_wp2_with fail
  go_loopw [6] (fun i wr => ∃ k : Nat, k ≤ n ∧ k ≤ 8 ∧ i = .int .i64 (k : Int) ∧ ∃ S t, Hid (SX w S wr (.pointer (some va)) t) ∧ Hid (SlotI t (k : Int)) ∧ Hid (t.mods.length ≤ k ∧ t.L.length ≤ 8 * k)) (fun i _ => n - (intOf i).toNat)
  case atStart => exact ⟨0, by omega, by omega, rfl, S, _, J0, Lib.hid slot_nil, Lib.hid (by simp)⟩
  case round =>
    obtain ⟨k, hk, hk8, rfl, S, t, J, HI, HZ⟩ := hrel
    clear J0
    by_cases hlt : k < n ∧ k < 8
    · obtain ⟨hlt1, hlt8⟩ := hlt
      have hlt1' : (k : Int) < n := by omega
      have hlt8' : (k : Int) < 8 := by omega
      obtain ⟨g, off, rfl, r1, e1⟩ := reads_at HA.out J.out.B hlt1
      have kl : k < ms.length := by rw [HL.out.1]; exact hlt1
      rw [strs_at kl] at e1
      have hms : ms.getD k [] ∈ ms := by rw [List.getD_eq_getElem?_getD, List.getElem?_eq_getElem kl]; exact List.getElem_mem _
      have hmm := HS.out.1 _ hms
      have ADD : Hid (∀ (na : Option Addr) (nn nc : Nat) (xs : List (List UInt8)), Reads (· < w.heap.size) wr (.slice na nn nc) (strs xs) → (∀ s ∈ xs, s.length ≤ 9223372036854775807) → Calls Try.prog 5 #[.pointer (some va), .string (bs (ms.getD k [])), .int .i64 (k : Int), .slice na nn nc] wr fun e u => ∃ c, e = .returned (.int .i64 c) ∧ ∃ S', SX w S' u (.pointer (some va)) (addM t (ms.getD k []) (k : Int) xs).1) := Lib.hid (fun na nn nc xs hr hz => by
        have hz2 := HZ.out
        refine (add_any J.out.P HI.out.good (by omega) (ms.getD k []) hmm (k : Int) (by omega) (J.out.strs_ hr) hz).mono ?_
        rintro e u ⟨rfl, hc⟩
        exact ⟨_, rfl, J.out.chg hc⟩)
      have STEP : Hid (∀ xs, SlotI (addM t (ms.getD k []) (k : Int) xs).1 ((k + 1 : Nat) : Int) ∧ (addM t (ms.getD k []) (k : Int) xs).1.mods.length ≤ k + 1 ∧ (addM t (ms.getD k []) (k : Int) xs).1.L.length ≤ 8 * (k + 1)) := Lib.hid (fun xs => by
        have h1 := slot_add HI.out (ms.getD k []) xs
        have h2 := add_size t (ms.getD k []) (k : Int) xs
        have h3 := HZ.out
        refine ⟨by push_cast; exact h1, by omega, by omega⟩)
      have UP : Hid (SlotI t ((k + 1 : Nat) : Int) ∧ t.mods.length ≤ k + 1 ∧ t.L.length ≤ 8 * (k + 1)) := Lib.hid (by
        have h3 := HZ.out
        exact ⟨by push_cast; exact slot_up HI.out, by omega, by omega⟩)
      clear hms hmm kl
      have hw : IntKind.i64.wrap ((k : Int) + 1) = (k : Int) + 1 := by rw [IntKind.wrap_i64]; omega
      by_cases he : k < n2
      · have he' : (k : Int) < n2 := by omega
        obtain ⟨g2, off2, rfl, r2, e2, r3⟩ := HE.out.at J.out.B he
        have hxe : es.getD k sx0 ∈ es := by rw [List.getD_eq_getElem?_getD, List.getElem?_eq_getElem (by rw [HL.out.2]; exact he)]; exact List.getElem_mem _
        have hzz := HS.out.2 _ hxe
        obtain ⟨X, hX⟩ : ∃ X, X = es.getD k sx0 := ⟨_, rfl⟩
        rw [← hX] at e2 r3 hzz
        clear hX hxe
        obtain ⟨xa, xn, xc, xl⟩ := X
        simp only at e2 r3 hzz
        have hxl := (reads_len r3).2
        unfold maxLen at hxl
        have hxb : (xn : Int) ≤ 9223372036854775807 := by omega
        by_cases h8 : (xn : Int) ≤ 8
        · have AA := Lib.hid (ADD.out xa xn xc xl r3 hzz)
          obtain ⟨st1, st2⟩ := STEP.out xl
          have ST1 := Lib.hid st1
          have ST2 := Lib.hid st2
          clear ADD STEP UP r3 hzz hxl st1 st2 HI HZ
          generalize (addM t (ms.getD k []) (k : Int) xl).1 = t' at *
          generalize bs (ms.getD k []) = y at *
          go_wp2_with (go_at_call 5; (with_reducible refine (AA.out).mono ?_); rintro e w5 ⟨cc, rfl, S5, hx5⟩; have J5 := Lib.hid hx5; clear hx5)
          go_roundw
          case rel => exact ⟨k + 1, by omega, by omega, by go_num, _, _, J5, ST1, ST2⟩
          case measure => simp [intOf]; omega
        · obtain ⟨st1, st2⟩ := UP.out
          have ST1 := Lib.hid st1
          have ST2 := Lib.hid st2
          clear ADD STEP UP r3 hzz hxl st1 st2 HI HZ
          go_wp2_with fail
          go_roundw
          case rel => exact ⟨k + 1, by omega, by omega, by go_num, _, _, J, ST1, ST2⟩
          case measure => simp [intOf]; omega
      · have he' : ¬ (k : Int) < n2 := by omega
        have AA := Lib.hid (ADD.out none 0 0 [] (Reads.nil _ _) (by simp))
        obtain ⟨st1, st2⟩ := STEP.out []
        have ST1 := Lib.hid st1
        have ST2 := Lib.hid st2
        clear ADD STEP UP st1 st2 HI HZ
        generalize (addM t (ms.getD k []) (k : Int) []).1 = t' at *
        generalize bs (ms.getD k []) = y at *
        go_wp2_with (go_at_call 5; (with_reducible refine (AA.out).mono ?_); rintro e w5 ⟨cc, rfl, S5, hx5⟩; have J5 := Lib.hid hx5; clear hx5)
        go_roundw
        case rel => exact ⟨k + 1, by omega, by omega, by go_num, _, _, J5, ST1, ST2⟩
        case measure => simp [intOf]; omega
    · have hzz := HZ.out
      have hgd := HI.out.good
      have CL := Lib.hid (list_any J.out.P hgd (by omega))
      obtain ⟨N, hNN⟩ : ∃ N, N = t.L.length := ⟨_, rfl⟩
      have hN : N ≤ 64 := by omega
      have HNN := Lib.hid hNN
      rw [← hNN] at CL
      have HB : Hid (∀ j, j < N → (0 ≤ (t.L.getD j e0).gate ∧ (t.L.getD j e0).gate ≤ 7) ∧ (0 ≤ (t.L.getD j e0).idx ∧ (t.L.getD j e0).idx ≤ 7) ∧ (t.L.getD j e0).refs = 0) := Lib.hid (fun j hj => by
        have hm := getD_mem (l := t.L) (k := j) (by omega)
        have := hgd.bd _ hm
        have := (HI.out.low _ hm).1
        omega)
      have HNE : Hid (∀ i j, j < i → i < N → slotM (t.L.getD i e0) ≠ slotM (t.L.getD j e0) ∧ (t.L.getD i e0).nm ≠ (t.L.getD j e0).nm) := Lib.hid (fun i j hij hi => slot_ne HI.out hij (by omega))
      have hcond : ¬ ((k : Int) < n ∧ (k : Int) < 8) := by omega
      clear hgd hzz HI HZ hNN HA HE HS
      have hside : (¬ (k : Int) < n) ∨ ((k : Int) < n ∧ ¬ (k : Int) < 8) := by omega
      clear hcond hlt
      rcases hside with hc1 | ⟨hc1, hc2⟩
      · skip
        go_upto_region 11 with (go_at_call 6; (with_reducible refine (CL.out).mono ?_); rintro e w4 ⟨a1, c1, rfl, hO, hcm, hB⟩; have X1 := Lib.hid (J.out.belowS hB); have O1 := Lib.hid hO; clear hB hO)
        have hcl : (N : Int) ≤ c1 := by obtain ⟨_, _, e1, h1⟩ := owns_le O1.out; simp only [Value.slice.injEq] at e1; omega
        unfold maxLen at hcm
        obtain ⟨b0, hb0⟩ : ∃ b, b = wr.heap.size := ⟨_, rfl⟩
        rw [← hb0] at O1
        clear hb0 CL J hc1
        go_wp2_with fail
        go_loopw [9] (fun i wr => ∃ k1 : Nat, k1 ≤ N ∧ i = .int .i64 (k1 : Int) ∧ Hid (Below w.heap.size w wr) ∧ Hid (wr.ownsRow b0 33 5 (.slice a1 N c1) N (eC t.L))) (fun i _ => N - (intOf i).toNat)
        case atStart => exact ⟨0, by omega, rfl, Lib.hid X1.out.B, O1⟩
        case round =>
          obtain ⟨k1, hk1, rfl, X2, O2⟩ := hrel
          clear X1 O1
          by_cases hltk : k1 < N
          · have hltk' : (k1 : Int) < N := by omega
            have ha1 : ∃ q, a1 = some ⟨q, 0, none⟩ := by
              rcases O2.out.2 with ⟨h0, h1⟩ | ⟨q, _, _, e1, _⟩
              · omega
              · simp only [Value.slice.injEq] at e1
                exact ⟨q, e1.1⟩
            obtain ⟨q, rfl⟩ := ha1
            have KE : Hid (∀ j, j < N → ∀ u : World, u.ownsRow b0 33 5 (.slice (some ⟨q, 0, none⟩) N c1) N (eC t.L) → EnAt u q (j * 5) (t.L.getD j e0)) := Lib.hid (fun j hj u hO => by
              have hat := eC_at t.L j (by rw [← HNN.out]; exact hj)
              exact ⟨(hO.cellAt _ (by omega)).trans hat.1, (hO.cellAt _ (by omega)).trans hat.2.1, (hO.cellAt _ (by omega)).trans hat.2.2.1, (hO.cellAt _ (by omega)).trans hat.2.2.2.1, (hO.cellAt _ (by omega)).trans hat.2.2.2.2⟩)
            obtain ⟨d0, d1, d2, d3, d4⟩ := KE.out k1 hltk _ O2.out
            obtain ⟨g7, i7, r0⟩ := HB.out k1 hltk
            rw [r0] at d4
            have CS1 : Hid (∀ u, Calls Try.prog 7 #[.agg #[.string (bs (t.L.getD k1 e0).nm), .string (bs (t.L.getD k1 e0).md), .int .i64 (t.L.getD k1 e0).gate, .int .i64 (t.L.getD k1 e0).idx, .int .i64 0]] u fun e u' => e = .returned (.int .u32 (8 * (t.L.getD k1 e0).gate + (t.L.getD k1 e0).idx)) ∧ Below u.heap.size u u') := Lib.hid (slot_any (bs (t.L.getD k1 e0).nm) (bs (t.L.getD k1 e0).md) (t.L.getD k1 e0).gate (t.L.getD k1 e0).idx 0 g7 i7)
            obtain ⟨E1, hE1⟩ : ∃ E1, E1 = t.L.getD k1 e0 := ⟨_, rfl⟩
            have hle : ¬ 63 < 8 * E1.gate + E1.idx := by rw [hE1]; omega
            rw [← hE1] at d0 d1 d2 d3 CS1
            have HE1 := Lib.hid hE1
            have hD4 : Hid (∀ u, Below wr.heap.size wr u → u.cell? ⟨q, k1 * 5 + 4, none⟩ = some (.int .i64 0)) := Lib.hid (fun u hB => by
              obtain ⟨_, _, _, _, d4⟩ := KE.out k1 hltk _ (owns_below O2.out hB)
              rw [r0] at d4
              exact d4)
            clear hE1 g7 i7 r0
            go_upto_region 16 with (go_at_call 7; (with_reducible refine (CS1.out _).mono ?_); rintro e w5 ⟨rfl, hB⟩; have X3 := Lib.hid (X2.out.trans (hB.mono X2.out.size)); have O3 := Lib.hid (owns_below O2.out hB); clear d0 d1 d2 d3 d4; have d4 := hD4.out _ hB; clear hB)
            clear d4 hD4
            go_wp2_with fail
            go_loopw [10] (fun i wr => ∃ k2 : Nat, k2 ≤ k1 ∧ i = .int .i64 (k2 : Int) ∧ Hid (Below w.heap.size w wr) ∧ Hid (wr.ownsRow b0 33 5 (.slice (some ⟨q, 0, none⟩) N c1) N (eC t.L))) (fun i _ => k1 - (intOf i).toNat)
            case atStart => exact ⟨0, by omega, rfl, X3, O3⟩
            case round =>
              obtain ⟨k2, hk2, rfl, X4, O4⟩ := hrel
              clear X2 O2 X3 O3
              by_cases hlt2 : k2 < k1
              · have hlt2' : (k2 : Int) < k1 := by omega
                have hlt3' : (k2 : Int) < N := by omega
                obtain ⟨g7, i7, r0⟩ := HB.out k1 hltk
                obtain ⟨g8, i8, r8⟩ := HB.out k2 (by omega)
                obtain ⟨s1, s2⟩ := HNE.out k1 k2 hlt2 hltk
                rw [← HE1.out] at g7 i7 r0 s1 s2
                obtain ⟨E2, hE2⟩ : ∃ E2, E2 = t.L.getD k2 e0 := ⟨_, rfl⟩
                rw [← hE2] at g8 i8 r8 s1 s2
                have hb0 : Below wr.heap.size wr wr.drew := (Below.refl _ _).drew
                have KF : Hid (∀ u : World, u.ownsRow b0 33 5 (.slice (some ⟨q, 0, none⟩) N c1) N (eC t.L) → EnAt u q (k1 * 5) E1 ∧ EnAt u q (k2 * 5) E2) := Lib.hid (fun u hO => by
                  rw [HE1.out, hE2]
                  exact ⟨KE.out k1 hltk u hO, KE.out k2 (by omega) u hO⟩)
                obtain ⟨en, em, eg, ei, er⟩ := E1
                obtain ⟨fn, fm, fg, fi, fr⟩ := E2
                simp only at g7 i7 r0 g8 i8 r8 s2
                unfold slotM at s1
                simp only at s1
                have hq1 : ((8 * eg + ei : Int) == 8 * fg + fi) = false := by simpa using s1
                have hq2 : ((bs en).toList == (bs fn).toList) = false := by rw [bs_toList, bs_toList]; simpa using s2
                have CT1 := Lib.hid (slot_any (bs en) (bs em) eg ei er g7 i7)
                have CT2 := Lib.hid (slot_any (bs fn) (bs fm) fg fi fr g8 i8)
                have KF : Hid (∀ u : World, u.ownsRow b0 33 5 (.slice (some ⟨q, 0, none⟩) N c1) N (eC t.L) → (u.cell? ⟨q, k1 * 5, none⟩ = some (.string (bs en)) ∧ u.cell? ⟨q, k1 * 5 + 1, none⟩ = some (.string (bs em)) ∧ u.cell? ⟨q, k1 * 5 + 2, none⟩ = some (.int .i64 eg) ∧ u.cell? ⟨q, k1 * 5 + 3, none⟩ = some (.int .i64 ei) ∧ u.cell? ⟨q, k1 * 5 + 4, none⟩ = some (.int .i64 er)) ∧ (u.cell? ⟨q, k2 * 5, none⟩ = some (.string (bs fn)) ∧ u.cell? ⟨q, k2 * 5 + 1, none⟩ = some (.string (bs fm)) ∧ u.cell? ⟨q, k2 * 5 + 2, none⟩ = some (.int .i64 fg) ∧ u.cell? ⟨q, k2 * 5 + 3, none⟩ = some (.int .i64 fi) ∧ u.cell? ⟨q, k2 * 5 + 4, none⟩ = some (.int .i64 fr))) := KF
                have O5 := Lib.hid (owns_below O4.out hb0)
                have X5 := Lib.hid (X4.out.trans (hb0.mono X4.out.size))
                have K0 := KF.out _ O5.out
                clear g7 i7 r0 g8 i8 r8 s1 s2 hE2 hle CS1
                generalize bs en = y1 at *
                generalize bs em = y2 at *
                generalize bs fn = y3 at *
                generalize bs fm = y4 at *
                generalize hv1 : 8 * eg + ei = v1 at *
                generalize hv2 : 8 * fg + fi = v2 at *
                clear hv1 hv2
                go_upto_region 19 with fail
                refine wp_region_held_drew (S := fun u => (u.cell? ⟨q, k1 * 5, none⟩ = some (.string y1) ∧ u.cell? ⟨q, k1 * 5 + 1, none⟩ = some (.string y2) ∧ u.cell? ⟨q, k1 * 5 + 2, none⟩ = some (.int .i64 eg) ∧ u.cell? ⟨q, k1 * 5 + 3, none⟩ = some (.int .i64 ei) ∧ u.cell? ⟨q, k1 * 5 + 4, none⟩ = some (.int .i64 er)) ∧ (u.cell? ⟨q, k2 * 5, none⟩ = some (.string y3) ∧ u.cell? ⟨q, k2 * 5 + 1, none⟩ = some (.string y4) ∧ u.cell? ⟨q, k2 * 5 + 2, none⟩ = some (.int .i64 fg) ∧ u.cell? ⟨q, k2 * 5 + 3, none⟩ = some (.int .i64 fi) ∧ u.cell? ⟨q, k2 * 5 + 4, none⟩ = some (.int .i64 fr))) (by kernel_rfl) K0 (fun hHeld => ?_)
                refine wpAnyH_take (i := 0) (v := ?avv0) rfl (by kernel_rfl) (by kernel_rfl) (by kernel_rfl) (fun _ _ _ h => h) (Or.inl ⟨by rfl, ?ahy0⟩) (by assumption) ?arest0
                case ahy0 =>
                  intro u hSu
                  obtain ⟨⟨s0, s1, s2, s3, s4⟩, t0, t1, t2, t3, t4⟩ := hSu
                  go_simp
                  try with_reducible rfl
                try simp only [Act.put, List.getElem_toArray, List.getElem_cons_succ, List.getElem_cons_zero, List.setIfInBounds_toArray, List.set_cons_zero, List.set_cons_succ]
                refine wpAnyH_take (i := 1) (v := ?avv1) rfl (by kernel_rfl) (by kernel_rfl) (by kernel_rfl) (fun _ _ _ h => h) (Or.inl ⟨by rfl, ?ahy1⟩) (by assumption) ?arest1
                case ahy1 =>
                  intro u hSu
                  obtain ⟨⟨s0, s1, s2, s3, s4⟩, t0, t1, t2, t3, t4⟩ := hSu
                  go_simp
                  try with_reducible rfl
                try simp only [Act.put, List.getElem_toArray, List.getElem_cons_succ, List.getElem_cons_zero, List.setIfInBounds_toArray, List.set_cons_zero, List.set_cons_succ]
                refine wpAnyH_take (i := 2) (v := ?avv2) rfl (by kernel_rfl) (by kernel_rfl) (by kernel_rfl) (fun _ _ _ h => h) (Or.inl ⟨by rfl, ?ahy2⟩) (by assumption) ?arest2
                case ahy2 =>
                  intro u hSu
                  obtain ⟨⟨s0, s1, s2, s3, s4⟩, t0, t1, t2, t3, t4⟩ := hSu
                  go_simp
                  try with_reducible rfl
                try simp only [Act.put, List.getElem_toArray, List.getElem_cons_succ, List.getElem_cons_zero, List.setIfInBounds_toArray, List.set_cons_zero, List.set_cons_succ]
                refine wpAnyH_take (i := 3) (v := ?avv3) rfl (by kernel_rfl) (by kernel_rfl) (by kernel_rfl) (fun _ _ _ h => h) (Or.inl ⟨by rfl, ?ahy3⟩) (by assumption) ?arest3
                case ahy3 =>
                  intro u hSu
                  obtain ⟨⟨s0, s1, s2, s3, s4⟩, t0, t1, t2, t3, t4⟩ := hSu
                  go_simp
                  try with_reducible rfl
                try simp only [Act.put, List.getElem_toArray, List.getElem_cons_succ, List.getElem_cons_zero, List.setIfInBounds_toArray, List.set_cons_zero, List.set_cons_succ]
                refine wpAnyH_take (i := 5) (v := ?avv5) rfl (by kernel_rfl) (by kernel_rfl) (by kernel_rfl) (fun _ _ _ h => h) (Or.inl ⟨by rfl, ?ahy5⟩) (by assumption) ?arest5
                case ahy5 =>
                  intro u hSu
                  obtain ⟨⟨s0, s1, s2, s3, s4⟩, t0, t1, t2, t3, t4⟩ := hSu
                  go_simp
                  try with_reducible rfl
                try simp only [Act.put, List.getElem_toArray, List.getElem_cons_succ, List.getElem_cons_zero, List.setIfInBounds_toArray, List.set_cons_zero, List.set_cons_succ]
                refine wpAnyH_take (i := 6) (v := ?avv6) rfl (by kernel_rfl) (by kernel_rfl) (by kernel_rfl) (fun _ _ _ h => h) (Or.inl ⟨by rfl, ?ahy6⟩) (by assumption) ?arest6
                case ahy6 =>
                  intro u hSu
                  obtain ⟨⟨s0, s1, s2, s3, s4⟩, t0, t1, t2, t3, t4⟩ := hSu
                  go_simp
                  try with_reducible rfl
                try simp only [Act.put, List.getElem_toArray, List.getElem_cons_succ, List.getElem_cons_zero, List.setIfInBounds_toArray, List.set_cons_zero, List.set_cons_succ]
                refine wpAnyH_take (i := 7) (v := ?avv7) rfl (by kernel_rfl) (by kernel_rfl) (by kernel_rfl) (fun _ _ _ h => h) (Or.inl ⟨by rfl, ?ahy7⟩) (by assumption) ?arest7
                case ahy7 =>
                  intro u hSu
                  obtain ⟨⟨s0, s1, s2, s3, s4⟩, t0, t1, t2, t3, t4⟩ := hSu
                  go_simp
                  try with_reducible rfl
                try simp only [Act.put, List.getElem_toArray, List.getElem_cons_succ, List.getElem_cons_zero, List.setIfInBounds_toArray, List.set_cons_zero, List.set_cons_succ]
                refine wpAnyH_take (i := 8) (v := ?avv8) rfl (by kernel_rfl) (by kernel_rfl) (by kernel_rfl) (fun _ _ _ h => h) (Or.inl ⟨by rfl, ?ahy8⟩) (by assumption) ?arest8
                case ahy8 =>
                  intro u hSu
                  obtain ⟨⟨s0, s1, s2, s3, s4⟩, t0, t1, t2, t3, t4⟩ := hSu
                  go_simp
                  try with_reducible rfl
                try simp only [Act.put, List.getElem_toArray, List.getElem_cons_succ, List.getElem_cons_zero, List.setIfInBounds_toArray, List.set_cons_zero, List.set_cons_succ]
                refine wpAnyH_ready (rs := [4]) (by kernel_rfl) (by simp) ?_
                refine AllReadyH.cons rfl (fun K hK => ?_) AllReadyH.nil
                (go_simp; go_at_call 7; (with_reducible refine (CT1.out _).mono ?_); rintro e w6 ⟨rfl, hB⟩; have X6 := Lib.hid (X5.out.trans (hB.mono X5.out.size)); have O6 := Lib.hid (owns_below O5.out hB); have K6 := KF.out _ O6.out; clear hB)
                refine hK.out _ _ ?ahS4 (fun hHeld => ?arest4)
                case ahS4 => first | exact K7 | exact K6
                clear hK K
                try simp only [Act.put, List.getElem_toArray, List.getElem_cons_succ, List.getElem_cons_zero, List.setIfInBounds_toArray, List.set_cons_zero, List.set_cons_succ]
                refine wpAnyH_ready (rs := [9]) (by kernel_rfl) (by simp) ?_
                refine AllReadyH.cons rfl (fun K hK => ?_) AllReadyH.nil
                (go_simp; go_at_call 7; (with_reducible refine (CT2.out _).mono ?_); rintro e w7 ⟨rfl, hB⟩; have X7 := Lib.hid (X6.out.trans (hB.mono X6.out.size)); have O7 := Lib.hid (owns_below O6.out hB); have K7 := KF.out _ O7.out; clear hB)
                refine hK.out _ _ ?ahS9 (fun hHeld => ?arest9)
                case ahS9 => first | exact K7 | exact K6
                clear hK K
                try simp only [Act.put, List.getElem_toArray, List.getElem_cons_succ, List.getElem_cons_zero, List.setIfInBounds_toArray, List.set_cons_zero, List.set_cons_succ]
                refine wpAnyH_take (i := 10) (v := ?avv10) rfl (by kernel_rfl) (by kernel_rfl) (by kernel_rfl) (fun _ _ _ h => h) (Or.inl ⟨by rfl, ?ahy10⟩) (by assumption) ?arest10
                case ahy10 =>
                  intro u hSu
                  obtain ⟨⟨s0, s1, s2, s3, s4⟩, t0, t1, t2, t3, t4⟩ := hSu
                  go_simp
                  try with_reducible rfl
                try simp only [Act.put, List.getElem_toArray, List.getElem_cons_succ, List.getElem_cons_zero, List.setIfInBounds_toArray, List.set_cons_zero, List.set_cons_succ]
                refine wpAnyH_take (i := 11) (v := ?avv11) rfl (by kernel_rfl) (by kernel_rfl) (by kernel_rfl) (fun _ _ _ h => h) (Or.inl ⟨by rfl, ?ahy11⟩) (by assumption) ?arest11
                case ahy11 =>
                  intro u hSu
                  obtain ⟨⟨s0, s1, s2, s3, s4⟩, t0, t1, t2, t3, t4⟩ := hSu
                  go_simp
                  try with_reducible rfl
                try simp only [Act.put, List.getElem_toArray, List.getElem_cons_succ, List.getElem_cons_zero, List.setIfInBounds_toArray, List.set_cons_zero, List.set_cons_succ]
                refine wpAnyH_take (i := 12) (v := ?avv12) rfl (by kernel_rfl) (by kernel_rfl) (by kernel_rfl) (fun _ _ _ h => h) (Or.inl ⟨by rfl, ?ahy12⟩) (by assumption) ?arest12
                case ahy12 =>
                  intro u hSu
                  obtain ⟨⟨s0, s1, s2, s3, s4⟩, t0, t1, t2, t3, t4⟩ := hSu
                  go_simp
                  try with_reducible rfl
                try simp only [Act.put, List.getElem_toArray, List.getElem_cons_succ, List.getElem_cons_zero, List.setIfInBounds_toArray, List.set_cons_zero, List.set_cons_succ]
                refine wpAnyH_take (i := 13) (v := ?avv13) rfl (by kernel_rfl) (by kernel_rfl) (by kernel_rfl) (fun _ _ _ h => h) (Or.inl ⟨by rfl, ?ahy13⟩) (by assumption) ?arest13
                case ahy13 =>
                  intro u hSu
                  obtain ⟨⟨s0, s1, s2, s3, s4⟩, t0, t1, t2, t3, t4⟩ := hSu
                  go_simp
                  try with_reducible rfl
                try simp only [Act.put, List.getElem_toArray, List.getElem_cons_succ, List.getElem_cons_zero, List.setIfInBounds_toArray, List.set_cons_zero, List.set_cons_succ]
                refine wpAnyH_take (i := 14) (v := ?avv14) rfl (by kernel_rfl) (by kernel_rfl) (by kernel_rfl) (fun _ _ _ h => h) (Or.inl ⟨by rfl, ?ahy14⟩) (by assumption) ?arest14
                case ahy14 =>
                  intro u hSu
                  obtain ⟨⟨s0, s1, s2, s3, s4⟩, t0, t1, t2, t3, t4⟩ := hSu
                  go_simp
                  try with_reducible rfl
                try simp only [Act.put, List.getElem_toArray, List.getElem_cons_succ, List.getElem_cons_zero, List.setIfInBounds_toArray, List.set_cons_zero, List.set_cons_succ]
                refine wpAnyH_take (i := 15) (v := ?avv15) rfl (by kernel_rfl) (by kernel_rfl) (by kernel_rfl) (fun _ _ _ h => h) (Or.inl ⟨by rfl, ?ahy15⟩) (by assumption) ?arest15
                case ahy15 =>
                  intro u hSu
                  obtain ⟨⟨s0, s1, s2, s3, s4⟩, t0, t1, t2, t3, t4⟩ := hSu
                  go_simp
                  try with_reducible rfl
                try simp only [Act.put, List.getElem_toArray, List.getElem_cons_succ, List.getElem_cons_zero, List.setIfInBounds_toArray, List.set_cons_zero, List.set_cons_succ]
                refine wpAnyH_take (i := 16) (v := ?avv16) rfl (by kernel_rfl) (by kernel_rfl) (by kernel_rfl) (fun _ _ _ h => h) (Or.inl ⟨by rfl, ?ahy16⟩) (by assumption) ?arest16
                case ahy16 =>
                  intro u hSu
                  obtain ⟨⟨s0, s1, s2, s3, s4⟩, t0, t1, t2, t3, t4⟩ := hSu
                  go_simp
                  try with_reducible rfl
                try simp only [Act.put, List.getElem_toArray, List.getElem_cons_succ, List.getElem_cons_zero, List.setIfInBounds_toArray, List.set_cons_zero, List.set_cons_succ]
                refine wpAnyH_take (i := 17) (v := ?avv17) rfl (by kernel_rfl) (by kernel_rfl) (by kernel_rfl) (fun _ _ _ h => h) (Or.inl ⟨by rfl, ?ahy17⟩) (by assumption) ?arest17
                case ahy17 =>
                  intro u hSu
                  obtain ⟨⟨s0, s1, s2, s3, s4⟩, t0, t1, t2, t3, t4⟩ := hSu
                  go_simp
                  try with_reducible rfl
                try simp only [Act.put, List.getElem_toArray, List.getElem_cons_succ, List.getElem_cons_zero, List.setIfInBounds_toArray, List.set_cons_zero, List.set_cons_succ]
                refine wpAnyH_take (i := 18) (v := ?avv18) rfl (by kernel_rfl) (by kernel_rfl) (by kernel_rfl) (fun _ _ _ h => h) (Or.inl ⟨by rfl, ?ahy18⟩) (by assumption) ?arest18
                case ahy18 =>
                  intro u hSu
                  obtain ⟨⟨s0, s1, s2, s3, s4⟩, t0, t1, t2, t3, t4⟩ := hSu
                  go_simp
                  try with_reducible rfl
                try simp only [Act.put, List.getElem_toArray, List.getElem_cons_succ, List.getElem_cons_zero, List.setIfInBounds_toArray, List.set_cons_zero, List.set_cons_succ]
                refine wpAnyH_take (i := 19) (v := ?avv19) rfl (by kernel_rfl) (by kernel_rfl) (by kernel_rfl) (fun _ _ _ h => h) (Or.inl ⟨by rfl, ?ahy19⟩) (by assumption) ?arest19
                case ahy19 =>
                  intro u hSu
                  obtain ⟨⟨s0, s1, s2, s3, s4⟩, t0, t1, t2, t3, t4⟩ := hSu
                  go_simp
                  try with_reducible rfl
                try simp only [Act.put, List.getElem_toArray, List.getElem_cons_succ, List.getElem_cons_zero, List.setIfInBounds_toArray, List.set_cons_zero, List.set_cons_succ]
                refine wpAnyH_take (i := 20) (v := ?avv20) rfl (by kernel_rfl) (by kernel_rfl) (by kernel_rfl) (fun _ _ _ h => h) (Or.inl ⟨by rfl, ?ahy20⟩) (by assumption) ?arest20
                case ahy20 =>
                  intro u hSu
                  obtain ⟨⟨s0, s1, s2, s3, s4⟩, t0, t1, t2, t3, t4⟩ := hSu
                  go_simp
                  try with_reducible rfl
                try simp only [Act.put, List.getElem_toArray, List.getElem_cons_succ, List.getElem_cons_zero, List.setIfInBounds_toArray, List.set_cons_zero, List.set_cons_succ]
                refine wpAnyH_take (i := 21) (v := ?avv21) rfl (by kernel_rfl) (by kernel_rfl) (by kernel_rfl) (fun _ _ _ h => h) (Or.inl ⟨by rfl, ?ahy21⟩) (by assumption) ?arest21
                case ahy21 =>
                  intro u hSu
                  obtain ⟨⟨s0, s1, s2, s3, s4⟩, t0, t1, t2, t3, t4⟩ := hSu
                  go_simp
                  try with_reducible rfl
                try simp only [Act.put, List.getElem_toArray, List.getElem_cons_succ, List.getElem_cons_zero, List.setIfInBounds_toArray, List.set_cons_zero, List.set_cons_succ]
                refine wpAnyH_take (i := 22) (v := ?avv22) rfl (by kernel_rfl) (by kernel_rfl) (by kernel_rfl) (fun _ _ _ h => h) (Or.inl ⟨by rfl, ?ahy22⟩) (by assumption) ?arest22
                case ahy22 =>
                  intro u hSu
                  obtain ⟨⟨s0, s1, s2, s3, s4⟩, t0, t1, t2, t3, t4⟩ := hSu
                  go_simp
                  try with_reducible rfl
                try simp only [Act.put, List.getElem_toArray, List.getElem_cons_succ, List.getElem_cons_zero, List.setIfInBounds_toArray, List.set_cons_zero, List.set_cons_succ]
                refine wpAnyH_take (i := 23) (v := ?avv23) rfl (by kernel_rfl) (by kernel_rfl) (by kernel_rfl) (fun _ _ _ h => h) (Or.inl ⟨by rfl, ?ahy23⟩) (by assumption) ?arest23
                case ahy23 =>
                  intro u hSu
                  obtain ⟨⟨s0, s1, s2, s3, s4⟩, t0, t1, t2, t3, t4⟩ := hSu
                  go_simp
                  try with_reducible rfl
                try simp only [Act.put, List.getElem_toArray, List.getElem_cons_succ, List.getElem_cons_zero, List.setIfInBounds_toArray, List.set_cons_zero, List.set_cons_succ]
                refine wpAnyH_done (by kernel_rfl) ?_ _
                clear K0 K6 K7
                go_wp2_with fail
                go_roundw
                case rel => exact ⟨k2 + 1, by omega, by go_num, X7, O7⟩
                case measure => simp [intOf]; omega
              · obtain rfl : k2 = k1 := by omega
                clear KE CS1
                go_wp2_with fail
                go_roundw
                case rel => exact ⟨k2 + 1, by omega, by go_num, X4, O4⟩
                case measure => simp [intOf]; omega
          · obtain rfl : k1 = N := by omega
            clear HB HNE O2
            go_wp2_with (go_at_call 8; (with_reducible refine (AW.out _).mono ?_); rintro e w9 ⟨rfl, hB9⟩)
            go_ret
            exact ⟨rfl, X2.out.trans (hB9.mono X2.out.size)⟩
      · skip
        go_upto_region 11 with (go_at_call 6; (with_reducible refine (CL.out).mono ?_); rintro e w4 ⟨a1, c1, rfl, hO, hcm, hB⟩; have X1 := Lib.hid (J.out.belowS hB); have O1 := Lib.hid hO; clear hB hO)
        have hcl : (N : Int) ≤ c1 := by obtain ⟨_, _, e1, h1⟩ := owns_le O1.out; simp only [Value.slice.injEq] at e1; omega
        unfold maxLen at hcm
        obtain ⟨b0, hb0⟩ : ∃ b, b = wr.heap.size := ⟨_, rfl⟩
        rw [← hb0] at O1
        clear hb0 CL J hc1
        go_wp2_with fail
        go_loopw [9] (fun i wr => ∃ k1 : Nat, k1 ≤ N ∧ i = .int .i64 (k1 : Int) ∧ Hid (Below w.heap.size w wr) ∧ Hid (wr.ownsRow b0 33 5 (.slice a1 N c1) N (eC t.L))) (fun i _ => N - (intOf i).toNat)
        case atStart => exact ⟨0, by omega, rfl, Lib.hid X1.out.B, O1⟩
        case round =>
          obtain ⟨k1, hk1, rfl, X2, O2⟩ := hrel
          clear X1 O1
          by_cases hltk : k1 < N
          · have hltk' : (k1 : Int) < N := by omega
            have ha1 : ∃ q, a1 = some ⟨q, 0, none⟩ := by
              rcases O2.out.2 with ⟨h0, h1⟩ | ⟨q, _, _, e1, _⟩
              · omega
              · simp only [Value.slice.injEq] at e1
                exact ⟨q, e1.1⟩
            obtain ⟨q, rfl⟩ := ha1
            have KE : Hid (∀ j, j < N → ∀ u : World, u.ownsRow b0 33 5 (.slice (some ⟨q, 0, none⟩) N c1) N (eC t.L) → EnAt u q (j * 5) (t.L.getD j e0)) := Lib.hid (fun j hj u hO => by
              have hat := eC_at t.L j (by rw [← HNN.out]; exact hj)
              exact ⟨(hO.cellAt _ (by omega)).trans hat.1, (hO.cellAt _ (by omega)).trans hat.2.1, (hO.cellAt _ (by omega)).trans hat.2.2.1, (hO.cellAt _ (by omega)).trans hat.2.2.2.1, (hO.cellAt _ (by omega)).trans hat.2.2.2.2⟩)
            obtain ⟨d0, d1, d2, d3, d4⟩ := KE.out k1 hltk _ O2.out
            obtain ⟨g7, i7, r0⟩ := HB.out k1 hltk
            rw [r0] at d4
            have CS1 : Hid (∀ u, Calls Try.prog 7 #[.agg #[.string (bs (t.L.getD k1 e0).nm), .string (bs (t.L.getD k1 e0).md), .int .i64 (t.L.getD k1 e0).gate, .int .i64 (t.L.getD k1 e0).idx, .int .i64 0]] u fun e u' => e = .returned (.int .u32 (8 * (t.L.getD k1 e0).gate + (t.L.getD k1 e0).idx)) ∧ Below u.heap.size u u') := Lib.hid (slot_any (bs (t.L.getD k1 e0).nm) (bs (t.L.getD k1 e0).md) (t.L.getD k1 e0).gate (t.L.getD k1 e0).idx 0 g7 i7)
            obtain ⟨E1, hE1⟩ : ∃ E1, E1 = t.L.getD k1 e0 := ⟨_, rfl⟩
            have hle : ¬ 63 < 8 * E1.gate + E1.idx := by rw [hE1]; omega
            rw [← hE1] at d0 d1 d2 d3 CS1
            have HE1 := Lib.hid hE1
            have hD4 : Hid (∀ u, Below wr.heap.size wr u → u.cell? ⟨q, k1 * 5 + 4, none⟩ = some (.int .i64 0)) := Lib.hid (fun u hB => by
              obtain ⟨_, _, _, _, d4⟩ := KE.out k1 hltk _ (owns_below O2.out hB)
              rw [r0] at d4
              exact d4)
            clear hE1 g7 i7 r0
            go_upto_region 16 with (go_at_call 7; (with_reducible refine (CS1.out _).mono ?_); rintro e w5 ⟨rfl, hB⟩; have X3 := Lib.hid (X2.out.trans (hB.mono X2.out.size)); have O3 := Lib.hid (owns_below O2.out hB); clear d0 d1 d2 d3 d4; have d4 := hD4.out _ hB; clear hB)
            clear d4 hD4
            go_wp2_with fail
            go_loopw [10] (fun i wr => ∃ k2 : Nat, k2 ≤ k1 ∧ i = .int .i64 (k2 : Int) ∧ Hid (Below w.heap.size w wr) ∧ Hid (wr.ownsRow b0 33 5 (.slice (some ⟨q, 0, none⟩) N c1) N (eC t.L))) (fun i _ => k1 - (intOf i).toNat)
            case atStart => exact ⟨0, by omega, rfl, X3, O3⟩
            case round =>
              obtain ⟨k2, hk2, rfl, X4, O4⟩ := hrel
              clear X2 O2 X3 O3
              by_cases hlt2 : k2 < k1
              · have hlt2' : (k2 : Int) < k1 := by omega
                have hlt3' : (k2 : Int) < N := by omega
                obtain ⟨g7, i7, r0⟩ := HB.out k1 hltk
                obtain ⟨g8, i8, r8⟩ := HB.out k2 (by omega)
                obtain ⟨s1, s2⟩ := HNE.out k1 k2 hlt2 hltk
                rw [← HE1.out] at g7 i7 r0 s1 s2
                obtain ⟨E2, hE2⟩ : ∃ E2, E2 = t.L.getD k2 e0 := ⟨_, rfl⟩
                rw [← hE2] at g8 i8 r8 s1 s2
                have hb0 : Below wr.heap.size wr wr.drew := (Below.refl _ _).drew
                have KF : Hid (∀ u : World, u.ownsRow b0 33 5 (.slice (some ⟨q, 0, none⟩) N c1) N (eC t.L) → EnAt u q (k1 * 5) E1 ∧ EnAt u q (k2 * 5) E2) := Lib.hid (fun u hO => by
                  rw [HE1.out, hE2]
                  exact ⟨KE.out k1 hltk u hO, KE.out k2 (by omega) u hO⟩)
                obtain ⟨en, em, eg, ei, er⟩ := E1
                obtain ⟨fn, fm, fg, fi, fr⟩ := E2
                simp only at g7 i7 r0 g8 i8 r8 s2
                unfold slotM at s1
                simp only at s1
                have hq1 : ((8 * eg + ei : Int) == 8 * fg + fi) = false := by simpa using s1
                have hq2 : ((bs en).toList == (bs fn).toList) = false := by rw [bs_toList, bs_toList]; simpa using s2
                have CT1 := Lib.hid (slot_any (bs en) (bs em) eg ei er g7 i7)
                have CT2 := Lib.hid (slot_any (bs fn) (bs fm) fg fi fr g8 i8)
                have KF : Hid (∀ u : World, u.ownsRow b0 33 5 (.slice (some ⟨q, 0, none⟩) N c1) N (eC t.L) → (u.cell? ⟨q, k1 * 5, none⟩ = some (.string (bs en)) ∧ u.cell? ⟨q, k1 * 5 + 1, none⟩ = some (.string (bs em)) ∧ u.cell? ⟨q, k1 * 5 + 2, none⟩ = some (.int .i64 eg) ∧ u.cell? ⟨q, k1 * 5 + 3, none⟩ = some (.int .i64 ei) ∧ u.cell? ⟨q, k1 * 5 + 4, none⟩ = some (.int .i64 er)) ∧ (u.cell? ⟨q, k2 * 5, none⟩ = some (.string (bs fn)) ∧ u.cell? ⟨q, k2 * 5 + 1, none⟩ = some (.string (bs fm)) ∧ u.cell? ⟨q, k2 * 5 + 2, none⟩ = some (.int .i64 fg) ∧ u.cell? ⟨q, k2 * 5 + 3, none⟩ = some (.int .i64 fi) ∧ u.cell? ⟨q, k2 * 5 + 4, none⟩ = some (.int .i64 fr))) := KF
                have O5 := Lib.hid (owns_below O4.out hb0)
                have X5 := Lib.hid (X4.out.trans (hb0.mono X4.out.size))
                have K0 := KF.out _ O5.out
                clear g7 i7 r0 g8 i8 r8 s1 s2 hE2 hle CS1
                generalize bs en = y1 at *
                generalize bs em = y2 at *
                generalize bs fn = y3 at *
                generalize bs fm = y4 at *
                generalize hv1 : 8 * eg + ei = v1 at *
                generalize hv2 : 8 * fg + fi = v2 at *
                clear hv1 hv2
                go_upto_region 19 with fail
                refine wp_region_held_drew (S := fun u => (u.cell? ⟨q, k1 * 5, none⟩ = some (.string y1) ∧ u.cell? ⟨q, k1 * 5 + 1, none⟩ = some (.string y2) ∧ u.cell? ⟨q, k1 * 5 + 2, none⟩ = some (.int .i64 eg) ∧ u.cell? ⟨q, k1 * 5 + 3, none⟩ = some (.int .i64 ei) ∧ u.cell? ⟨q, k1 * 5 + 4, none⟩ = some (.int .i64 er)) ∧ (u.cell? ⟨q, k2 * 5, none⟩ = some (.string y3) ∧ u.cell? ⟨q, k2 * 5 + 1, none⟩ = some (.string y4) ∧ u.cell? ⟨q, k2 * 5 + 2, none⟩ = some (.int .i64 fg) ∧ u.cell? ⟨q, k2 * 5 + 3, none⟩ = some (.int .i64 fi) ∧ u.cell? ⟨q, k2 * 5 + 4, none⟩ = some (.int .i64 fr))) (by kernel_rfl) K0 (fun hHeld => ?_)
                refine wpAnyH_take (i := 0) (v := ?bvv0) rfl (by kernel_rfl) (by kernel_rfl) (by kernel_rfl) (fun _ _ _ h => h) (Or.inl ⟨by rfl, ?bhy0⟩) (by assumption) ?brest0
                case bhy0 =>
                  intro u hSu
                  obtain ⟨⟨s0, s1, s2, s3, s4⟩, t0, t1, t2, t3, t4⟩ := hSu
                  go_simp
                  try with_reducible rfl
                try simp only [Act.put, List.getElem_toArray, List.getElem_cons_succ, List.getElem_cons_zero, List.setIfInBounds_toArray, List.set_cons_zero, List.set_cons_succ]
                refine wpAnyH_take (i := 1) (v := ?bvv1) rfl (by kernel_rfl) (by kernel_rfl) (by kernel_rfl) (fun _ _ _ h => h) (Or.inl ⟨by rfl, ?bhy1⟩) (by assumption) ?brest1
                case bhy1 =>
                  intro u hSu
                  obtain ⟨⟨s0, s1, s2, s3, s4⟩, t0, t1, t2, t3, t4⟩ := hSu
                  go_simp
                  try with_reducible rfl
                try simp only [Act.put, List.getElem_toArray, List.getElem_cons_succ, List.getElem_cons_zero, List.setIfInBounds_toArray, List.set_cons_zero, List.set_cons_succ]
                refine wpAnyH_take (i := 2) (v := ?bvv2) rfl (by kernel_rfl) (by kernel_rfl) (by kernel_rfl) (fun _ _ _ h => h) (Or.inl ⟨by rfl, ?bhy2⟩) (by assumption) ?brest2
                case bhy2 =>
                  intro u hSu
                  obtain ⟨⟨s0, s1, s2, s3, s4⟩, t0, t1, t2, t3, t4⟩ := hSu
                  go_simp
                  try with_reducible rfl
                try simp only [Act.put, List.getElem_toArray, List.getElem_cons_succ, List.getElem_cons_zero, List.setIfInBounds_toArray, List.set_cons_zero, List.set_cons_succ]
                refine wpAnyH_take (i := 3) (v := ?bvv3) rfl (by kernel_rfl) (by kernel_rfl) (by kernel_rfl) (fun _ _ _ h => h) (Or.inl ⟨by rfl, ?bhy3⟩) (by assumption) ?brest3
                case bhy3 =>
                  intro u hSu
                  obtain ⟨⟨s0, s1, s2, s3, s4⟩, t0, t1, t2, t3, t4⟩ := hSu
                  go_simp
                  try with_reducible rfl
                try simp only [Act.put, List.getElem_toArray, List.getElem_cons_succ, List.getElem_cons_zero, List.setIfInBounds_toArray, List.set_cons_zero, List.set_cons_succ]
                refine wpAnyH_take (i := 5) (v := ?bvv5) rfl (by kernel_rfl) (by kernel_rfl) (by kernel_rfl) (fun _ _ _ h => h) (Or.inl ⟨by rfl, ?bhy5⟩) (by assumption) ?brest5
                case bhy5 =>
                  intro u hSu
                  obtain ⟨⟨s0, s1, s2, s3, s4⟩, t0, t1, t2, t3, t4⟩ := hSu
                  go_simp
                  try with_reducible rfl
                try simp only [Act.put, List.getElem_toArray, List.getElem_cons_succ, List.getElem_cons_zero, List.setIfInBounds_toArray, List.set_cons_zero, List.set_cons_succ]
                refine wpAnyH_take (i := 6) (v := ?bvv6) rfl (by kernel_rfl) (by kernel_rfl) (by kernel_rfl) (fun _ _ _ h => h) (Or.inl ⟨by rfl, ?bhy6⟩) (by assumption) ?brest6
                case bhy6 =>
                  intro u hSu
                  obtain ⟨⟨s0, s1, s2, s3, s4⟩, t0, t1, t2, t3, t4⟩ := hSu
                  go_simp
                  try with_reducible rfl
                try simp only [Act.put, List.getElem_toArray, List.getElem_cons_succ, List.getElem_cons_zero, List.setIfInBounds_toArray, List.set_cons_zero, List.set_cons_succ]
                refine wpAnyH_take (i := 7) (v := ?bvv7) rfl (by kernel_rfl) (by kernel_rfl) (by kernel_rfl) (fun _ _ _ h => h) (Or.inl ⟨by rfl, ?bhy7⟩) (by assumption) ?brest7
                case bhy7 =>
                  intro u hSu
                  obtain ⟨⟨s0, s1, s2, s3, s4⟩, t0, t1, t2, t3, t4⟩ := hSu
                  go_simp
                  try with_reducible rfl
                try simp only [Act.put, List.getElem_toArray, List.getElem_cons_succ, List.getElem_cons_zero, List.setIfInBounds_toArray, List.set_cons_zero, List.set_cons_succ]
                refine wpAnyH_take (i := 8) (v := ?bvv8) rfl (by kernel_rfl) (by kernel_rfl) (by kernel_rfl) (fun _ _ _ h => h) (Or.inl ⟨by rfl, ?bhy8⟩) (by assumption) ?brest8
                case bhy8 =>
                  intro u hSu
                  obtain ⟨⟨s0, s1, s2, s3, s4⟩, t0, t1, t2, t3, t4⟩ := hSu
                  go_simp
                  try with_reducible rfl
                try simp only [Act.put, List.getElem_toArray, List.getElem_cons_succ, List.getElem_cons_zero, List.setIfInBounds_toArray, List.set_cons_zero, List.set_cons_succ]
                refine wpAnyH_ready (rs := [4]) (by kernel_rfl) (by simp) ?_
                refine AllReadyH.cons rfl (fun K hK => ?_) AllReadyH.nil
                (go_simp; go_at_call 7; (with_reducible refine (CT1.out _).mono ?_); rintro e w6 ⟨rfl, hB⟩; have X6 := Lib.hid (X5.out.trans (hB.mono X5.out.size)); have O6 := Lib.hid (owns_below O5.out hB); have K6 := KF.out _ O6.out; clear hB)
                refine hK.out _ _ ?bhS4 (fun hHeld => ?brest4)
                case bhS4 => first | exact K7 | exact K6
                clear hK K
                try simp only [Act.put, List.getElem_toArray, List.getElem_cons_succ, List.getElem_cons_zero, List.setIfInBounds_toArray, List.set_cons_zero, List.set_cons_succ]
                refine wpAnyH_ready (rs := [9]) (by kernel_rfl) (by simp) ?_
                refine AllReadyH.cons rfl (fun K hK => ?_) AllReadyH.nil
                (go_simp; go_at_call 7; (with_reducible refine (CT2.out _).mono ?_); rintro e w7 ⟨rfl, hB⟩; have X7 := Lib.hid (X6.out.trans (hB.mono X6.out.size)); have O7 := Lib.hid (owns_below O6.out hB); have K7 := KF.out _ O7.out; clear hB)
                refine hK.out _ _ ?bhS9 (fun hHeld => ?brest9)
                case bhS9 => first | exact K7 | exact K6
                clear hK K
                try simp only [Act.put, List.getElem_toArray, List.getElem_cons_succ, List.getElem_cons_zero, List.setIfInBounds_toArray, List.set_cons_zero, List.set_cons_succ]
                refine wpAnyH_take (i := 10) (v := ?bvv10) rfl (by kernel_rfl) (by kernel_rfl) (by kernel_rfl) (fun _ _ _ h => h) (Or.inl ⟨by rfl, ?bhy10⟩) (by assumption) ?brest10
                case bhy10 =>
                  intro u hSu
                  obtain ⟨⟨s0, s1, s2, s3, s4⟩, t0, t1, t2, t3, t4⟩ := hSu
                  go_simp
                  try with_reducible rfl
                try simp only [Act.put, List.getElem_toArray, List.getElem_cons_succ, List.getElem_cons_zero, List.setIfInBounds_toArray, List.set_cons_zero, List.set_cons_succ]
                refine wpAnyH_take (i := 11) (v := ?bvv11) rfl (by kernel_rfl) (by kernel_rfl) (by kernel_rfl) (fun _ _ _ h => h) (Or.inl ⟨by rfl, ?bhy11⟩) (by assumption) ?brest11
                case bhy11 =>
                  intro u hSu
                  obtain ⟨⟨s0, s1, s2, s3, s4⟩, t0, t1, t2, t3, t4⟩ := hSu
                  go_simp
                  try with_reducible rfl
                try simp only [Act.put, List.getElem_toArray, List.getElem_cons_succ, List.getElem_cons_zero, List.setIfInBounds_toArray, List.set_cons_zero, List.set_cons_succ]
                refine wpAnyH_take (i := 12) (v := ?bvv12) rfl (by kernel_rfl) (by kernel_rfl) (by kernel_rfl) (fun _ _ _ h => h) (Or.inl ⟨by rfl, ?bhy12⟩) (by assumption) ?brest12
                case bhy12 =>
                  intro u hSu
                  obtain ⟨⟨s0, s1, s2, s3, s4⟩, t0, t1, t2, t3, t4⟩ := hSu
                  go_simp
                  try with_reducible rfl
                try simp only [Act.put, List.getElem_toArray, List.getElem_cons_succ, List.getElem_cons_zero, List.setIfInBounds_toArray, List.set_cons_zero, List.set_cons_succ]
                refine wpAnyH_take (i := 13) (v := ?bvv13) rfl (by kernel_rfl) (by kernel_rfl) (by kernel_rfl) (fun _ _ _ h => h) (Or.inl ⟨by rfl, ?bhy13⟩) (by assumption) ?brest13
                case bhy13 =>
                  intro u hSu
                  obtain ⟨⟨s0, s1, s2, s3, s4⟩, t0, t1, t2, t3, t4⟩ := hSu
                  go_simp
                  try with_reducible rfl
                try simp only [Act.put, List.getElem_toArray, List.getElem_cons_succ, List.getElem_cons_zero, List.setIfInBounds_toArray, List.set_cons_zero, List.set_cons_succ]
                refine wpAnyH_take (i := 14) (v := ?bvv14) rfl (by kernel_rfl) (by kernel_rfl) (by kernel_rfl) (fun _ _ _ h => h) (Or.inl ⟨by rfl, ?bhy14⟩) (by assumption) ?brest14
                case bhy14 =>
                  intro u hSu
                  obtain ⟨⟨s0, s1, s2, s3, s4⟩, t0, t1, t2, t3, t4⟩ := hSu
                  go_simp
                  try with_reducible rfl
                try simp only [Act.put, List.getElem_toArray, List.getElem_cons_succ, List.getElem_cons_zero, List.setIfInBounds_toArray, List.set_cons_zero, List.set_cons_succ]
                refine wpAnyH_take (i := 15) (v := ?bvv15) rfl (by kernel_rfl) (by kernel_rfl) (by kernel_rfl) (fun _ _ _ h => h) (Or.inl ⟨by rfl, ?bhy15⟩) (by assumption) ?brest15
                case bhy15 =>
                  intro u hSu
                  obtain ⟨⟨s0, s1, s2, s3, s4⟩, t0, t1, t2, t3, t4⟩ := hSu
                  go_simp
                  try with_reducible rfl
                try simp only [Act.put, List.getElem_toArray, List.getElem_cons_succ, List.getElem_cons_zero, List.setIfInBounds_toArray, List.set_cons_zero, List.set_cons_succ]
                refine wpAnyH_take (i := 16) (v := ?bvv16) rfl (by kernel_rfl) (by kernel_rfl) (by kernel_rfl) (fun _ _ _ h => h) (Or.inl ⟨by rfl, ?bhy16⟩) (by assumption) ?brest16
                case bhy16 =>
                  intro u hSu
                  obtain ⟨⟨s0, s1, s2, s3, s4⟩, t0, t1, t2, t3, t4⟩ := hSu
                  go_simp
                  try with_reducible rfl
                try simp only [Act.put, List.getElem_toArray, List.getElem_cons_succ, List.getElem_cons_zero, List.setIfInBounds_toArray, List.set_cons_zero, List.set_cons_succ]
                refine wpAnyH_take (i := 17) (v := ?bvv17) rfl (by kernel_rfl) (by kernel_rfl) (by kernel_rfl) (fun _ _ _ h => h) (Or.inl ⟨by rfl, ?bhy17⟩) (by assumption) ?brest17
                case bhy17 =>
                  intro u hSu
                  obtain ⟨⟨s0, s1, s2, s3, s4⟩, t0, t1, t2, t3, t4⟩ := hSu
                  go_simp
                  try with_reducible rfl
                try simp only [Act.put, List.getElem_toArray, List.getElem_cons_succ, List.getElem_cons_zero, List.setIfInBounds_toArray, List.set_cons_zero, List.set_cons_succ]
                refine wpAnyH_take (i := 18) (v := ?bvv18) rfl (by kernel_rfl) (by kernel_rfl) (by kernel_rfl) (fun _ _ _ h => h) (Or.inl ⟨by rfl, ?bhy18⟩) (by assumption) ?brest18
                case bhy18 =>
                  intro u hSu
                  obtain ⟨⟨s0, s1, s2, s3, s4⟩, t0, t1, t2, t3, t4⟩ := hSu
                  go_simp
                  try with_reducible rfl
                try simp only [Act.put, List.getElem_toArray, List.getElem_cons_succ, List.getElem_cons_zero, List.setIfInBounds_toArray, List.set_cons_zero, List.set_cons_succ]
                refine wpAnyH_take (i := 19) (v := ?bvv19) rfl (by kernel_rfl) (by kernel_rfl) (by kernel_rfl) (fun _ _ _ h => h) (Or.inl ⟨by rfl, ?bhy19⟩) (by assumption) ?brest19
                case bhy19 =>
                  intro u hSu
                  obtain ⟨⟨s0, s1, s2, s3, s4⟩, t0, t1, t2, t3, t4⟩ := hSu
                  go_simp
                  try with_reducible rfl
                try simp only [Act.put, List.getElem_toArray, List.getElem_cons_succ, List.getElem_cons_zero, List.setIfInBounds_toArray, List.set_cons_zero, List.set_cons_succ]
                refine wpAnyH_take (i := 20) (v := ?bvv20) rfl (by kernel_rfl) (by kernel_rfl) (by kernel_rfl) (fun _ _ _ h => h) (Or.inl ⟨by rfl, ?bhy20⟩) (by assumption) ?brest20
                case bhy20 =>
                  intro u hSu
                  obtain ⟨⟨s0, s1, s2, s3, s4⟩, t0, t1, t2, t3, t4⟩ := hSu
                  go_simp
                  try with_reducible rfl
                try simp only [Act.put, List.getElem_toArray, List.getElem_cons_succ, List.getElem_cons_zero, List.setIfInBounds_toArray, List.set_cons_zero, List.set_cons_succ]
                refine wpAnyH_take (i := 21) (v := ?bvv21) rfl (by kernel_rfl) (by kernel_rfl) (by kernel_rfl) (fun _ _ _ h => h) (Or.inl ⟨by rfl, ?bhy21⟩) (by assumption) ?brest21
                case bhy21 =>
                  intro u hSu
                  obtain ⟨⟨s0, s1, s2, s3, s4⟩, t0, t1, t2, t3, t4⟩ := hSu
                  go_simp
                  try with_reducible rfl
                try simp only [Act.put, List.getElem_toArray, List.getElem_cons_succ, List.getElem_cons_zero, List.setIfInBounds_toArray, List.set_cons_zero, List.set_cons_succ]
                refine wpAnyH_take (i := 22) (v := ?bvv22) rfl (by kernel_rfl) (by kernel_rfl) (by kernel_rfl) (fun _ _ _ h => h) (Or.inl ⟨by rfl, ?bhy22⟩) (by assumption) ?brest22
                case bhy22 =>
                  intro u hSu
                  obtain ⟨⟨s0, s1, s2, s3, s4⟩, t0, t1, t2, t3, t4⟩ := hSu
                  go_simp
                  try with_reducible rfl
                try simp only [Act.put, List.getElem_toArray, List.getElem_cons_succ, List.getElem_cons_zero, List.setIfInBounds_toArray, List.set_cons_zero, List.set_cons_succ]
                refine wpAnyH_take (i := 23) (v := ?bvv23) rfl (by kernel_rfl) (by kernel_rfl) (by kernel_rfl) (fun _ _ _ h => h) (Or.inl ⟨by rfl, ?bhy23⟩) (by assumption) ?brest23
                case bhy23 =>
                  intro u hSu
                  obtain ⟨⟨s0, s1, s2, s3, s4⟩, t0, t1, t2, t3, t4⟩ := hSu
                  go_simp
                  try with_reducible rfl
                try simp only [Act.put, List.getElem_toArray, List.getElem_cons_succ, List.getElem_cons_zero, List.setIfInBounds_toArray, List.set_cons_zero, List.set_cons_succ]
                refine wpAnyH_done (by kernel_rfl) ?_ _
                clear K0 K6 K7
                go_wp2_with fail
                go_roundw
                case rel => exact ⟨k2 + 1, by omega, by go_num, X7, O7⟩
                case measure => simp [intOf]; omega
              · obtain rfl : k2 = k1 := by omega
                clear KE CS1
                go_wp2_with fail
                go_roundw
                case rel => exact ⟨k2 + 1, by omega, by go_num, X4, O4⟩
                case measure => simp [intOf]; omega
          · obtain rfl : k1 = N := by omega
            clear HB HNE O2
            go_wp2_with (go_at_call 8; (with_reducible refine (AW.out _).mono ?_); rintro e w9 ⟨rfl, hB9⟩)
            go_ret
            exact ⟨rfl, X2.out.trans (hB9.mono X2.out.size)⟩
end
end Go.Proofs.Ytleggfofgpiabaa.WK
