/-
  The reference of layer 14: texts put in order, each once. Nothing here is a statement of the seed.
-/
import Derived.Test.YtijcojidfallkaaGraphApp
import Derived.Test.YtijcojidfallkaaGraphRef6
import Derived.Deep.RegionHeld3
set_option linter.unusedSimpArgs false
set_option linter.unusedVariables false
namespace Go.Proofs.Ytijcojidfallkaa.GF
open Go.RowKit WM NR OM OR GM GR
set_option maxHeartbeats 4000000
set_option maxRecDepth 10000
theorem strs_takeD (D : List (List UInt8)) (j : Nat) : (strs D).take j = strs (D.take j) := by simp [strs, List.map_take]
theorem strs_dropD (D : List (List UInt8)) (j : Nat) : (strs D).drop j = strs (D.drop j) := by simp [strs, List.map_drop]
theorem reads_atG {G : Nat → Prop} {w u : World} {a : Option Addr} {n c : Nat} {xs : List Value} (h : Reads G w (.slice a n c) xs) (hu : ∀ g, G g → g < w.heap.size → u.heap[g]? = w.heap[g]?) {k : Nat} (hk : k < n) : ∃ g off, a = some ⟨g, off, none⟩ ∧ n ≤ c ∧ u.cell? ⟨g, off + k, none⟩ = xs[k]? :=
  reads_at ((h.keep hu).there.mono (fun g hg => hg.2) : Reads (· < u.heap.size) u _ _) (Below.refl _ _) hk
theorem ins_at {D : List (List UInt8)} {s : List UInt8} : ∀ {j : Nat}, j ≤ D.length → (∀ i, i < j → Op.bytesLess (D.getD i []) s = true) → (j = D.length ∨ Op.bytesLess (D.getD j []) s = false) → insT D s = D.take j ++ s :: D.drop j := by
  induction D with
  | nil =>
    intro j hj _ _
    obtain rfl : j = 0 := by simpa using hj
    rfl
  | cons a D ih =>
    intro j hj h1 h2
    cases j with
    | zero =>
      have h3 : Op.bytesLess a s = false := by
        rcases h2 with h2 | h2
        · simp at h2
        · simpa using h2
      unfold insT
      rw [List.takeWhile_cons_of_neg (by simp [h3]), List.dropWhile_cons_of_neg (by simp [h3])]
      rfl
    | succ j =>
      have h0 := h1 0 (by omega)
      simp only [List.getD_cons_zero] at h0
      have ih := ih (j := j) (by simpa using hj) (fun i hi => by have := h1 (i + 1) (by omega); simpa using this) (by
        rcases h2 with h2 | h2
        · exact Or.inl (by simpa using h2)
        · exact Or.inr (by simpa using h2))
      unfold insT at ih ⊢
      rw [List.takeWhile_cons_of_pos (by exact h0), List.dropWhile_cons_of_pos (by exact h0), List.take_succ_cons, List.drop_succ_cons, List.cons_append, ih]
      rfl
theorem refSet_any {w : World} {a : Option Addr} {n c : Nat} {l : List (List UInt8)} (h : Reads (· < w.heap.size) w (.slice a n c) (strs l)) (hl : n ≤ 100000) :
    Calls Try.prog 23 #[.slice a n c] w (IsL w (setM l)) := by
  obtain ⟨n1, m1, m2⟩ := reads_len h
  rw [strs_len] at n1
  have hn : (n : Int) ≤ 9223372036854775807 := by omega
  have q2 : (n : Int) ≤ c := by omega
  have HE := Lib.hid h
  have HL := Lib.hid n1
  clear h n1 m2
  go_enter Try.func23, Try.ntmps23
  go_wp2_with fail
  go_loopw [3, 4] (fun v3 v4 wr => ∃ (k : Nat) (q : Value), k ≤ n ∧ v4 = .int .i64 (k : Int) ∧ q = v3 ∧ Hid (wr.ownsRow w.heap.size 9 1 q (setF [] (l.take k)).length (strs (setF [] (l.take k)))) ∧ Hid (Below w.heap.size w wr)) (fun _ v4 _ => n - (intOf v4).toNat)
  case atStart => exact ⟨0, _, by omega, rfl, rfl, Lib.hid (World.ownsRow_nil _ _ _ _), Lib.hid (Below.refl _ _)⟩
  case round =>
    obtain ⟨k, q, hk, rfl, rfl, HO, HF⟩ := hrel
    by_cases hlt : k < n
    · have hlt' : (k : Int) < n := by omega
      have k0 : (0 : Int) ≤ k := by omega
      have kl : k < l.length := by rw [HL.out]; exact hlt
      obtain ⟨w7, hw7⟩ : ∃ x, x = wr := ⟨_, rfl⟩
      subst hw7
      obtain ⟨g, off, rfl, _, e1⟩ := reads_at HE.out HF.out hlt
      rw [strs_at kl] at e1
      have hST := setF_take l [] k kl
      have hDL : (setF [] (l.take k)).length ≤ k := by have := len_setF_le (l.take k) []; rw [List.length_take] at this; simp at this; omega
      have hO := HO.out
      obtain ⟨D, hD⟩ : ∃ D, D = setF [] (l.take k) := ⟨_, rfl⟩
      rw [← hD] at hST hDL hO
      obtain ⟨qa, qc, hq⟩ := own_form hO
      subst hq
      have HOD := Lib.hid hO
      have CI := Lib.hid (refIn_any (w := w7) ((Reads.of_owns hO).there.mono fun g hg => hg.2) (l.getD k []))
      have hqc := (reads_len (Reads.of_owns hO)).2.1
      clear hD hO HO kl
      generalize l.getD k [] = s at *
      obtain ⟨X, hX⟩ : ∃ X, X = bs s := ⟨_, rfl⟩
      rw [← hX] at CI e1
      have HXX := Lib.hid hX
      clear hX
      by_cases hs : s ∈ D
      · rw [decide_eq_true hs] at CI
        have hO3 := HOD.out
        have hst : setF [] (l.take (k + 1)) = D := by rw [hST]; unfold addT; rw [if_pos hs]
        rw [← hst] at hO3
        rw [hst] at hO3
        have HO3 : Hid (w7.ownsRow w.heap.size 9 1 (.slice qa D.length qc) (setF [] (l.take (k + 1))).length (strs (setF [] (l.take (k + 1))))) := Lib.hid (by rw [hst]; exact hO3)
        clear hst hO3 hST hs
        go_wp2_with (go_at_call 24; (with_reducible refine CI.out.mono ?_); rintro e w1 ⟨rfl, rfl⟩)
        go_roundw
        case rel => exact ⟨k + 1, _, by omega, by go_num, rfl, HO3, HF⟩
        case measure => simp [intOf]; omega
      · rw [decide_eq_false hs] at CI
        have HST := Lib.hid (show setF [] (l.take (k + 1)) = insT D s by rw [hST]; unfold addT; rw [if_neg hs])
        clear hST hs
        have hsl : (D.length : Int) ≤ 9223372036854775807 := by omega
        have hqc' : (D.length : Int) ≤ qc := by omega
        go_wp2_with (go_at_call 24; (with_reducible refine CI.out.mono ?_); rintro e w1 ⟨rfl, rfl⟩)
        go_loopw [5] (fun v5 wr => ∃ j : Nat, j ≤ D.length ∧ v5 = .int .i64 (j : Int) ∧ Hid (∀ i, i < j → Op.bytesLess (D.getD i []) s = true) ∧ Hid (Below w1.heap.size w1 wr)) (fun v5 _ => D.length - (intOf v5).toNat)
        case atStart => exact ⟨0, by omega, rfl, Lib.hid (fun i hi => by omega), Lib.hid (Below.refl _ _)⟩
        case round =>
          obtain ⟨j, hj0, rfl, HN, HF2⟩ := hrel
          have hownr := owns_below HOD.out HF2.out
          have hb0r := HF.out.trans (HF2.out.mono HF.out.size)
          have kxr : wr.cell? ⟨g, off + k, none⟩ = some (.string X) := (HF2.out.cell (p := ⟨g, off + k, none⟩) (World.block_lt_of_cell? _ _ e1)).trans e1
          have j0 : (0 : Int) ≤ j := by omega
          by_cases hlj : j < D.length
          · have hlj' : (j : Int) < D.length := by omega
            have hd : decide ((j : Int) < (D.length : Int)) = true := decide_eq_true hlj'
            obtain ⟨qg, qoff, hqa, _, y1⟩ := reads_atG (Reads.of_owns hownr) (u := wr) (fun _ _ _ => rfl) hlj
            subst hqa
            rw [strs_at hlj] at y1
            have HIN := Lib.hid (fun hb => ins_at (D := D) (s := s) (j := j) hj0 HN.out (Or.inr hb))
            have HN2 := Lib.hid (fun (hb : Op.bytesLess (D.getD j []) s = true) i (hi : i < j + 1) => if h2 : i < j then HN.out i h2 else by rw [show i = j by omega]; exact hb)
            obtain ⟨b, hb⟩ : ∃ b, b = Op.bytesLess (D.getD j []) s := ⟨_, rfl⟩
            rw [← hb] at HIN HN2
            have hbb : Op.bytesLess (bs (D.getD j [])).toList X.toList = b := by rw [HXX.out, bs_toList, bs_toList]; exact hb.symm
            generalize bs (D.getD j []) = Y at *
            clear hb
            cases b with
            | true =>
              have HN3 := Lib.hid (HN2.out rfl)
              have HF3 := Lib.hid (fun q => (show Below w1.heap.size w1 (wr.drewN q) from ⟨HF2.out.os, HF2.out.tape, HF2.out.output, HF2.out.size, HF2.out.block⟩))
              clear HIN HN2 HN hownr hb0r
              go_upto_region 7 with fail
              go_quiet (fail)
              go_wp2_with fail
              go_roundw
              case rel => exact ⟨j + 1, by omega, by go_num, HN3, HF3.out _⟩
              case measure => simp [intOf]; omega
            | false =>
              have HI := Lib.hid (HIN.out rfl)
              have HU0 := Lib.hid (fun q => (show (wr.drewN q).ownsRow w.heap.size 9 1 (.slice (some ⟨qg, qoff, none⟩) D.length qc) D.length (strs D) ∧ Below w.heap.size w (wr.drewN q) ∧ (wr.drewN q).cell? ⟨g, off + k, none⟩ = some (.string X) from
                ⟨owns_below hownr (show Below wr.heap.size wr (wr.drewN q) from ⟨rfl, rfl, rfl, Nat.le_refl _, fun _ _ => rfl⟩), ⟨hb0r.os, hb0r.tape, hb0r.output, hb0r.size, hb0r.block⟩, kxr⟩))
              clear HIN HN2 HN hownr hb0r
              go_upto_region 7 with fail
              go_quiet (fail)
              clear kxr
              obtain ⟨hown, hb0, kx⟩ := HU0.out nq
              generalize wr.drewN nq = u0 at *
              obtain ⟨r1, hr1, ht1⟩ := (Reads.of_owns hown).take elemStr sizeStr j (by rw [strs_len]; exact hj0)
              obtain ⟨r2, hr2, ht2⟩ := (Reads.of_owns hown).drop elemStr sizeStr j (by rw [strs_len]; exact hj0)
              rw [strs_takeD] at ht1
              rw [strs_dropD] at ht2
              obtain ⟨a1, n1, cc1, he1⟩ := ht1.form
              subst he1
              obtain ⟨a2, n2, cc2, he2⟩ := ht2.form
              subst he2
              have hn1 : j = n1 := by have := (reads_len ht1).1; rw [strs_len, List.length_take] at this; omega
              have hn2 : D.length - j = n2 := by have := (reads_len ht2).1; rw [strs_len, List.length_drop] at this; omega
              subst hn1
              subst hn2
              have S0 : w.heap.size ≤ u0.drew.heap.size := hb0.size
              have hbd : Below u0.heap.size u0 u0.drew := (Below.refl _ _).drew
              have B0 := hb0.trans (hbd.mono hb0.size)
              have ht1 := (ht1.keep (w' := u0.drew) (fun _ _ _ => rfl)).there
              have ht2 := (ht2.keep (w' := u0.drew) (fun _ _ _ => rfl)).there
              have K0 : (fun u => u.cell? ⟨g, off + k, none⟩ = some (.string X)) u0.drew := kx
              have HK := Lib.hid (fun (u : World) (hu : Below u0.drew.heap.size u0.drew u) => show (fun u => u.cell? ⟨g, off + k, none⟩ = some (.string X)) u from (hu.cell (p := ⟨g, off + k, none⟩) (World.block_lt_of_cell? _ _ K0)).trans K0)
              have hr2' := Lib.hid hr2
              clear hbd hown kx
              go_upto_region 10 with fail
              refine wp_region_held_drew (S := (fun u => u.cell? ⟨g, off + k, none⟩ = some (.string X))) (by kernel_rfl) K0 (fun hHeld => ?_)
              refine wpAnyH_take (i := 0) (v := ?evv0) rfl (by kernel_rfl) (by kernel_rfl) (by kernel_rfl) (fun _ _ _ h => h) (Or.inl ⟨by rfl, ?ehy0⟩) (by assumption) ?erest0
              case ehy0 =>
                intro u hSu
                skip
                go_simp
                try with_reducible rfl
              try simp only [Act.put, List.getElem_toArray, List.getElem_cons_succ, List.getElem_cons_zero, List.setIfInBounds_toArray, List.set_cons_zero, List.set_cons_succ]
              refine wpAnyH_take (i := 1) (v := ?evv1) rfl (by kernel_rfl) (by kernel_rfl) (by kernel_rfl) (fun _ _ _ h => h) (Or.inl ⟨by rfl, ?ehy1⟩) (by assumption) ?erest1
              case ehy1 =>
                intro u hSu
                skip
                go_simp
                try with_reducible rfl
              try simp only [Act.put, List.getElem_toArray, List.getElem_cons_succ, List.getElem_cons_zero, List.setIfInBounds_toArray, List.set_cons_zero, List.set_cons_succ]
              refine wpAnyH_take (i := 2) (v := ?evv2) rfl (by kernel_rfl) (by kernel_rfl) (by kernel_rfl) (fun _ _ _ h => h) (Or.inl ⟨by rfl, ?ehy2⟩) (by assumption) ?erest2
              case ehy2 =>
                intro u hSu
                skip
                go_simp
                try with_reducible rfl
              try simp only [Act.put, List.getElem_toArray, List.getElem_cons_succ, List.getElem_cons_zero, List.setIfInBounds_toArray, List.set_cons_zero, List.set_cons_succ]
              refine wpAnyH_take (i := 3) (v := ?evv3) rfl (by kernel_rfl) (by kernel_rfl) (by kernel_rfl) (fun _ _ _ h => h) (Or.inl ⟨by rfl, ?ehy3⟩) (by assumption) ?erest3
              case ehy3 =>
                intro u hSu
                skip
                go_simp
                try with_reducible rfl
              try simp only [Act.put, List.getElem_toArray, List.getElem_cons_succ, List.getElem_cons_zero, List.setIfInBounds_toArray, List.set_cons_zero, List.set_cons_succ]
              refine wpAnyH_take (i := 5) (v := ?evv5) rfl (by kernel_rfl) (by kernel_rfl) (by kernel_rfl) (fun _ _ _ h => h) (Or.inl ⟨by rfl, ?ehy5⟩) (by assumption) ?erest5
              case ehy5 =>
                intro u hSu
                skip
                go_simp
                try with_reducible rfl
              try simp only [Act.put, List.getElem_toArray, List.getElem_cons_succ, List.getElem_cons_zero, List.setIfInBounds_toArray, List.set_cons_zero, List.set_cons_succ]
              refine wpAnyH_take (i := 6) (v := ?evv6) rfl (by kernel_rfl) (by kernel_rfl) (by kernel_rfl) (fun _ _ _ h => h) (Or.inl ⟨by rfl, ?ehy6⟩) (by assumption) ?erest6
              case ehy6 =>
                intro u hSu
                skip
                go_simp
                try with_reducible rfl
              try simp only [Act.put, List.getElem_toArray, List.getElem_cons_succ, List.getElem_cons_zero, List.setIfInBounds_toArray, List.set_cons_zero, List.set_cons_succ]
              refine wpAnyH_take (i := 7) (v := ?evv7) rfl (by kernel_rfl) (by kernel_rfl) (by kernel_rfl) (fun _ _ _ h => h) (Or.inl ⟨by rfl, ?ehy7⟩) (by assumption) ?erest7
              case ehy7 =>
                intro u hSu
                skip
                go_simp
                try with_reducible rfl
              try simp only [Act.put, List.getElem_toArray, List.getElem_cons_succ, List.getElem_cons_zero, List.setIfInBounds_toArray, List.set_cons_zero, List.set_cons_succ]
              refine wpAnyH_take (i := 8) (v := ?evv8) rfl (by kernel_rfl) (by kernel_rfl) (by kernel_rfl) (fun _ _ _ h => h) (Or.inl ⟨by rfl, ?ehy8⟩) (by assumption) ?erest8
              case ehy8 =>
                intro u hSu
                skip
                go_simp
                try with_reducible rfl
              try simp only [Act.put, List.getElem_toArray, List.getElem_cons_succ, List.getElem_cons_zero, List.setIfInBounds_toArray, List.set_cons_zero, List.set_cons_succ]
              refine wpAnyH_ready (rs := [4, 9]) (by kernel_rfl) (by simp) ?_
              refine AllReadyH.cons rfl ?_ (AllReadyH.cons rfl ?_ AllReadyH.nil)
              · intro K hK
                obtain ⟨v4, u4, hr4, ho4, hg4⟩ := app_str (ty := 32) (u := u0.drew) (B := u0.drew.heap.size) (n := 0) (l := []) (Nat.le_refl _) (owns_nil _ _ _ _) ht1 (by omega)
                have b04 : Below u0.drew.heap.size u0.drew u4 := below_none hg4
                have b06 : Below u0.drew.heap.size u0.drew (u4.alloc (.cells #[.string X] 9)) := b04.trans ((below_new u4 (.cells #[.string X] 9)).mono b04.size)
                rw [Nat.zero_add, List.nil_append] at ho4
                have ho6 := owns_below ho4 (below_new u4 (.cells #[.string X] 9))
                have one6 := one_str u4 s 9
                rw [← HXX.out] at one6
                obtain ⟨v7, u7, hr7, ho7, hg7⟩ := app_str (ty := 32) (B := u0.drew.heap.size) b06.size ho6 one6 (by omega)
                have b07 := below_grown b06 b06.size ho6 (Nat.le_refl _) hg7
                have K4 : (fun u => u.cell? ⟨g, off + k, none⟩ = some (.string X)) u4 := HK.out _ b04
                have K6 : (fun u => u.cell? ⟨g, off + k, none⟩ = some (.string X)) (u4.alloc (.cells #[.string X] 9)) := HK.out _ b06
                have K7 : (fun u => u.cell? ⟨g, off + k, none⟩ = some (.string X)) u7 := HK.out _ b07
                clear ho6
                refine Lib.wp_append_run _ _ _ _ _ rfl (.slice none 0 0) (.slice a1 j cc1) rfl rfl _ _ hr4 ?_
                refine hK.out _ _ K4 (fun hHeld => ?_)
                clear hK K
                try simp only [Act.put, List.getElem_toArray, List.getElem_cons_succ, List.getElem_cons_zero, List.setIfInBounds_toArray, List.set_cons_zero, List.set_cons_succ]
                refine wpAnyH_ready (rs := [9]) (by kernel_rfl) (by simp) ?_
                refine AllReadyH.cons rfl (fun K hK => ?_) AllReadyH.nil
                go_simp
                refine hK.out _ _ K6 (fun hHeld => ?_)
                clear hK K
                try simp only [Act.put, List.getElem_toArray, List.getElem_cons_succ, List.getElem_cons_zero, List.setIfInBounds_toArray, List.set_cons_zero, List.set_cons_succ]
                refine wpAnyH_ready (rs := [10]) (by kernel_rfl) (by simp) ?_
                refine AllReadyH.cons rfl (fun K hK => ?_) AllReadyH.nil
                refine Lib.wp_append_run _ _ _ _ _ rfl v4 (.slice (some ⟨u4.heap.size, 0, none⟩) 1 1) rfl rfl _ _ hr7 ?_
                refine hK.out _ _ K7 (fun hHeld => ?_)
                clear hK K
                try simp only [Act.put, List.getElem_toArray, List.getElem_cons_succ, List.getElem_cons_zero, List.setIfInBounds_toArray, List.set_cons_zero, List.set_cons_succ]
                refine wpAnyH_take (i := 11) (v := ?eavv11) rfl (by kernel_rfl) (by kernel_rfl) (by kernel_rfl) (fun _ _ _ h => h) (Or.inl ⟨by rfl, ?eahy11⟩) (by assumption) ?earest11
                case eahy11 =>
                  intro u hSu
                  skip
                  go_simp
                  try with_reducible rfl
                try simp only [Act.put, List.getElem_toArray, List.getElem_cons_succ, List.getElem_cons_zero, List.setIfInBounds_toArray, List.set_cons_zero, List.set_cons_succ]
                refine wpAnyH_done (by kernel_rfl) ?_ _
                clear K0 K4 K6 K7 hHeld
                obtain ⟨v9, u9, hr9, ho9, hg9⟩ := app_str (ty := 32) (B := u0.drew.heap.size) b07.size ho7 (ht2.keep (w' := u7) (fun g hg hgl => b07.block g hgl)) (by omega)
                have b09 := below_grown b07 b07.size ho7 (Nat.le_refl _) hg9
                have B9 := Lib.hid (B0.trans (b09.mono S0))
                have HO9 := Lib.hid (show u9.ownsRow w.heap.size 9 1 v9 (setF [] (l.take (k + 1))).length (strs (setF [] (l.take (k + 1)))) by
                  have e : setF [] (l.take (k + 1)) = D.take j ++ [s] ++ D.drop j := by rw [HST.out, HI.out, List.append_assoc]; rfl
                  have e2 : (D.take j ++ [s] ++ D.drop j).length = j + 1 + (D.length - j) := by simp only [List.length_append, List.length_take, List.length_drop, List.length_singleton]; omega
                  rw [e, e2]
                  exact owns_base ho9 S0)
                clear hr1 hr4 hr7 ho9 hg9 ho7 b07 b09 ht1 ht2 hr2' HK one6 ho4 hg4 hg7 b04 b06
                go_wp2_with (at_builtin; refine Lib.wpList_append_run _ rfl _ _ _ _ rfl _ _ rfl rfl _ _ hr9 ?_)
                go_roundw
                case rel => exact ⟨k + 1, v9, by omega, by go_num, rfl, HO9, B9⟩
                case measure => simp [intOf]; omega
              · intro K hK
                have b06 : Below u0.drew.heap.size u0.drew (u0.drew.alloc (.cells #[.string X] 9)) := below_new u0.drew (.cells #[.string X] 9)
                obtain ⟨v4, u4, hr4, ho4, hg4⟩ := app_str (ty := 32) (u := u0.drew.alloc (.cells #[.string X] 9)) (B := u0.drew.heap.size) (n := 0) (l := []) b06.size (owns_nil _ _ _ _) (ht1.keep (w' := u0.drew.alloc (.cells #[.string X] 9)) (fun g hg hgl => b06.block g hgl)) (by omega)
                have b46 := below_none hg4
                have b04 : Below u0.drew.heap.size u0.drew u4 := b06.trans (b46.mono b06.size)
                rw [Nat.zero_add, List.nil_append] at ho4
                have one6 := (one_str u0.drew s 9)
                rw [← HXX.out] at one6
                have one6 := one6.keep (w' := u4) (fun g hg hlt => b46.block g hlt)
                obtain ⟨v7, u7, hr7, ho7, hg7⟩ := app_str (ty := 32) (B := u0.drew.heap.size) b04.size ho4 one6 (by omega)
                have b07 := below_grown b04 b04.size ho4 (Nat.le_refl _) hg7
                have K4 : (fun u => u.cell? ⟨g, off + k, none⟩ = some (.string X)) u4 := HK.out _ b04
                have K6 : (fun u => u.cell? ⟨g, off + k, none⟩ = some (.string X)) (u0.drew.alloc (.cells #[.string X] 9)) := HK.out _ b06
                have K7 : (fun u => u.cell? ⟨g, off + k, none⟩ = some (.string X)) u7 := HK.out _ b07
                clear b46
                go_simp
                refine hK.out _ _ K6 (fun hHeld => ?_)
                clear hK K
                try simp only [Act.put, List.getElem_toArray, List.getElem_cons_succ, List.getElem_cons_zero, List.setIfInBounds_toArray, List.set_cons_zero, List.set_cons_succ]
                refine wpAnyH_ready (rs := [4]) (by kernel_rfl) (by simp) ?_
                refine AllReadyH.cons rfl (fun K hK => ?_) AllReadyH.nil
                refine Lib.wp_append_run _ _ _ _ _ rfl (.slice none 0 0) (.slice a1 j cc1) rfl rfl _ _ hr4 ?_
                refine hK.out _ _ K4 (fun hHeld => ?_)
                clear hK K
                try simp only [Act.put, List.getElem_toArray, List.getElem_cons_succ, List.getElem_cons_zero, List.setIfInBounds_toArray, List.set_cons_zero, List.set_cons_succ]
                refine wpAnyH_ready (rs := [10]) (by kernel_rfl) (by simp) ?_
                refine AllReadyH.cons rfl (fun K hK => ?_) AllReadyH.nil
                refine Lib.wp_append_run _ _ _ _ _ rfl v4 (.slice (some ⟨u0.drew.heap.size, 0, none⟩) 1 1) rfl rfl _ _ hr7 ?_
                refine hK.out _ _ K7 (fun hHeld => ?_)
                clear hK K
                try simp only [Act.put, List.getElem_toArray, List.getElem_cons_succ, List.getElem_cons_zero, List.setIfInBounds_toArray, List.set_cons_zero, List.set_cons_succ]
                refine wpAnyH_take (i := 11) (v := ?ebvv11) rfl (by kernel_rfl) (by kernel_rfl) (by kernel_rfl) (fun _ _ _ h => h) (Or.inl ⟨by rfl, ?ebhy11⟩) (by assumption) ?ebrest11
                case ebhy11 =>
                  intro u hSu
                  skip
                  go_simp
                  try with_reducible rfl
                try simp only [Act.put, List.getElem_toArray, List.getElem_cons_succ, List.getElem_cons_zero, List.setIfInBounds_toArray, List.set_cons_zero, List.set_cons_succ]
                refine wpAnyH_done (by kernel_rfl) ?_ _
                clear K0 K4 K6 K7 hHeld
                obtain ⟨v9, u9, hr9, ho9, hg9⟩ := app_str (ty := 32) (B := u0.drew.heap.size) b07.size ho7 (ht2.keep (w' := u7) (fun g hg hgl => b07.block g hgl)) (by omega)
                have b09 := below_grown b07 b07.size ho7 (Nat.le_refl _) hg9
                have B9 := Lib.hid (B0.trans (b09.mono S0))
                have HO9 := Lib.hid (show u9.ownsRow w.heap.size 9 1 v9 (setF [] (l.take (k + 1))).length (strs (setF [] (l.take (k + 1)))) by
                  have e : setF [] (l.take (k + 1)) = D.take j ++ [s] ++ D.drop j := by rw [HST.out, HI.out, List.append_assoc]; rfl
                  have e2 : (D.take j ++ [s] ++ D.drop j).length = j + 1 + (D.length - j) := by simp only [List.length_append, List.length_take, List.length_drop, List.length_singleton]; omega
                  rw [e, e2]
                  exact owns_base ho9 S0)
                clear hr1 hr4 hr7 ho9 hg9 ho7 b07 b09 ht1 ht2 hr2' HK one6 ho4 hg4 hg7 b04 b06
                go_wp2_with (at_builtin; refine Lib.wpList_append_run _ rfl _ _ _ _ rfl _ _ rfl rfl _ _ hr9 ?_)
                go_roundw
                case rel => exact ⟨k + 1, v9, by omega, by go_num, rfl, HO9, B9⟩
                case measure => simp [intOf]; omega
          · have hje : j = D.length := by omega
            have hlj' : ¬ ((j : Int) < D.length) := by omega
            have hd : decide ((j : Int) < (D.length : Int)) = false := decide_eq_false hlj'
            have HI := Lib.hid (ins_at (D := D) (s := s) (j := j) hj0 HN.out (Or.inl hje))
            clear hje
            have HU0 := Lib.hid (fun q => (show (wr.drewN q).ownsRow w.heap.size 9 1 (.slice qa D.length qc) D.length (strs D) ∧ Below w.heap.size w (wr.drewN q) ∧ (wr.drewN q).cell? ⟨g, off + k, none⟩ = some (.string X) from
                ⟨owns_below hownr (show Below wr.heap.size wr (wr.drewN q) from ⟨rfl, rfl, rfl, Nat.le_refl _, fun _ _ => rfl⟩), ⟨hb0r.os, hb0r.tape, hb0r.output, hb0r.size, hb0r.block⟩, kxr⟩))
            clear HN hownr hb0r kxr
            go_upto_region 7 with fail
            go_quiet (fail)
            obtain ⟨hown, hb0, kx⟩ := HU0.out nq
            generalize wr.drewN nq = u0 at *
            obtain ⟨r1, hr1, ht1⟩ := (Reads.of_owns hown).take elemStr sizeStr j (by rw [strs_len]; exact hj0)
            obtain ⟨r2, hr2, ht2⟩ := (Reads.of_owns hown).drop elemStr sizeStr j (by rw [strs_len]; exact hj0)
            rw [strs_takeD] at ht1
            rw [strs_dropD] at ht2
            obtain ⟨a1, n1, cc1, he1⟩ := ht1.form
            subst he1
            obtain ⟨a2, n2, cc2, he2⟩ := ht2.form
            subst he2
            have hn1 : j = n1 := by have := (reads_len ht1).1; rw [strs_len, List.length_take] at this; omega
            have hn2 : D.length - j = n2 := by have := (reads_len ht2).1; rw [strs_len, List.length_drop] at this; omega
            subst hn1
            subst hn2
            have S0 : w.heap.size ≤ u0.drew.heap.size := hb0.size
            have hbd : Below u0.heap.size u0 u0.drew := (Below.refl _ _).drew
            have B0 := hb0.trans (hbd.mono hb0.size)
            have ht1 := (ht1.keep (w' := u0.drew) (fun _ _ _ => rfl)).there
            have ht2 := (ht2.keep (w' := u0.drew) (fun _ _ _ => rfl)).there
            have K0 : (fun u => u.cell? ⟨g, off + k, none⟩ = some (.string X)) u0.drew := kx
            have HK := Lib.hid (fun (u : World) (hu : Below u0.drew.heap.size u0.drew u) => show (fun u => u.cell? ⟨g, off + k, none⟩ = some (.string X)) u from (hu.cell (p := ⟨g, off + k, none⟩) (World.block_lt_of_cell? _ _ K0)).trans K0)
            have hr2' := Lib.hid hr2
            clear hbd hown kx
            go_upto_region 10 with fail
            refine wp_region_held_drew (S := (fun u => u.cell? ⟨g, off + k, none⟩ = some (.string X))) (by kernel_rfl) K0 (fun hHeld => ?_)
            refine wpAnyH_take (i := 0) (v := ?fvv0) rfl (by kernel_rfl) (by kernel_rfl) (by kernel_rfl) (fun _ _ _ h => h) (Or.inl ⟨by rfl, ?fhy0⟩) (by assumption) ?frest0
            case fhy0 =>
              intro u hSu
              skip
              go_simp
              try with_reducible rfl
            try simp only [Act.put, List.getElem_toArray, List.getElem_cons_succ, List.getElem_cons_zero, List.setIfInBounds_toArray, List.set_cons_zero, List.set_cons_succ]
            refine wpAnyH_take (i := 1) (v := ?fvv1) rfl (by kernel_rfl) (by kernel_rfl) (by kernel_rfl) (fun _ _ _ h => h) (Or.inl ⟨by rfl, ?fhy1⟩) (by assumption) ?frest1
            case fhy1 =>
              intro u hSu
              skip
              go_simp
              try with_reducible rfl
            try simp only [Act.put, List.getElem_toArray, List.getElem_cons_succ, List.getElem_cons_zero, List.setIfInBounds_toArray, List.set_cons_zero, List.set_cons_succ]
            refine wpAnyH_take (i := 2) (v := ?fvv2) rfl (by kernel_rfl) (by kernel_rfl) (by kernel_rfl) (fun _ _ _ h => h) (Or.inl ⟨by rfl, ?fhy2⟩) (by assumption) ?frest2
            case fhy2 =>
              intro u hSu
              skip
              go_simp
              try with_reducible rfl
            try simp only [Act.put, List.getElem_toArray, List.getElem_cons_succ, List.getElem_cons_zero, List.setIfInBounds_toArray, List.set_cons_zero, List.set_cons_succ]
            refine wpAnyH_take (i := 3) (v := ?fvv3) rfl (by kernel_rfl) (by kernel_rfl) (by kernel_rfl) (fun _ _ _ h => h) (Or.inl ⟨by rfl, ?fhy3⟩) (by assumption) ?frest3
            case fhy3 =>
              intro u hSu
              skip
              go_simp
              try with_reducible rfl
            try simp only [Act.put, List.getElem_toArray, List.getElem_cons_succ, List.getElem_cons_zero, List.setIfInBounds_toArray, List.set_cons_zero, List.set_cons_succ]
            refine wpAnyH_take (i := 5) (v := ?fvv5) rfl (by kernel_rfl) (by kernel_rfl) (by kernel_rfl) (fun _ _ _ h => h) (Or.inl ⟨by rfl, ?fhy5⟩) (by assumption) ?frest5
            case fhy5 =>
              intro u hSu
              skip
              go_simp
              try with_reducible rfl
            try simp only [Act.put, List.getElem_toArray, List.getElem_cons_succ, List.getElem_cons_zero, List.setIfInBounds_toArray, List.set_cons_zero, List.set_cons_succ]
            refine wpAnyH_take (i := 6) (v := ?fvv6) rfl (by kernel_rfl) (by kernel_rfl) (by kernel_rfl) (fun _ _ _ h => h) (Or.inl ⟨by rfl, ?fhy6⟩) (by assumption) ?frest6
            case fhy6 =>
              intro u hSu
              skip
              go_simp
              try with_reducible rfl
            try simp only [Act.put, List.getElem_toArray, List.getElem_cons_succ, List.getElem_cons_zero, List.setIfInBounds_toArray, List.set_cons_zero, List.set_cons_succ]
            refine wpAnyH_take (i := 7) (v := ?fvv7) rfl (by kernel_rfl) (by kernel_rfl) (by kernel_rfl) (fun _ _ _ h => h) (Or.inl ⟨by rfl, ?fhy7⟩) (by assumption) ?frest7
            case fhy7 =>
              intro u hSu
              skip
              go_simp
              try with_reducible rfl
            try simp only [Act.put, List.getElem_toArray, List.getElem_cons_succ, List.getElem_cons_zero, List.setIfInBounds_toArray, List.set_cons_zero, List.set_cons_succ]
            refine wpAnyH_take (i := 8) (v := ?fvv8) rfl (by kernel_rfl) (by kernel_rfl) (by kernel_rfl) (fun _ _ _ h => h) (Or.inl ⟨by rfl, ?fhy8⟩) (by assumption) ?frest8
            case fhy8 =>
              intro u hSu
              skip
              go_simp
              try with_reducible rfl
            try simp only [Act.put, List.getElem_toArray, List.getElem_cons_succ, List.getElem_cons_zero, List.setIfInBounds_toArray, List.set_cons_zero, List.set_cons_succ]
            refine wpAnyH_ready (rs := [4, 9]) (by kernel_rfl) (by simp) ?_
            refine AllReadyH.cons rfl ?_ (AllReadyH.cons rfl ?_ AllReadyH.nil)
            · intro K hK
              obtain ⟨v4, u4, hr4, ho4, hg4⟩ := app_str (ty := 32) (u := u0.drew) (B := u0.drew.heap.size) (n := 0) (l := []) (Nat.le_refl _) (owns_nil _ _ _ _) ht1 (by omega)
              have b04 : Below u0.drew.heap.size u0.drew u4 := below_none hg4
              have b06 : Below u0.drew.heap.size u0.drew (u4.alloc (.cells #[.string X] 9)) := b04.trans ((below_new u4 (.cells #[.string X] 9)).mono b04.size)
              rw [Nat.zero_add, List.nil_append] at ho4
              have ho6 := owns_below ho4 (below_new u4 (.cells #[.string X] 9))
              have one6 := one_str u4 s 9
              rw [← HXX.out] at one6
              obtain ⟨v7, u7, hr7, ho7, hg7⟩ := app_str (ty := 32) (B := u0.drew.heap.size) b06.size ho6 one6 (by omega)
              have b07 := below_grown b06 b06.size ho6 (Nat.le_refl _) hg7
              have K4 : (fun u => u.cell? ⟨g, off + k, none⟩ = some (.string X)) u4 := HK.out _ b04
              have K6 : (fun u => u.cell? ⟨g, off + k, none⟩ = some (.string X)) (u4.alloc (.cells #[.string X] 9)) := HK.out _ b06
              have K7 : (fun u => u.cell? ⟨g, off + k, none⟩ = some (.string X)) u7 := HK.out _ b07
              clear ho6
              refine Lib.wp_append_run _ _ _ _ _ rfl (.slice none 0 0) (.slice a1 j cc1) rfl rfl _ _ hr4 ?_
              refine hK.out _ _ K4 (fun hHeld => ?_)
              clear hK K
              try simp only [Act.put, List.getElem_toArray, List.getElem_cons_succ, List.getElem_cons_zero, List.setIfInBounds_toArray, List.set_cons_zero, List.set_cons_succ]
              refine wpAnyH_ready (rs := [9]) (by kernel_rfl) (by simp) ?_
              refine AllReadyH.cons rfl (fun K hK => ?_) AllReadyH.nil
              go_simp
              refine hK.out _ _ K6 (fun hHeld => ?_)
              clear hK K
              try simp only [Act.put, List.getElem_toArray, List.getElem_cons_succ, List.getElem_cons_zero, List.setIfInBounds_toArray, List.set_cons_zero, List.set_cons_succ]
              refine wpAnyH_ready (rs := [10]) (by kernel_rfl) (by simp) ?_
              refine AllReadyH.cons rfl (fun K hK => ?_) AllReadyH.nil
              refine Lib.wp_append_run _ _ _ _ _ rfl v4 (.slice (some ⟨u4.heap.size, 0, none⟩) 1 1) rfl rfl _ _ hr7 ?_
              refine hK.out _ _ K7 (fun hHeld => ?_)
              clear hK K
              try simp only [Act.put, List.getElem_toArray, List.getElem_cons_succ, List.getElem_cons_zero, List.setIfInBounds_toArray, List.set_cons_zero, List.set_cons_succ]
              refine wpAnyH_take (i := 11) (v := ?favv11) rfl (by kernel_rfl) (by kernel_rfl) (by kernel_rfl) (fun _ _ _ h => h) (Or.inl ⟨by rfl, ?fahy11⟩) (by assumption) ?farest11
              case fahy11 =>
                intro u hSu
                skip
                go_simp
                try with_reducible rfl
              try simp only [Act.put, List.getElem_toArray, List.getElem_cons_succ, List.getElem_cons_zero, List.setIfInBounds_toArray, List.set_cons_zero, List.set_cons_succ]
              refine wpAnyH_done (by kernel_rfl) ?_ _
              clear K0 K4 K6 K7 hHeld
              obtain ⟨v9, u9, hr9, ho9, hg9⟩ := app_str (ty := 32) (B := u0.drew.heap.size) b07.size ho7 (ht2.keep (w' := u7) (fun g hg hgl => b07.block g hgl)) (by omega)
              have b09 := below_grown b07 b07.size ho7 (Nat.le_refl _) hg9
              have B9 := Lib.hid (B0.trans (b09.mono S0))
              have HO9 := Lib.hid (show u9.ownsRow w.heap.size 9 1 v9 (setF [] (l.take (k + 1))).length (strs (setF [] (l.take (k + 1)))) by
                have e : setF [] (l.take (k + 1)) = D.take j ++ [s] ++ D.drop j := by rw [HST.out, HI.out, List.append_assoc]; rfl
                have e2 : (D.take j ++ [s] ++ D.drop j).length = j + 1 + (D.length - j) := by simp only [List.length_append, List.length_take, List.length_drop, List.length_singleton]; omega
                rw [e, e2]
                exact owns_base ho9 S0)
              clear hr1 hr4 hr7 ho9 hg9 ho7 b07 b09 ht1 ht2 hr2' HK one6 ho4 hg4 hg7 b04 b06
              go_wp2_with (at_builtin; refine Lib.wpList_append_run _ rfl _ _ _ _ rfl _ _ rfl rfl _ _ hr9 ?_)
              go_roundw
              case rel => exact ⟨k + 1, v9, by omega, by go_num, rfl, HO9, B9⟩
              case measure => simp [intOf]; omega
            · intro K hK
              have b06 : Below u0.drew.heap.size u0.drew (u0.drew.alloc (.cells #[.string X] 9)) := below_new u0.drew (.cells #[.string X] 9)
              obtain ⟨v4, u4, hr4, ho4, hg4⟩ := app_str (ty := 32) (u := u0.drew.alloc (.cells #[.string X] 9)) (B := u0.drew.heap.size) (n := 0) (l := []) b06.size (owns_nil _ _ _ _) (ht1.keep (w' := u0.drew.alloc (.cells #[.string X] 9)) (fun g hg hgl => b06.block g hgl)) (by omega)
              have b46 := below_none hg4
              have b04 : Below u0.drew.heap.size u0.drew u4 := b06.trans (b46.mono b06.size)
              rw [Nat.zero_add, List.nil_append] at ho4
              have one6 := (one_str u0.drew s 9)
              rw [← HXX.out] at one6
              have one6 := one6.keep (w' := u4) (fun g hg hlt => b46.block g hlt)
              obtain ⟨v7, u7, hr7, ho7, hg7⟩ := app_str (ty := 32) (B := u0.drew.heap.size) b04.size ho4 one6 (by omega)
              have b07 := below_grown b04 b04.size ho4 (Nat.le_refl _) hg7
              have K4 : (fun u => u.cell? ⟨g, off + k, none⟩ = some (.string X)) u4 := HK.out _ b04
              have K6 : (fun u => u.cell? ⟨g, off + k, none⟩ = some (.string X)) (u0.drew.alloc (.cells #[.string X] 9)) := HK.out _ b06
              have K7 : (fun u => u.cell? ⟨g, off + k, none⟩ = some (.string X)) u7 := HK.out _ b07
              clear b46
              go_simp
              refine hK.out _ _ K6 (fun hHeld => ?_)
              clear hK K
              try simp only [Act.put, List.getElem_toArray, List.getElem_cons_succ, List.getElem_cons_zero, List.setIfInBounds_toArray, List.set_cons_zero, List.set_cons_succ]
              refine wpAnyH_ready (rs := [4]) (by kernel_rfl) (by simp) ?_
              refine AllReadyH.cons rfl (fun K hK => ?_) AllReadyH.nil
              refine Lib.wp_append_run _ _ _ _ _ rfl (.slice none 0 0) (.slice a1 j cc1) rfl rfl _ _ hr4 ?_
              refine hK.out _ _ K4 (fun hHeld => ?_)
              clear hK K
              try simp only [Act.put, List.getElem_toArray, List.getElem_cons_succ, List.getElem_cons_zero, List.setIfInBounds_toArray, List.set_cons_zero, List.set_cons_succ]
              refine wpAnyH_ready (rs := [10]) (by kernel_rfl) (by simp) ?_
              refine AllReadyH.cons rfl (fun K hK => ?_) AllReadyH.nil
              refine Lib.wp_append_run _ _ _ _ _ rfl v4 (.slice (some ⟨u0.drew.heap.size, 0, none⟩) 1 1) rfl rfl _ _ hr7 ?_
              refine hK.out _ _ K7 (fun hHeld => ?_)
              clear hK K
              try simp only [Act.put, List.getElem_toArray, List.getElem_cons_succ, List.getElem_cons_zero, List.setIfInBounds_toArray, List.set_cons_zero, List.set_cons_succ]
              refine wpAnyH_take (i := 11) (v := ?fbvv11) rfl (by kernel_rfl) (by kernel_rfl) (by kernel_rfl) (fun _ _ _ h => h) (Or.inl ⟨by rfl, ?fbhy11⟩) (by assumption) ?fbrest11
              case fbhy11 =>
                intro u hSu
                skip
                go_simp
                try with_reducible rfl
              try simp only [Act.put, List.getElem_toArray, List.getElem_cons_succ, List.getElem_cons_zero, List.setIfInBounds_toArray, List.set_cons_zero, List.set_cons_succ]
              refine wpAnyH_done (by kernel_rfl) ?_ _
              clear K0 K4 K6 K7 hHeld
              obtain ⟨v9, u9, hr9, ho9, hg9⟩ := app_str (ty := 32) (B := u0.drew.heap.size) b07.size ho7 (ht2.keep (w' := u7) (fun g hg hgl => b07.block g hgl)) (by omega)
              have b09 := below_grown b07 b07.size ho7 (Nat.le_refl _) hg9
              have B9 := Lib.hid (B0.trans (b09.mono S0))
              have HO9 := Lib.hid (show u9.ownsRow w.heap.size 9 1 v9 (setF [] (l.take (k + 1))).length (strs (setF [] (l.take (k + 1)))) by
                have e : setF [] (l.take (k + 1)) = D.take j ++ [s] ++ D.drop j := by rw [HST.out, HI.out, List.append_assoc]; rfl
                have e2 : (D.take j ++ [s] ++ D.drop j).length = j + 1 + (D.length - j) := by simp only [List.length_append, List.length_take, List.length_drop, List.length_singleton]; omega
                rw [e, e2]
                exact owns_base ho9 S0)
              clear hr1 hr4 hr7 ho9 hg9 ho7 b07 b09 ht1 ht2 hr2' HK one6 ho4 hg4 hg7 b04 b06
              go_wp2_with (at_builtin; refine Lib.wpList_append_run _ rfl _ _ _ _ rfl _ _ rfl rfl _ _ hr9 ?_)
              go_roundw
              case rel => exact ⟨k + 1, v9, by omega, by go_num, rfl, HO9, B9⟩
              case measure => simp [intOf]; omega
    · obtain rfl : k = n := by omega
      have R := Lib.hid (isL_own (w := w) HO.out rfl HF.out)
      rw [List.take_of_length_le (by rw [HL.out]; exact Nat.le_refl _)] at R
      go_wp2_with fail
      go_ret
      exact R.out
end Go.Proofs.Ytijcojidfallkaa.GF
