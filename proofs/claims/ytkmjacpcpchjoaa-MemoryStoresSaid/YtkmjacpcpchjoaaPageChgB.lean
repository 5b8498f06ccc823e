/-
  An owner's pages turned by a closure: retired, published. Nothing here is a statement of the seed.
-/
import Derived.Test.YtkmjacpcpchjoaaPageChg
set_option linter.unusedSimpArgs false
set_option linter.unusedVariables false
namespace Go.Proofs.Ytkmjacpcpchjoaa.PF
open Go.RowKit PM PR

set_option maxHeartbeats 4000000 in
theorem change_ret (p g gs : Nat) (l : List Pg) (o a b : Int) (v : Value) (F : Nat → Pg → Pg) (St : World → Nat → Prop) (S : Nat → Prop) (E : Nat) (w : World)
    (hT : Tb w p g l) (hv : Sts w v gs a b) (h0 : St w 0) (hSp : ¬ S p) (hSg : ¬ S g) (hSs : ¬ S gs) (hlt : ∀ i, S i → i < w.heap.size)
    (hSt : ∀ u u' k, St u k → Fr (fun i => i = g) u u' → St u' k)
    (hC : ∀ u k q, k ≤ 256 → St u k → Calls Try.prog 67 #[pV q, .pointer (some ⟨E, 0, none⟩)] u fun e w' => e = .returned (pV (F k q)) ∧ Fr S u w' ∧ St w' (k + 1)) :
    Calls Try.prog 63 #[.pointer (some ⟨p, 0, none⟩), .int .u16 o, .func (.func 67) #[] #[.pointer (some ⟨E, 0, none⟩)], v] w fun e w' =>
      e = .returned (.int .i64 (num (ownS o a b) l : Int)) ∧ Fr (fun i => i = g ∨ S i) w w' ∧ Row w' g (upd (ownS o a b) F l) ∧ St w' (num (ownS o a b) l) := by
  obtain ⟨c, h256, hlc, hcm, hcell⟩ := hT.cell
  obtain ⟨glt, plt, hpg⟩ := hT.lt
  have HT := Lib.hid hT
  have HV := Lib.hid hv
  have H0 := Lib.hid h0
  have HSt := Lib.hid hSt
  have HC := Lib.hid hC
  have HL := Lib.hid hlt
  have slt := hv.lt
  have gne := hv.ne_ (hT.row.choose_spec) (by decide)
  have HSp := Lib.hid hSp
  have HSg := Lib.hid hSg
  have HSs := Lib.hid hSs
  clear hT hv h0 hSt hC hSp hSg hSs hlt
  generalize hn : l.length = n at *
  have HN := Lib.hid hn
  clear hn
  unfold maxLen at hcm
  have wlt : p < w.heap.size + 1 := by omega
  · have HC1 : Hid (∀ u k st ex wr' ow ep, k ≤ 256 → St u k → Calls Try.prog 67 #[pgV st ex wr' ow ep, .pointer (some ⟨E, 0, none⟩)] u fun e w' => e = .returned (pgV (F k ⟨st, ex, wr', ow, ep⟩).st (F k ⟨st, ex, wr', ow, ep⟩).ex (F k ⟨st, ex, wr', ow, ep⟩).wr (F k ⟨st, ex, wr', ow, ep⟩).ow (F k ⟨st, ex, wr', ow, ep⟩).ep) ∧ Fr S u w' ∧ St w' (k + 1)) :=
      Lib.hid fun u k st ex wr' ow ep h1 h2 => HC.out u k ⟨st, ex, wr', ow, ep⟩ h1 h2
    clear HC
    go_enter Try.func63, Try.ntmps63
    go_wp2_with (go_at_call 62; refine (ownedBy_any o w).mono ?_; rintro e w1 ⟨rfl, rfl⟩)
    generalize hw1 : w.alloc (.cells #[.int .u16 o] 38) = w1 at *
    have HOB : Hid (Whole w1 w.heap.size 38 #[.int .u16 o]) := by subst hw1; exact Lib.hid (Whole.new w _ _)
    have hbw : Below w.heap.size w w1 := by subst hw1; exact below_new w _
    have HW := Lib.hid hw1
    clear hw1
    go_loopw [20, 10] (fun i d wr => ∃ k : Nat, k ≤ n ∧ i = .int .i64 (k : Int) ∧ d = .int .i64 (rank (ownS o a b) l k : Int) ∧ Fr (fun i => i = g ∨ S i) w1 wr ∧ Hid (Row wr g (updQ (fun j => decide (j < k)) (ownS o a b) F l)) ∧ Hid (St wr (rank (ownS o a b) l k))) (fun i _ _ => n - (intOf i).toNat)
    case atStart => exact ⟨0, by omega, rfl, rfl, Fr.refl _ _, Lib.hid (by rw [updQ_none (by intros; rfl)]; exact HT.out.row.belowS hbw), Lib.hid (HSt.out _ _ _ H0.out (Fr.of_below hbw))⟩
    case round =>
      obtain ⟨k, hk, rfl, rfl, hfr, hrow, hst⟩ := hrel
      by_cases hlt : k < n
      · have R := chg_round (S := S) hlt HN HT HV HOB HSp HSg HSs HL hbw hfr hrow
        obtain ⟨st, ex, wr', ow, ep, hp, c0, c1, c2, c3, c4, cp, hB, hV, hplt, hglt, hk0, hk1⟩ := R
        have hr := rank_le (ownS o a b) l k
        generalize hrk : rank (ownS o a b) l k = r at *
        have HR := Lib.hid hrk
        clear hrk
        have hb0 := below_new wr (.cells #[.int .u8 st, .bool ex, .bool wr', .int .u16 ow, .int .u64 ep] 69)
        by_cases ho : ow = o
        · subst ho
          have HO := Lib.hid (fun u hu => ownedBy1_any ⟨st, ex, wr', ow, ep⟩ ow w.heap.size u hu)
          rw [show ownB ow ⟨st, ex, wr', ow, ep⟩ = true by simp [ownB]] at HO
          change Hid (∀ u, Whole u w.heap.size 38 #[.int .u16 ow] → Calls _ _ #[pgV st ex wr' ow ep, _] u _) at HO
          have HK := Lib.hid (fun u hu => contains_any v gs a b st u hu)
          cases hs : (decide (st = a) || decide (st = b))
          · rw [hs] at HK
            have HS := Lib.hid hs
            clear hs
            go_wp2_with (first | (go_at_call 84; refine (HO.out _ (hB.out.belowS hb0)).mono ?_; rintro e w2 ⟨rfl, hb1⟩; have hb := below_of hb0 hb1; obtain ⟨hc, hf⟩ := bcell hb1; have hz := hb1.size) | (go_at_call 85; refine (HK.out _ (hV.out.belowS hb)).mono ?_; rintro e w3 ⟨rfl, rfl⟩))
            go_roundw
            case rel => exact ⟨k + 1, by omega, by go_num, chg_no hlt HN HR (by rw [hp.out]; simpa [ownS] using HS.out) HSt hfr hrow hst hb⟩
            case measure => simp [intOf]; omega
          · rw [hs] at HK
            have HS := Lib.hid hs
            clear hs
            go_wp2_with (first | (go_at_call 84; refine (HO.out _ (hB.out.belowS hb0)).mono ?_; rintro e w2 ⟨rfl, hb1⟩; have hb := below_of hb0 hb1; obtain ⟨hc, hf⟩ := bcell hb1; have hz := hb1.size) | (go_at_call 85; refine (HK.out _ (hV.out.belowS hb)).mono ?_; rintro e w3 ⟨rfl, rfl⟩))
            rw [hcell] at cp
            have hbT : w.heap.size ≤ wr.heap.size := Nat.le_trans hbw.size hfr.size
            clear hc hf hz c0 c1 c2 c3 c4 hB hV HO HK hb0
            have hF2 : Fr S wr w2 := Fr.of_below hb
            have HG2 : Hid (St w2 r) := Lib.hid (HSt.out _ _ _ hst.out (Fr.of_below hb))
            clear hb
            generalize hTT : wr.heap.size = T at *
            have L := chg_lay hTT (by rw [hTT]; exact hplt) cp hb1
            obtain ⟨L, hT2, hp2⟩ := L
            have LL := Lib.hid L
            obtain ⟨a0, b0, b1, b2, b3, b4⟩ := L
            clear hb1 hTT cp
            have hTg : T ≠ g := by omega
            obtain ⟨⟨st2, ex2, wr2, ow2, ep2⟩, hF⟩ : ∃ q, F r ⟨st, ex, wr', ow, ep⟩ = q := ⟨_, rfl⟩
            have HC2 := HC1.out w2.drew r st ex wr' ow ep (by omega) (HSt.out _ _ _ HG2.out (Fr.drew (Fr.refl _ _)))
            rw [hF] at HC2
            have HC3 := Lib.hid HC2
            have HF := Lib.hid hF
            clear hF HC1 HC2
            go_region_held3 (fun u => u.cell? ⟨p, 0, none⟩ = some (.slice (some ⟨g, 0, none⟩) n c) ∧ u.cell? ⟨T, 0, none⟩ = some (.int .u8 st) ∧ u.cell? ⟨T, 1, none⟩ = some (.bool ex) ∧ u.cell? ⟨T, 2, none⟩ = some (.bool wr') ∧ u.cell? ⟨T, 3, none⟩ = some (.int .u16 ow) ∧ u.cell? ⟨T, 4, none⟩ = some (.int .u64 ep))
              (first | with_reducible exact ⟨d0, d1, d2, d3, d4, d5⟩ | (rw [put_eq]; with_reducible exact ⟨put_far hpg d0, put_far hTg d1, put_far hTg d2, put_far hTg d3, put_far hTg d4, put_far hTg d5⟩) | exact ⟨a0, b0, b1, b2, b3, b4⟩)
              (first | (go_at_call 67; refine HC3.out.mono ?_; rintro e w3 ⟨rfl, hf3, hs3⟩; have hf3 := (show Fr S w2 w3 by first | exact hf3 | exact (Fr.drew (Fr.refl S w2)).trans hf3 (fun i h => Or.inl h)); have K3 := chg_kept HSp HL hbT hp2 hT2 hf3 hF2 LL.out; obtain ⟨d0, d1, d2, d3, d4, d5, d6⟩ := K3; have HS3 := Lib.hid hs3; obtain ⟨⟨v0, v1, v2, v3, v4, g0, g1, g2, g3, g4⟩, f0, f1, f2, f3, f4⟩ := (hrow.out.fr d6 HSg.out).there (k := k) (by rw [updQ_len, HN.out]; exact hlt); clear hs3 hf3))
            rw [put_eq]
            clear d0 d1 d2 d3 d4 d5 g0 g1 g2 g3 g4 f0 f1 f2 f3 f4 a0 b0 b1 b2 b3 b4 LL HC3
            rename_i hHeld
            clear hHeld
            generalize hw4 : put5 w3 g (k * 5) st2 ex2 wr2 ow2 ep2 = w4
            have HW4 := Lib.hid hw4
            clear hw4
            go_wp2_with fail
            go_roundw
            case rel => exact ⟨k + 1, by omega, by go_num, chg_yes hlt HN HR hp (by simpa [ownS] using HS.out) HSt HSg hfr hrow d6 HS3 (by rw [HF.out]; exact HW4.out.symm)⟩
            case measure => simp [intOf]; omega
        · have hob : ownB o ⟨st, ex, wr', ow, ep⟩ = false := by simp [ownB, ho]
          have HO := Lib.hid (fun u hu => ownedBy1_any ⟨st, ex, wr', ow, ep⟩ o w.heap.size u hu)
          rw [hob] at HO
          change Hid (∀ u, Whole u w.heap.size 38 #[.int .u16 o] → Calls _ _ #[pgV st ex wr' ow ep, _] u _) at HO
          clear hob
          have HOW := Lib.hid ho
          clear ho
          go_wp2_with (go_at_call 84; refine (HO.out _ (hB.out.belowS hb0)).mono ?_; rintro e w2 ⟨rfl, hb1⟩; have hb := below_of hb0 hb1)
          go_roundw
          case rel => exact ⟨k + 1, by omega, by go_num, chg_no hlt HN HR (by rw [hp.out]; simp [ownS, HOW.out]) HSt hfr hrow hst hb⟩
          case measure => simp [intOf]; omega
      · obtain rfl : k = n := by omega
        go_wp2_with fail
        go_ret
        rw [show num (ownS o a b) l = rank (ownS o a b) l k by unfold num; rw [HN.out], ← upto_end, HN.out]
        exact ⟨rfl, (Fr.of_below hbw).trans hfr (fun i h => Or.inl h), hrow.out, hst.out⟩
set_option maxHeartbeats 4000000 in
theorem change_pub (p g gs : Nat) (l : List Pg) (o a b : Int) (v : Value) (F : Nat → Pg → Pg) (St : World → Nat → Prop) (S : Nat → Prop) (D E : Nat) (w : World)
    (hT : Tb w p g l) (hv : Sts w v gs a b) (h0 : St w 0) (hSp : ¬ S p) (hSg : ¬ S g) (hSs : ¬ S gs) (hlt : ∀ i, S i → i < w.heap.size)
    (hSt : ∀ u u' k, St u k → Fr (fun i => i = g) u u' → St u' k)
    (hC : ∀ u k q, k ≤ 256 → St u k → Calls Try.prog 65 #[pV q, .pointer (some ⟨D, 0, none⟩), .pointer (some ⟨E, 0, none⟩)] u fun e w' => e = .returned (pV (F k q)) ∧ Fr S u w' ∧ St w' (k + 1)) :
    Calls Try.prog 63 #[.pointer (some ⟨p, 0, none⟩), .int .u16 o, .func (.func 65) #[] #[.pointer (some ⟨D, 0, none⟩), .pointer (some ⟨E, 0, none⟩)], v] w fun e w' =>
      e = .returned (.int .i64 (num (ownS o a b) l : Int)) ∧ Fr (fun i => i = g ∨ S i) w w' ∧ Row w' g (upd (ownS o a b) F l) ∧ St w' (num (ownS o a b) l) := by
  obtain ⟨c, h256, hlc, hcm, hcell⟩ := hT.cell
  obtain ⟨glt, plt, hpg⟩ := hT.lt
  have HT := Lib.hid hT
  have HV := Lib.hid hv
  have H0 := Lib.hid h0
  have HSt := Lib.hid hSt
  have HC := Lib.hid hC
  have HL := Lib.hid hlt
  have slt := hv.lt
  have gne := hv.ne_ (hT.row.choose_spec) (by decide)
  have HSp := Lib.hid hSp
  have HSg := Lib.hid hSg
  have HSs := Lib.hid hSs
  clear hT hv h0 hSt hC hSp hSg hSs hlt
  generalize hn : l.length = n at *
  have HN := Lib.hid hn
  clear hn
  unfold maxLen at hcm
  have wlt : p < w.heap.size + 1 := by omega
  · have HC1 : Hid (∀ u k st ex wr' ow ep, k ≤ 256 → St u k → Calls Try.prog 65 #[pgV st ex wr' ow ep, .pointer (some ⟨D, 0, none⟩), .pointer (some ⟨E, 0, none⟩)] u fun e w' => e = .returned (pgV (F k ⟨st, ex, wr', ow, ep⟩).st (F k ⟨st, ex, wr', ow, ep⟩).ex (F k ⟨st, ex, wr', ow, ep⟩).wr (F k ⟨st, ex, wr', ow, ep⟩).ow (F k ⟨st, ex, wr', ow, ep⟩).ep) ∧ Fr S u w' ∧ St w' (k + 1)) :=
      Lib.hid fun u k st ex wr' ow ep h1 h2 => HC.out u k ⟨st, ex, wr', ow, ep⟩ h1 h2
    clear HC
    go_enter Try.func63, Try.ntmps63
    go_wp2_with (go_at_call 62; refine (ownedBy_any o w).mono ?_; rintro e w1 ⟨rfl, rfl⟩)
    generalize hw1 : w.alloc (.cells #[.int .u16 o] 38) = w1 at *
    have HOB : Hid (Whole w1 w.heap.size 38 #[.int .u16 o]) := by subst hw1; exact Lib.hid (Whole.new w _ _)
    have hbw : Below w.heap.size w w1 := by subst hw1; exact below_new w _
    have HW := Lib.hid hw1
    clear hw1
    go_loopw [20, 10] (fun i d wr => ∃ k : Nat, k ≤ n ∧ i = .int .i64 (k : Int) ∧ d = .int .i64 (rank (ownS o a b) l k : Int) ∧ Fr (fun i => i = g ∨ S i) w1 wr ∧ Hid (Row wr g (updQ (fun j => decide (j < k)) (ownS o a b) F l)) ∧ Hid (St wr (rank (ownS o a b) l k))) (fun i _ _ => n - (intOf i).toNat)
    case atStart => exact ⟨0, by omega, rfl, rfl, Fr.refl _ _, Lib.hid (by rw [updQ_none (by intros; rfl)]; exact HT.out.row.belowS hbw), Lib.hid (HSt.out _ _ _ H0.out (Fr.of_below hbw))⟩
    case round =>
      obtain ⟨k, hk, rfl, rfl, hfr, hrow, hst⟩ := hrel
      by_cases hlt : k < n
      · have R := chg_round (S := S) hlt HN HT HV HOB HSp HSg HSs HL hbw hfr hrow
        obtain ⟨st, ex, wr', ow, ep, hp, c0, c1, c2, c3, c4, cp, hB, hV, hplt, hglt, hk0, hk1⟩ := R
        have hr := rank_le (ownS o a b) l k
        generalize hrk : rank (ownS o a b) l k = r at *
        have HR := Lib.hid hrk
        clear hrk
        have hb0 := below_new wr (.cells #[.int .u8 st, .bool ex, .bool wr', .int .u16 ow, .int .u64 ep] 69)
        by_cases ho : ow = o
        · subst ho
          have HO := Lib.hid (fun u hu => ownedBy1_any ⟨st, ex, wr', ow, ep⟩ ow w.heap.size u hu)
          rw [show ownB ow ⟨st, ex, wr', ow, ep⟩ = true by simp [ownB]] at HO
          change Hid (∀ u, Whole u w.heap.size 38 #[.int .u16 ow] → Calls _ _ #[pgV st ex wr' ow ep, _] u _) at HO
          have HK := Lib.hid (fun u hu => contains_any v gs a b st u hu)
          cases hs : (decide (st = a) || decide (st = b))
          · rw [hs] at HK
            have HS := Lib.hid hs
            clear hs
            go_wp2_with (first | (go_at_call 84; refine (HO.out _ (hB.out.belowS hb0)).mono ?_; rintro e w2 ⟨rfl, hb1⟩; have hb := below_of hb0 hb1; obtain ⟨hc, hf⟩ := bcell hb1; have hz := hb1.size) | (go_at_call 85; refine (HK.out _ (hV.out.belowS hb)).mono ?_; rintro e w3 ⟨rfl, rfl⟩))
            go_roundw
            case rel => exact ⟨k + 1, by omega, by go_num, chg_no hlt HN HR (by rw [hp.out]; simpa [ownS] using HS.out) HSt hfr hrow hst hb⟩
            case measure => simp [intOf]; omega
          · rw [hs] at HK
            have HS := Lib.hid hs
            clear hs
            go_wp2_with (first | (go_at_call 84; refine (HO.out _ (hB.out.belowS hb0)).mono ?_; rintro e w2 ⟨rfl, hb1⟩; have hb := below_of hb0 hb1; obtain ⟨hc, hf⟩ := bcell hb1; have hz := hb1.size) | (go_at_call 85; refine (HK.out _ (hV.out.belowS hb)).mono ?_; rintro e w3 ⟨rfl, rfl⟩))
            rw [hcell] at cp
            have hbT : w.heap.size ≤ wr.heap.size := Nat.le_trans hbw.size hfr.size
            clear hc hf hz c0 c1 c2 c3 c4 hB hV HO HK hb0
            have hF2 : Fr S wr w2 := Fr.of_below hb
            have HG2 : Hid (St w2 r) := Lib.hid (HSt.out _ _ _ hst.out (Fr.of_below hb))
            clear hb
            generalize hTT : wr.heap.size = T at *
            have L := chg_lay hTT (by rw [hTT]; exact hplt) cp hb1
            obtain ⟨L, hT2, hp2⟩ := L
            have LL := Lib.hid L
            obtain ⟨a0, b0, b1, b2, b3, b4⟩ := L
            clear hb1 hTT cp
            have hTg : T ≠ g := by omega
            obtain ⟨⟨st2, ex2, wr2, ow2, ep2⟩, hF⟩ : ∃ q, F r ⟨st, ex, wr', ow, ep⟩ = q := ⟨_, rfl⟩
            have HC2 := HC1.out w2.drew r st ex wr' ow ep (by omega) (HSt.out _ _ _ HG2.out (Fr.drew (Fr.refl _ _)))
            rw [hF] at HC2
            have HC3 := Lib.hid HC2
            have HF := Lib.hid hF
            clear hF HC1 HC2
            go_region_held3 (fun u => u.cell? ⟨p, 0, none⟩ = some (.slice (some ⟨g, 0, none⟩) n c) ∧ u.cell? ⟨T, 0, none⟩ = some (.int .u8 st) ∧ u.cell? ⟨T, 1, none⟩ = some (.bool ex) ∧ u.cell? ⟨T, 2, none⟩ = some (.bool wr') ∧ u.cell? ⟨T, 3, none⟩ = some (.int .u16 ow) ∧ u.cell? ⟨T, 4, none⟩ = some (.int .u64 ep))
              (first | with_reducible exact ⟨d0, d1, d2, d3, d4, d5⟩ | (rw [put_eq]; with_reducible exact ⟨put_far hpg d0, put_far hTg d1, put_far hTg d2, put_far hTg d3, put_far hTg d4, put_far hTg d5⟩) | exact ⟨a0, b0, b1, b2, b3, b4⟩)
              (first | (go_at_call 65; refine HC3.out.mono ?_; rintro e w3 ⟨rfl, hf3, hs3⟩; have hf3 := (show Fr S w2 w3 by first | exact hf3 | exact (Fr.drew (Fr.refl S w2)).trans hf3 (fun i h => Or.inl h)); have K3 := chg_kept HSp HL hbT hp2 hT2 hf3 hF2 LL.out; obtain ⟨d0, d1, d2, d3, d4, d5, d6⟩ := K3; have HS3 := Lib.hid hs3; obtain ⟨⟨v0, v1, v2, v3, v4, g0, g1, g2, g3, g4⟩, f0, f1, f2, f3, f4⟩ := (hrow.out.fr d6 HSg.out).there (k := k) (by rw [updQ_len, HN.out]; exact hlt); clear hs3 hf3))
            rw [put_eq]
            clear d0 d1 d2 d3 d4 d5 g0 g1 g2 g3 g4 f0 f1 f2 f3 f4 a0 b0 b1 b2 b3 b4 LL HC3
            rename_i hHeld
            clear hHeld
            generalize hw4 : put5 w3 g (k * 5) st2 ex2 wr2 ow2 ep2 = w4
            have HW4 := Lib.hid hw4
            clear hw4
            go_wp2_with fail
            go_roundw
            case rel => exact ⟨k + 1, by omega, by go_num, chg_yes hlt HN HR hp (by simpa [ownS] using HS.out) HSt HSg hfr hrow d6 HS3 (by rw [HF.out]; exact HW4.out.symm)⟩
            case measure => simp [intOf]; omega
        · have hob : ownB o ⟨st, ex, wr', ow, ep⟩ = false := by simp [ownB, ho]
          have HO := Lib.hid (fun u hu => ownedBy1_any ⟨st, ex, wr', ow, ep⟩ o w.heap.size u hu)
          rw [hob] at HO
          change Hid (∀ u, Whole u w.heap.size 38 #[.int .u16 o] → Calls _ _ #[pgV st ex wr' ow ep, _] u _) at HO
          clear hob
          have HOW := Lib.hid ho
          clear ho
          go_wp2_with (go_at_call 84; refine (HO.out _ (hB.out.belowS hb0)).mono ?_; rintro e w2 ⟨rfl, hb1⟩; have hb := below_of hb0 hb1)
          go_roundw
          case rel => exact ⟨k + 1, by omega, by go_num, chg_no hlt HN HR (by rw [hp.out]; simp [ownS, HOW.out]) HSt hfr hrow hst hb⟩
          case measure => simp [intOf]; omega
      · obtain rfl : k = n := by omega
        go_wp2_with fail
        go_ret
        rw [show num (ownS o a b) l = rank (ownS o a b) l k by unfold num; rw [HN.out], ← upto_end, HN.out]
        exact ⟨rfl, (Fr.of_below hbw).trans hfr (fun i h => Or.inl h), hrow.out, hst.out⟩
end Go.Proofs.Ytkmjacpcpchjoaa.PF
