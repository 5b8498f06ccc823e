/-
  Joined texts: PageChg, PageChgA, PageChgB. Nothing here is a statement of the seed.
-/
import Derived.Test.YtihcellcdkhadaaGreatPageA
import Derived.Deep.RegionHeld3
set_option linter.unusedSimpArgs false
set_option linter.unusedVariables false
/-
  An owner's pages turned, one behind the other. Nothing here is a statement of the seed.
-/
namespace Go.Proofs.YtihcellcdkhadaaGreat.PF
open Go.RowKit PM PR

theorem upto_at {c : Pg → Bool} {F : Nat → Pg → Pg} {l : List Pg} {k : Nat} (hk : k < l.length) : (updQ (fun j => decide (j < k)) c F l).getD k zero = l.getD k zero := by
  rw [updQ_at hk]; simp
theorem upto_no {c : Pg → Bool} {F : Nat → Pg → Pg} {l : List Pg} {k : Nat} (hk : k < l.length) (hc : c (l.getD k zero) = false) : updQ (fun j => decide (j < k + 1)) c F l = updQ (fun j => decide (j < k)) c F l := by
  refine updQ_same fun j hj hcj => ⟨?_, rfl⟩
  by_cases e : j = k
  · subst e; rw [hc] at hcj; cases hcj
  · simp; omega
theorem upto_yes {c : Pg → Bool} {F : Nat → Pg → Pg} {l : List Pg} {k : Nat} (hk : k < l.length) (hc : c (l.getD k zero) = true) : (updQ (fun j => decide (j < k)) c F l).set k (F (rank c l k) (l.getD k zero)) = updQ (fun j => decide (j < k + 1)) c F l := by
  refine updQ_set hk hc fun j hj hcj => ?_
  by_cases e : k = j
  · subst e; simp
  · simp [e]; omega
theorem upto_end {c : Pg → Bool} {F : Nat → Pg → Pg} {l : List Pg} : updQ (fun j => decide (j < l.length)) c F l = upd c F l :=
  updQ_same fun j hj _ => ⟨by simp [hj], rfl⟩
theorem bd_iff {B : Nat} {a w : World} : Below B a w.drew ↔ Below B a w := ⟨fun h => ⟨h.os, h.tape, h.output, h.size, h.block⟩, fun h => h.drew⟩
theorem fr_iff {S : Nat → Prop} {a w : World} : Fr S a w.drew ↔ Fr S a w := ⟨fun h => ⟨h.os, h.tape, h.output, h.size, h.block⟩, fun h => h.drew⟩
/-- what a round of change finds -/
theorem chg_round {p g gs n k : Nat} {l : List Pg} {o a b : Int} {v : Value} {F : Nat → Pg → Pg} {S : Nat → Prop} {cc : Pg → Bool} {w w1 wr : World} (hlt : k < n) (HN : Hid (l.length = n)) (HT : Hid (Tb w p g l)) (HV : Hid (Sts w v gs a b))
    (HOB : Hid (Whole w1 w.heap.size 59 #[.int .u16 o])) (HSp : Hid (¬ S p)) (HSg : Hid (¬ S g)) (HSs : Hid (¬ S gs)) (HL : Hid (∀ i, S i → i < w.heap.size)) (hbw : Below w.heap.size w w1) (hfr : Fr (fun i => i = g ∨ S i) w1 wr)
    (hrow : Hid (Row wr g (updQ (fun j => decide (j < k)) cc F l))) :
    ∃ st ex wr' ow ep, Hid (l.getD k zero = ⟨st, ex, wr', ow, ep⟩) ∧ wr.cell? ⟨g, k * 5, none⟩ = some (.int .u8 st) ∧ wr.cell? ⟨g, k * 5 + 1, none⟩ = some (.bool ex) ∧ wr.cell? ⟨g, k * 5 + 2, none⟩ = some (.bool wr') ∧ wr.cell? ⟨g, k * 5 + 3, none⟩ = some (.int .u16 ow) ∧
      wr.cell? ⟨g, k * 5 + 4, none⟩ = some (.int .u64 ep) ∧ wr.cell? ⟨p, 0, none⟩ = w.cell? ⟨p, 0, none⟩ ∧ Hid (Whole wr w.heap.size 59 #[.int .u16 o]) ∧ Hid (Sts wr v gs a b) ∧ p < wr.heap.size ∧ g < wr.heap.size ∧ (0 : Int) ≤ k ∧ (k : Int) < n := by
  have hkl : k < l.length := by rw [HN.out]; exact hlt
  obtain ⟨c0, c1, c2, c3, c4⟩ := hrow.out.five (k := k) (by rw [updQ_len]; exact hkl) (upto_at hkl)
  obtain ⟨glt, plt, hpg⟩ := HT.out.lt
  have h1 := hbw.size
  have h2 := hfr.size
  have slt := HV.out.lt
  have hgs := HV.out.ne_ (HT.out.row.choose_spec) (by decide)
  refine ⟨_, _, _, _, _, Lib.hid rfl, c0, c1, c2, c3, c4, ?_, Lib.hid (HOB.out.fr hfr ?_), Lib.hid ((HV.out.belowS hbw).fr hfr ?_), by omega, by omega, by omega, by omega⟩
  · have e1 := hbw.block p plt
    have e2 := hfr.block p (by omega) (fun h => h.elim hpg HSp.out)
    exact World.cell?_of_block (e2.trans e1)
  · rintro (h | h)
    · omega
    · have := HL.out _ h; omega
  · rintro (h | h)
    · exact hgs h.symm
    · exact HSs.out h
/-- a page that stays -/
theorem chg_no {g n k r : Nat} {l : List Pg} {cc : Pg → Bool} {F : Nat → Pg → Pg} {St : World → Nat → Prop} {S : Nat → Prop} {w1 wr w2 : World} (hlt : k < n) (HN : Hid (l.length = n)) (HR : Hid (rank cc l k = r)) (hc : cc (l.getD k zero) = false)
    (HSt : Hid (∀ (u u' : World) (k : Nat), St u k → Fr (fun i => i = g) u u' → St u' k)) (hfr : Fr (fun i => i = g ∨ S i) w1 wr) (hrow : Hid (Row wr g (updQ (fun j => decide (j < k)) cc F l))) (hst : Hid (St wr r)) (hb : Below wr.heap.size wr w2) :
    Value.int .i64 (r : Int) = .int .i64 (rank cc l (k + 1) : Int) ∧ Fr (fun i => i = g ∨ S i) w1 w2 ∧ Hid (Row w2 g (updQ (fun j => decide (j < k + 1)) cc F l)) ∧ Hid (St w2 (rank cc l (k + 1))) := by
  have hkl : k < l.length := by rw [HN.out]; exact hlt
  have e : rank cc l (k + 1) = r := (rank_no hc).trans HR.out
  rw [e, upto_no hkl hc]
  exact ⟨rfl, hfr.then hb, Lib.hid (hrow.out.belowS hb), Lib.hid (HSt.out _ _ _ hst.out (Fr.of_below hb))⟩
/-- a page that turns -/
theorem chg_yes {g n k r : Nat} {l : List Pg} {cc : Pg → Bool} {F : Nat → Pg → Pg} {St : World → Nat → Prop} {S : Nat → Prop} {w1 wr w2 w3 : World} {q : Pg} (hlt : k < n) (HN : Hid (l.length = n)) (HR : Hid (rank cc l k = r)) (hq : Hid (l.getD k zero = q)) (hc : cc q = true)
    (HSt : Hid (∀ (u u' : World) (k : Nat), St u k → Fr (fun i => i = g) u u' → St u' k)) (HSg : Hid (¬ S g)) (hfr : Fr (fun i => i = g ∨ S i) w1 wr) (hrow : Hid (Row wr g (updQ (fun j => decide (j < k)) cc F l))) (hb : Fr S wr w2) (hst : Hid (St w2 (r + 1)))
    (h3 : w3 = put5 w2 g (k * 5) (F r q).st (F r q).ex (F r q).wr (F r q).ow (F r q).ep) :
    Value.int .i64 ((r : Int) + 1) = .int .i64 (rank cc l (k + 1) : Int) ∧ Fr (fun i => i = g ∨ S i) w1 w3 ∧ Hid (Row w3 g (updQ (fun j => decide (j < k + 1)) cc F l)) ∧ Hid (St w3 (rank cc l (k + 1))) := by
  have hkl : k < l.length := by rw [HN.out]; exact hlt
  have hc' : cc (l.getD k zero) = true := by rw [hq.out]; exact hc
  have e : rank cc l (k + 1) = r + 1 := by rw [rank_yes hc', HR.out]
  have hw : Fr (fun i => i = g) w2 w3 := by
    subst h3
    exact (Fr.refl (fun i => i = g) w2).put (Or.inl rfl) _ _ _ _ _ _
  rw [e, ← upto_yes hkl hc', HR.out, hq.out]
  refine ⟨by go_num, (hfr.trans hb fun i h => Or.inl (Or.inr h)).trans hw fun i h => Or.inl (Or.inl h), Lib.hid ?_, Lib.hid (HSt.out _ _ _ hst.out hw)⟩
  rw [h3]
  exact (hrow.out.fr hb HSg.out).put (by rw [updQ_len]; exact hkl) (F r q)
/-- what stays behind the closure's call -/
theorem chg_kept {p T B : Nat} {S : Nat → Prop} {w2 w3 wr : World} {st : Int} {ex wr' : Bool} {ow ep : Int} {v : Value} (HSp : Hid (¬ S p)) (HL : Hid (∀ i, S i → i < B)) (hT : B ≤ T) (hp2 : p < w2.heap.size) (hT2 : T < w2.heap.size) (h3 : Fr S w2 w3) (h2 : Fr S wr w2)
    (h : w2.cell? ⟨p, 0, none⟩ = some v ∧ w2.cell? ⟨T, 0, none⟩ = some (.int .u8 st) ∧ w2.cell? ⟨T, 1, none⟩ = some (.bool ex) ∧ w2.cell? ⟨T, 2, none⟩ = some (.bool wr') ∧ w2.cell? ⟨T, 3, none⟩ = some (.int .u16 ow) ∧ w2.cell? ⟨T, 4, none⟩ = some (.int .u64 ep)) :
    w3.cell? ⟨p, 0, none⟩ = some v ∧ w3.cell? ⟨T, 0, none⟩ = some (.int .u8 st) ∧ w3.cell? ⟨T, 1, none⟩ = some (.bool ex) ∧ w3.cell? ⟨T, 2, none⟩ = some (.bool wr') ∧ w3.cell? ⟨T, 3, none⟩ = some (.int .u16 ow) ∧ w3.cell? ⟨T, 4, none⟩ = some (.int .u64 ep) ∧ Fr S wr w3 := by
  obtain ⟨a, b0, b1, b2, b3, b4⟩ := h
  have hTn : ¬ S T := fun h => by have := HL.out T h; omega
  have e := fun o => World.cell?_of_block (a := ⟨T, o, none⟩) (h3.block T hT2 hTn)
  exact ⟨(World.cell?_of_block (a := ⟨p, 0, none⟩) (h3.block p hp2 HSp.out)).trans a, (e 0).trans b0, (e 1).trans b1, (e 2).trans b2, (e 3).trans b3, (e 4).trans b4, h2.trans h3 (fun i h => Or.inl h)⟩
theorem chg_lay {p T : Nat} {w2 wr : World} {st : Int} {ex wr' : Bool} {ow ep : Int} {v : Value} {t : TypeId} (hT : wr.heap.size = T) (hp : p < wr.heap.size) (cp : wr.cell? ⟨p, 0, none⟩ = some v)
    (hb1 : Below (wr.alloc (.cells #[.int .u8 st, .bool ex, .bool wr', .int .u16 ow, .int .u64 ep] t)).heap.size (wr.alloc (.cells #[.int .u8 st, .bool ex, .bool wr', .int .u16 ow, .int .u64 ep] t)) w2) :
    (w2.cell? ⟨p, 0, none⟩ = some v ∧ w2.cell? ⟨T, 0, none⟩ = some (.int .u8 st) ∧ w2.cell? ⟨T, 1, none⟩ = some (.bool ex) ∧ w2.cell? ⟨T, 2, none⟩ = some (.bool wr') ∧ w2.cell? ⟨T, 3, none⟩ = some (.int .u16 ow) ∧ w2.cell? ⟨T, 4, none⟩ = some (.int .u64 ep)) ∧ T < w2.heap.size ∧ p < w2.heap.size := by
  subst hT
  have hN := (Whole.new wr t #[.int .u8 st, .bool ex, .bool wr', .int .u16 ow, .int .u64 ep]).belowS hb1
  have h1 := (below_new wr (.cells #[.int .u8 st, .bool ex, .bool wr', .int .u16 ow, .int .u64 ep] t)).trans (hb1.mono (by simp))
  have := h1.size
  exact ⟨⟨(h1.cell (p := ⟨p, 0, none⟩) hp).trans cp, hN.cell 0, hN.cell 1, hN.cell 2, hN.cell 3, hN.cell 4⟩, hN.lt, by omega⟩
end Go.Proofs.YtihcellcdkhadaaGreat.PF

/-
  An owner's pages turned by a closure: counted, freed. Nothing here is a statement of the seed.
-/
namespace Go.Proofs.YtihcellcdkhadaaGreat.PF
open Go.RowKit PM PR

set_option maxHeartbeats 4000000 in
theorem change_as (p g gs : Nat) (l : List Pg) (o a b : Int) (v : Value) (F : Nat → Pg → Pg) (St : World → Nat → Prop) (S : Nat → Prop) (w : World)
    (hT : Tb w p g l) (hv : Sts w v gs a b) (h0 : St w 0) (hSp : ¬ S p) (hSg : ¬ S g) (hSs : ¬ S gs) (hlt : ∀ i, S i → i < w.heap.size)
    (hSt : ∀ u u' k, St u k → Fr (fun i => i = g) u u' → St u' k)
    (hC : ∀ u k q, k ≤ 256 → St u k → Calls Tryz.prog 63 #[pV q] u fun e w' => e = .returned (pV (F k q)) ∧ Fr S u w' ∧ St w' (k + 1)) :
    Calls Tryz.prog 62 #[.pointer (some ⟨p, 0, none⟩), .int .u16 o, .func (.func 63) #[] #[], v] w fun e w' =>
      e = .returned (.int .i64 (num (ownS o a b) l : Int)) ∧ Fr (fun i => i = g ∨ S i) w w' ∧ Row w' g (upd (ownS o a b) F l) ∧ St w' (num (ownS o a b) l) := by
  obtain ⟨c, h256, hlc, hcm, hcell⟩ := hT.cell
  obtain ⟨glt, plt, hpg⟩ := hT.lt
  have HT := Lib.hid hT
  have HV := Lib.hid hv
  have H0 := Lib.hid h0
  have HSt := Lib.hid hSt
  have HC := Lib.hid hC
  have HL := Lib.hid hlt
  have slt := hv.lt
  have gne := hv.ne_ (hT.row.choose_spec) (by decide)
  have HSp := Lib.hid hSp
  have HSg := Lib.hid hSg
  have HSs := Lib.hid hSs
  clear hT hv h0 hSt hC hSp hSg hSs hlt
  generalize hn : l.length = n at *
  have HN := Lib.hid hn
  clear hn
  unfold maxLen at hcm
  have wlt : p < w.heap.size + 1 := by omega
  · have HC1 : Hid (∀ u k st ex wr' ow ep, k ≤ 256 → St u k → Calls Tryz.prog 63 #[pgV st ex wr' ow ep] u fun e w' => e = .returned (pgV (F k ⟨st, ex, wr', ow, ep⟩).st (F k ⟨st, ex, wr', ow, ep⟩).ex (F k ⟨st, ex, wr', ow, ep⟩).wr (F k ⟨st, ex, wr', ow, ep⟩).ow (F k ⟨st, ex, wr', ow, ep⟩).ep) ∧ Fr S u w' ∧ St w' (k + 1)) :=
      Lib.hid fun u k st ex wr' ow ep h1 h2 => HC.out u k ⟨st, ex, wr', ow, ep⟩ h1 h2
    clear HC
    go_enter Tryz.func62, Tryz.ntmps62
    go_wp2_with (go_at_call 55; refine (ownedBy_any o w).mono ?_; rintro e w1 ⟨rfl, rfl⟩)
    generalize hw1 : w.alloc (.cells #[.int .u16 o] 59) = w1 at *
    have HOB : Hid (Whole w1 w.heap.size 59 #[.int .u16 o]) := by subst hw1; exact Lib.hid (Whole.new w _ _)
    have hbw : Below w.heap.size w w1 := by subst hw1; exact below_new w _
    have HW := Lib.hid hw1
    clear hw1
    go_loopw [20, 10] (fun i d wr => ∃ k : Nat, k ≤ n ∧ i = .int .i64 (k : Int) ∧ d = .int .i64 (rank (ownS o a b) l k : Int) ∧ Fr (fun i => i = g ∨ S i) w1 wr ∧ Hid (Row wr g (updQ (fun j => decide (j < k)) (ownS o a b) F l)) ∧ Hid (St wr (rank (ownS o a b) l k))) (fun i _ _ => n - (intOf i).toNat)
    case atStart => exact ⟨0, by omega, rfl, rfl, Fr.refl _ _, Lib.hid (by rw [updQ_none (by intros; rfl)]; exact HT.out.row.belowS hbw), Lib.hid (HSt.out _ _ _ H0.out (Fr.of_below hbw))⟩
    case round =>
      obtain ⟨k, hk, rfl, rfl, hfr, hrow, hst⟩ := hrel
      by_cases hlt : k < n
      · have R := chg_round (S := S) hlt HN HT HV HOB HSp HSg HSs HL hbw hfr hrow
        obtain ⟨st, ex, wr', ow, ep, hp, c0, c1, c2, c3, c4, cp, hB, hV, hplt, hglt, hk0, hk1⟩ := R
        have hr := rank_le (ownS o a b) l k
        generalize hrk : rank (ownS o a b) l k = r at *
        have HR := Lib.hid hrk
        clear hrk
        have hb0 := below_new wr (.cells #[.int .u8 st, .bool ex, .bool wr', .int .u16 ow, .int .u64 ep] 107)
        by_cases ho : ow = o
        · subst ho
          have HO := Lib.hid (fun u hu => ownedBy1_any ⟨st, ex, wr', ow, ep⟩ ow w.heap.size u hu)
          rw [show ownB ow ⟨st, ex, wr', ow, ep⟩ = true by simp [ownB]] at HO
          change Hid (∀ u, Whole u w.heap.size 59 #[.int .u16 ow] → Calls _ _ #[pgV st ex wr' ow ep, _] u _) at HO
          have HK := Lib.hid (fun u hu => contains_any v gs a b st u hu)
          cases hs : (decide (st = a) || decide (st = b))
          · rw [hs] at HK
            have HS := Lib.hid hs
            clear hs
            go_wp2_with (first | (go_at_call 94; refine (HO.out _ (hB.out.belowS hb0)).mono ?_; rintro e w2 ⟨rfl, hb1⟩; have hb := below_of hb0 hb1; obtain ⟨hc, hf⟩ := bcell hb1; have hz := hb1.size) | (go_at_call 98; refine (HK.out _ (hV.out.belowS hb)).mono ?_; rintro e w3 ⟨rfl, rfl⟩))
            go_roundw
            case rel => exact ⟨k + 1, by omega, by go_num, chg_no hlt HN HR (by rw [hp.out]; simpa [ownS] using HS.out) HSt hfr hrow hst hb⟩
            case measure => simp [intOf]; omega
          · rw [hs] at HK
            have HS := Lib.hid hs
            clear hs
            go_wp2_with (first | (go_at_call 94; refine (HO.out _ (hB.out.belowS hb0)).mono ?_; rintro e w2 ⟨rfl, hb1⟩; have hb := below_of hb0 hb1; obtain ⟨hc, hf⟩ := bcell hb1; have hz := hb1.size) | (go_at_call 98; refine (HK.out _ (hV.out.belowS hb)).mono ?_; rintro e w3 ⟨rfl, rfl⟩))
            rw [hcell] at cp
            have hbT : w.heap.size ≤ wr.heap.size := Nat.le_trans hbw.size hfr.size
            clear hc hf hz c0 c1 c2 c3 c4 hB hV HO HK hb0
            have hF2 : Fr S wr w2 := Fr.of_below hb
            have HG2 : Hid (St w2 r) := Lib.hid (HSt.out _ _ _ hst.out (Fr.of_below hb))
            clear hb
            generalize hTT : wr.heap.size = T at *
            have L := chg_lay hTT (by rw [hTT]; exact hplt) cp hb1
            obtain ⟨L, hT2, hp2⟩ := L
            have LL := Lib.hid L
            obtain ⟨a0, b0, b1, b2, b3, b4⟩ := L
            clear hb1 hTT cp
            have hTg : T ≠ g := by omega
            obtain ⟨⟨st2, ex2, wr2, ow2, ep2⟩, hF⟩ : ∃ q, F r ⟨st, ex, wr', ow, ep⟩ = q := ⟨_, rfl⟩
            have HC2 := HC1.out w2.drew r st ex wr' ow ep (by omega) (HSt.out _ _ _ HG2.out (Fr.drew (Fr.refl _ _)))
            rw [hF] at HC2
            have HC3 := Lib.hid HC2
            have HF := Lib.hid hF
            clear hF HC1 HC2
            go_region_held3 (fun u => u.cell? ⟨p, 0, none⟩ = some (.slice (some ⟨g, 0, none⟩) n c) ∧ u.cell? ⟨T, 0, none⟩ = some (.int .u8 st) ∧ u.cell? ⟨T, 1, none⟩ = some (.bool ex) ∧ u.cell? ⟨T, 2, none⟩ = some (.bool wr') ∧ u.cell? ⟨T, 3, none⟩ = some (.int .u16 ow) ∧ u.cell? ⟨T, 4, none⟩ = some (.int .u64 ep))
              (first | with_reducible exact ⟨d0, d1, d2, d3, d4, d5⟩ | (rw [put_eq]; with_reducible exact ⟨put_far hpg d0, put_far hTg d1, put_far hTg d2, put_far hTg d3, put_far hTg d4, put_far hTg d5⟩) | exact ⟨a0, b0, b1, b2, b3, b4⟩)
              (first | (go_at_call 63; refine HC3.out.mono ?_; rintro e w3 ⟨rfl, hf3, hs3⟩; have hf3 := (show Fr S w2 w3 by first | exact hf3 | exact (Fr.drew (Fr.refl S w2)).trans hf3 (fun i h => Or.inl h)); have K3 := chg_kept HSp HL hbT hp2 hT2 hf3 hF2 LL.out; obtain ⟨d0, d1, d2, d3, d4, d5, d6⟩ := K3; have HS3 := Lib.hid hs3; obtain ⟨⟨v0, v1, v2, v3, v4, g0, g1, g2, g3, g4⟩, f0, f1, f2, f3, f4⟩ := (hrow.out.fr d6 HSg.out).there (k := k) (by rw [updQ_len, HN.out]; exact hlt); clear hs3 hf3))
            rw [put_eq]
            clear d0 d1 d2 d3 d4 d5 g0 g1 g2 g3 g4 f0 f1 f2 f3 f4 a0 b0 b1 b2 b3 b4 LL HC3
            rename_i hHeld
            clear hHeld
            generalize hw4 : put5 w3 g (k * 5) st2 ex2 wr2 ow2 ep2 = w4
            have HW4 := Lib.hid hw4
            clear hw4
            go_wp2_with fail
            go_roundw
            case rel => exact ⟨k + 1, by omega, by go_num, chg_yes hlt HN HR hp (by simpa [ownS] using HS.out) HSt HSg hfr hrow d6 HS3 (by rw [HF.out]; exact HW4.out.symm)⟩
            case measure => simp [intOf]; omega
        · have hob : ownB o ⟨st, ex, wr', ow, ep⟩ = false := by simp [ownB, ho]
          have HO := Lib.hid (fun u hu => ownedBy1_any ⟨st, ex, wr', ow, ep⟩ o w.heap.size u hu)
          rw [hob] at HO
          change Hid (∀ u, Whole u w.heap.size 59 #[.int .u16 o] → Calls _ _ #[pgV st ex wr' ow ep, _] u _) at HO
          clear hob
          have HOW := Lib.hid ho
          clear ho
          go_wp2_with (go_at_call 94; refine (HO.out _ (hB.out.belowS hb0)).mono ?_; rintro e w2 ⟨rfl, hb1⟩; have hb := below_of hb0 hb1)
          go_roundw
          case rel => exact ⟨k + 1, by omega, by go_num, chg_no hlt HN HR (by rw [hp.out]; simp [ownS, HOW.out]) HSt hfr hrow hst hb⟩
          case measure => simp [intOf]; omega
      · obtain rfl : k = n := by omega
        go_wp2_with fail
        go_ret
        rw [show num (ownS o a b) l = rank (ownS o a b) l k by unfold num; rw [HN.out], ← upto_end, HN.out]
        exact ⟨rfl, (Fr.of_below hbw).trans hfr (fun i h => Or.inl h), hrow.out, hst.out⟩
end Go.Proofs.YtihcellcdkhadaaGreat.PF

/-
  An owner's pages turned by a closure: retired, published. Nothing here is a statement of the seed.
-/
namespace Go.Proofs.YtihcellcdkhadaaGreat.PF
open Go.RowKit PM PR

set_option maxHeartbeats 4000000 in
theorem change_ret (p g gs : Nat) (l : List Pg) (o a b : Int) (v : Value) (F : Nat → Pg → Pg) (St : World → Nat → Prop) (S : Nat → Prop) (E : Nat) (w : World)
    (hT : Tb w p g l) (hv : Sts w v gs a b) (h0 : St w 0) (hSp : ¬ S p) (hSg : ¬ S g) (hSs : ¬ S gs) (hlt : ∀ i, S i → i < w.heap.size)
    (hSt : ∀ u u' k, St u k → Fr (fun i => i = g) u u' → St u' k)
    (hC : ∀ u k q, k ≤ 256 → St u k → Calls Tryz.prog 68 #[pV q, .pointer (some ⟨E, 0, none⟩)] u fun e w' => e = .returned (pV (F k q)) ∧ Fr S u w' ∧ St w' (k + 1)) :
    Calls Tryz.prog 62 #[.pointer (some ⟨p, 0, none⟩), .int .u16 o, .func (.func 68) #[] #[.pointer (some ⟨E, 0, none⟩)], v] w fun e w' =>
      e = .returned (.int .i64 (num (ownS o a b) l : Int)) ∧ Fr (fun i => i = g ∨ S i) w w' ∧ Row w' g (upd (ownS o a b) F l) ∧ St w' (num (ownS o a b) l) := by
  obtain ⟨c, h256, hlc, hcm, hcell⟩ := hT.cell
  obtain ⟨glt, plt, hpg⟩ := hT.lt
  have HT := Lib.hid hT
  have HV := Lib.hid hv
  have H0 := Lib.hid h0
  have HSt := Lib.hid hSt
  have HC := Lib.hid hC
  have HL := Lib.hid hlt
  have slt := hv.lt
  have gne := hv.ne_ (hT.row.choose_spec) (by decide)
  have HSp := Lib.hid hSp
  have HSg := Lib.hid hSg
  have HSs := Lib.hid hSs
  clear hT hv h0 hSt hC hSp hSg hSs hlt
  generalize hn : l.length = n at *
  have HN := Lib.hid hn
  clear hn
  unfold maxLen at hcm
  have wlt : p < w.heap.size + 1 := by omega
  · have HC1 : Hid (∀ u k st ex wr' ow ep, k ≤ 256 → St u k → Calls Tryz.prog 68 #[pgV st ex wr' ow ep, .pointer (some ⟨E, 0, none⟩)] u fun e w' => e = .returned (pgV (F k ⟨st, ex, wr', ow, ep⟩).st (F k ⟨st, ex, wr', ow, ep⟩).ex (F k ⟨st, ex, wr', ow, ep⟩).wr (F k ⟨st, ex, wr', ow, ep⟩).ow (F k ⟨st, ex, wr', ow, ep⟩).ep) ∧ Fr S u w' ∧ St w' (k + 1)) :=
      Lib.hid fun u k st ex wr' ow ep h1 h2 => HC.out u k ⟨st, ex, wr', ow, ep⟩ h1 h2
    clear HC
    go_enter Tryz.func62, Tryz.ntmps62
    go_wp2_with (go_at_call 55; refine (ownedBy_any o w).mono ?_; rintro e w1 ⟨rfl, rfl⟩)
    generalize hw1 : w.alloc (.cells #[.int .u16 o] 59) = w1 at *
    have HOB : Hid (Whole w1 w.heap.size 59 #[.int .u16 o]) := by subst hw1; exact Lib.hid (Whole.new w _ _)
    have hbw : Below w.heap.size w w1 := by subst hw1; exact below_new w _
    have HW := Lib.hid hw1
    clear hw1
    go_loopw [20, 10] (fun i d wr => ∃ k : Nat, k ≤ n ∧ i = .int .i64 (k : Int) ∧ d = .int .i64 (rank (ownS o a b) l k : Int) ∧ Fr (fun i => i = g ∨ S i) w1 wr ∧ Hid (Row wr g (updQ (fun j => decide (j < k)) (ownS o a b) F l)) ∧ Hid (St wr (rank (ownS o a b) l k))) (fun i _ _ => n - (intOf i).toNat)
    case atStart => exact ⟨0, by omega, rfl, rfl, Fr.refl _ _, Lib.hid (by rw [updQ_none (by intros; rfl)]; exact HT.out.row.belowS hbw), Lib.hid (HSt.out _ _ _ H0.out (Fr.of_below hbw))⟩
    case round =>
      obtain ⟨k, hk, rfl, rfl, hfr, hrow, hst⟩ := hrel
      by_cases hlt : k < n
      · have R := chg_round (S := S) hlt HN HT HV HOB HSp HSg HSs HL hbw hfr hrow
        obtain ⟨st, ex, wr', ow, ep, hp, c0, c1, c2, c3, c4, cp, hB, hV, hplt, hglt, hk0, hk1⟩ := R
        have hr := rank_le (ownS o a b) l k
        generalize hrk : rank (ownS o a b) l k = r at *
        have HR := Lib.hid hrk
        clear hrk
        have hb0 := below_new wr (.cells #[.int .u8 st, .bool ex, .bool wr', .int .u16 ow, .int .u64 ep] 107)
        by_cases ho : ow = o
        · subst ho
          have HO := Lib.hid (fun u hu => ownedBy1_any ⟨st, ex, wr', ow, ep⟩ ow w.heap.size u hu)
          rw [show ownB ow ⟨st, ex, wr', ow, ep⟩ = true by simp [ownB]] at HO
          change Hid (∀ u, Whole u w.heap.size 59 #[.int .u16 ow] → Calls _ _ #[pgV st ex wr' ow ep, _] u _) at HO
          have HK := Lib.hid (fun u hu => contains_any v gs a b st u hu)
          cases hs : (decide (st = a) || decide (st = b))
          · rw [hs] at HK
            have HS := Lib.hid hs
            clear hs
            go_wp2_with (first | (go_at_call 94; refine (HO.out _ (hB.out.belowS hb0)).mono ?_; rintro e w2 ⟨rfl, hb1⟩; have hb := below_of hb0 hb1; obtain ⟨hc, hf⟩ := bcell hb1; have hz := hb1.size) | (go_at_call 98; refine (HK.out _ (hV.out.belowS hb)).mono ?_; rintro e w3 ⟨rfl, rfl⟩))
            go_roundw
            case rel => exact ⟨k + 1, by omega, by go_num, chg_no hlt HN HR (by rw [hp.out]; simpa [ownS] using HS.out) HSt hfr hrow hst hb⟩
            case measure => simp [intOf]; omega
          · rw [hs] at HK
            have HS := Lib.hid hs
            clear hs
            go_wp2_with (first | (go_at_call 94; refine (HO.out _ (hB.out.belowS hb0)).mono ?_; rintro e w2 ⟨rfl, hb1⟩; have hb := below_of hb0 hb1; obtain ⟨hc, hf⟩ := bcell hb1; have hz := hb1.size) | (go_at_call 98; refine (HK.out _ (hV.out.belowS hb)).mono ?_; rintro e w3 ⟨rfl, rfl⟩))
            rw [hcell] at cp
            have hbT : w.heap.size ≤ wr.heap.size := Nat.le_trans hbw.size hfr.size
            clear hc hf hz c0 c1 c2 c3 c4 hB hV HO HK hb0
            have hF2 : Fr S wr w2 := Fr.of_below hb
            have HG2 : Hid (St w2 r) := Lib.hid (HSt.out _ _ _ hst.out (Fr.of_below hb))
            clear hb
            generalize hTT : wr.heap.size = T at *
            have L := chg_lay hTT (by rw [hTT]; exact hplt) cp hb1
            obtain ⟨L, hT2, hp2⟩ := L
            have LL := Lib.hid L
            obtain ⟨a0, b0, b1, b2, b3, b4⟩ := L
            clear hb1 hTT cp
            have hTg : T ≠ g := by omega
            obtain ⟨⟨st2, ex2, wr2, ow2, ep2⟩, hF⟩ : ∃ q, F r ⟨st, ex, wr', ow, ep⟩ = q := ⟨_, rfl⟩
            have HC2 := HC1.out w2.drew r st ex wr' ow ep (by omega) (HSt.out _ _ _ HG2.out (Fr.drew (Fr.refl _ _)))
            rw [hF] at HC2
            have HC3 := Lib.hid HC2
            have HF := Lib.hid hF
            clear hF HC1 HC2
            go_region_held3 (fun u => u.cell? ⟨p, 0, none⟩ = some (.slice (some ⟨g, 0, none⟩) n c) ∧ u.cell? ⟨T, 0, none⟩ = some (.int .u8 st) ∧ u.cell? ⟨T, 1, none⟩ = some (.bool ex) ∧ u.cell? ⟨T, 2, none⟩ = some (.bool wr') ∧ u.cell? ⟨T, 3, none⟩ = some (.int .u16 ow) ∧ u.cell? ⟨T, 4, none⟩ = some (.int .u64 ep))
              (first | with_reducible exact ⟨d0, d1, d2, d3, d4, d5⟩ | (rw [put_eq]; with_reducible exact ⟨put_far hpg d0, put_far hTg d1, put_far hTg d2, put_far hTg d3, put_far hTg d4, put_far hTg d5⟩) | exact ⟨a0, b0, b1, b2, b3, b4⟩)
              (first | (go_at_call 68; refine HC3.out.mono ?_; rintro e w3 ⟨rfl, hf3, hs3⟩; have hf3 := (show Fr S w2 w3 by first | exact hf3 | exact (Fr.drew (Fr.refl S w2)).trans hf3 (fun i h => Or.inl h)); have K3 := chg_kept HSp HL hbT hp2 hT2 hf3 hF2 LL.out; obtain ⟨d0, d1, d2, d3, d4, d5, d6⟩ := K3; have HS3 := Lib.hid hs3; obtain ⟨⟨v0, v1, v2, v3, v4, g0, g1, g2, g3, g4⟩, f0, f1, f2, f3, f4⟩ := (hrow.out.fr d6 HSg.out).there (k := k) (by rw [updQ_len, HN.out]; exact hlt); clear hs3 hf3))
            rw [put_eq]
            clear d0 d1 d2 d3 d4 d5 g0 g1 g2 g3 g4 f0 f1 f2 f3 f4 a0 b0 b1 b2 b3 b4 LL HC3
            rename_i hHeld
            clear hHeld
            generalize hw4 : put5 w3 g (k * 5) st2 ex2 wr2 ow2 ep2 = w4
            have HW4 := Lib.hid hw4
            clear hw4
            go_wp2_with fail
            go_roundw
            case rel => exact ⟨k + 1, by omega, by go_num, chg_yes hlt HN HR hp (by simpa [ownS] using HS.out) HSt HSg hfr hrow d6 HS3 (by rw [HF.out]; exact HW4.out.symm)⟩
            case measure => simp [intOf]; omega
        · have hob : ownB o ⟨st, ex, wr', ow, ep⟩ = false := by simp [ownB, ho]
          have HO := Lib.hid (fun u hu => ownedBy1_any ⟨st, ex, wr', ow, ep⟩ o w.heap.size u hu)
          rw [hob] at HO
          change Hid (∀ u, Whole u w.heap.size 59 #[.int .u16 o] → Calls _ _ #[pgV st ex wr' ow ep, _] u _) at HO
          clear hob
          have HOW := Lib.hid ho
          clear ho
          go_wp2_with (go_at_call 94; refine (HO.out _ (hB.out.belowS hb0)).mono ?_; rintro e w2 ⟨rfl, hb1⟩; have hb := below_of hb0 hb1)
          go_roundw
          case rel => exact ⟨k + 1, by omega, by go_num, chg_no hlt HN HR (by rw [hp.out]; simp [ownS, HOW.out]) HSt hfr hrow hst hb⟩
          case measure => simp [intOf]; omega
      · obtain rfl : k = n := by omega
        go_wp2_with fail
        go_ret
        rw [show num (ownS o a b) l = rank (ownS o a b) l k by unfold num; rw [HN.out], ← upto_end, HN.out]
        exact ⟨rfl, (Fr.of_below hbw).trans hfr (fun i h => Or.inl h), hrow.out, hst.out⟩
set_option maxHeartbeats 4000000 in
theorem change_pub (p g gs : Nat) (l : List Pg) (o a b : Int) (v : Value) (F : Nat → Pg → Pg) (St : World → Nat → Prop) (S : Nat → Prop) (D E : Nat) (w : World)
    (hT : Tb w p g l) (hv : Sts w v gs a b) (h0 : St w 0) (hSp : ¬ S p) (hSg : ¬ S g) (hSs : ¬ S gs) (hlt : ∀ i, S i → i < w.heap.size)
    (hSt : ∀ u u' k, St u k → Fr (fun i => i = g) u u' → St u' k)
    (hC : ∀ u k q, k ≤ 256 → St u k → Calls Tryz.prog 64 #[pV q, .pointer (some ⟨D, 0, none⟩), .pointer (some ⟨E, 0, none⟩)] u fun e w' => e = .returned (pV (F k q)) ∧ Fr S u w' ∧ St w' (k + 1)) :
    Calls Tryz.prog 62 #[.pointer (some ⟨p, 0, none⟩), .int .u16 o, .func (.func 64) #[] #[.pointer (some ⟨D, 0, none⟩), .pointer (some ⟨E, 0, none⟩)], v] w fun e w' =>
      e = .returned (.int .i64 (num (ownS o a b) l : Int)) ∧ Fr (fun i => i = g ∨ S i) w w' ∧ Row w' g (upd (ownS o a b) F l) ∧ St w' (num (ownS o a b) l) := by
  obtain ⟨c, h256, hlc, hcm, hcell⟩ := hT.cell
  obtain ⟨glt, plt, hpg⟩ := hT.lt
  have HT := Lib.hid hT
  have HV := Lib.hid hv
  have H0 := Lib.hid h0
  have HSt := Lib.hid hSt
  have HC := Lib.hid hC
  have HL := Lib.hid hlt
  have slt := hv.lt
  have gne := hv.ne_ (hT.row.choose_spec) (by decide)
  have HSp := Lib.hid hSp
  have HSg := Lib.hid hSg
  have HSs := Lib.hid hSs
  clear hT hv h0 hSt hC hSp hSg hSs hlt
  generalize hn : l.length = n at *
  have HN := Lib.hid hn
  clear hn
  unfold maxLen at hcm
  have wlt : p < w.heap.size + 1 := by omega
  · have HC1 : Hid (∀ u k st ex wr' ow ep, k ≤ 256 → St u k → Calls Tryz.prog 64 #[pgV st ex wr' ow ep, .pointer (some ⟨D, 0, none⟩), .pointer (some ⟨E, 0, none⟩)] u fun e w' => e = .returned (pgV (F k ⟨st, ex, wr', ow, ep⟩).st (F k ⟨st, ex, wr', ow, ep⟩).ex (F k ⟨st, ex, wr', ow, ep⟩).wr (F k ⟨st, ex, wr', ow, ep⟩).ow (F k ⟨st, ex, wr', ow, ep⟩).ep) ∧ Fr S u w' ∧ St w' (k + 1)) :=
      Lib.hid fun u k st ex wr' ow ep h1 h2 => HC.out u k ⟨st, ex, wr', ow, ep⟩ h1 h2
    clear HC
    go_enter Tryz.func62, Tryz.ntmps62
    go_wp2_with (go_at_call 55; refine (ownedBy_any o w).mono ?_; rintro e w1 ⟨rfl, rfl⟩)
    generalize hw1 : w.alloc (.cells #[.int .u16 o] 59) = w1 at *
    have HOB : Hid (Whole w1 w.heap.size 59 #[.int .u16 o]) := by subst hw1; exact Lib.hid (Whole.new w _ _)
    have hbw : Below w.heap.size w w1 := by subst hw1; exact below_new w _
    have HW := Lib.hid hw1
    clear hw1
    go_loopw [20, 10] (fun i d wr => ∃ k : Nat, k ≤ n ∧ i = .int .i64 (k : Int) ∧ d = .int .i64 (rank (ownS o a b) l k : Int) ∧ Fr (fun i => i = g ∨ S i) w1 wr ∧ Hid (Row wr g (updQ (fun j => decide (j < k)) (ownS o a b) F l)) ∧ Hid (St wr (rank (ownS o a b) l k))) (fun i _ _ => n - (intOf i).toNat)
    case atStart => exact ⟨0, by omega, rfl, rfl, Fr.refl _ _, Lib.hid (by rw [updQ_none (by intros; rfl)]; exact HT.out.row.belowS hbw), Lib.hid (HSt.out _ _ _ H0.out (Fr.of_below hbw))⟩
    case round =>
      obtain ⟨k, hk, rfl, rfl, hfr, hrow, hst⟩ := hrel
      by_cases hlt : k < n
      · have R := chg_round (S := S) hlt HN HT HV HOB HSp HSg HSs HL hbw hfr hrow
        obtain ⟨st, ex, wr', ow, ep, hp, c0, c1, c2, c3, c4, cp, hB, hV, hplt, hglt, hk0, hk1⟩ := R
        have hr := rank_le (ownS o a b) l k
        generalize hrk : rank (ownS o a b) l k = r at *
        have HR := Lib.hid hrk
        clear hrk
        have hb0 := below_new wr (.cells #[.int .u8 st, .bool ex, .bool wr', .int .u16 ow, .int .u64 ep] 107)
        by_cases ho : ow = o
        · subst ho
          have HO := Lib.hid (fun u hu => ownedBy1_any ⟨st, ex, wr', ow, ep⟩ ow w.heap.size u hu)
          rw [show ownB ow ⟨st, ex, wr', ow, ep⟩ = true by simp [ownB]] at HO
          change Hid (∀ u, Whole u w.heap.size 59 #[.int .u16 ow] → Calls _ _ #[pgV st ex wr' ow ep, _] u _) at HO
          have HK := Lib.hid (fun u hu => contains_any v gs a b st u hu)
          cases hs : (decide (st = a) || decide (st = b))
          · rw [hs] at HK
            have HS := Lib.hid hs
            clear hs
            go_wp2_with (first | (go_at_call 94; refine (HO.out _ (hB.out.belowS hb0)).mono ?_; rintro e w2 ⟨rfl, hb1⟩; have hb := below_of hb0 hb1; obtain ⟨hc, hf⟩ := bcell hb1; have hz := hb1.size) | (go_at_call 98; refine (HK.out _ (hV.out.belowS hb)).mono ?_; rintro e w3 ⟨rfl, rfl⟩))
            go_roundw
            case rel => exact ⟨k + 1, by omega, by go_num, chg_no hlt HN HR (by rw [hp.out]; simpa [ownS] using HS.out) HSt hfr hrow hst hb⟩
            case measure => simp [intOf]; omega
          · rw [hs] at HK
            have HS := Lib.hid hs
            clear hs
            go_wp2_with (first | (go_at_call 94; refine (HO.out _ (hB.out.belowS hb0)).mono ?_; rintro e w2 ⟨rfl, hb1⟩; have hb := below_of hb0 hb1; obtain ⟨hc, hf⟩ := bcell hb1; have hz := hb1.size) | (go_at_call 98; refine (HK.out _ (hV.out.belowS hb)).mono ?_; rintro e w3 ⟨rfl, rfl⟩))
            rw [hcell] at cp
            have hbT : w.heap.size ≤ wr.heap.size := Nat.le_trans hbw.size hfr.size
            clear hc hf hz c0 c1 c2 c3 c4 hB hV HO HK hb0
            have hF2 : Fr S wr w2 := Fr.of_below hb
            have HG2 : Hid (St w2 r) := Lib.hid (HSt.out _ _ _ hst.out (Fr.of_below hb))
            clear hb
            generalize hTT : wr.heap.size = T at *
            have L := chg_lay hTT (by rw [hTT]; exact hplt) cp hb1
            obtain ⟨L, hT2, hp2⟩ := L
            have LL := Lib.hid L
            obtain ⟨a0, b0, b1, b2, b3, b4⟩ := L
            clear hb1 hTT cp
            have hTg : T ≠ g := by omega
            obtain ⟨⟨st2, ex2, wr2, ow2, ep2⟩, hF⟩ : ∃ q, F r ⟨st, ex, wr', ow, ep⟩ = q := ⟨_, rfl⟩
            have HC2 := HC1.out w2.drew r st ex wr' ow ep (by omega) (HSt.out _ _ _ HG2.out (Fr.drew (Fr.refl _ _)))
            rw [hF] at HC2
            have HC3 := Lib.hid HC2
            have HF := Lib.hid hF
            clear hF HC1 HC2
            go_region_held3 (fun u => u.cell? ⟨p, 0, none⟩ = some (.slice (some ⟨g, 0, none⟩) n c) ∧ u.cell? ⟨T, 0, none⟩ = some (.int .u8 st) ∧ u.cell? ⟨T, 1, none⟩ = some (.bool ex) ∧ u.cell? ⟨T, 2, none⟩ = some (.bool wr') ∧ u.cell? ⟨T, 3, none⟩ = some (.int .u16 ow) ∧ u.cell? ⟨T, 4, none⟩ = some (.int .u64 ep))
              (first | with_reducible exact ⟨d0, d1, d2, d3, d4, d5⟩ | (rw [put_eq]; with_reducible exact ⟨put_far hpg d0, put_far hTg d1, put_far hTg d2, put_far hTg d3, put_far hTg d4, put_far hTg d5⟩) | exact ⟨a0, b0, b1, b2, b3, b4⟩)
              (first | (go_at_call 64; refine HC3.out.mono ?_; rintro e w3 ⟨rfl, hf3, hs3⟩; have hf3 := (show Fr S w2 w3 by first | exact hf3 | exact (Fr.drew (Fr.refl S w2)).trans hf3 (fun i h => Or.inl h)); have K3 := chg_kept HSp HL hbT hp2 hT2 hf3 hF2 LL.out; obtain ⟨d0, d1, d2, d3, d4, d5, d6⟩ := K3; have HS3 := Lib.hid hs3; obtain ⟨⟨v0, v1, v2, v3, v4, g0, g1, g2, g3, g4⟩, f0, f1, f2, f3, f4⟩ := (hrow.out.fr d6 HSg.out).there (k := k) (by rw [updQ_len, HN.out]; exact hlt); clear hs3 hf3))
            rw [put_eq]
            clear d0 d1 d2 d3 d4 d5 g0 g1 g2 g3 g4 f0 f1 f2 f3 f4 a0 b0 b1 b2 b3 b4 LL HC3
            rename_i hHeld
            clear hHeld
            generalize hw4 : put5 w3 g (k * 5) st2 ex2 wr2 ow2 ep2 = w4
            have HW4 := Lib.hid hw4
            clear hw4
            go_wp2_with fail
            go_roundw
            case rel => exact ⟨k + 1, by omega, by go_num, chg_yes hlt HN HR hp (by simpa [ownS] using HS.out) HSt HSg hfr hrow d6 HS3 (by rw [HF.out]; exact HW4.out.symm)⟩
            case measure => simp [intOf]; omega
        · have hob : ownB o ⟨st, ex, wr', ow, ep⟩ = false := by simp [ownB, ho]
          have HO := Lib.hid (fun u hu => ownedBy1_any ⟨st, ex, wr', ow, ep⟩ o w.heap.size u hu)
          rw [hob] at HO
          change Hid (∀ u, Whole u w.heap.size 59 #[.int .u16 o] → Calls _ _ #[pgV st ex wr' ow ep, _] u _) at HO
          clear hob
          have HOW := Lib.hid ho
          clear ho
          go_wp2_with (go_at_call 94; refine (HO.out _ (hB.out.belowS hb0)).mono ?_; rintro e w2 ⟨rfl, hb1⟩; have hb := below_of hb0 hb1)
          go_roundw
          case rel => exact ⟨k + 1, by omega, by go_num, chg_no hlt HN HR (by rw [hp.out]; simp [ownS, HOW.out]) HSt hfr hrow hst hb⟩
          case measure => simp [intOf]; omega
      · obtain rfl : k = n := by omega
        go_wp2_with fail
        go_ret
        rw [show num (ownS o a b) l = rank (ownS o a b) l k by unfold num; rw [HN.out], ← upto_end, HN.out]
        exact ⟨rfl, (Fr.of_below hbw).trans hfr (fun i h => Or.inl h), hrow.out, hst.out⟩
end Go.Proofs.YtihcellcdkhadaaGreat.PF
