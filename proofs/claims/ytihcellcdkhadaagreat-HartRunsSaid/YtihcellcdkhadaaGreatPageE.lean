/-
  Joined texts: PageRef4, PageRef5, PageDo. Nothing here is a statement of the seed.
-/
import Derived.Test.YtihcellcdkhadaaGreatPageD
import Derived.BigRegion
set_option linter.unusedSimpArgs false
set_option linter.unusedVariables false
/-
  Pages published, retired, released: the reference's. Nothing here is a statement of the seed.
-/
namespace Go.Proofs.YtihcellcdkhadaaGreat.PF
open Go.RowKit PM PR

/-- the numbers of c's pages stand in block gi -/
def Ids (w : World) (gi : Nat) (c : Pg → Bool) (l : List Pg) : Prop := ∀ m, m < num c l → ∃ i, i < l.length ∧ c (l.getD i zero) = true ∧ rank c l i = m ∧ w.cell? ⟨gi, m, none⟩ = some (.int .i64 (i : Int))
theorem Ids.same {w w' : World} {gi : Nat} {c : Pg → Bool} {l : List Pg} (h : Ids w gi c l) (he : w'.heap[gi]? = w.heap[gi]?) : Ids w' gi c l := fun m hm => by
  obtain ⟨i, h1, h2, h3, h4⟩ := h m hm
  exact ⟨i, h1, h2, h3, (World.cell?_of_block (a := ⟨gi, m, none⟩) he).trans h4⟩
theorem ids_of {w : World} {B n : Nat} {v : Value} {c : Pg → Bool} {l : List Pg} (hn : num c l = n) (h : w.ownsRow B 3 1 v (num c l) ((idx c l l.length).map fun (j : Nat) => .int .i64 (j : Int))) :
    ∃ a cp, v = .slice a n cp ∧ (n ≠ 0 → ∃ gi, a = some ⟨gi, 0, none⟩ ∧ n ≤ cp ∧ cp ≤ maxLen ∧ B ≤ gi ∧ gi < w.heap.size ∧ Ids w gi c l ∧ ∃ cur, Whole w gi 3 cur) := by
  subst hn
  have h' := h
  rcases h.2 with ⟨rfl, h0⟩ | ⟨gi, cp, cur, rfl, hB, hh, hcp, hcm, _, _⟩
  · exact ⟨none, 0, by rw [h0], fun h => absurd h0 h⟩
  · refine ⟨_, cp, rfl, fun _ => ⟨gi, rfl, hcp, hcm, hB, Whole.lt (t := 3) (cs := cur) hh, fun m hm => ?_, cur, hh⟩⟩
    obtain ⟨i, h1, h2, h3, h4⟩ := idx_at c l l.length m hm
    refine ⟨i, h1, h3, h4, ?_⟩
    have := h'.cells (g := gi) rfl m (.int .i64 (i : Int)) (by rw [List.getElem?_map, h2]; rfl)
    rw [Addr.add_mid, Nat.zero_add] at this
    exact this
theorem cs_set2 (l : List Pg) (k : Nat) (hk : k < l.length) (st ep : Int) (r : List Value) :
    ((cs l ++ r).set (k * 5) (.int .u8 st)).set (k * 5 + 4) (.int .u64 ep) = cs (l.set k ⟨st, (l.getD k zero).ex, (l.getD k zero).wr, (l.getD k zero).ow, ep⟩) ++ r := by
  rw [← cs_set l k ⟨st, (l.getD k zero).ex, (l.getD k zero).wr, (l.getD k zero).ow, ep⟩ hk r]
  have hl := cs_len l
  have a1 : (cs l ++ r)[k * 5 + 1]? = some (.bool (l.getD k zero).ex) := by rw [List.getElem?_append_left (by omega), cs_at l k 1 hk (by omega)]; rfl
  have a2 : (cs l ++ r)[k * 5 + 2]? = some (.bool (l.getD k zero).wr) := by rw [List.getElem?_append_left (by omega), cs_at l k 2 hk (by omega)]; rfl
  have a3 : (cs l ++ r)[k * 5 + 3]? = some (.int .u16 (l.getD k zero).ow) := by rw [List.getElem?_append_left (by omega), cs_at l k 3 hk (by omega)]; rfl
  have hr : k * 5 + 4 < (cs l ++ r).length := by rw [List.length_append]; omega
  generalize cs l ++ r = z at *
  apply List.ext_getElem?
  intro i
  simp only [List.getElem?_set, List.length_set]
  by_cases i4 : k * 5 + 4 = i
  · simp [i4]
  · by_cases i3 : k * 5 + 3 = i
    · subst i3; simp [show k * 5 + 3 < z.length by omega]; simpa using (List.getElem?_eq_some_iff.1 a3).2
    · by_cases i2 : k * 5 + 2 = i
      · subst i2; simp [show k * 5 + 2 < z.length by omega]; simpa using (List.getElem?_eq_some_iff.1 a2).2
      · by_cases i1 : k * 5 + 1 = i
        · subst i1; simp [show k * 5 + 1 < z.length by omega]; simpa using (List.getElem?_eq_some_iff.1 a1).2
        · simp [i4, i3, i2, i1]
theorem Row.set2 {w : World} {g k : Nat} {l : List Pg} (h : Row w g l) (hk : k < l.length) (st ep : Int) :
    Row ((w.setCell ⟨g, k * 5, none⟩ (.int .u8 st)).setCell ⟨g, k * 5 + 4, none⟩ (.int .u64 ep)) g (l.set k ⟨st, (l.getD k zero).ex, (l.getD k zero).wr, (l.getD k zero).ow, ep⟩) := by
  obtain ⟨r, h⟩ := h
  refine ⟨r, ?_⟩
  have := (h.set_ (k * 5) (.int .u8 st)).set_ (k * 5 + 4) (.int .u64 ep)
  rw [← cs_set2 l k hk st ep r]
  simpa using this
section
variable {g c : Nat} {l : List Pg} {w : World}
set_option maxHeartbeats 4000000 in
theorem refRetire_any (hr : Row w g l) (h256 : l.length ≤ 256) (hlc : l.length ≤ c) (hcm : c ≤ maxLen) (hf : FineL l) (o ee : Int) : Calls Tryz.prog 26 #[.agg #[.slice (some ⟨g, 0, none⟩) l.length c], .int .u16 o, .int .u64 ee] w (Rets g (retE l o) (retL l o ee) w) := by
  have HW0 := Lib.hid (two_new w (.cells #[.slice (some ⟨g, 0, none⟩) l.length c] 34) (.cells #[.slice none 0 0] 34))
  have hrW := ((hr.alloc (.cells #[.slice (some ⟨g, 0, none⟩) l.length c] 34)).alloc (.cells #[.slice none 0 0] 34))
  have HR := Lib.hid hrW
  have HT := Lib.hid ((Whole.new w 34 #[.slice (some ⟨g, 0, none⟩) l.length c]).alloc (.cells #[.slice none 0 0] 34))
  have HQ := Lib.hid (Whole.new (w.alloc (.cells #[.slice (some ⟨g, 0, none⟩) l.length c] 34)) 34 #[.slice none 0 0])
  simp only [World.size_alloc] at HQ
  have C := Lib.hid (of_any (c := c) hrW h256 hlc hcm o 2 2 (by omega) (by omega))
  have hn256 : num (ownS o 2 2) l ≤ 256 := Nat.le_trans (rank_le _ _ _) h256
  have hglt := hr.lt
  have HF := Lib.hid hf
  clear hr hrW hf
  by_cases h0 : num (ownS o 2 2) l = 0
  · rw [show retE l o = 8 by unfold retE; rw [if_pos h0], show retL l o ee = l from updQ_none (fun j hj hc => by have := (any_rank _ _).1 h0 j hj; rw [hc] at this; cases this)]
    go_enter Tryz.func26, Tryz.ntmps26
    go_wp2_with (go_at_call 65; (with_reducible refine C.out.mono ?_); rintro e w1 ⟨v, rfl, hown, hb1⟩; obtain ⟨a1, cp, rfl, hids⟩ := ids_of h0 hown; have HI := Lib.hid hids; have hT1 := (HT.out.belowS hb1).cell 0; rw [show (#[Value.slice (some ⟨g, 0, none⟩) l.length c][0]?) = some (.slice (some ⟨g, 0, none⟩) l.length c) from rfl] at hT1; have HQ1 := Lib.hid (HQ.out.belowS hb1); have hq1 := HQ1.out.cell 0; rw [show (#[Value.slice none 0 0][0]?) = some (.slice none 0 0) from rfl] at hq1; have hqf1 := HQ1.out.frozen 0; have hs1 := hb1.size; simp at hs1; have hs2 : w.heap.size + 1 < w1.heap.size := (by omega); have HB1 := Lib.hid hb1; clear hown hids hb1)
    refine bodyPost_ret (v := .tuple #[.agg #[.slice (some ⟨g, 0, none⟩) l.length c], .int .i64 8]) (by simp [results, Tryz.results26, go_sem, hq1, hqf1, hs2]) rfl ?_
    have hB := (HW0.out.trans (HB1.out.mono HW0.out.size)).setCell (p := ⟨w.heap.size + 1, 0, none⟩) (Nat.le_succ _) (.slice (some ⟨g, 0, none⟩) l.length c)
    exact ⟨g, c, rfl, (HR.out.belowS HB1.out).far (by show g ≠ w.heap.size + 1; omega) _, h256, hlc, hcm, hB, Or.inl rfl⟩
  · rw [show retE l o = 0 by unfold retE; rw [if_neg h0], show retL l o ee = upd (ownS o 2 2) (retF ee) l from rfl]
    generalize hnn : num (ownS o 2 2) l = n at *
    have HNN := Lib.hid hnn
    have HN0 := Lib.hid h0
    have h0' : ((n : Int) == 0) = false := by simp; omega
    clear hnn h0
    go_enter Tryz.func26, Tryz.ntmps26
    go_wp2_with (first | (go_at_call 65; (with_reducible refine C.out.mono ?_); rintro e w1 ⟨v, rfl, hown, hb1⟩; obtain ⟨a1, cp, rfl, hids⟩ := ids_of HNN.out hown; have HI := Lib.hid hids; have hT1 := (HT.out.belowS hb1).cell 0; rw [show (#[Value.slice (some ⟨g, 0, none⟩) l.length c][0]?) = some (.slice (some ⟨g, 0, none⟩) l.length c) from rfl] at hT1; have HQ1 := Lib.hid (HQ.out.belowS hb1); have hq1 := HQ1.out.cell 0; rw [show (#[Value.slice none 0 0][0]?) = some (.slice none 0 0) from rfl] at hq1; have hqf1 := HQ1.out.frozen 0; have hs1 := hb1.size; simp at hs1; have hs2 : w.heap.size + 1 < w1.heap.size := (by omega); have HB1 := Lib.hid hb1; clear hown hids hb1) | (go_at_call 56; (with_reducible refine (copied_any (c := c) (HR.out.belowS HB1.out) h256).mono ?_); rintro e w2 ⟨g', c', rfl, hr2, hg', hc1, hc2, hb2⟩; obtain ⟨gi, rfl, hcp1, hcp2, hgi1, hgi2, hids2, cur, hcur⟩ := HI.out HN0.out; have HR2 := Lib.hid hr2; have HID := Lib.hid (hids2.same (hb2.block gi hgi2)); have hwb2 := (HW0.out.trans (HB1.out.mono HW0.out.size)).trans (hb2.mono (by omega)); have hs3 := hb2.size; have HQ3 := Lib.hid (HQ1.out.belowS hb2); have HGI := Lib.hid (Whole.ne_ (hcur.belowS hb2) hr2.choose_spec (by decide)); clear hr2 hids2 hcur))
    have hcp3 := hcp2
    unfold maxLen at hcp3
    go_loopw [10] (fun i wr => ∃ m : Nat, m ≤ n ∧ i = .int .i64 (m : Int) ∧ Below w.heap.size w wr ∧ Hid (Row wr g' (firsts (ownS o 2 2) (retF ee) l m)) ∧ Hid (Whole wr w2.heap.size 34 #[.slice (some ⟨g', 0, none⟩) l.length c']) ∧ Hid (Whole wr (w.heap.size + 1) 34 #[.slice none 0 0]) ∧ Hid (Ids wr gi (ownS o 2 2) l)) (fun i _ => n - (intOf i).toNat)
    case atStart => exact ⟨0, by omega, rfl, hwb2.alloc hwb2.size _, Lib.hid (by rw [firsts_zero]; exact HR2.out.alloc _), Lib.hid (Whole.new _ _ _), Lib.hid (HQ3.out.alloc _), Lib.hid (HID.out.same (Below.heap_alloc _ _ _ (by omega)))⟩
    case round =>
      obtain ⟨m, hm, rfl, hu, hrow, hX, hQ, hI⟩ := hrel
      have x0 := hX.out.cell 0
      simp only [List.getElem?_toArray, List.getElem?_cons_zero] at x0
      by_cases hlm : m < n
      · have hlm' : (m : Int) < n := by omega
        have hm0 : (0 : Int) ≤ m := by omega
        obtain ⟨i, hil, hci, hri, hcell⟩ := hI.out m (by rw [HNN.out]; exact hlm)
        have hik : i < (firsts (ownS o 2 2) (retF ee) l m).length := by rw [firsts_len]; exact hil
        have hi0 : (0 : Int) ≤ i := by omega
        have hi1 : (i : Int) < l.length := by omega
        obtain ⟨⟨v0, v1, v2, v3, v4, g0, g1, g2, g3, g4⟩, f0, f1, f2, f3, f4⟩ := hrow.out.there hik
        have nX : w2.heap.size ≠ g' := by have := HR2.out.lt; omega
        have nQ : w.heap.size + 1 ≠ g' := by omega
        have hgB : w.heap.size ≤ g' := by omega
        have P := Lib.hid (Row.set2 hrow.out hik 3 ee)
        rw [show (firsts (ownS o 2 2) (retF ee) l m).set i ⟨3, ((firsts (ownS o 2 2) (retF ee) l m).getD i zero).ex, ((firsts (ownS o 2 2) (retF ee) l m).getD i zero).wr, ((firsts (ownS o 2 2) (retF ee) l m).getD i zero).ow, ee⟩ = firsts (ownS o 2 2) (retF ee) l (m + 1) from by rw [firsts_at hil hri]; exact firsts_set hil hci hri] at P
        have hF := Lib.hid (((Fr.refl (fun i => i = g') wr).set (p := ⟨g', i * 5, none⟩) (Or.inl rfl) (.int .u8 3)).set (p := ⟨g', i * 5 + 4, none⟩) (Or.inl rfl) (.int .u64 ee))
        have hK := Lib.hid (And.intro (hX.out.fr hF.out nX) (And.intro (hQ.out.fr hF.out nQ) (And.intro (hI.out.same (hF.out.block gi (by have := hu.size; have := hX.out.lt; omega) HGI.out)) (Below.fr hu hF.out hu.size (by rintro i rfl; exact hgB)))))
        clear nQ hik hX hQ hI
        have nX' : g' ≠ w2.heap.size := nX.symm
        have nG := HGI.out
        have nG' : g' ≠ gi := nG.symm
        go_wp2_with fail
        go_region
        generalize hw9 : (wr.setCell ⟨g', i * 5, none⟩ (.int .u8 3)).setCell ⟨g', i * 5 + 4, none⟩ (.int .u64 ee) = w9 at *
        clear hw9 g0 g1 g2 g3 g4 f0 f1 f2 f3 f4
        go_wp2_with fail
        go_roundw
        case rel => exact ⟨m + 1, by omega, by go_num, hK.out.2.2.2.drew, P, hK.out.1, hK.out.2.1, hK.out.2.2.1⟩
        case measure => simp [intOf]; omega
      · obtain rfl : m = n := by omega
        have q0 := hQ.out.cell 0
        have qf := hQ.out.frozen 0
        simp only [List.getElem?_toArray, List.getElem?_cons_zero] at q0
        have ql := hQ.out.lt
        go_wp2_with fail
        refine bodyPost_ret (v := .tuple #[.agg #[.slice (some ⟨g', 0, none⟩) l.length c'], .int .i64 0]) (by simp [results, Tryz.results26, go_sem, q0, qf, ql]) rfl ?_
        have hE : firsts (ownS o 2 2) (retF ee) l m = upd (ownS o 2 2) (retF ee) l := by rw [← HNN.out]; exact firsts_end _ _ _
        have hL : (upd (ownS o 2 2) (retF ee) l).length = l.length := upd_len ..
        have hrow2 := hrow.out
        rw [hE] at hrow2
        exact ⟨g', c', by rw [hL], hrow2.far (by show g' ≠ w.heap.size + 1; omega) _, by rw [hL]; exact h256, by rw [hL]; exact hc1, hc2, hu.setCell (Nat.le_succ _) _, Or.inr (by omega)⟩
end
end Go.Proofs.YtihcellcdkhadaaGreat.PF

/-
  Pages published: the reference's. Nothing here is a statement of the seed.
-/
namespace Go.Proofs.YtihcellcdkhadaaGreat.PF
open Go.RowKit PM PR

section
variable {g c : Nat} {l : List Pg} {w : World}
set_option maxHeartbeats 4000000 in
theorem refPublish_any (hr : Row w g l) (h256 : l.length ≤ 256) (hlc : l.length ≤ c) (hcm : c ≤ maxLen) (hf : FineL l) (o code : Int) : Calls Tryz.prog 22 #[.agg #[.slice (some ⟨g, 0, none⟩) l.length c], .int .u16 o, .int .i64 code] w (Rets g (pubE l o code) (pubL l o code) w) := by
  have HW0 := Lib.hid (two_new w (.cells #[.slice (some ⟨g, 0, none⟩) l.length c] 34) (.cells #[.slice none 0 0] 34))
  have hrW := ((hr.alloc (.cells #[.slice (some ⟨g, 0, none⟩) l.length c] 34)).alloc (.cells #[.slice none 0 0] 34))
  have HR := Lib.hid hrW
  have HT := Lib.hid ((Whole.new w 34 #[.slice (some ⟨g, 0, none⟩) l.length c]).alloc (.cells #[.slice none 0 0] 34))
  have HQ := Lib.hid (Whole.new (w.alloc (.cells #[.slice (some ⟨g, 0, none⟩) l.length c] 34)) 34 #[.slice none 0 0])
  simp only [World.size_alloc] at HQ
  have C := Lib.hid (of_any (c := c) hrW h256 hlc hcm o 1 1 (by omega) (by omega))
  have hn256 : num (ownS o 1 1) l ≤ 256 := Nat.le_trans (rank_le _ _ _) h256
  have hglt := hr.lt
  have HF := Lib.hid hf
  clear hr hrW hf
  by_cases h0 : num (ownS o 1 1) l = 0
  · have e8 : pubE l o code = 8 := by unfold pubE; rw [if_pos h0]
    rw [show pubL l o code = l by unfold pubL; rw [e8]; rfl, e8]
    go_enter Tryz.func22, Tryz.ntmps22
    go_wp2_with (go_at_call 65; (with_reducible refine C.out.mono ?_); rintro e w1 ⟨v, rfl, hown, hb1⟩; obtain ⟨a1, cp, rfl, hids⟩ := ids_of h0 hown; have HI := Lib.hid hids; have hT1 := (HT.out.belowS hb1).cell 0; rw [show (#[Value.slice (some ⟨g, 0, none⟩) l.length c][0]?) = some (.slice (some ⟨g, 0, none⟩) l.length c) from rfl] at hT1; have HQ1 := Lib.hid (HQ.out.belowS hb1); have hq1 := HQ1.out.cell 0; rw [show (#[Value.slice none 0 0][0]?) = some (.slice none 0 0) from rfl] at hq1; have hqf1 := HQ1.out.frozen 0; have hs1 := hb1.size; simp at hs1; have hs2 : w.heap.size + 1 < w1.heap.size := (by omega); have HB1 := Lib.hid hb1; clear hown hids hb1)
    refine bodyPost_ret (v := .tuple #[.agg #[.slice (some ⟨g, 0, none⟩) l.length c], .int .i64 8]) (by simp [results, Tryz.results22, go_sem, hq1, hqf1, hs2]) rfl ?_
    have hB := (HW0.out.trans (HB1.out.mono HW0.out.size)).setCell (p := ⟨w.heap.size + 1, 0, none⟩) (Nat.le_succ _) (.slice (some ⟨g, 0, none⟩) l.length c)
    exact ⟨g, c, rfl, (HR.out.belowS HB1.out).far (by show g ≠ w.heap.size + 1; omega) _, h256, hlc, hcm, hB, Or.inl rfl⟩
  · have eP : pubE l o code = if code < 0 ∨ (num (ownS o 1 1) l : Int) < code then 2 else 0 := by unfold pubE; rw [if_neg h0]
    have eL : pubL l o code = if pubE l o code = 0 then upd (ownS o 1 1) (pubF code) l else l := rfl
    rw [eL, eP]
    clear eL eP
    generalize hnn : num (ownS o 1 1) l = n at *
    have HNN := Lib.hid hnn
    have HN0 := Lib.hid h0
    have h0' : ((n : Int) == 0) = false := by simp; omega
    clear hnn h0
    by_cases h1 : code < 0
    · rw [if_pos (Or.inl h1)]
      show Calls _ _ _ _ (Rets g 2 l w)
      go_enter Tryz.func22, Tryz.ntmps22
      go_wp2_with (go_at_call 65; (with_reducible refine C.out.mono ?_); rintro e w1 ⟨v, rfl, hown, hb1⟩; obtain ⟨a1, cp, rfl, hids⟩ := ids_of HNN.out hown; have HI := Lib.hid hids; have hT1 := (HT.out.belowS hb1).cell 0; rw [show (#[Value.slice (some ⟨g, 0, none⟩) l.length c][0]?) = some (.slice (some ⟨g, 0, none⟩) l.length c) from rfl] at hT1; have HQ1 := Lib.hid (HQ.out.belowS hb1); have hq1 := HQ1.out.cell 0; rw [show (#[Value.slice none 0 0][0]?) = some (.slice none 0 0) from rfl] at hq1; have hqf1 := HQ1.out.frozen 0; have hs1 := hb1.size; simp at hs1; have hs2 : w.heap.size + 1 < w1.heap.size := (by omega); have HB1 := Lib.hid hb1; clear hown hids hb1)
      refine bodyPost_ret (v := .tuple #[.agg #[.slice (some ⟨g, 0, none⟩) l.length c], .int .i64 2]) (by simp [results, Tryz.results22, go_sem, hq1, hqf1, hs2]) rfl ?_
      have hB := (HW0.out.trans (HB1.out.mono HW0.out.size)).setCell (p := ⟨w.heap.size + 1, 0, none⟩) (Nat.le_succ _) (.slice (some ⟨g, 0, none⟩) l.length c)
      exact ⟨g, c, rfl, (HR.out.belowS HB1.out).far (by show g ≠ w.heap.size + 1; omega) _, h256, hlc, hcm, hB, Or.inl rfl⟩
    have h1' : 0 ≤ code := by omega
    by_cases h2 : (n : Int) < code
    · rw [if_pos (Or.inr h2)]
      show Calls _ _ _ _ (Rets g 2 l w)
      go_enter Tryz.func22, Tryz.ntmps22
      go_wp2_with (go_at_call 65; (with_reducible refine C.out.mono ?_); rintro e w1 ⟨v, rfl, hown, hb1⟩; obtain ⟨a1, cp, rfl, hids⟩ := ids_of HNN.out hown; have HI := Lib.hid hids; have hT1 := (HT.out.belowS hb1).cell 0; rw [show (#[Value.slice (some ⟨g, 0, none⟩) l.length c][0]?) = some (.slice (some ⟨g, 0, none⟩) l.length c) from rfl] at hT1; have HQ1 := Lib.hid (HQ.out.belowS hb1); have hq1 := HQ1.out.cell 0; rw [show (#[Value.slice none 0 0][0]?) = some (.slice none 0 0) from rfl] at hq1; have hqf1 := HQ1.out.frozen 0; have hs1 := hb1.size; simp at hs1; have hs2 : w.heap.size + 1 < w1.heap.size := (by omega); have HB1 := Lib.hid hb1; clear hown hids hb1)
      refine bodyPost_ret (v := .tuple #[.agg #[.slice (some ⟨g, 0, none⟩) l.length c], .int .i64 2]) (by simp [results, Tryz.results22, go_sem, hq1, hqf1, hs2]) rfl ?_
      have hB := (HW0.out.trans (HB1.out.mono HW0.out.size)).setCell (p := ⟨w.heap.size + 1, 0, none⟩) (Nat.le_succ _) (.slice (some ⟨g, 0, none⟩) l.length c)
      exact ⟨g, c, rfl, (HR.out.belowS HB1.out).far (by show g ≠ w.heap.size + 1; omega) _, h256, hlc, hcm, hB, Or.inl rfl⟩
    rw [if_neg (by omega)]
    show Calls _ _ _ _ (Rets g 0 (upd (ownS o 1 1) (pubF code) l) w)
    have h2' : code ≤ (n : Int) := by omega
    clear h1 h2
    go_enter Tryz.func22, Tryz.ntmps22
    go_wp2_with (first | (go_at_call 65; (with_reducible refine C.out.mono ?_); rintro e w1 ⟨v, rfl, hown, hb1⟩; obtain ⟨a1, cp, rfl, hids⟩ := ids_of HNN.out hown; have HI := Lib.hid hids; have hT1 := (HT.out.belowS hb1).cell 0; rw [show (#[Value.slice (some ⟨g, 0, none⟩) l.length c][0]?) = some (.slice (some ⟨g, 0, none⟩) l.length c) from rfl] at hT1; have HQ1 := Lib.hid (HQ.out.belowS hb1); have hq1 := HQ1.out.cell 0; rw [show (#[Value.slice none 0 0][0]?) = some (.slice none 0 0) from rfl] at hq1; have hqf1 := HQ1.out.frozen 0; have hs1 := hb1.size; simp at hs1; have hs2 : w.heap.size + 1 < w1.heap.size := (by omega); have HB1 := Lib.hid hb1; clear hown hids hb1) | (go_at_call 56; (with_reducible refine (copied_any (c := c) (HR.out.belowS HB1.out) h256).mono ?_); rintro e w2 ⟨g', c', rfl, hr2, hg', hc1, hc2, hb2⟩; obtain ⟨gi, rfl, hcp1, hcp2, hgi1, hgi2, hids2, cur, hcur⟩ := HI.out HN0.out; have HR2 := Lib.hid hr2; have HID := Lib.hid (hids2.same (hb2.block gi hgi2)); have hwb2 := (HW0.out.trans (HB1.out.mono HW0.out.size)).trans (hb2.mono (by omega)); have hs3 := hb2.size; have HQ3 := Lib.hid (HQ1.out.belowS hb2); have HGI := Lib.hid (Whole.ne_ (hcur.belowS hb2) hr2.choose_spec (by decide)); clear hr2 hids2 hcur))
    have hcp3 := hcp2
    unfold maxLen at hcp3
    go_loopw [10] (fun i wr => ∃ m : Nat, m ≤ n ∧ i = .int .i64 (m : Int) ∧ Below w.heap.size w wr ∧ Hid (Row wr g' (firsts (ownS o 1 1) (pubF code) l m)) ∧ Hid (Whole wr w2.heap.size 34 #[.slice (some ⟨g', 0, none⟩) l.length c']) ∧ Hid (Whole wr (w.heap.size + 1) 34 #[.slice none 0 0]) ∧ Hid (Ids wr gi (ownS o 1 1) l)) (fun i _ => n - (intOf i).toNat)
    case atStart => exact ⟨0, by omega, rfl, hwb2.alloc hwb2.size _, Lib.hid (by rw [firsts_zero]; exact HR2.out.alloc _), Lib.hid (Whole.new _ _ _), Lib.hid (HQ3.out.alloc _), Lib.hid (HID.out.same (Below.heap_alloc _ _ _ (by omega)))⟩
    case round =>
      obtain ⟨m, hm, rfl, hu, hrow, hX, hQ, hI⟩ := hrel
      have x0 := hX.out.cell 0
      simp only [List.getElem?_toArray, List.getElem?_cons_zero] at x0
      by_cases hlm : m < n
      · have hlm' : (m : Int) < n := by omega
        have hm0 : (0 : Int) ≤ m := by omega
        obtain ⟨i, hil, hci, hri, hcell⟩ := hI.out m (by rw [HNN.out]; exact hlm)
        have hik : i < (firsts (ownS o 1 1) (pubF code) l m).length := by rw [firsts_len]; exact hil
        have hi0 : (0 : Int) ≤ i := by omega
        have hi1 : (i : Int) < l.length := by omega
        obtain ⟨⟨v0, v1, v2, v3, v4, g0, g1, g2, g3, g4⟩, f0, f1, f2, f3, f4⟩ := hrow.out.there hik
        have nX : w2.heap.size ≠ g' := by have := HR2.out.lt; omega
        have nQ : w.heap.size + 1 ≠ g' := by omega
        have hgB : w.heap.size ≤ g' := by omega
        have hq9 : pubF code m (l.getD i zero) = ⟨2, decide ((m : Int) < code), decide (code ≤ (m : Int)), o, 0⟩ := by
          obtain ⟨ho9, hs9⟩ := ownS_st hci
          have hz9 : l.getD i zero = stg o := by
            rcases HF.out i hil with ⟨h, _⟩ | ⟨h, _, e⟩ | ⟨h, _, _⟩
            · omega
            · rw [e, ho9]
            · omega
          rw [hz9]
          unfold pubF stg
          simp only [Pg.mk.injEq, true_and, and_true]
          by_cases hd : (m : Int) < code
          · rw [decide_eq_true hd, decide_eq_false (show ¬ code ≤ (m : Int) by omega)]; rfl
          · rw [decide_eq_false hd, decide_eq_true (show code ≤ (m : Int) by omega)]; rfl
        have P := Lib.hid (hrow.out.put hik (⟨2, decide ((m : Int) < code), decide (code ≤ (m : Int)), o, 0⟩ : Pg))
        rw [show (firsts (ownS o 1 1) (pubF code) l m).set i ⟨2, decide ((m : Int) < code), decide (code ≤ (m : Int)), o, 0⟩ = firsts (ownS o 1 1) (pubF code) l (m + 1) from by rw [← hq9]; exact firsts_set hil hci hri] at P
        have hF := Lib.hid (Fr.put (g := g') (Fr.refl (fun i => i = g') wr) (Or.inl rfl) (i * 5) 2 (decide ((m : Int) < code)) (decide (code ≤ (m : Int))) o 0)
        clear hq9
        have hK := Lib.hid (And.intro (hX.out.fr hF.out nX) (And.intro (hQ.out.fr hF.out nQ) (And.intro (hI.out.same (hF.out.block gi (by have := hu.size; have := hX.out.lt; omega) HGI.out)) (Below.fr hu hF.out hu.size (by rintro i rfl; exact hgB)))))
        clear nX nQ hik hX hQ hI
        go_wp2_with fail
        go_region
        rw [put_eq]
        generalize hw9 : put5 wr g' (i * 5) 2 (decide ((m : Int) < code)) (decide (code ≤ (m : Int))) o 0 = w9 at *
        clear hw9 g0 g1 g2 g3 g4 f0 f1 f2 f3 f4
        go_wp2_with fail
        go_roundw
        case rel => exact ⟨m + 1, by omega, by go_num, hK.out.2.2.2.drew, P, hK.out.1, hK.out.2.1, hK.out.2.2.1⟩
        case measure => simp [intOf]; omega
      · obtain rfl : m = n := by omega
        have q0 := hQ.out.cell 0
        have qf := hQ.out.frozen 0
        simp only [List.getElem?_toArray, List.getElem?_cons_zero] at q0
        have ql := hQ.out.lt
        go_wp2_with fail
        refine bodyPost_ret (v := .tuple #[.agg #[.slice (some ⟨g', 0, none⟩) l.length c'], .int .i64 0]) (by simp [results, Tryz.results22, go_sem, q0, qf, ql]) rfl ?_
        have hE : firsts (ownS o 1 1) (pubF code) l m = upd (ownS o 1 1) (pubF code) l := by rw [← HNN.out]; exact firsts_end _ _ _
        have hL : (upd (ownS o 1 1) (pubF code) l).length = l.length := upd_len ..
        have hrow2 := hrow.out
        rw [hE] at hrow2
        exact ⟨g', c', by rw [hL], hrow2.far (by show g' ≠ w.heap.size + 1; omega) _, by rw [hL]; exact h256, by rw [hL]; exact hc1, hc2, hu.setCell (Nat.le_succ _) _, Or.inr (by omega)⟩
end
end Go.Proofs.YtihcellcdkhadaaGreat.PF

/-
  One call of both. Nothing here is a statement of the seed.
-/
namespace Go.Proofs.YtihcellcdkhadaaGreat.PF
open Go.RowKit PM PR

abbrev acV (x : Ac) : Value := .agg #[.int .u8 x.kind, .int .i64 x.a, .int .i64 x.n, .int .u16 x.o, .int .u64 x.e]
/-- both have done the call: the table in its block, the reference's where it lay or in memory of its own -/
def DoR (p g gr : Nat) (l' : List Pg) (w : World) (e : Ending) (w' : World) : Prop := ∃ gr' c, e = .returned (.tuple #[.agg #[.slice (some ⟨gr', 0, none⟩) l'.length c], .bool true]) ∧ Tb w' p g l' ∧ Row w' gr' l' ∧ l'.length ≤ c ∧ c ≤ maxLen ∧ Fr (fun i => i = g) w w' ∧ (gr' = gr ∨ w.heap.size ≤ gr')
theorem refStage_any {g c : Nat} {l : List Pg} {w : World} (hr : Row w g l) (h256 : l.length ≤ 256) (hlc : l.length ≤ c) (hcm : c ≤ maxLen) (hf : FineL l) (a n o : Int) : Calls Tryz.prog 18 #[.agg #[.slice (some ⟨g, 0, none⟩) l.length c], .int .i64 a, .int .i64 n, .int .u16 o] w (Rets g (stageE l a n o) (stageL l a n o) w) := by
  by_cases h1 : o = 0 ∨ n < 1
  · have e : stageE l a n o = 2 := by unfold stageE; rw [if_pos h1]
    rw [show stageL l a n o = l by unfold stageL; rw [e]; rfl, e]
    exact refStage_arg hr h256 hlc hcm a n o h1
  · by_cases h2 : a < 0 ∨ (l.length : Int) - n < a
    · have e : stageE l a n o = 11 := by unfold stageE; rw [if_neg h1, if_pos h2]
      rw [show stageL l a n o = l by unfold stageL; rw [e]; rfl, e]
      exact refStage_range hr h256 hlc hcm a n o (by omega) (by omega) h2
    · obtain ⟨A, rfl⟩ := Int.eq_ofNat_of_zero_le (show 0 ≤ a by omega)
      obtain ⟨N, rfl⟩ := Int.eq_ofNat_of_zero_le (show 0 ≤ n by omega)
      exact refStage_there hr h256 hlc hcm hf A N o (by omega) (by omega) (by omega)
end Go.Proofs.YtihcellcdkhadaaGreat.PF
