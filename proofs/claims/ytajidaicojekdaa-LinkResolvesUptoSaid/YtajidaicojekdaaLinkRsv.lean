/-
  The slots of imports: as lists, and the reference's Resolve. Nothing here is a statement of the seed.
-/
import Derived.Test.YtajidaicojekdaaLinkA
import Derived.Test.YtajidaicojekdaaSymRef2
import Derived.Deep.RegionHeld3
set_option linter.unusedSimpArgs false
set_option linter.unusedVariables false
namespace Go.Proofs.Ytajidaicojekdaa.KF
open Go.RowKit WM NR OM OR VM YM RM RF KM SM SR SF
set_option maxHeartbeats 4000000
set_option maxRecDepth 10000
/-- what the imports' slots are, or why there are none -/
def rsE (L : List En) (ns : List (List UInt8)) : Int := if (ns.all fun s => decide ((findM L s).2 = 0)) then 0 else 23
def rsL (L : List En) (ns : List (List UInt8)) : List Nat := ns.map fun s => (slotM (findM L s).1).toNat
theorem rsE_stop {L : List En} {ns : List (List UInt8)} {k : Nat} (hk : k < ns.length) (h : (findM L (ns.getD k [])).2 ≠ 0) : rsE L ns = 23 := by
  unfold rsE
  rw [if_neg]
  intro hh
  rw [List.all_eq_true] at hh
  exact h (of_decide_eq_true (hh _ (VM.mem_getD hk)))
theorem rsE_all {L : List En} {ns : List (List UInt8)} (h : ∀ j, j < ns.length → (findM L (ns.getD j [])).2 = 0) : rsE L ns = 0 := by
  unfold rsE
  rw [if_pos]
  rw [List.all_eq_true]
  intro s hs
  obtain ⟨j, hj, rfl⟩ := List.getElem_of_mem hs
  have := h j hj
  rw [List.getD_eq_getElem?_getD, List.getElem?_eq_getElem hj] at this
  exact decide_eq_true this
theorem rsL_snoc {L : List En} {ns : List (List UInt8)} {k : Nat} (hk : k < ns.length) {X : Int} (hX : slotM (findM L (ns.getD k [])).1 = X) (h0 : 0 ≤ X) : u32s (rsL L (ns.take k)) ++ [Value.int .u32 X] = u32s (rsL L (ns.take (k + 1))) := by
  rw [List.getD_eq_getElem?_getD, List.getElem?_eq_getElem hk] at hX
  unfold rsL u32s
  rw [List.take_add_one, List.getElem?_eq_getElem hk]
  simp only [Option.toList_some, List.map_append, List.map_cons, List.map_nil]
  simp only [Option.getD_some] at hX
  rw [hX, Int.toNat_of_nonneg h0]
theorem find_bd {t : Tb} (h : SM.Good t) {n : List UInt8} (hf : (findM t.L n).2 = 0) : (0 ≤ (findM t.L n).1.gate ∧ (findM t.L n).1.gate ≤ 7) ∧ 0 ≤ (findM t.L n).1.idx ∧ (findM t.L n).1.idx ≤ 7 := by
  unfold findM at hf ⊢
  split at hf
  · simp at hf
  · rename_i hp
    rw [if_neg hp]
    simp only
    have hm : (plc t.L n).toNat < t.L.length := by have := plc_lt t.L n; omega
    have hb := h.bd _ (VM.mem_getD (l := t.L) (d := e0) hm)
    exact ⟨⟨hb.1, hb.2.1⟩, hb.2.2.1, hb.2.2.2.1⟩
theorem own_kept {D u : World} {B : Nat} {v : Value} {n : Nat} {xs : List Value} (h : D.ownsRow B 46 1 v n xs) (hb : Below D.heap.size D u) : u.ownsRow B 46 1 v n xs := owns_below h hb
structure IsRs (B : Nat) (w : World) (q : Value) (L : List En) (ns : List (List UInt8)) : Prop where
  yes : rsE L ns = 0 → w.ownsRow B 46 1 q ns.length (u32s (rsL L ns))
  no : rsE L ns ≠ 0 → q = .slice none 0 0
theorem IsRs.row {B : Nat} {w : World} {q : Value} {L : List En} {ns : List (List UInt8)} (h : IsRs B w q L ns) : w.ownsRow B 46 1 q (if rsE L ns = 0 then rsL L ns else []).length (u32s (if rsE L ns = 0 then rsL L ns else [])) := by
  by_cases e : rsE L ns = 0
  · rw [if_pos e]
    have := h.yes e
    rwa [show (rsL L ns).length = ns.length by simp [rsL]]
  · rw [if_neg e, h.no e]
    exact World.ownsRow_nil _ _ _ _
section
variable {w : World} {ma : Option Addr} {mn mc : Nat} {la : Option Addr} {ln lc : Nat} {t : Tb} {na : Option Addr} {nn nc : Nat} {ns : List (List UInt8)}
theorem refResolve_any (h : RdT (· < w.heap.size) w ma mn mc la ln lc t) (hg : SM.Good t) (hn : Reads (· < w.heap.size) w (.slice na nn nc) (strs ns)) (hb : nn ≤ 100) :
    Calls Try.prog 14 #[tbV ma mn mc la ln lc, .slice na nn nc] w fun e w' => ∃ q, e = .returned (.tuple #[q, .int .i64 (rsE t.L ns)]) ∧ IsRs w.heap.size w' q t.L ns ∧ Below w.heap.size w w' := by
  have hl := reads_len hn
  rw [strs_len] at hl
  obtain ⟨hl1, hl2, hl3⟩ := hl
  have CF := Lib.hid (fun (u : World) (hb : Below w.heap.size w u) (s : List UInt8) => refFind_any (h.go hb hb.size) s)
  have HX := Lib.hid (Whole.new w 29 (tbC ma mn mc la ln lc))
  have HB := Lib.hid (below_new w (.cells (tbC ma mn mc la ln lc) 29))
  have HN := Lib.hid hn
  have HLN := Lib.hid hl1
  have hnc : (nn : Int) ≤ nc := by omega
  have HG := Lib.hid hg
  obtain ⟨i0, hi, hz0, hz1, hz2⟩ := info_parts infoWord
  obtain ⟨RE, hRE⟩ : ∃ q, rsE t.L ns = q := ⟨_, rfl⟩
  rw [hRE]
  have HRE := Lib.hid hRE
  clear h hn hl1 hl2 hl3 hg hRE
  go_enter Try.func14, Try.ntmps14
  go_wp2_with fail
  generalize w.alloc (.cells (tbC ma mn mc la ln lc) 29) = W at *
  go_loopw [6, 7] (fun o i wr => ∃ (k : Nat) (q : Value), k ≤ nn ∧ i = .int .i64 (k : Int) ∧ o = q ∧ wr.ownsRow W.heap.size 46 1 q k (u32s (rsL t.L (ns.take k))) ∧ Hid (∀ j, j < k → (findM t.L (ns.getD j [])).2 = 0) ∧ Below W.heap.size W wr) (fun o i _ => nn - (intOf i).toNat)
  case atStart => exact ⟨0, _, by omega, rfl, rfl, World.ownsRow_nil _ _ _ _, Lib.hid (fun j hj => by omega), Below.refl _ _⟩
  case round =>
    obtain ⟨k, q, hk, rfl, rfl, hown, hp, hbl⟩ := hrel
    have hX := HX.out.belowS hbl
    have hBw := HB.out.trans (hbl.mono HB.out.size)
    by_cases hlt : k < nn
    · have hlt' : (k : Int) < nn := by omega
      have hkl : k < ns.length := by rw [HLN.out]; exact hlt
      obtain ⟨g, off, rfl, _, e0⟩ := reads_at HN.out hBw hlt
      rw [strs_at hkl] at e0
      have hgl := World.block_lt_of_cell? wr _ e0
      have hXD := Lib.hid (hX.belowS (Below.refl _ _).drew)
      have HBD := Lib.hid (hBw.trans (((Below.refl wr.heap.size wr).drew).mono hBw.size))
      have HBW := Lib.hid hbl.drew
      have HO := Lib.hid (show wr.drew.ownsRow W.heap.size 46 1 u6 k (u32s (rsL t.L (ns.take k))) from hown)
      have E0 := Lib.hid (((Below.refl wr.heap.size wr).drew.cell (p := ⟨g, off + k, none⟩) hgl).trans e0)
      have HGD : Hid (g < wr.drew.heap.size) := Lib.hid hgl
      have CFk := Lib.hid (fun (u : World) (hb : Below w.heap.size w u) => CF.out u hb (ns.getD k []))
      have HFB := Lib.hid (find_bd HG.out (n := ns.getD k []))
      have HSN := Lib.hid (fun (X : Int) h1 h2 => rsL_snoc (L := t.L) hkl (X := X) h1 h2)
      have HST := Lib.hid (fun h => rsE_stop (L := t.L) hkl h)
      obtain ⟨⟨⟨nm0, md0, eg, ei, er⟩, fE⟩, hfd⟩ : ∃ q, findM t.L (ns.getD k []) = q := ⟨_, rfl⟩
      have HP2 : Hid (fE = 0 → ∀ j, j < k + 1 → (findM t.L (ns.getD j [])).2 = 0) := Lib.hid (fun hf j hj => by
        by_cases h' : j < k
        · exact hp.out j h'
        · rw [show j = k by omega, hfd]; exact hf)
      have HFE : Hid (fE ≠ 0 → RE = 23) := Lib.hid (fun hf => by rw [← HRE.out]; exact HST.out (by rw [hfd]; exact hf))
      rw [hfd] at CFk
      have HF0 : Hid (fE = 0 → (0 ≤ eg ∧ eg ≤ 7) ∧ (0 ≤ ei ∧ ei ≤ 7) ∧ u32s (rsL t.L (ns.take k)) ++ [Value.int .u32 (8 * eg + ei)] = u32s (rsL t.L (ns.take (k + 1)))) := Lib.hid (fun hf => by
        have h := HFB.out (by rw [hfd]; exact hf)
        rw [hfd] at h
        exact ⟨h.1, h.2, HSN.out _ (by rw [hfd]; rfl) (by have := h.1; have := h.2; simp only at *; omega)⟩)
      clear HFB HSN HST hfd hX hBw hbl hown e0 hgl hp hkl
      have CFk : Hid (∀ (u : World), Below w.heap.size w u → Calls Try.prog 41 #[tbV ma mn mc la ln lc, .string (bs (ns.getD k []))] u fun e w' => e = .returned (.tuple #[.agg #[.string (bs nm0), .string (bs md0), .int .i64 eg, .int .i64 ei, .int .i64 er], .int .i64 fE]) ∧ Below u.heap.size u w') := CFk
      generalize bs nm0 = b1 at *
      generalize bs md0 = b2 at *
      generalize bs (ns.getD k []) = S0 at *
      go_wp2_with fail
      have KF : Hid (∀ u, Below wr.drew.heap.size wr.drew u → (u.cell? ⟨w.heap.size, 0, none⟩ = some (.slice ma mn mc) ∧ u.cell? ⟨w.heap.size, 1, none⟩ = some (.slice la ln lc)) ∧ u.cell? ⟨g, off + k, none⟩ = some (.string S0)) := Lib.hid (fun u hu => ⟨⟨(hXD.out.belowS hu).cell 0, (hXD.out.belowS hu).cell 1⟩, (hu.cell (p := ⟨g, off + k, none⟩) HGD.out).trans E0.out⟩)
      have K0 := KF.out _ (Below.refl _ _)
      refine wp_region_held_drew (S := fun u => (u.cell? ⟨w.heap.size, 0, none⟩ = some (.slice ma mn mc) ∧ u.cell? ⟨w.heap.size, 1, none⟩ = some (.slice la ln lc)) ∧ u.cell? ⟨g, off + k, none⟩ = some (.string S0)) (by kernel_rfl) K0 (fun hHeld => ?_)
      generalize wr.drew = D at *
      refine wpAnyH_take (i := 0) (v := ?cvv0) rfl (by kernel_rfl) (by kernel_rfl) (by kernel_rfl) (fun _ _ _ h => h) (Or.inl ⟨by rfl, ?chy0⟩) (by assumption) ?crest0
      case chy0 =>
        intro u hSu
        obtain ⟨⟨s0, s1⟩, s2⟩ := hSu
        go_simp
        try with_reducible rfl
      try simp only [Act.put, List.getElem_toArray, List.getElem_cons_succ, List.getElem_cons_zero, List.setIfInBounds_toArray, List.set_cons_zero, List.set_cons_succ]
      refine wpAnyH_take (i := 1) (v := ?cvv1) rfl (by kernel_rfl) (by kernel_rfl) (by kernel_rfl) (fun _ _ _ h => h) (Or.inl ⟨by rfl, ?chy1⟩) (by assumption) ?crest1
      case chy1 =>
        intro u hSu
        obtain ⟨⟨s0, s1⟩, s2⟩ := hSu
        go_simp
        try with_reducible rfl
      try simp only [Act.put, List.getElem_toArray, List.getElem_cons_succ, List.getElem_cons_zero, List.setIfInBounds_toArray, List.set_cons_zero, List.set_cons_succ]
      refine wpAnyH_take (i := 2) (v := ?cvv2) rfl (by kernel_rfl) (by kernel_rfl) (by kernel_rfl) (fun _ _ _ h => h) (Or.inl ⟨by rfl, ?chy2⟩) (by assumption) ?crest2
      case chy2 =>
        intro u hSu
        obtain ⟨⟨s0, s1⟩, s2⟩ := hSu
        go_simp
        try with_reducible rfl
      try simp only [Act.put, List.getElem_toArray, List.getElem_cons_succ, List.getElem_cons_zero, List.setIfInBounds_toArray, List.set_cons_zero, List.set_cons_succ]
      refine wpAnyH_take (i := 3) (v := ?cvv3) rfl (by kernel_rfl) (by kernel_rfl) (by kernel_rfl) (fun _ _ _ h => h) (Or.inl ⟨by rfl, ?chy3⟩) (by assumption) ?crest3
      case chy3 =>
        intro u hSu
        obtain ⟨⟨s0, s1⟩, s2⟩ := hSu
        go_simp
        try with_reducible rfl
      try simp only [Act.put, List.getElem_toArray, List.getElem_cons_succ, List.getElem_cons_zero, List.setIfInBounds_toArray, List.set_cons_zero, List.set_cons_succ]
      refine wpAnyH_take (i := 4) (v := ?cvv4) rfl (by kernel_rfl) (by kernel_rfl) (by kernel_rfl) (fun _ _ _ h => h) (Or.inl ⟨by rfl, ?chy4⟩) (by assumption) ?crest4
      case chy4 =>
        intro u hSu
        obtain ⟨⟨s0, s1⟩, s2⟩ := hSu
        go_simp
        try with_reducible rfl
      try simp only [Act.put, List.getElem_toArray, List.getElem_cons_succ, List.getElem_cons_zero, List.setIfInBounds_toArray, List.set_cons_zero, List.set_cons_succ]
      refine wpAnyH_ready (rs := [5, 9]) (by kernel_rfl) (by simp) ?_
      refine AllReadyH.cons rfl ?_ (AllReadyH.cons rfl ?_ AllReadyH.nil)
      · intro K hK
        go_simp
        go_at_call 41
        with_reducible refine (CFk.out _ HBD.out).mono ?_
        rintro e w10 ⟨rfl, hB⟩
        have K6 := KF.out _ hB
        have b7 := below_new w10 (.cells #[.string ⟨#[]⟩, .string ⟨#[]⟩, .int .i64 0, .int .i64 0, .int .i64 0] 92)
        have K7 := KF.out _ (hB.trans (b7.mono hB.size))
        have RZ7 := Whole.new w10 92 #[.string ⟨#[]⟩, .string ⟨#[]⟩, .int .i64 0, .int .i64 0, .int .i64 0]
        obtain ⟨y0, y1, y2, y3, y4⟩ := five_cells RZ7
        obtain ⟨yf0, yf1, yf2, yf3, yf4⟩ := five_free RZ7
        have yl := RZ7.lt
        have b8 := below_new w10 (.cells #[.string b1, .string b2, .int .i64 eg, .int .i64 ei, .int .i64 er] 92)
        have HB8 := Lib.hid (hB.trans (b8.mono hB.size))
        have K8 := KF.out _ HB8.out
        have RX8 := Whole.new w10 92 #[.string b1, .string b2, .int .i64 eg, .int .i64 ei, .int .i64 er]
        clear hB b7 b8 RZ7
        refine hK.out _ _ K6 (fun hHeld => ?_)
        clear hK K
        try simp only [Act.put, List.getElem_toArray, List.getElem_cons_succ, List.getElem_cons_zero, List.setIfInBounds_toArray, List.set_cons_zero, List.set_cons_succ]
        refine wpAnyH_take (i := 6) (v := ?dvv6) rfl (by kernel_rfl) (by kernel_rfl) (by kernel_rfl) (fun _ _ _ h => h) (Or.inl ⟨by rfl, ?dhy6⟩) (by assumption) ?drest6
        case dhy6 =>
          intro u hSu
          obtain ⟨⟨s0, s1⟩, s2⟩ := hSu
          go_simp
          try with_reducible rfl
        try simp only [Act.put, List.getElem_toArray, List.getElem_cons_succ, List.getElem_cons_zero, List.setIfInBounds_toArray, List.set_cons_zero, List.set_cons_succ]
        refine wpAnyH_take (i := 7) (v := ?dvv7) rfl (by kernel_rfl) (by kernel_rfl) (by kernel_rfl) (fun _ _ _ h => h) (Or.inl ⟨by rfl, ?dhy7⟩) (by assumption) ?drest7
        case dhy7 =>
          intro u hSu
          obtain ⟨⟨s0, s1⟩, s2⟩ := hSu
          go_simp
          try with_reducible rfl
        try simp only [Act.put, List.getElem_toArray, List.getElem_cons_succ, List.getElem_cons_zero, List.setIfInBounds_toArray, List.set_cons_zero, List.set_cons_succ]
        refine wpAnyH_take (i := 8) (v := ?dvv8) rfl (by kernel_rfl) (by kernel_rfl) (by kernel_rfl) (fun _ _ _ h => h) (Or.inl ⟨by rfl, ?dhy8⟩) (by assumption) ?drest8
        case dhy8 =>
          intro u hSu
          obtain ⟨⟨s0, s1⟩, s2⟩ := hSu
          go_simp
          try with_reducible rfl
        try simp only [Act.put, List.getElem_toArray, List.getElem_cons_succ, List.getElem_cons_zero, List.setIfInBounds_toArray, List.set_cons_zero, List.set_cons_succ]
        refine wpAnyH_ready (rs := [9]) (by kernel_rfl) (by simp) ?_
        refine AllReadyH.cons rfl (fun K hK => ?_) AllReadyH.nil
        go_simp
        refine hK.out _ _ ?dhS9 (fun hHeld => ?drest9)
        case dhS9 => first | exact K8 | exact K7 | exact K6
        clear hK K
        try simp only [Act.put, List.getElem_toArray, List.getElem_cons_succ, List.getElem_cons_zero, List.setIfInBounds_toArray, List.set_cons_zero, List.set_cons_succ]
        refine wpAnyH_ready (rs := [10]) (by kernel_rfl) (by simp) ?_
        refine AllReadyH.cons rfl (fun K hK => ?_) AllReadyH.nil
        go_simp
        refine hK.out _ _ ?dhS10 (fun hHeld => ?drest10)
        case dhS10 => first | exact K8 | exact K7 | exact K6
        clear hK K
        try simp only [Act.put, List.getElem_toArray, List.getElem_cons_succ, List.getElem_cons_zero, List.setIfInBounds_toArray, List.set_cons_zero, List.set_cons_succ]
        refine wpAnyH_take (i := 11) (v := ?dvv11) rfl (by kernel_rfl) (by kernel_rfl) (by kernel_rfl) (fun _ _ _ h => h) (Or.inl ⟨by rfl, ?dhy11⟩) (by assumption) ?drest11
        case dhy11 =>
          intro u hSu
          obtain ⟨⟨s0, s1⟩, s2⟩ := hSu
          go_simp
          try with_reducible rfl
        try simp only [Act.put, List.getElem_toArray, List.getElem_cons_succ, List.getElem_cons_zero, List.setIfInBounds_toArray, List.set_cons_zero, List.set_cons_succ]
        refine wpAnyH_done (by kernel_rfl) ?_ _
        clear y0 y1 y2 y3 y4 yf0 yf1 yf2 yf3 yf4 yl K0 K6 K7 K8
        generalize w10.alloc (.cells #[.string b1, .string b2, .int .i64 eg, .int .i64 ei, .int .i64 er] 92) = w11 at *
        obtain ⟨y0, y1, y2, y3, y4⟩ := five_cells RX8
        have yl := RX8.lt
        have hown := own_kept HO.out HB8.out
        by_cases hf : fE = 0
        · obtain ⟨hb1, hb2, hb3⟩ := HF0.out hf
          have CS := Lib.hid (refSlot_any b1 b2 eg ei er hb1 hb2)
          have hp2 := Lib.hid (HP2.out hf)
          have hnb : (k + 1) * 4 ≤ 140737488355328 := by omega
          have hnm : k + 1 ≤ maxLen := by unfold maxLen; omega
          subst hf
          go_wp2_with (first | (go_at_call 42; (with_reducible refine (CS.out _).mono ?_); rintro e w12 ⟨rfl, hb12⟩; have hown := owns_below hown hb12; have HB12 := Lib.hid (HB8.out.trans (hb12.mono HB8.out.size)); clear hb12) | (at_builtin; refine wpList_append_own _ rfl _ _ 36 rfl W.heap.size 46 i0 (.int .u32 0) 1 4 Try.underlying36 hi hz0 hz1 hz2 rfl (by decide) _ _ _ rfl (hown.alloc _) ⟨w12.heap.size, 0, none⟩ 1 1 [.int .u32 (8 * eg + ei)] rfl rfl ?c1 ?c2 hnm hnb ?c5 ?_))
          case c1 => exact oneC _ _ _
          case c2 => intro u hu; simp at hu; subst hu; rfl
          case c5 => have := HB12.out.size; have := HBW.out.size; simp; omega
          intro v' w4 hown4 hgrow _
          have hbw := HBW.out.trans (HB12.out.mono HBW.out.size)
          have hB4 := (hbw.alloc hbw.size (.cells #[.int .u32 (8 * eg + ei)] 46)).grown hgrow (Nat.le_trans hbw.size (by simp)) (fun g hg => (hown.lt g hg).1)
          try rw [hb3] at hown4
          go_wp2_with fail
          go_roundw
          case rel => exact ⟨k + 1, _, by omega, by go_num, rfl, hown4, hp2, hB4⟩
          case measure => simp [intOf]; omega
        · have hr := HFE.out hf
          have hf' : (fE != 0) = true := by simpa using hf
          have hI := Lib.hid (fun u => (⟨fun e => absurd e (by have := HRE.out; omega), fun _ => rfl⟩ : IsRs w.heap.size u (.slice none 0 0) t.L ns))
          go_wp2_with fail
          exact bodyPost_ret (v := .tuple #[.slice none 0 0, .int .i64 23]) (by simp [results, Try.results14, go_sem, *]) rfl ⟨_, by rw [hr], hI.out _, HBD.out.trans (HB8.out.mono HBD.out.size)⟩
      · intro K hK
        have b7 : Below D.heap.size D (D.alloc (.cells #[.string ⟨#[]⟩, .string ⟨#[]⟩, .int .i64 0, .int .i64 0, .int .i64 0] 92)) := below_new D _
        have K6 := KF.out _ b7
        have RZ6 := Whole.new D 92 #[.string ⟨#[]⟩, .string ⟨#[]⟩, .int .i64 0, .int .i64 0, .int .i64 0]
        have HB7 := Lib.hid (HBD.out.trans (b7.mono HBD.out.size))
        go_simp
        refine hK.out _ _ K6 (fun hHeld => ?_)
        clear hK K
        try simp only [Act.put, List.getElem_toArray, List.getElem_cons_succ, List.getElem_cons_zero, List.setIfInBounds_toArray, List.set_cons_zero, List.set_cons_succ]
        refine wpAnyH_ready (rs := [5]) (by kernel_rfl) (by simp) ?_
        refine AllReadyH.cons rfl (fun K hK => ?_) AllReadyH.nil
        go_simp
        go_at_call 41
        with_reducible refine (CFk.out _ HB7.out).mono ?_
        rintro e w10 ⟨rfl, hB⟩
        have hBB := b7.trans (hB.mono b7.size)
        have K7 := KF.out _ hBB
        have RZ7 := RZ6.belowS hB
        obtain ⟨y0, y1, y2, y3, y4⟩ := five_cells RZ7
        obtain ⟨yf0, yf1, yf2, yf3, yf4⟩ := five_free RZ7
        have yl := RZ7.lt
        have RX8 := ((((RZ7.set_ 0 (.string b1)).set_ 1 (.string b2)).set_ 2 (.int .i64 eg)).set_ 3 (.int .i64 ei)).set_ 4 (.int .i64 er)
        have HB8 := Lib.hid (((((hBB.setCell (p := ⟨D.heap.size, 0, none⟩) (Nat.le_refl _) (.string b1)).setCell (p := ⟨D.heap.size, 1, none⟩) (Nat.le_refl _) (.string b2)).setCell (p := ⟨D.heap.size, 2, none⟩) (Nat.le_refl _) (.int .i64 eg)).setCell (p := ⟨D.heap.size, 3, none⟩) (Nat.le_refl _) (.int .i64 ei)).setCell (p := ⟨D.heap.size, 4, none⟩) (Nat.le_refl _) (.int .i64 er))
        have K8 := KF.out _ HB8.out
        clear hB RZ7 hBB
        refine hK.out _ _ K7 (fun hHeld => ?_)
        clear hK K
        try simp only [Act.put, List.getElem_toArray, List.getElem_cons_succ, List.getElem_cons_zero, List.setIfInBounds_toArray, List.set_cons_zero, List.set_cons_succ]
        refine wpAnyH_take (i := 6) (v := ?evv6) rfl (by kernel_rfl) (by kernel_rfl) (by kernel_rfl) (fun _ _ _ h => h) (Or.inl ⟨by rfl, ?ehy6⟩) (by assumption) ?erest6
        case ehy6 =>
          intro u hSu
          obtain ⟨⟨s0, s1⟩, s2⟩ := hSu
          go_simp
          try with_reducible rfl
        try simp only [Act.put, List.getElem_toArray, List.getElem_cons_succ, List.getElem_cons_zero, List.setIfInBounds_toArray, List.set_cons_zero, List.set_cons_succ]
        refine wpAnyH_take (i := 7) (v := ?evv7) rfl (by kernel_rfl) (by kernel_rfl) (by kernel_rfl) (fun _ _ _ h => h) (Or.inl ⟨by rfl, ?ehy7⟩) (by assumption) ?erest7
        case ehy7 =>
          intro u hSu
          obtain ⟨⟨s0, s1⟩, s2⟩ := hSu
          go_simp
          try with_reducible rfl
        try simp only [Act.put, List.getElem_toArray, List.getElem_cons_succ, List.getElem_cons_zero, List.setIfInBounds_toArray, List.set_cons_zero, List.set_cons_succ]
        refine wpAnyH_take (i := 8) (v := ?evv8) rfl (by kernel_rfl) (by kernel_rfl) (by kernel_rfl) (fun _ _ _ h => h) (Or.inl ⟨by rfl, ?ehy8⟩) (by assumption) ?erest8
        case ehy8 =>
          intro u hSu
          obtain ⟨⟨s0, s1⟩, s2⟩ := hSu
          go_simp
          try with_reducible rfl
        try simp only [Act.put, List.getElem_toArray, List.getElem_cons_succ, List.getElem_cons_zero, List.setIfInBounds_toArray, List.set_cons_zero, List.set_cons_succ]
        refine wpAnyH_ready (rs := [10]) (by kernel_rfl) (by simp) ?_
        refine AllReadyH.cons rfl (fun K hK => ?_) AllReadyH.nil
        go_simp
        refine hK.out _ _ ?ehS10 (fun hHeld => ?erest10)
        case ehS10 => first | exact K8 | exact K7
        clear hK K
        try simp only [Act.put, List.getElem_toArray, List.getElem_cons_succ, List.getElem_cons_zero, List.setIfInBounds_toArray, List.set_cons_zero, List.set_cons_succ]
        refine wpAnyH_take (i := 11) (v := ?evv11) rfl (by kernel_rfl) (by kernel_rfl) (by kernel_rfl) (fun _ _ _ h => h) (Or.inl ⟨by rfl, ?ehy11⟩) (by assumption) ?erest11
        case ehy11 =>
          intro u hSu
          obtain ⟨⟨s0, s1⟩, s2⟩ := hSu
          go_simp
          try with_reducible rfl
        try simp only [Act.put, List.getElem_toArray, List.getElem_cons_succ, List.getElem_cons_zero, List.setIfInBounds_toArray, List.set_cons_zero, List.set_cons_succ]
        refine wpAnyH_done (by kernel_rfl) ?_ _
        clear y0 y1 y2 y3 y4 yf0 yf1 yf2 yf3 yf4 yl K0 K6 K7 K8 RZ6 b7
        generalize ((((w10.setCell ⟨D.heap.size, 0, none⟩ (.string b1)).setCell ⟨D.heap.size, 1, none⟩ (.string b2)).setCell ⟨D.heap.size, 2, none⟩ (.int .i64 eg)).setCell ⟨D.heap.size, 3, none⟩ (.int .i64 ei)).setCell ⟨D.heap.size, 4, none⟩ (.int .i64 er) = w11 at *
        obtain ⟨y0, y1, y2, y3, y4⟩ := five_cells RX8
        have yl := RX8.lt
        have hown := own_kept HO.out HB8.out
        by_cases hf : fE = 0
        · obtain ⟨hb1, hb2, hb3⟩ := HF0.out hf
          have CS := Lib.hid (refSlot_any b1 b2 eg ei er hb1 hb2)
          have hp2 := Lib.hid (HP2.out hf)
          have hnb : (k + 1) * 4 ≤ 140737488355328 := by omega
          have hnm : k + 1 ≤ maxLen := by unfold maxLen; omega
          subst hf
          go_wp2_with (first | (go_at_call 42; (with_reducible refine (CS.out _).mono ?_); rintro e w12 ⟨rfl, hb12⟩; have hown := owns_below hown hb12; have HB12 := Lib.hid (HB8.out.trans (hb12.mono HB8.out.size)); clear hb12) | (at_builtin; refine wpList_append_own _ rfl _ _ 36 rfl W.heap.size 46 i0 (.int .u32 0) 1 4 Try.underlying36 hi hz0 hz1 hz2 rfl (by decide) _ _ _ rfl (hown.alloc _) ⟨w12.heap.size, 0, none⟩ 1 1 [.int .u32 (8 * eg + ei)] rfl rfl ?c1 ?c2 hnm hnb ?c5 ?_))
          case c1 => exact oneC _ _ _
          case c2 => intro u hu; simp at hu; subst hu; rfl
          case c5 => have := HB12.out.size; have := HBW.out.size; simp; omega
          intro v' w4 hown4 hgrow _
          have hbw := HBW.out.trans (HB12.out.mono HBW.out.size)
          have hB4 := (hbw.alloc hbw.size (.cells #[.int .u32 (8 * eg + ei)] 46)).grown hgrow (Nat.le_trans hbw.size (by simp)) (fun g hg => (hown.lt g hg).1)
          try rw [hb3] at hown4
          go_wp2_with fail
          go_roundw
          case rel => exact ⟨k + 1, _, by omega, by go_num, rfl, hown4, hp2, hB4⟩
          case measure => simp [intOf]; omega
        · have hr := HFE.out hf
          have hf' : (fE != 0) = true := by simpa using hf
          have hI := Lib.hid (fun u => (⟨fun e => absurd e (by have := HRE.out; omega), fun _ => rfl⟩ : IsRs w.heap.size u (.slice none 0 0) t.L ns))
          go_wp2_with fail
          exact bodyPost_ret (v := .tuple #[.slice none 0 0, .int .i64 23]) (by simp [results, Try.results14, go_sem, *]) rfl ⟨_, by rw [hr], hI.out _, HBD.out.trans (HB8.out.mono HBD.out.size)⟩
    · obtain rfl : nn = k := by omega
      have hlt' : ¬ (nn : Int) < nn := by omega
      have hE := rsE_all (L := t.L) (ns := ns) (fun j hj => hp.out j (by rw [HLN.out] at hj; exact hj))
      have hr0 : RE = 0 := by rw [← HRE.out]; exact hE
      subst hr0
      rw [List.take_of_length_le (by rw [HLN.out]; exact Nat.le_refl _)] at hown
      have HO := owns_base hown (B' := w.heap.size) HB.out.size
      have hI : IsRs w.heap.size wr u6 t.L ns := ⟨fun _ => by rw [HLN.out]; exact HO, fun hn => absurd hE hn⟩
      have HI := Lib.hid hI
      have HBB := Lib.hid hBw
      clear hown HO hI hX hBw hbl
      go_wp2_with fail
      exact bodyPost_ret (v := .tuple #[u6, .int .i64 0]) (by simp [results, Try.results14, go_sem, *]) rfl ⟨_, rfl, HI.out, HBB.out⟩
end
end Go.Proofs.Ytajidaicojekdaa.KF
