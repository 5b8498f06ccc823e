/-
  Both clocks held against one another (the law's same). Nothing here is a statement of the seed.
-/
import Derived.Test.YtcpkiepdpmaeoaaEpDo
set_option linter.unusedSimpArgs false
set_option linter.unusedVariables false
namespace Go.Proofs.Ytcpkiepdpmaeoaa.EL
open Go.RowKit WM NR OM OR EM ER EF EP
set_option maxHeartbeats 4000000
set_option maxRecDepth 10000
theorem neq_wt (o e : Int) (w : World) : (binOp .neq 67 (.agg #[.int .u16 o, .int .u64 e]) (.agg #[.int .u16 o, .int .u64 e])).run Try.prog w = .ok (.bool false) w := by
  rw [run_neq_struct, show (10000:Nat) = 9999+1 from rfl, run_equalIn_agg w 9999 _ _ _ (by kernel_rfl) (by kernel_rfl)]
  rw [show (Try.prog.fieldsOf 67) = _ from by unfold Program.fieldsOf; rw [Try.underlying67]]
  simp [Op.eqFields, go_sem, Try.underlying32, Try.underlying26]
/-- a row of which the first k may have turned -/
structure Tur (w : World) (q : Value) (l : List Wt) (k : Nat) (u : World) : Prop where
  row : l = [] ∨ ∃ g cur cap, q = .slice (some ⟨g, 0, none⟩) l.length cap ∧ w.heap.size < g ∧ Whole u g 52 cur ∧ ∀ j, k ≤ j → j < l.length → u.cell? ⟨g, j * 2, none⟩ = some (.int .u16 (l.getD j EM.w0).ow) ∧ u.cell? ⟨g, j * 2 + 1, none⟩ = some (.int .u64 (l.getD j EM.w0).ep)
theorem Tur.start {w u : World} {q : Value} {l : List Wt} {B : Nat} (h : IsWt B u q l) (hB : w.heap.size < B) : Tur w q l 0 u := by
  obtain ⟨a, c, rfl, h1, h2, h3⟩ := h
  rcases h3 with h3 | h3
  · exact ⟨Or.inl h3⟩
  · have h4 := h3
    rcases h3.2 with ⟨e, h0⟩ | ⟨g, cap, cur, e, hb, hh, h5, h6, h7, h8⟩
    · exact ⟨Or.inl (List.length_eq_zero_iff.1 h0)⟩
    · simp only [Value.slice.injEq] at e
      obtain ⟨rfl, _, rfl⟩ := e
      refine ⟨Or.inr ⟨g, cur, c, rfl, by omega, hh, fun j _ hj => ?_⟩⟩
      obtain ⟨y0, y1⟩ := wC_at l j hj
      have hl := wC_len l
      exact ⟨(h4.cellAt (j * 2) (by omega)).trans y0, (h4.cellAt (j * 2 + 1) (by omega)).trans y1⟩
theorem Tur.belowS {w u u' : World} {q : Value} {l : List Wt} {k : Nat} (h : Tur w q l k u) (hb : Below u.heap.size u u') : Tur w q l k u' := by
  rcases h.row with h | ⟨g, cur, cap, e, hg, hw, hc⟩
  · exact ⟨Or.inl h⟩
  · refine ⟨Or.inr ⟨g, cur, cap, e, hg, hw.belowS hb, fun j h1 h2 => ?_⟩⟩
    obtain ⟨c0, c1⟩ := hc j h1 h2
    exact ⟨(hb.cell (p := ⟨g, _, none⟩) hw.lt).trans c0, (hb.cell (p := ⟨g, _, none⟩) hw.lt).trans c1⟩
theorem Tur.at {w u : World} {qa : Option Addr} {qn qc : Nat} {l : List Wt} {k : Nat} (h : Tur w (.slice qa qn qc) l k u) (hk : k < l.length) : ∃ g, qa = some ⟨g, 0, none⟩ ∧ w.heap.size < g ∧ g < u.heap.size ∧ u.cell? ⟨g, k * 2, none⟩ = some (.int .u16 (l.getD k EM.w0).ow) ∧ u.cell? ⟨g, k * 2 + 1, none⟩ = some (.int .u64 (l.getD k EM.w0).ep) ∧ u.frozen? ⟨g, k * 2 + 1, none⟩ = false ∧ ∀ x, Tur w (.slice qa qn qc) l (k + 1) (u.setCell ⟨g, k * 2 + 1, none⟩ x) := by
  rcases h.row with h | ⟨g, cur, cap, e, hg, hw, hc⟩
  · subst h; simp at hk
  · simp only [Value.slice.injEq] at e
    obtain ⟨rfl, rfl, rfl⟩ := e
    obtain ⟨c0, c1⟩ := hc k (Nat.le_refl _) hk
    refine ⟨g, rfl, hg, hw.lt, c0, c1, hw.frozen _, fun x => ⟨Or.inr ⟨g, _, qc, rfl, hg, hw.set_ _ x, fun j h1 h2 => ?_⟩⟩⟩
    obtain ⟨d0, d1⟩ := hc j (by omega) h2
    have e := fun o (ho : o ≠ k * 2 + 1) => World.cell?_setCell_other (w := u) (a := ⟨g, k * 2 + 1, none⟩) (b := ⟨g, o, none⟩) (v := x) (by intro h; simp only [Addr.mk.injEq] at h; exact ho h.2.1.symm)
    exact ⟨(e _ (by omega)).trans d0, (e _ (by omega)).trans d1⟩
section
variable {G S : Nat → Prop} {w : World} {v : Value} {la : Option Addr} {ln lc : Nat} {c : Ck} {n : Nat}
theorem same_any (h : Duo G S w v la ln lc c) (hg : Gd c n) (hn : n ≤ 1000) {a : Option Addr} {hm hc : Nat} {hs : List Hr} (hr : RdH S w a hm hc hs) :
    Calls Try.prog 11 #[v, ckV c.now la ln lc, .slice a hm hc] w fun e u => e = .returned (.bool true) ∧ Below w.heap.size w u := by
  obtain ⟨lm, q2, q3⟩ := h.R.len
  unfold maxLen at q3
  have hl2 := hg.ln
  have hn1 : (ln : Int) ≤ 1000 := by omega
  have q2' : (ln : Int) ≤ lc := by omega
  have b0 := below_new w (.cells (ckC c.now la ln lc) 29)
  have HX := Lib.hid (Whole.new w 29 (ckC c.now la ln lc))
  have HS0 := Lib.hid (show (w.alloc (.cells (ckC c.now la ln lc) 29)).heap.size = w.heap.size + 1 by simp)
  have HB0 := Lib.hid b0
  have HH := Lib.hid h
  have HG := Lib.hid hg
  have HR := Lib.hid hr
  have HLM := Lib.hid lm
  have HS := Lib.hid h.P.lt
  have HGS := Lib.hid h.GS
  have HEP := Lib.hid (fun x hx => (show 0 ≤ (x : Wt).ep ∧ x.ep ≤ 18446744073709551615 by have := hg.bd x hx; have := hg.now; omega))
  have CN := Lib.hid (fun (u : World) (hb : Below w.heap.size w u) => now_any (h.P.keep hb.size fun g hg' => hb.block g (h.P.lt g hg')) hg hn)
  have CW := Lib.hid (fun (u : World) (hb : Below w.heap.size w u) => wait_any (h.P.keep hb.size fun g hg' => hb.block g (h.P.lt g hg')) hg hn)
  have CD := Lib.hid (fun (u : World) (hb : Below w.heap.size w u) => due_any (h.P.keep hb.size fun g hg' => hb.block g (h.P.lt g hg')) hg hn ((hr.keep (w' := u) (fun g hg' hgl => hb.block g hgl) hb.size).mono fun g hg' _ => ⟨hg'.1, Nat.lt_of_lt_of_le hg'.2 hb.size⟩))
  have CT := Lib.hid (fun (u : World) (hb : Below w.heap.size w u) => refTake_any (w := u) (h.R.keep (w' := u) fun g hg' _ => hb.block g (h.GS g hg').2) (fun g hg' => Nat.lt_of_lt_of_le (h.GS g hg').2 hb.size) (by omega) c.now HEP.out ((hr.keep (w' := u) (fun g hg' hgl => hb.block g hgl) hb.size).mono fun g hg' _ => Nat.lt_of_lt_of_le hg'.2 hb.size))
  unfold IsTk at CT
  obtain ⟨NOW, hNOW⟩ : ∃ q, c.now = q := ⟨_, rfl⟩
  rw [hNOW] at HX HS0 HB0 CN CT ⊢
  clear hNOW h hg hr lm b0 q3 hl2
  obtain ⟨va, rfl⟩ := HH.out.P.form
  go_enter Try.func11, Try.ntmps11
  go_upto_region 1 with fail
  generalize w.alloc (.cells (ckC NOW la ln lc) 29) = W at *
  go_upto_region 2 with (go_at_call 21; (with_reducible refine (CW.out _ HB0.out).mono ?_); rintro e w1 ⟨q, rfl, hq, hB⟩; have HX1 := Lib.hid (HX.out.belowS hB); have HB1 := Lib.hid (HB0.out.trans (hB.mono HB0.out.size)); have HQ := Lib.hid hq; clear hq hB)
  obtain ⟨qa, qc, rfl, qle, qlm, _⟩ := HQ.out
  have HT1 := Lib.hid (Tur.start (w := w) HQ.out (by have := HS0.out; omega))
  rw [HLM.out] at qle
  unfold maxLen at qlm
  have qle' : (ln : Int) ≤ qc := by omega
  clear HQ qlm
  rw [HLM.out] at HT1 ⊢
  have hbd0 : Below w1.heap.size w1 w1.drew := (Below.refl _ _).drew
  have HB1d : Below w.heap.size w w1.drew := HB1.out.drew
  have K0 := two_of (HX1.out.belowS hbd0)
  refine wp_region_held_drew (S := fun u => u.cell? ⟨w.heap.size, 0, none⟩ = some (.int .u64 NOW) ∧ u.cell? ⟨w.heap.size, 1, none⟩ = some (.slice la ln lc)) (by kernel_rfl) K0 (fun hHeld => ?_)
  refine wpAnyH_take (i := 0) (v := ?evv0) rfl (by kernel_rfl) (by kernel_rfl) (by kernel_rfl) (fun _ _ _ h => h) (Or.inl ⟨by rfl, ?ehy0⟩) (by assumption) ?erest0
  case ehy0 =>
    intro u hSu
    obtain ⟨s0, s1⟩ := hSu
    go_simp
    try with_reducible rfl
  try simp only [Act.put, List.getElem_toArray, List.getElem_cons_succ, List.getElem_cons_zero, List.setIfInBounds_toArray, List.set_cons_zero, List.set_cons_succ]
  refine wpAnyH_take (i := 2) (v := ?evv2) rfl (by kernel_rfl) (by kernel_rfl) (by kernel_rfl) (fun _ _ _ h => h) (Or.inl ⟨by rfl, ?ehy2⟩) (by assumption) ?erest2
  case ehy2 =>
    intro u hSu
    obtain ⟨s0, s1⟩ := hSu
    go_simp
    try with_reducible rfl
  try simp only [Act.put, List.getElem_toArray, List.getElem_cons_succ, List.getElem_cons_zero, List.setIfInBounds_toArray, List.set_cons_zero, List.set_cons_succ]
  refine wpAnyH_take (i := 3) (v := ?evv3) rfl (by kernel_rfl) (by kernel_rfl) (by kernel_rfl) (fun _ _ _ h => h) (Or.inl ⟨by rfl, ?ehy3⟩) (by assumption) ?erest3
  case ehy3 =>
    intro u hSu
    obtain ⟨s0, s1⟩ := hSu
    go_simp
    try with_reducible rfl
  try simp only [Act.put, List.getElem_toArray, List.getElem_cons_succ, List.getElem_cons_zero, List.setIfInBounds_toArray, List.set_cons_zero, List.set_cons_succ]
  refine wpAnyH_ready (rs := [1]) (by kernel_rfl) (by simp) ?_
  refine AllReadyH.cons rfl (fun K hK => ?_) AllReadyH.nil
  (go_simp; go_at_call 18; (with_reducible refine (CN.out _ HB1d).mono ?_); rintro e w2 ⟨rfl, hB2⟩; have B2 := hbd0.trans (hB2.mono hbd0.size); have HX2 := Lib.hid (HX1.out.belowS B2); have K2 := two_of HX2.out; have HT2 := Lib.hid (HT1.out.belowS B2); have HB2 := Lib.hid (HB1.out.trans (B2.mono HB1.out.size)))
  refine hK.out _ _ ?ehS1 (fun hHeld => ?erest1)
  case ehS1 => exact K2
  clear hK K
  try simp only [Act.put, List.getElem_toArray, List.getElem_cons_succ, List.getElem_cons_zero, List.setIfInBounds_toArray, List.set_cons_zero, List.set_cons_succ]
  refine wpAnyH_take (i := 4) (v := ?evv4) rfl (by kernel_rfl) (by kernel_rfl) (by kernel_rfl) (fun _ _ _ h => h) (Or.inl ⟨by rfl, ?ehy4⟩) (by assumption) ?erest4
  case ehy4 =>
    intro u hSu
    obtain ⟨s0, s1⟩ := hSu
    go_simp
    try with_reducible rfl
  try simp only [Act.put, List.getElem_toArray, List.getElem_cons_succ, List.getElem_cons_zero, List.setIfInBounds_toArray, List.set_cons_zero, List.set_cons_succ]
  refine wpAnyH_take (i := 5) (v := ?evv5) rfl (by kernel_rfl) (by kernel_rfl) (by kernel_rfl) (fun _ _ _ h => h) (Or.inl ⟨by rfl, ?ehy5⟩) (by assumption) ?erest5
  case ehy5 =>
    intro u hSu
    obtain ⟨s0, s1⟩ := hSu
    go_simp
    try with_reducible rfl
  try simp only [Act.put, List.getElem_toArray, List.getElem_cons_succ, List.getElem_cons_zero, List.setIfInBounds_toArray, List.set_cons_zero, List.set_cons_succ]
  refine wpAnyH_take (i := 6) (v := ?evv6) rfl (by kernel_rfl) (by kernel_rfl) (by kernel_rfl) (fun _ _ _ h => h) (Or.inl ⟨by rfl, ?ehy6⟩) (by assumption) ?erest6
  case ehy6 =>
    intro u hSu
    obtain ⟨s0, s1⟩ := hSu
    go_simp
    try with_reducible rfl
  try simp only [Act.put, List.getElem_toArray, List.getElem_cons_succ, List.getElem_cons_zero, List.setIfInBounds_toArray, List.set_cons_zero, List.set_cons_succ]
  refine wpAnyH_take (i := 7) (v := ?evv7) rfl (by kernel_rfl) (by kernel_rfl) (by kernel_rfl) (fun _ _ _ h => h) (Or.inl ⟨by rfl, ?ehy7⟩) (by assumption) ?erest7
  case ehy7 =>
    intro u hSu
    obtain ⟨s0, s1⟩ := hSu
    go_simp
    try with_reducible rfl
  try simp only [Act.put, List.getElem_toArray, List.getElem_cons_succ, List.getElem_cons_zero, List.setIfInBounds_toArray, List.set_cons_zero, List.set_cons_succ]
  refine wpAnyH_take (i := 8) (v := ?evv8) rfl (by kernel_rfl) (by kernel_rfl) (by kernel_rfl) (fun _ _ _ h => h) (Or.inl ⟨by rfl, ?ehy8⟩) (by assumption) ?erest8
  case ehy8 =>
    intro u hSu
    obtain ⟨s0, s1⟩ := hSu
    go_simp
    try with_reducible rfl
  try simp only [Act.put, List.getElem_toArray, List.getElem_cons_succ, List.getElem_cons_zero, List.setIfInBounds_toArray, List.set_cons_zero, List.set_cons_succ]
  refine wpAnyH_take (i := 9) (v := ?evv9) rfl (by kernel_rfl) (by kernel_rfl) (by kernel_rfl) (fun _ _ _ h => h) (Or.inl ⟨by rfl, ?ehy9⟩) (by assumption) ?erest9
  case ehy9 =>
    intro u hSu
    obtain ⟨s0, s1⟩ := hSu
    go_simp
    try with_reducible rfl
  try simp only [Act.put, List.getElem_toArray, List.getElem_cons_succ, List.getElem_cons_zero, List.setIfInBounds_toArray, List.set_cons_zero, List.set_cons_succ]
  refine wpAnyH_take (i := 10) (v := ?evv10) rfl (by kernel_rfl) (by kernel_rfl) (by kernel_rfl) (fun _ _ _ h => h) (Or.inl ⟨by rfl, ?ehy10⟩) (by assumption) ?erest10
  case ehy10 =>
    intro u hSu
    obtain ⟨s0, s1⟩ := hSu
    go_simp
    try with_reducible rfl
  try simp only [Act.put, List.getElem_toArray, List.getElem_cons_succ, List.getElem_cons_zero, List.setIfInBounds_toArray, List.set_cons_zero, List.set_cons_succ]
  refine wpAnyH_take (i := 11) (v := ?evv11) rfl (by kernel_rfl) (by kernel_rfl) (by kernel_rfl) (fun _ _ _ h => h) (Or.inl ⟨by rfl, ?ehy11⟩) (by assumption) ?erest11
  case ehy11 =>
    intro u hSu
    obtain ⟨s0, s1⟩ := hSu
    go_simp
    try with_reducible rfl
  try simp only [Act.put, List.getElem_toArray, List.getElem_cons_succ, List.getElem_cons_zero, List.setIfInBounds_toArray, List.set_cons_zero, List.set_cons_succ]
  refine wpAnyH_take (i := 12) (v := ?evv12) rfl (by kernel_rfl) (by kernel_rfl) (by kernel_rfl) (fun _ _ _ h => h) (Or.inl ⟨by rfl, ?ehy12⟩) (by assumption) ?erest12
  case ehy12 =>
    intro u hSu
    obtain ⟨s0, s1⟩ := hSu
    go_simp
    try with_reducible rfl
  try simp only [Act.put, List.getElem_toArray, List.getElem_cons_succ, List.getElem_cons_zero, List.setIfInBounds_toArray, List.set_cons_zero, List.set_cons_succ]
  refine wpAnyH_done (by kernel_rfl) ?_ _
  clear K0 K2 hHeld hbd0 HB1d HB1 HX1 HT1 hB2 B2 CN CW
  go_wp2_with fail
  go_loopw [8] (fun i wr => ∃ k : Nat, k ≤ ln ∧ i = .int .i64 (k : Int) ∧ Hid (Tur w (.slice qa ln qc) c.l k wr) ∧ Hid (Whole wr w.heap.size 29 (ckC NOW la ln lc)) ∧ Hid (Below w.heap.size w wr)) (fun i _ => ln - (intOf i).toNat)
  case atStart => exact ⟨0, by omega, rfl, HT2, HX2, HB2⟩
  case round =>
    obtain ⟨k, hk, rfl, HT, HX3, HB3⟩ := hrel
    clear HT2 HX2 HB2
    have x6 := HX3.out.lt
    obtain ⟨x0, x1⟩ := two_of HX3.out
    by_cases hlt : k < ln
    · have hlt' : (k : Int) < ln := by omega
      have kl : k < c.l.length := by rw [HLM.out]; exact hlt
      obtain ⟨g, rfl, hg1, hg2, t0, t1, tf, HTN⟩ := HT.out.at kl
      obtain ⟨g2, off2, rfl, hG2, _, y0, y1⟩ := HH.out.R.atG (u := wr) (fun g hg _ => HB3.out.block g (HGS.out g hg).2) hlt
      have hgg : g2 < w.heap.size := (HGS.out g2 hG2).2
      have HTN2 := Lib.hid (fun (nq : Nat) x => show Tur w (.slice (some ⟨g, 0, none⟩) ln qc) c.l (k + 1) ((wr.drewN nq).setCell ⟨g, k * 2 + 1, none⟩ x) ∧ Whole ((wr.drewN nq).setCell ⟨g, k * 2 + 1, none⟩ x) w.heap.size 29 (ckC NOW (some ⟨g2, off2, none⟩) ln lc) ∧ Below w.heap.size w ((wr.drewN nq).setCell ⟨g, k * 2 + 1, none⟩ x) from
        have hd : Below wr.heap.size wr (wr.drewN nq) := ⟨rfl, rfl, rfl, Nat.le_refl _, fun _ _ => rfl⟩
        ⟨by
          obtain ⟨g', e, _, _, _, _, _, hn⟩ := (HT.out.belowS hd).at kl
          simp only [Option.some.injEq, Addr.mk.injEq, and_true] at e
          obtain ⟨rfl, _⟩ := e
          exact hn x, Whole.far (HX3.out.belowS hd) (p := ⟨g, k * 2 + 1, none⟩) (show w.heap.size ≠ g by omega) x, (HB3.out.trans (hd.mono HB3.out.size)).setCell (by show w.heap.size ≤ g; omega) x⟩)
      clear HTN HT HX3 kl
      have eN := neq_wt (c.l.getD k EM.w0).ow (c.l.getD k EM.w0).ep
      generalize (c.l.getD k EM.w0).ow = o at *
      generalize (c.l.getD k EM.w0).ep = p at *
      go_wp2_with fail
      go_quiet (fail)
      go_wp2_with fail
      go_roundw
      case rel => exact ⟨k + 1, by omega, by go_num, Lib.hid (HTN2.out _ _).1, Lib.hid (HTN2.out _ _).2.1, Lib.hid (HTN2.out _ _).2.2⟩
      case measure => simp [intOf]; omega
    · obtain rfl : k = ln := by omega
      clear HT
      go_upto_region 11 with (go_at_call 24; (with_reducible refine (CT.out _ HB3.out).mono ?_); rintro e w4 ⟨la', ln', lc', q2, rfl, hR, hO, hB⟩; have HO := Lib.hid hO; have HB4 := Lib.hid (HB3.out.trans (hB.mono HB3.out.size)); have HSZ := Lib.hid HB3.out.size; clear hR hO hB)
      have b5 := below_new w4 (.cells (ckC NOW la' ln' lc') 29)
      have HB5 := Lib.hid (HB4.out.trans (b5.mono HB4.out.size))
      have HO5 := Lib.hid (HO.out.keep (w' := w4.alloc (.cells (ckC NOW la' ln' lc') 29)) (fun g _ hg => b5.block g hg))
      have HSS := Lib.hid b5.size
      clear b5 HO HB4 x0 x1 x6
      generalize w4.alloc (.cells (ckC NOW la' ln' lc') 29) = W5 at *
      obtain ⟨ra, rn, rc, hrf⟩ := Reads.form HO5.out
      subst hrf
      have CS : Hid (∀ (u : World) (sa : Option Addr) (sn sc : Nat), IsOw W5.heap.size u (.slice sa sn sc) (dueM hs c.l) → Below W5.heap.size W5 u → Calls Try.prog 23 #[.slice sa sn sc, .slice ra rn rc] u fun e u' => e = .returned (.bool true) ∧ Below w.heap.size w u') := Lib.hid (fun u sa sn sc hq hu => by
        have h2 := HO5.out.keep (w' := u) (fun g hg hgl => hu.block g hgl)
        have := sameOwners_any (w := u) (hq.mono fun g hg => hg.2) (h2.mono fun g hg => (show g < u.heap.size by have := HSS.out; have := hu.size; omega))
        rw [decide_eq_true rfl] at this
        exact this.mono fun e u' ⟨h1, h2⟩ => ⟨h1, (HB5.out.trans (hu.mono HB5.out.size)).trans (h2.mono (HB5.out.trans (hu.mono HB5.out.size)).size)⟩)
      go_wp2_with (first
        | (go_at_call 19; (with_reducible refine (CD.out _ HB5.out).mono ?_); rintro e w6 ⟨q6, rfl, hq6, hB6⟩; obtain ⟨sa, sn, sc, hsf⟩ := Reads.form hq6; subst hsf; have CS6 := Lib.hid (CS.out _ _ _ _ hq6 hB6); clear hq6 hB6)
        | (go_at_call 23; (with_reducible refine CS6.out.mono ?_); rintro e w7 ⟨rfl, hb7⟩))
      go_ret
      exact ⟨rfl, hb7⟩
end
end Go.Proofs.Ytcpkiepdpmaeoaa.EL
