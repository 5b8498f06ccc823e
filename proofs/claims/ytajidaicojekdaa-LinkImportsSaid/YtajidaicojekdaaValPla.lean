/-
  A relocation whose word is not there, or is named already. Nothing here is a statement of the seed.
-/
import Derived.Test.YtajidaicojekdaaValLoo
set_option linter.unusedSimpArgs false
set_option linter.unusedVariables false
namespace Go.Proofs.Ytajidaicojekdaa.VR
open Go.RowKit WM NR OM OR VM
set_option maxHeartbeats 4000000
set_option maxRecDepth 10000
theorem place_nf {m : Md} (hc : chkM m = 0) {k : Nat} (hk : k < m.rels.length) : placeB m k = (decide ((if inC (rl m k).kind then m.code.length else m.data.length) ≤ (rl m k).at_) || decide ((nfF m.rels m.rels.length (ofD ((rl m k).kind : Int)) ((rl m k).at_ : Int)).getD 0 < (k : Int))) := by
  unfold placeB
  congr 1
  have hs : spB m.rels (ofD ((rl m k).kind : Int)) ((rl m k).at_ : Int) k = true := decide_eq_true ⟨rfl, rfl⟩
  have he : ∀ j, j < k → spB m.rels (ofD ((rl m k).kind : Int)) ((rl m k).at_ : Int) j = (decide ((rl m j).at_ = (rl m k).at_) && (inC (rl m j).kind == inC (rl m k).kind)) := fun j hj => by
    have e1 := ofD_inC (kinds_7 hc hk)
    have e2 := ofD_inC (kinds_7 hc (show j < m.rels.length by omega))
    show decide (((rl m j).at_ : Int) = ((rl m k).at_ : Int) ∧ ofD ((rl m j).kind : Int) = ofD ((rl m k).kind : Int)) = _
    rw [e1, e2]
    have e3 : decide (((rl m j).at_ : Int) = ((rl m k).at_ : Int)) = decide ((rl m j).at_ = (rl m k).at_) := decide_eq_decide.2 (by omega)
    rw [← e3]
    cases inC (rl m j).kind <;> cases inC (rl m k).kind <;> simp
  unfold nfF
  rcases ff_range (spB m.rels (ofD ((rl m k).kind : Int)) ((rl m k).at_ : Int)) m.rels.length with h | ⟨i, hi, h, hp, hb⟩
  · have := ff_neg.1 (show ¬ 0 ≤ ff (spB m.rels (ofD ((rl m k).kind : Int)) ((rl m k).at_ : Int)) m.rels.length by omega) k hk
    rw [hs] at this
    simp at this
  · rw [h, if_pos (by omega), Option.getD_some, Bool.eq_iff_iff, List.any_eq_true, decide_eq_true_eq]
    constructor
    · rintro ⟨j, hj, hh⟩
      rw [List.mem_range] at hj
      rw [← he j hj] at hh
      by_cases hji : j < i
      · rw [hb j hji] at hh
        simp at hh
      · omega
    · intro hik
      have hik : i < k := by omega
      exact ⟨i, by simpa using hik, by rw [← he i hik]; exact hp⟩
/-- a module's box, a relocation's, and what a map tells -/
abbrev TBM (P p b : Nat) (x : ByteArray) (ea : Option Addr) (en ec : Nat) (ia : Option Addr) (im ic : Nat) (ca : Option Addr) (cn cc : Nat) (da : Option Addr) (dn dc : Nat) (ra : Option Addr) (rn rc : Nat) (k a z : Int) (d : Bool) (v : Int) (u : World) : Prop :=
  MC P x ea en ec ia im ic ca cn cc da dn dc ra rn rc u ∧ u.cell? ⟨p, 0, none⟩ = some (.int .u8 k) ∧ u.cell? ⟨p, 1, none⟩ = some (.int .u16 a) ∧ u.cell? ⟨p, 2, none⟩ = some (.int .u16 z) ∧ (Instr.lookup 184 (.map (some b)) (.agg #[.bool d, .int .u16 a]) false).run Try.prog u = .ok (.int .i64 v) u
section
variable {w : World} {ea : Option Addr} {en ec : Nat} {ia : Option Addr} {im ic : Nat} {ca : Option Addr} {cn cc : Nat} {da : Option Addr} {dn dc : Nat} {ra : Option Addr} {rn rc : Nat} {m : Md}
theorem wrongPlace_any (h : RdM (· < w.heap.size) w ea en ec ia im ic ca cn cc da dn dc ra rn rc m) (hc : chkM m = 0) (hf : FineM m) :
    Calls Try.prog 111 #[mV (bs m.name) ea en ec ia im ic ca cn cc da dn dc ra rn rc] w fun e w' => e = .returned (.int .i64 (ff (placeB m) rn)) ∧ Below w.heap.size w w' := by
  obtain ⟨l1, l2, l3, l4, l5⟩ := h.lens
  obtain ⟨⟨_, _, _, _, hrn0⟩, _, _, _, _⟩ := chk_ok hc
  have b0 := below_new w (.cells (mCs (bs m.name) ea en ec ia im ic ca cn cc da dn dc ra rn rc) 45)
  have HB := Lib.hid b0
  have HX := Lib.hid (Whole.new w 45 (mCs (bs m.name) ea en ec ia im ic ca cn cc da dn dc ra rn rc))
  have HF := Lib.hid (fun (k : Nat) (hk : k < rn) => hf.rels _ (mem_getD (l := m.rels) (d := ⟨0, 0, 0⟩) (i := k) (by omega)))
  have CN := Lib.hid (namedFirst_any (h.go b0 b0.size).rl (fun k hk => by have := (HF.out k hk).2.1; omega))
  have HR := Lib.hid h.rl
  have HL := Lib.hid l5
  have hrn : (rn : Int) ≤ 256 := by omega
  obtain ⟨_, m1, m2⟩ := h.rl.len
  have hrc : (rn : Int) ≤ rc := by omega
  obtain ⟨fN, hfN⟩ : ∃ g, g = nfF m.rels rn := ⟨_, rfl⟩
  have HP := Lib.hid (fun (k : Nat) (hk : k < rn) => show placeB m k = (decide ((if inC (rl m k).kind then cn else dn) ≤ (rl m k).at_) || decide ((fN (ofD ((rl m k).kind : Int)) ((rl m k).at_ : Int)).getD 0 < (k : Int))) by rw [hfN, ← l5, ← l3, ← l4]; exact place_nf hc (by omega))
  have H7 := Lib.hid (fun (k : Nat) (hk : k < rn) => kinds_7 hc (show k < m.rels.length by omega))
  have CS := Lib.hid (fun (k : Int) (u : World) => section_any (w := u) (x := bs m.name) (ea := ea) (en := en) (ec := ec) (ia := ia) (im := im) (ic := ic) (ca := ca) (cn := cn) (cc := cc) (da := da) (dn := dn) (dc := dc) (ra := ra) (rn := rn) (rc := rc) k)
  rw [← hfN] at CN
  obtain ⟨E, hE⟩ : ∃ E, E = ff (placeB m) rn := ⟨_, rfl⟩
  rw [← hE]
  have HE := Lib.hid hE
  have hBm := Lib.hid (And.intro (reads_len h.cd) (reads_len h.dt))
  clear hE hfN h hc hf l1 l2 l3 l4 l5 hrn0 b0 m1 m2
  generalize bs m.name = x at *
  go_enter Try.func111, Try.ntmps111
  obtain ⟨c0, c1, c2, c3, c4, c5⟩ := mod_cells HX.out
  go_wp2_with (go_at_call 138; (with_reducible refine CN.out.mono ?_); rintro e w1 ⟨b, rfl, hbm, hm1, hb1⟩; have HM := Lib.hid hm1; have HB1 := Lib.hid (HB.out.trans (hb1.mono HB.out.size)); have HX1 := Lib.hid (HX.out.belowS hb1); obtain ⟨d0, d1, d2, d3, d4, d5⟩ := mod_cells (HX.out.belowS hb1); clear c0 c1 c2 c3 c4 c5 hb1 hm1)
  clear d0 d1 d2 d3 d4 d5 CN
  go_loopw [12] (fun i wr => ∃ k : Nat, k ≤ rn ∧ i = .int .i64 (k : Int) ∧ Hid (∀ j, j < k → placeB m j = false) ∧ Below w1.heap.size w1 wr) (fun i _ => rn - (intOf i).toNat)
  case atStart => exact ⟨0, by omega, rfl, Lib.hid (fun j hj => by omega), Below.refl _ _⟩
  case round =>
    obtain ⟨k, hk, rfl, hp, hbl⟩ := hrel
    by_cases hlt : k < rn
    · have hlt' : (k : Int) < rn := by omega
      have hbw := HB1.out.trans (hbl.mono HB1.out.size)
      obtain ⟨g, off, rfl, q1, c0, c1, c2⟩ := HR.out.at hbw hlt
      have hB := HP.out k hlt
      have h7 := H7.out k hlt
      have hF := HF.out k hlt
      have hoD := ofD_inC h7
      change placeB m k = (decide ((if inC (m.rels.getD k ⟨0, 0, 0⟩).kind then cn else dn) ≤ (m.rels.getD k ⟨0, 0, 0⟩).at_) || decide ((fN (ofD ((m.rels.getD k ⟨0, 0, 0⟩).kind : Int)) ((m.rels.getD k ⟨0, 0, 0⟩).at_ : Int)).getD 0 < (k : Int))) at hB
      change ofD ((m.rels.getD k ⟨0, 0, 0⟩).kind : Int) = !inC (m.rels.getD k ⟨0, 0, 0⟩).kind at hoD
      obtain ⟨_, hF1, hF2⟩ := hF
      clear h7
      generalize m.rels.getD k ⟨0, 0, 0⟩ = r at *
      obtain ⟨rk, ra2, rw2⟩ := r
      simp only at c0 c1 c2 hB hoD hF1 hF2
      obtain ⟨sa, sn, sc, CK0, hsn, hsnb⟩ : ∃ (sa : Option Addr) (sn sc : Nat), (∀ u : World, Calls Try.prog 114 #[mV x ea en ec ia im ic ca cn cc da dn dc (some ⟨g, off, none⟩) rn rc, .int .u8 (rk : Int)] u fun e w' => e = .returned (.slice sa sn sc) ∧ Below u.heap.size u w') ∧ (if inC rk then cn else dn) = sn ∧ (sn : Int) ≤ 9223372036854775807 := by
        obtain ⟨⟨_, x1, x2⟩, ⟨_, x3, x4⟩⟩ := hBm.out
        unfold maxLen at x2 x4
        have hs := CS.out (rk : Int)
        rw [hoD] at hs
        cases hi : inC rk
        · rw [hi] at hs
          exact ⟨da, dn, dc, hs, rfl, by omega⟩
        · rw [hi] at hs
          exact ⟨ca, cn, cc, hs, rfl, by omega⟩
      rw [hsn] at hB
      have CK := Lib.hid CK0
      have CP := Lib.hid (fun u => spotOf_any (rk : Int) (ra2 : Int) (rw2 : Int) u)
      clear CK0 hsn hoD
      generalize ofD (rk : Int) = d at *
      have LK := Lib.hid (fun (u : World) (h : Below w1.heap.size w1 u) => (HM.out.belowS h).look d (ra2 : Int) (by omega))
      have hwr : IntKind.i64.wrap (ra2 : Int) = ra2 := by rw [IntKind.wrap_i64]; omega
      have hB2 : placeB m k = (decide ((sn : Int) ≤ (ra2 : Int)) || decide ((fN d (ra2 : Int)).getD 0 < (k : Int))) := by
        rw [hB]
        congr 1
        exact decide_eq_decide.2 (by omega)
      clear hB hF1 hF2
      generalize (fN d (ra2 : Int)).getD 0 = v at *
      generalize (rk : Int) = y0 at *
      generalize (ra2 : Int) = y1 at *
      generalize (rw2 : Int) = y2 at *
      have hb2 := below_new wr (.cells #[.int .u8 y0, .int .u16 y1, .int .u16 y2] 76)
      have HK := Lib.hid (fun (u : World) (h : Below (wr.alloc (.cells #[.int .u8 y0, .int .u16 y1, .int .u16 y2] 76)).heap.size (wr.alloc (.cells #[.int .u8 y0, .int .u16 y1, .int .u16 y2] 76)) u) => And.intro (tb_of ((HX1.out.belowS hbl).alloc (.cells #[.int .u8 y0, .int .u16 y1, .int .u16 y2] 76)) (Whole.new wr 76 #[.int .u8 y0, .int .u16 y1, .int .u16 y2]) h) (LK.out u (hbl.trans ((hb2.trans (h.mono hb2.size)).mono hbl.size))))
      have HB2 := Lib.hid hb2
      have hPl : w.heap.size < wr.heap.size := (HX1.out.belowS hbl).lt
      clear hb2 hbw LK
      go_upto_region 5 with fail
      generalize wr.alloc (.cells #[.int .u8 y0, .int .u16 y1, .int .u16 y2] 76) = W at *
      clear c0 c1 c2
      have hW : Below W.heap.size W W.drew := (Below.refl _ _).drew
      have KF : ∀ u : World, Below W.heap.size W u → TBM w.heap.size wr.heap.size b x ea en ec ia im ic ca cn cc da dn dc (some ⟨g, off, none⟩) rn rc y0 y1 y2 d v u := fun u hu => by
        obtain ⟨⟨h1, h2, h3, h4⟩, h5⟩ := HK.out u hu
        exact ⟨h1, h2, h3, h4, h5⟩
      have KF := Lib.hid KF
      clear HK
      have K0 := KF.out _ hW
      by_cases hsl : (sn : Int) ≤ y1
      · have hh := Lib.hid (HE.out.trans (ff_yes hlt (by rw [hB2, decide_eq_true hsl]; rfl) hp.out))
        have hd : decide ((sn : Int) ≤ y1) = true := decide_eq_true hsl
        clear hB2 hp
        refine wp_region_held_drew (S := fun u => TBM w.heap.size wr.heap.size b x ea en ec ia im ic ca cn cc da dn dc (some ⟨g, off, none⟩) rn rc y0 y1 y2 d v u) (by kernel_rfl) K0 (fun hHeld => ?_)
        refine wpAnyH_take (i := 0) (v := ?avv0) rfl (by kernel_rfl) (by kernel_rfl) (by kernel_rfl) (fun _ _ _ h => h) (Or.inl ⟨by rfl, ?ahy0⟩) (by assumption) ?arest0
        case ahy0 =>
          intro u hSu
          obtain ⟨⟨s0, s1, s2, s3, s4, s5⟩, s6, s7, s8, s9⟩ := hSu
          go_simp
          try with_reducible rfl
        try simp only [Act.put, List.getElem_toArray, List.getElem_cons_succ, List.getElem_cons_zero, List.setIfInBounds_toArray, List.set_cons_zero, List.set_cons_succ]
        refine wpAnyH_take (i := 1) (v := ?avv1) rfl (by kernel_rfl) (by kernel_rfl) (by kernel_rfl) (fun _ _ _ h => h) (Or.inl ⟨by rfl, ?ahy1⟩) (by assumption) ?arest1
        case ahy1 =>
          intro u hSu
          obtain ⟨⟨s0, s1, s2, s3, s4, s5⟩, s6, s7, s8, s9⟩ := hSu
          go_simp
          try with_reducible rfl
        try simp only [Act.put, List.getElem_toArray, List.getElem_cons_succ, List.getElem_cons_zero, List.setIfInBounds_toArray, List.set_cons_zero, List.set_cons_succ]
        refine wpAnyH_take (i := 2) (v := ?avv2) rfl (by kernel_rfl) (by kernel_rfl) (by kernel_rfl) (fun _ _ _ h => h) (Or.inl ⟨by rfl, ?ahy2⟩) (by assumption) ?arest2
        case ahy2 =>
          intro u hSu
          obtain ⟨⟨s0, s1, s2, s3, s4, s5⟩, s6, s7, s8, s9⟩ := hSu
          go_simp
          try with_reducible rfl
        try simp only [Act.put, List.getElem_toArray, List.getElem_cons_succ, List.getElem_cons_zero, List.setIfInBounds_toArray, List.set_cons_zero, List.set_cons_succ]
        refine wpAnyH_take (i := 3) (v := ?avv3) rfl (by kernel_rfl) (by kernel_rfl) (by kernel_rfl) (fun _ _ _ h => h) (Or.inl ⟨by rfl, ?ahy3⟩) (by assumption) ?arest3
        case ahy3 =>
          intro u hSu
          obtain ⟨⟨s0, s1, s2, s3, s4, s5⟩, s6, s7, s8, s9⟩ := hSu
          go_simp
          try with_reducible rfl
        try simp only [Act.put, List.getElem_toArray, List.getElem_cons_succ, List.getElem_cons_zero, List.setIfInBounds_toArray, List.set_cons_zero, List.set_cons_succ]
        refine wpAnyH_take (i := 4) (v := ?avv4) rfl (by kernel_rfl) (by kernel_rfl) (by kernel_rfl) (fun _ _ _ h => h) (Or.inl ⟨by rfl, ?ahy4⟩) (by assumption) ?arest4
        case ahy4 =>
          intro u hSu
          obtain ⟨⟨s0, s1, s2, s3, s4, s5⟩, s6, s7, s8, s9⟩ := hSu
          go_simp
          try with_reducible rfl
        try simp only [Act.put, List.getElem_toArray, List.getElem_cons_succ, List.getElem_cons_zero, List.setIfInBounds_toArray, List.set_cons_zero, List.set_cons_succ]
        refine wpAnyH_take (i := 5) (v := ?avv5) rfl (by kernel_rfl) (by kernel_rfl) (by kernel_rfl) (fun _ _ _ h => h) (Or.inl ⟨by rfl, ?ahy5⟩) (by assumption) ?arest5
        case ahy5 =>
          intro u hSu
          obtain ⟨⟨s0, s1, s2, s3, s4, s5⟩, s6, s7, s8, s9⟩ := hSu
          go_simp
          try with_reducible rfl
        try simp only [Act.put, List.getElem_toArray, List.getElem_cons_succ, List.getElem_cons_zero, List.setIfInBounds_toArray, List.set_cons_zero, List.set_cons_succ]
        refine wpAnyH_ready (rs := [6]) (by kernel_rfl) (by simp) ?_
        refine AllReadyH.cons rfl (fun K hK => ?_) AllReadyH.nil
        (go_simp; go_at_call 114; (with_reducible refine (CK.out _).mono ?_); rintro e w6 ⟨rfl, hb6⟩; have hB6 := below_of hW hb6; have K6 := KF.out _ hB6)
        refine hK.out _ _ ?ahS6 (fun hHeld => ?arest6)
        case ahS6 => first | exact K7 | exact K6
        clear hK K
        try simp only [Act.put, List.getElem_toArray, List.getElem_cons_succ, List.getElem_cons_zero, List.setIfInBounds_toArray, List.set_cons_zero, List.set_cons_succ]
        refine wpAnyH_take (i := 7) (v := ?avv7) rfl (by kernel_rfl) (by kernel_rfl) (by kernel_rfl) (fun _ _ _ h => h) (Or.inl ⟨by rfl, ?ahy7⟩) (by assumption) ?arest7
        case ahy7 =>
          intro u hSu
          obtain ⟨⟨s0, s1, s2, s3, s4, s5⟩, s6, s7, s8, s9⟩ := hSu
          go_simp
          try with_reducible rfl
        try simp only [Act.put, List.getElem_toArray, List.getElem_cons_succ, List.getElem_cons_zero, List.setIfInBounds_toArray, List.set_cons_zero, List.set_cons_succ]
        refine wpAnyH_take (i := 8) (v := ?avv8) rfl (by kernel_rfl) (by kernel_rfl) (by kernel_rfl) (fun _ _ _ h => h) (Or.inl ⟨by rfl, ?ahy8⟩) (by assumption) ?arest8
        case ahy8 =>
          intro u hSu
          obtain ⟨⟨s0, s1, s2, s3, s4, s5⟩, s6, s7, s8, s9⟩ := hSu
          go_simp
          try with_reducible rfl
        try simp only [Act.put, List.getElem_toArray, List.getElem_cons_succ, List.getElem_cons_zero, List.setIfInBounds_toArray, List.set_cons_zero, List.set_cons_succ]
        refine wpAnyH_take (i := 9) (v := ?avv9) rfl (by kernel_rfl) (by kernel_rfl) (by kernel_rfl) (fun _ _ _ h => h) (Or.inl ⟨by rfl, ?ahy9⟩) (by assumption) ?arest9
        case ahy9 =>
          intro u hSu
          obtain ⟨⟨s0, s1, s2, s3, s4, s5⟩, s6, s7, s8, s9⟩ := hSu
          go_simp
          try with_reducible rfl
        try simp only [Act.put, List.getElem_toArray, List.getElem_cons_succ, List.getElem_cons_zero, List.setIfInBounds_toArray, List.set_cons_zero, List.set_cons_succ]
        refine wpAnyH_take (i := 10) (v := undef) rfl (by kernel_rfl) (by kernel_rfl) (by kernel_rfl) (fun _ _ _ h => h) (Or.inr ⟨by rfl, rfl⟩) (by assumption) ?arest10
        try simp only [Act.put, List.getElem_toArray, List.getElem_cons_succ, List.getElem_cons_zero, List.setIfInBounds_toArray, List.set_cons_zero, List.set_cons_succ]
        refine wpAnyH_take (i := 11) (v := undef) rfl (by kernel_rfl) (by kernel_rfl) (by kernel_rfl) (fun _ _ _ h => h) (Or.inr ⟨by rfl, rfl⟩) (by assumption) ?arest11
        try simp only [Act.put, List.getElem_toArray, List.getElem_cons_succ, List.getElem_cons_zero, List.setIfInBounds_toArray, List.set_cons_zero, List.set_cons_succ]
        refine wpAnyH_take (i := 12) (v := undef) rfl (by kernel_rfl) (by kernel_rfl) (by kernel_rfl) (fun _ _ _ h => h) (Or.inr ⟨by rfl, rfl⟩) (by assumption) ?arest12
        try simp only [Act.put, List.getElem_toArray, List.getElem_cons_succ, List.getElem_cons_zero, List.setIfInBounds_toArray, List.set_cons_zero, List.set_cons_succ]
        refine wpAnyH_take (i := 13) (v := undef) rfl (by kernel_rfl) (by kernel_rfl) (by kernel_rfl) (fun _ _ _ h => h) (Or.inr ⟨by rfl, rfl⟩) (by assumption) ?arest13
        try simp only [Act.put, List.getElem_toArray, List.getElem_cons_succ, List.getElem_cons_zero, List.setIfInBounds_toArray, List.set_cons_zero, List.set_cons_succ]
        refine wpAnyH_take (i := 14) (v := undef) rfl (by kernel_rfl) (by kernel_rfl) (by kernel_rfl) (fun _ _ _ h => h) (Or.inr ⟨by rfl, rfl⟩) (by assumption) ?arest14
        try simp only [Act.put, List.getElem_toArray, List.getElem_cons_succ, List.getElem_cons_zero, List.setIfInBounds_toArray, List.set_cons_zero, List.set_cons_succ]
        refine wpAnyH_take (i := 15) (v := undef) rfl (by kernel_rfl) (by kernel_rfl) (by kernel_rfl) (fun _ _ _ h => h) (Or.inr ⟨by rfl, rfl⟩) (by assumption) ?arest15
        try simp only [Act.put, List.getElem_toArray, List.getElem_cons_succ, List.getElem_cons_zero, List.setIfInBounds_toArray, List.set_cons_zero, List.set_cons_succ]
        refine wpAnyH_take (i := 16) (v := ?avv16) rfl (by kernel_rfl) (by kernel_rfl) (by kernel_rfl) (fun _ _ _ h => h) (Or.inl ⟨by rfl, ?ahy16⟩) (by assumption) ?arest16
        case ahy16 =>
          intro u hSu
          obtain ⟨⟨s0, s1, s2, s3, s4, s5⟩, s6, s7, s8, s9⟩ := hSu
          go_simp
          try with_reducible rfl
        try simp only [Act.put, List.getElem_toArray, List.getElem_cons_succ, List.getElem_cons_zero, List.setIfInBounds_toArray, List.set_cons_zero, List.set_cons_succ]
        refine wpAnyH_done (by kernel_rfl) ?_ _
        go_wp2_with fail
        go_ret
        exact ⟨ret_int hh.out.symm, HB1.out.trans ((hbl.trans ((HB2.out.trans (hB6.mono HB2.out.size)).mono hbl.size)).mono HB1.out.size)⟩
      · have hd : decide ((sn : Int) ≤ y1) = false := decide_eq_false hsl
        refine wp_region_held_drew (S := fun u => TBM w.heap.size wr.heap.size b x ea en ec ia im ic ca cn cc da dn dc (some ⟨g, off, none⟩) rn rc y0 y1 y2 d v u) (by kernel_rfl) K0 (fun hHeld => ?_)
        refine wpAnyH_take (i := 0) (v := ?bvv0) rfl (by kernel_rfl) (by kernel_rfl) (by kernel_rfl) (fun _ _ _ h => h) (Or.inl ⟨by rfl, ?bhy0⟩) (by assumption) ?brest0
        case bhy0 =>
          intro u hSu
          obtain ⟨⟨s0, s1, s2, s3, s4, s5⟩, s6, s7, s8, s9⟩ := hSu
          go_simp
          try with_reducible rfl
        try simp only [Act.put, List.getElem_toArray, List.getElem_cons_succ, List.getElem_cons_zero, List.setIfInBounds_toArray, List.set_cons_zero, List.set_cons_succ]
        refine wpAnyH_take (i := 1) (v := ?bvv1) rfl (by kernel_rfl) (by kernel_rfl) (by kernel_rfl) (fun _ _ _ h => h) (Or.inl ⟨by rfl, ?bhy1⟩) (by assumption) ?brest1
        case bhy1 =>
          intro u hSu
          obtain ⟨⟨s0, s1, s2, s3, s4, s5⟩, s6, s7, s8, s9⟩ := hSu
          go_simp
          try with_reducible rfl
        try simp only [Act.put, List.getElem_toArray, List.getElem_cons_succ, List.getElem_cons_zero, List.setIfInBounds_toArray, List.set_cons_zero, List.set_cons_succ]
        refine wpAnyH_take (i := 2) (v := ?bvv2) rfl (by kernel_rfl) (by kernel_rfl) (by kernel_rfl) (fun _ _ _ h => h) (Or.inl ⟨by rfl, ?bhy2⟩) (by assumption) ?brest2
        case bhy2 =>
          intro u hSu
          obtain ⟨⟨s0, s1, s2, s3, s4, s5⟩, s6, s7, s8, s9⟩ := hSu
          go_simp
          try with_reducible rfl
        try simp only [Act.put, List.getElem_toArray, List.getElem_cons_succ, List.getElem_cons_zero, List.setIfInBounds_toArray, List.set_cons_zero, List.set_cons_succ]
        refine wpAnyH_take (i := 3) (v := ?bvv3) rfl (by kernel_rfl) (by kernel_rfl) (by kernel_rfl) (fun _ _ _ h => h) (Or.inl ⟨by rfl, ?bhy3⟩) (by assumption) ?brest3
        case bhy3 =>
          intro u hSu
          obtain ⟨⟨s0, s1, s2, s3, s4, s5⟩, s6, s7, s8, s9⟩ := hSu
          go_simp
          try with_reducible rfl
        try simp only [Act.put, List.getElem_toArray, List.getElem_cons_succ, List.getElem_cons_zero, List.setIfInBounds_toArray, List.set_cons_zero, List.set_cons_succ]
        refine wpAnyH_take (i := 4) (v := ?bvv4) rfl (by kernel_rfl) (by kernel_rfl) (by kernel_rfl) (fun _ _ _ h => h) (Or.inl ⟨by rfl, ?bhy4⟩) (by assumption) ?brest4
        case bhy4 =>
          intro u hSu
          obtain ⟨⟨s0, s1, s2, s3, s4, s5⟩, s6, s7, s8, s9⟩ := hSu
          go_simp
          try with_reducible rfl
        try simp only [Act.put, List.getElem_toArray, List.getElem_cons_succ, List.getElem_cons_zero, List.setIfInBounds_toArray, List.set_cons_zero, List.set_cons_succ]
        refine wpAnyH_take (i := 5) (v := ?bvv5) rfl (by kernel_rfl) (by kernel_rfl) (by kernel_rfl) (fun _ _ _ h => h) (Or.inl ⟨by rfl, ?bhy5⟩) (by assumption) ?brest5
        case bhy5 =>
          intro u hSu
          obtain ⟨⟨s0, s1, s2, s3, s4, s5⟩, s6, s7, s8, s9⟩ := hSu
          go_simp
          try with_reducible rfl
        try simp only [Act.put, List.getElem_toArray, List.getElem_cons_succ, List.getElem_cons_zero, List.setIfInBounds_toArray, List.set_cons_zero, List.set_cons_succ]
        refine wpAnyH_ready (rs := [6]) (by kernel_rfl) (by simp) ?_
        refine AllReadyH.cons rfl (fun K hK => ?_) AllReadyH.nil
        (go_simp; go_at_call 114; (with_reducible refine (CK.out _).mono ?_); rintro e w6 ⟨rfl, hb6⟩; have hB6 := below_of hW hb6; have K6 := KF.out _ hB6)
        refine hK.out _ _ ?bhS6 (fun hHeld => ?brest6)
        case bhS6 => first | exact K7 | exact K6
        clear hK K
        try simp only [Act.put, List.getElem_toArray, List.getElem_cons_succ, List.getElem_cons_zero, List.setIfInBounds_toArray, List.set_cons_zero, List.set_cons_succ]
        refine wpAnyH_take (i := 7) (v := ?bvv7) rfl (by kernel_rfl) (by kernel_rfl) (by kernel_rfl) (fun _ _ _ h => h) (Or.inl ⟨by rfl, ?bhy7⟩) (by assumption) ?brest7
        case bhy7 =>
          intro u hSu
          obtain ⟨⟨s0, s1, s2, s3, s4, s5⟩, s6, s7, s8, s9⟩ := hSu
          go_simp
          try with_reducible rfl
        try simp only [Act.put, List.getElem_toArray, List.getElem_cons_succ, List.getElem_cons_zero, List.setIfInBounds_toArray, List.set_cons_zero, List.set_cons_succ]
        refine wpAnyH_take (i := 8) (v := ?bvv8) rfl (by kernel_rfl) (by kernel_rfl) (by kernel_rfl) (fun _ _ _ h => h) (Or.inl ⟨by rfl, ?bhy8⟩) (by assumption) ?brest8
        case bhy8 =>
          intro u hSu
          obtain ⟨⟨s0, s1, s2, s3, s4, s5⟩, s6, s7, s8, s9⟩ := hSu
          go_simp
          try with_reducible rfl
        try simp only [Act.put, List.getElem_toArray, List.getElem_cons_succ, List.getElem_cons_zero, List.setIfInBounds_toArray, List.set_cons_zero, List.set_cons_succ]
        refine wpAnyH_take (i := 9) (v := ?bvv9) rfl (by kernel_rfl) (by kernel_rfl) (by kernel_rfl) (fun _ _ _ h => h) (Or.inl ⟨by rfl, ?bhy9⟩) (by assumption) ?brest9
        case bhy9 =>
          intro u hSu
          obtain ⟨⟨s0, s1, s2, s3, s4, s5⟩, s6, s7, s8, s9⟩ := hSu
          go_simp
          try with_reducible rfl
        try simp only [Act.put, List.getElem_toArray, List.getElem_cons_succ, List.getElem_cons_zero, List.setIfInBounds_toArray, List.set_cons_zero, List.set_cons_succ]
        refine wpAnyH_take (i := 10) (v := ?bvv10) rfl (by kernel_rfl) (by kernel_rfl) (by kernel_rfl) (fun _ _ _ h => h) (Or.inl ⟨by rfl, ?bhy10⟩) (by assumption) ?brest10
        case bhy10 =>
          intro u hSu
          obtain ⟨⟨s0, s1, s2, s3, s4, s5⟩, s6, s7, s8, s9⟩ := hSu
          go_simp
          try with_reducible rfl
        try simp only [Act.put, List.getElem_toArray, List.getElem_cons_succ, List.getElem_cons_zero, List.setIfInBounds_toArray, List.set_cons_zero, List.set_cons_succ]
        refine wpAnyH_take (i := 11) (v := ?bvv11) rfl (by kernel_rfl) (by kernel_rfl) (by kernel_rfl) (fun _ _ _ h => h) (Or.inl ⟨by rfl, ?bhy11⟩) (by assumption) ?brest11
        case bhy11 =>
          intro u hSu
          obtain ⟨⟨s0, s1, s2, s3, s4, s5⟩, s6, s7, s8, s9⟩ := hSu
          go_simp
          try with_reducible rfl
        try simp only [Act.put, List.getElem_toArray, List.getElem_cons_succ, List.getElem_cons_zero, List.setIfInBounds_toArray, List.set_cons_zero, List.set_cons_succ]
        refine wpAnyH_take (i := 14) (v := ?bvv14) rfl (by kernel_rfl) (by kernel_rfl) (by kernel_rfl) (fun _ _ _ h => h) (Or.inl ⟨by rfl, ?bhy14⟩) (by assumption) ?brest14
        case bhy14 =>
          intro u hSu
          obtain ⟨⟨s0, s1, s2, s3, s4, s5⟩, s6, s7, s8, s9⟩ := hSu
          go_simp
          try with_reducible rfl
        try simp only [Act.put, List.getElem_toArray, List.getElem_cons_succ, List.getElem_cons_zero, List.setIfInBounds_toArray, List.set_cons_zero, List.set_cons_succ]
        refine wpAnyH_ready (rs := [12]) (by kernel_rfl) (by simp) ?_
        refine AllReadyH.cons rfl (fun K hK => ?_) AllReadyH.nil
        (go_simp; go_at_call 139; (with_reducible refine (CP.out _).mono ?_); rintro e w7 ⟨rfl, hb7⟩; have hB7 := below_of hB6 hb7; have K7 := KF.out _ hB7)
        refine hK.out _ _ ?bhS12 (fun hHeld => ?brest12)
        case bhS12 => first | exact K7 | exact K6
        clear hK K
        try simp only [Act.put, List.getElem_toArray, List.getElem_cons_succ, List.getElem_cons_zero, List.setIfInBounds_toArray, List.set_cons_zero, List.set_cons_succ]
        refine wpAnyH_take (i := 13) (v := ?bvv13) rfl (by kernel_rfl) (by kernel_rfl) (by kernel_rfl) (fun _ _ _ h => h) (Or.inl ⟨by rfl, ?bhy13⟩) (by assumption) ?brest13
        case bhy13 =>
          intro u hSu
          obtain ⟨⟨s0, s1, s2, s3, s4, s5⟩, s6, s7, s8, s9⟩ := hSu
          go_simp
          try with_reducible rfl
        try simp only [Act.put, List.getElem_toArray, List.getElem_cons_succ, List.getElem_cons_zero, List.setIfInBounds_toArray, List.set_cons_zero, List.set_cons_succ]
        refine wpAnyH_take (i := 15) (v := ?bvv15) rfl (by kernel_rfl) (by kernel_rfl) (by kernel_rfl) (fun _ _ _ h => h) (Or.inl ⟨by rfl, ?bhy15⟩) (by assumption) ?brest15
        case bhy15 =>
          intro u hSu
          obtain ⟨⟨s0, s1, s2, s3, s4, s5⟩, s6, s7, s8, s9⟩ := hSu
          go_simp
          try with_reducible rfl
        try simp only [Act.put, List.getElem_toArray, List.getElem_cons_succ, List.getElem_cons_zero, List.setIfInBounds_toArray, List.set_cons_zero, List.set_cons_succ]
        refine wpAnyH_take (i := 16) (v := ?bvv16) rfl (by kernel_rfl) (by kernel_rfl) (by kernel_rfl) (fun _ _ _ h => h) (Or.inl ⟨by rfl, ?bhy16⟩) (by assumption) ?brest16
        case bhy16 =>
          intro u hSu
          obtain ⟨⟨s0, s1, s2, s3, s4, s5⟩, s6, s7, s8, s9⟩ := hSu
          go_simp
          try with_reducible rfl
        try simp only [Act.put, List.getElem_toArray, List.getElem_cons_succ, List.getElem_cons_zero, List.setIfInBounds_toArray, List.set_cons_zero, List.set_cons_succ]
        refine wpAnyH_done (by kernel_rfl) ?_ _
        by_cases hv : v < (k : Int)
        · have hh := Lib.hid (HE.out.trans (ff_yes hlt (by rw [hB2, decide_eq_true hv]; simp) hp.out))
          clear hB2 hp
          go_wp2_with fail
          go_ret
          exact ⟨ret_int hh.out.symm, HB1.out.trans ((hbl.trans ((HB2.out.trans (hB7.mono HB2.out.size)).mono hbl.size)).mono HB1.out.size)⟩
        · have hp2 := Lib.hid (fun j (hj : j < k + 1) => if h : j < k then hp.out j h else by rw [show j = k by omega, hB2, decide_eq_false hsl, decide_eq_false hv]; rfl)
          clear hB2 hp
          go_wp2_with fail
          go_roundw
          case rel => exact ⟨k + 1, by omega, by go_num, hp2, hbl.trans ((HB2.out.trans (hB7.mono HB2.out.size)).mono hbl.size)⟩
          case measure => simp [intOf]; omega
    · obtain rfl : k = rn := by omega
      have hh := Lib.hid (HE.out.trans (ff_no hp.out))
      clear hp
      go_wp2_with fail
      go_ret
      exact ⟨ret_int hh.out.symm, HB1.out.trans (hbl.mono HB1.out.size)⟩
end
end Go.Proofs.Ytajidaicojekdaa.VR
