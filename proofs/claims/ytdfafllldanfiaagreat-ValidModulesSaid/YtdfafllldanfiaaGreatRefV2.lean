/-
  What the reference of layer 11 tells: how many things there are, what stands in an address word. Nothing here is a statement of the seed.
-/
import Derived.Test.YtdfafllldanfiaaGreatRefV1
set_option linter.unusedSimpArgs false
set_option linter.unusedVariables false
namespace Go.Proofs.YtdfafllldanfiaaGreat.VR
open Go.RowKit WM NR OM OR VM
set_option maxHeartbeats 4000000
set_option maxRecDepth 10000
section
variable {w : World} {ea : Option Addr} {en ec : Nat} {ia : Option Addr} {im ic : Nat} {ca : Option Addr} {cn cc : Nat} {da : Option Addr} {dn dc : Nat} {ra : Option Addr} {rn rc : Nat} {m : Md}
theorem refWhich_any (h : RdM (· < w.heap.size) w ea en ec ia im ic ca cn cc da dn dc ra rn rc m) (hc : chkM m = 0) (hf : FineM m) :
    Calls Tryz.prog 19 #[mV (bs m.name) ea en ec ia im ic ca cn cc da dn dc ra rn rc] w fun e w' => e = .returned (.int .i64 (ff (whichB m) rn)) ∧ Below w.heap.size w w' := by
  obtain ⟨l1, l2, l3, l4, l5⟩ := h.lens
  have b0 := below_new w (.cells (mCs (bs m.name) ea en ec ia im ic ca cn cc da dn dc ra rn rc) 26)
  have HB := Lib.hid b0
  have HX := Lib.hid (Whole.new w 26 (mCs (bs m.name) ea en ec ia im ic ca cn cc da dn dc ra rn rc))
  obtain ⟨⟨_, k2, k3, k4, k5⟩, _⟩ := chk_ok hc
  have HR := Lib.hid h.rl
  have HL := Lib.hid l5
  have HF := Lib.hid (fun (k : Nat) (hk : k < rn) => hf.rels _ (mem_getD (l := m.rels) (d := ⟨0, 0, 0⟩) (i := k) (by omega)))
  have hrn : (rn : Int) ≤ 256 := by omega
  have hrc : (rn : Int) ≤ rc := by have := h.rl.len.2.1; omega
  have him : (im : Int) ≤ 16 := by omega
  have hcn : (cn : Int) ≤ 512 := by omega
  have hdn : (dn : Int) ≤ 128 := by omega
  have HW := Lib.hid (fun k : Nat => show whichB m k = decide (cho (im : Int) (dn : Int) (cn : Int) ((rl m k).kind : Int) ≤ ((rl m k).wh : Int)) by rw [which_cho, l2, l3, l4])
  obtain ⟨E, hE⟩ : ∃ E, E = ff (whichB m) rn := ⟨_, rfl⟩
  rw [← hE]
  have HE := Lib.hid hE
  clear hE h hc hf l1 l2 l3 l4 l5 k2 k3 k4 k5 b0
  generalize bs m.name = x at *
  go_enter Tryz.func19, Tryz.ntmps19
  go_wp2_with fail
  generalize w.alloc (.cells (mCs x ea en ec ia im ic ca cn cc da dn dc ra rn rc) 26) = W at *
  go_loopw [3] (fun i wr => ∃ k : Nat, k ≤ rn ∧ i = .int .i64 (k : Int) ∧ Hid (∀ j, j < k → whichB m j = false) ∧ Below W.heap.size W wr) (fun i _ => rn - (intOf i).toNat)
  case atStart => exact ⟨0, by omega, rfl, Lib.hid (fun j hj => by omega), Below.refl _ _⟩
  case round =>
    obtain ⟨k, hk, rfl, hp, hbl⟩ := hrel
    obtain ⟨c0, c1, c2, c3, c4, c5⟩ := mod_cells (HX.out.belowS hbl)
    have c6 := (HX.out.belowS hbl).lt
    have hbw := HB.out.trans (hbl.mono HB.out.size)
    by_cases hlt : k < rn
    · have hlt' : (k : Int) < rn := by omega
      have kl : k < m.rels.length := by rw [HL.out]; exact hlt
      obtain ⟨g, off, rfl, q1, e0, e1, e2⟩ := HR.out.at hbw hlt
      have hF := HF.out k hlt
      change _ ∧ (rl m k).at_ < 65536 ∧ (rl m k).wh < 65536 at hF
      change wr.cell? _ = some (.int .u8 ((rl m k).kind : Int)) at e0
      change wr.cell? _ = some (.int .u16 ((rl m k).at_ : Int)) at e1
      change wr.cell? _ = some (.int .u16 ((rl m k).wh : Int)) at e2
      have hB := HW.out k
      have hwr : IntKind.i64.wrap ((rl m k).wh : Int) = ((rl m k).wh : Int) := by rw [IntKind.wrap_i64]; omega
      clear hF kl
      generalize ((rl m k).kind : Int) = y0 at *
      generalize ((rl m k).at_ : Int) = y1 at *
      generalize ((rl m k).wh : Int) = y2 at *
      by_cases hA : y0 = 0 ∨ y0 = 1 ∨ y0 = 4
      · have hq : cho (im : Int) dn cn y0 = im := if_pos hA
        rw [hq] at hB
        clear hq
        by_cases hx : (im : Int) ≤ y2
        · have hh := Lib.hid (HE.out.trans (ff_yes hlt (by rw [hB, decide_eq_true hx]) hp.out))
          clear hB hp
          rcases hA with rfl | rfl | rfl
          all_goals
            go_wp2_with fail
            go_ret
            exact ⟨ret_int hh.out.symm, hbw⟩
        · have hp2 := Lib.hid (fun j (hj : j < k + 1) => if h : j < k then hp.out j h else by rw [show j = k by omega, hB, decide_eq_false hx])
          clear hB hp
          rcases hA with rfl | rfl | rfl
          all_goals
            go_wp2_with fail
            go_roundw
            case rel => exact ⟨k + 1, by omega, by go_num, hp2, hbl⟩
            case measure => simp [intOf]; omega
      have a0 : y0 ≠ 0 := fun e => hA (Or.inl e)
      have a1 : y0 ≠ 1 := fun e => hA (Or.inr (Or.inl e))
      have a4 : y0 ≠ 4 := fun e => hA (Or.inr (Or.inr e))
      by_cases hD : y0 = 2 ∨ y0 = 5
      · have hq : cho (im : Int) dn cn y0 = dn := by unfold cho; rw [if_neg hA, if_pos hD]
        rw [hq] at hB
        clear hq hA a0 a1 a4
        by_cases hx : (dn : Int) ≤ y2
        · have hh := Lib.hid (HE.out.trans (ff_yes hlt (by rw [hB, decide_eq_true hx]) hp.out))
          clear hB hp
          rcases hD with rfl | rfl
          all_goals
            go_wp2_with fail
            go_ret
            exact ⟨ret_int hh.out.symm, hbw⟩
        · have hp2 := Lib.hid (fun j (hj : j < k + 1) => if h : j < k then hp.out j h else by rw [show j = k by omega, hB, decide_eq_false hx])
          clear hB hp
          rcases hD with rfl | rfl
          all_goals
            go_wp2_with fail
            go_roundw
            case rel => exact ⟨k + 1, by omega, by go_num, hp2, hbl⟩
            case measure => simp [intOf]; omega
      have a2 : y0 ≠ 2 := fun e => hD (Or.inl e)
      have a5 : y0 ≠ 5 := fun e => hD (Or.inr e)
      have hq : cho (im : Int) dn cn y0 = cn := by unfold cho; rw [if_neg hA, if_neg hD]
      rw [hq] at hB
      clear hq hA hD
      by_cases hx : (cn : Int) ≤ y2
      · have hh := Lib.hid (HE.out.trans (ff_yes hlt (by rw [hB, decide_eq_true hx]) hp.out))
        clear hB hp
        go_wp2_with fail
        go_ret
        exact ⟨ret_int hh.out.symm, hbw⟩
      · have hp2 := Lib.hid (fun j (hj : j < k + 1) => if h : j < k then hp.out j h else by rw [show j = k by omega, hB, decide_eq_false hx])
        clear hB hp
        go_wp2_with fail
        go_roundw
        case rel => exact ⟨k + 1, by omega, by go_num, hp2, hbl⟩
        case measure => simp [intOf]; omega
    · obtain rfl : k = rn := by omega
      have hh := Lib.hid (HE.out.trans (ff_no hp.out))
      clear hp
      go_wp2_with fail
      go_ret
      exact ⟨ret_int hh.out.symm, hbw⟩
theorem refKinds_any (h : RdM (· < w.heap.size) w ea en ec ia im ic ca cn cc da dn dc ra rn rc m) (hc : chkM m = 0) (hf : FineM m) (hpl : ∀ k, k < m.rels.length → placeB m k = false) :
    Calls Tryz.prog 18 #[mV (bs m.name) ea en ec ia im ic ca cn cc da dn dc ra rn rc] w fun e w' => e = .returned (.int .i64 (ff (kindB m) rn)) ∧ Below w.heap.size w w' := by
  obtain ⟨l1, l2, l3, l4, l5⟩ := h.lens
  have b0 := below_new w (.cells (mCs (bs m.name) ea en ec ia im ic ca cn cc da dn dc ra rn rc) 26)
  have HB := Lib.hid b0
  have HX := Lib.hid (Whole.new w 26 (mCs (bs m.name) ea en ec ia im ic ca cn cc da dn dc ra rn rc))
  obtain ⟨⟨_, k2, k3, k4, k5⟩, _⟩ := chk_ok hc
  have HR := Lib.hid h.rl
  have HL := Lib.hid l5
  have HF := Lib.hid (fun (k : Nat) (hk : k < rn) => hf.rels _ (mem_getD (l := m.rels) (d := ⟨0, 0, 0⟩) (i := k) (by omega)))
  have hrn : (rn : Int) ≤ 256 := by omega
  have hrc : (rn : Int) ≤ rc := by have := h.rl.len.2.1; omega
  have HCD := Lib.hid h.cd
  have HDT := Lib.hid h.dt
  have HX2 := Lib.hid (fun (k : Nat) (hk : k < cn) => hf.code _ (mem_getD (l := m.code) (d := 0) (i := k) (by omega)))
  have hcn : (cn : Int) ≤ 512 := by omega
  have hdn : (dn : Int) ≤ 128 := by omega
  have hcc : (cn : Int) ≤ cc := by have := (reads_len h.cd).2.1; omega
  have hdc : (dn : Int) ≤ dc := by have := (reads_len h.dt).2.1; omega
  have HP := Lib.hid (fun (k : Nat) (hk : k < rn) => (placeB_no.1 (hpl k (by omega))).1)
  have H7 := Lib.hid (fun (k : Nat) (hk : k < rn) => kinds_7 hc (show k < m.rels.length by omega))
  have HLs := Lib.hid (And.intro l3 l4)
  obtain ⟨E, hE⟩ : ∃ E, E = ff (kindB m) rn := ⟨_, rfl⟩
  rw [← hE]
  have HE := Lib.hid hE
  clear hE h hc hf hpl l1 l2 l3 l4 l5 k2 k3 k4 k5 b0
  generalize bs m.name = x at *
  go_enter Tryz.func18, Tryz.ntmps18
  go_wp2_with fail
  generalize w.alloc (.cells (mCs x ea en ec ia im ic ca cn cc da dn dc ra rn rc) 26) = W at *
  go_loopw [3] (fun i wr => ∃ k : Nat, k ≤ rn ∧ i = .int .i64 (k : Int) ∧ Hid (∀ j, j < k → kindB m j = false) ∧ Below W.heap.size W wr) (fun i _ => rn - (intOf i).toNat)
  case atStart => exact ⟨0, by omega, rfl, Lib.hid (fun j hj => by omega), Below.refl _ _⟩
  case round =>
    obtain ⟨k, hk, rfl, hp, hbl⟩ := hrel
    obtain ⟨c0, c1, c2, c3, c4, c5⟩ := mod_cells (HX.out.belowS hbl)
    have c6 := (HX.out.belowS hbl).lt
    have hbw := HB.out.trans (hbl.mono HB.out.size)
    by_cases hlt : k < rn
    · have hlt' : (k : Int) < rn := by omega
      have kl : k < m.rels.length := by rw [HL.out]; exact hlt
      obtain ⟨g, off, rfl, q1, e0, e1, e2⟩ := HR.out.at hbw hlt
      have hF := HF.out k hlt
      change _ ∧ (rl m k).at_ < 65536 ∧ (rl m k).wh < 65536 at hF
      change wr.cell? _ = some (.int .u8 ((rl m k).kind : Int)) at e0
      change wr.cell? _ = some (.int .u16 ((rl m k).at_ : Int)) at e1
      change wr.cell? _ = some (.int .u16 ((rl m k).wh : Int)) at e2
      have hB : kindB m k = if inC (rl m k).kind then decide (opW (m.code.getD (rl m k).at_ 0) ≠ wantK (rl m k).kind ∨ immW (m.code.getD (rl m k).at_ 0) ≠ 0) else decide (m.data.getD (rl m k).at_ 0 ≠ 0) := rfl
      have hP := HP.out k hlt
      have h7 := H7.out k hlt
      have CI := Lib.hid (fun u => inCode_any (rl m k).kind u)
      rw [HLs.out.1, HLs.out.2] at hP
      obtain ⟨_, hF1, hF2⟩ := hF
      clear kl
      generalize rl m k = r at *
      obtain ⟨rk, rt, rw2⟩ := r
      simp only at e0 e1 e2 hB hP h7 hF1 hF2 CI
      have hrt0 : (0 : Int) ≤ (rt : Int) := by omega
      cases hi : inC rk
      case false =>
        rw [hi] at hP hB CI
        simp only [Bool.false_eq_true, if_false] at hP hB
        have hP' : (rt : Int) < dn := by omega
        obtain ⟨g2, off2, hga, q2, f1⟩ := reads_at HDT.out hbw hP
        rw [words_at (by rw [HLs.out.2]; exact hP)] at f1
        have hgz : g2 < wr.heap.size := World.block_lt_of_cell? wr _ f1
        have hgz2 : g2 < wr.heap.size + 1 := by omega
        have hgne : g2 ≠ wr.heap.size := by omega
        subst hga
        have hbw0 := hbw
        clear hi h7 hP hF1 hF2
        generalize (rk : Int) = y0 at *
        generalize (rw2 : Int) = y2 at *
        have hblb := hbl.alloc hbl.size (.cells #[.int .u8 y0, .int .u16 (rt : Int), .int .u16 y2] 47)
        have hbwb := hbw.alloc hbw.size (.cells #[.int .u8 y0, .int .u16 (rt : Int), .int .u16 y2] 47)
        by_cases hz : m.data.getD rt 0 = 0
        · have hp2 := Lib.hid (fun j (hj : j < k + 1) => if h : j < k then hp.out j h else by rw [show j = k by omega, hB, hz]; rfl)
          rw [hz] at f1
          clear hB hp hz
          go_wp2_with (go_at_call 41; (with_reducible refine (CI.out _).mono ?_); rintro e w1 ⟨rfl, rfl⟩)
          go_roundw
          case rel => exact ⟨k + 1, by omega, by go_num, hp2, hblb⟩
          case measure => simp [intOf]; omega
        · have hh := Lib.hid (HE.out.trans (ff_yes hlt (by rw [hB]; exact decide_eq_true hz) hp.out))
          have hz2 : ((m.data.getD rt 0 : Nat) : Int) ≠ 0 := by omega
          clear hB hp hz
          generalize ((m.data.getD rt 0 : Nat) : Int) = z at *
          go_wp2_with (go_at_call 41; (with_reducible refine (CI.out _).mono ?_); rintro e w1 ⟨rfl, rfl⟩)
          go_ret
          exact ⟨ret_int hh.out.symm, hbwb⟩
      case true =>
        rw [hi] at hP hB CI
        simp only [if_true] at hP hB
        have hP' : (rt : Int) < cn := by omega
        obtain ⟨g2, off2, hga, q2, f1⟩ := reads_at HCD.out hbw hP
        rw [words_at (by rw [HLs.out.1]; exact hP)] at f1
        have hgz : g2 < wr.heap.size := World.block_lt_of_cell? wr _ f1
        have hgz2 : g2 < wr.heap.size + 1 := by omega
        have hgne : g2 ≠ wr.heap.size := by omega
        subst hga
        obtain ⟨o, xd, xa, xb, xm, xe, C0, ho, hxm, _⟩ := ref_parts ((m.code.getD rt 0 : Nat) : Int) (by have := HX2.out rt hP; omega)
        have CD := Lib.hid C0
        rw [← ho, ← hxm] at hB
        clear C0 ho hxm hP hF1 hF2
        have hw17 : rk = 0 ∨ rk = 7 → wantK rk = 17 := fun h => if_pos h
        have hw2 : ¬ (rk = 0 ∨ rk = 7) → wantK rk = 2 := fun h => if_neg h
        have hcase : (rk = 0 ∨ rk = 7) ∧ ((rk : Int) = 0 ∨ (rk : Int) = 7) ∨ ¬ (rk = 0 ∨ rk = 7) ∧ ((rk : Int) = 1 ∨ (rk : Int) = 2 ∨ (rk : Int) = 3) := by
          unfold inC at hi
          rw [decide_eq_true_eq] at hi
          omega
        clear hi h7
        generalize ((m.code.getD rt 0 : Nat) : Int) = z at *
        rcases hcase with ⟨hw, hy⟩ | ⟨hw, hy⟩
        all_goals
          first | rw [hw17 hw] at hB | rw [hw2 hw] at hB
          clear hw17 hw2 hw
          generalize (rk : Int) = y0 at *
          generalize (rw2 : Int) = y2 at *
          have hblb := hbl.alloc hbl.size (.cells #[.int .u8 y0, .int .u16 (rt : Int), .int .u16 y2] 47)
          have hbwb := hbw.alloc hbw.size (.cells #[.int .u8 y0, .int .u16 (rt : Int), .int .u16 y2] 47)
          have HBX := Lib.hid (Whole.new wr 47 #[.int .u8 y0, .int .u16 (rt : Int), .int .u16 y2])
        · skip
          by_cases ho1 : o = 17
          · subst ho1
            by_cases hm1 : xm = 0
            · have hp2 := Lib.hid (fun j (hj : j < k + 1) => if h : j < k then hp.out j h else by rw [show j = k by omega, hB, hm1]; rfl)
              subst hm1
              clear hB hp
              rcases hy with rfl | rfl
              all_goals
                go_wp2_with (first | (go_at_call 41; (with_reducible refine (CI.out _).mono ?_); rintro e w1 ⟨rfl, rfl⟩) | (go_at_call 40; (with_reducible refine (CD.out.at _).mono ?_); rintro e w2 ⟨rfl, hb2⟩; obtain ⟨n0, n1, n2⟩ := rel_cells (HBX.out.belowS hb2); have n3 := (HBX.out.belowS hb2).lt))
                go_roundw
                case rel => exact ⟨k + 1, by omega, by go_num, hp2, hblb.trans ((hb2.alloc hb2.size _).mono hblb.size)⟩
                case measure => simp [intOf]; omega
            · have hh := Lib.hid (HE.out.trans (ff_yes hlt (by rw [hB]; exact decide_eq_true (Or.inr hm1)) hp.out))
              have hm2 : (xm == 0) = false := by simpa using hm1
              clear hB hp
              rcases hy with rfl | rfl
              all_goals
                go_wp2_with (first | (go_at_call 41; (with_reducible refine (CI.out _).mono ?_); rintro e w1 ⟨rfl, rfl⟩) | (go_at_call 40; (with_reducible refine (CD.out.at _).mono ?_); rintro e w2 ⟨rfl, hb2⟩; obtain ⟨n0, n1, n2⟩ := rel_cells (HBX.out.belowS hb2); have n3 := (HBX.out.belowS hb2).lt))
                go_ret
                exact ⟨ret_int hh.out.symm, below_of0 hbwb (hb2.alloc hb2.size _)⟩
          · have hh := Lib.hid (HE.out.trans (ff_yes hlt (by rw [hB]; exact decide_eq_true (Or.inl ho1)) hp.out))
            have ho2 : (o == 17) = false := by simpa using ho1
            clear hB hp
            rcases hy with rfl | rfl
            all_goals
              go_wp2_with (first | (go_at_call 41; (with_reducible refine (CI.out _).mono ?_); rintro e w1 ⟨rfl, rfl⟩) | (go_at_call 40; (with_reducible refine (CD.out.at _).mono ?_); rintro e w2 ⟨rfl, hb2⟩; obtain ⟨n0, n1, n2⟩ := rel_cells (HBX.out.belowS hb2); have n3 := (HBX.out.belowS hb2).lt))
              go_ret
              exact ⟨ret_int hh.out.symm, below_of0 hbwb (hb2.alloc hb2.size _)⟩
        · skip
          by_cases ho1 : o = 2
          · subst ho1
            by_cases hm1 : xm = 0
            · have hp2 := Lib.hid (fun j (hj : j < k + 1) => if h : j < k then hp.out j h else by rw [show j = k by omega, hB, hm1]; rfl)
              subst hm1
              clear hB hp
              rcases hy with rfl | rfl | rfl
              all_goals
                go_wp2_with (first | (go_at_call 41; (with_reducible refine (CI.out _).mono ?_); rintro e w1 ⟨rfl, rfl⟩) | (go_at_call 40; (with_reducible refine (CD.out.at _).mono ?_); rintro e w2 ⟨rfl, hb2⟩; obtain ⟨n0, n1, n2⟩ := rel_cells (HBX.out.belowS hb2); have n3 := (HBX.out.belowS hb2).lt))
                go_roundw
                case rel => exact ⟨k + 1, by omega, by go_num, hp2, hblb.trans ((hb2.alloc hb2.size _).mono hblb.size)⟩
                case measure => simp [intOf]; omega
            · have hh := Lib.hid (HE.out.trans (ff_yes hlt (by rw [hB]; exact decide_eq_true (Or.inr hm1)) hp.out))
              have hm2 : (xm == 0) = false := by simpa using hm1
              clear hB hp
              rcases hy with rfl | rfl | rfl
              all_goals
                go_wp2_with (first | (go_at_call 41; (with_reducible refine (CI.out _).mono ?_); rintro e w1 ⟨rfl, rfl⟩) | (go_at_call 40; (with_reducible refine (CD.out.at _).mono ?_); rintro e w2 ⟨rfl, hb2⟩; obtain ⟨n0, n1, n2⟩ := rel_cells (HBX.out.belowS hb2); have n3 := (HBX.out.belowS hb2).lt))
                go_ret
                exact ⟨ret_int hh.out.symm, below_of0 hbwb (hb2.alloc hb2.size _)⟩
          · have hh := Lib.hid (HE.out.trans (ff_yes hlt (by rw [hB]; exact decide_eq_true (Or.inl ho1)) hp.out))
            have ho2 : (o == 2) = false := by simpa using ho1
            clear hB hp
            rcases hy with rfl | rfl | rfl
            all_goals
              go_wp2_with (first | (go_at_call 41; (with_reducible refine (CI.out _).mono ?_); rintro e w1 ⟨rfl, rfl⟩) | (go_at_call 40; (with_reducible refine (CD.out.at _).mono ?_); rintro e w2 ⟨rfl, hb2⟩; obtain ⟨n0, n1, n2⟩ := rel_cells (HBX.out.belowS hb2); have n3 := (HBX.out.belowS hb2).lt))
              go_ret
              exact ⟨ret_int hh.out.symm, below_of0 hbwb (hb2.alloc hb2.size _)⟩
    · obtain rfl : k = rn := by omega
      have hh := Lib.hid (HE.out.trans (ff_no hp.out))
      clear hp
      go_wp2_with fail
      go_ret
      exact ⟨ret_int hh.out.symm, hbw⟩
end
end Go.Proofs.YtdfafllldanfiaaGreat.VR
