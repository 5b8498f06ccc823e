/-
  What the reference of layer 11 tells: places named twice, calls that nothing names. Nothing here is a statement of the seed.
-/
import Derived.Test.YtdfafllldanfiaaGreatRefV1
set_option linter.unusedSimpArgs false
set_option linter.unusedVariables false
namespace Go.Proofs.YtdfafllldanfiaaGreat.VR
open Go.RowKit WM NR OM OR VM
set_option maxHeartbeats 4000000
set_option maxRecDepth 10000
theorem place_yes {m : Md} {k t : Nat} (ht : t < k) (h1 : (rl m t).at_ = (rl m k).at_) (h2 : inC (rl m t).kind = inC (rl m k).kind) : placeB m k = true := by
  unfold placeB
  rw [Bool.or_eq_true, List.any_eq_true]
  exact Or.inr ⟨t, by simpa using ht, by rw [decide_eq_true h1, h2]; simp⟩
theorem inCode_eq (k : Nat) (w : World) : Calls Tryz.prog 41 #[.int .u8 (k : Int)] w fun e w' => e = .returned (.bool (inC k)) ∧ w' = w :=
  (inCode_any k w).mono fun _ _ h => ⟨h.1, h.2.symm⟩
theorem place_far {m : Md} {k : Nat} (h : (if inC (rl m k).kind then m.code.length else m.data.length) ≤ (rl m k).at_) : placeB m k = true := by
  unfold placeB
  rw [decide_eq_true h]
  rfl
section
variable {w : World} {ea : Option Addr} {en ec : Nat} {ia : Option Addr} {im ic : Nat} {ca : Option Addr} {cn cc : Nat} {da : Option Addr} {dn dc : Nat} {ra : Option Addr} {rn rc : Nat} {m : Md}
theorem refPlaces_any (h : RdM (· < w.heap.size) w ea en ec ia im ic ca cn cc da dn dc ra rn rc m) (hc : chkM m = 0) (hf : FineM m) :
    Calls Tryz.prog 17 #[mV (bs m.name) ea en ec ia im ic ca cn cc da dn dc ra rn rc] w fun e w' => e = .returned (.int .i64 (ff (placeB m) rn)) ∧ Below w.heap.size w w' := by
  obtain ⟨l1, l2, l3, l4, l5⟩ := h.lens
  have b0 := below_new w (.cells (mCs (bs m.name) ea en ec ia im ic ca cn cc da dn dc ra rn rc) 26)
  have HB := Lib.hid b0
  have HX := Lib.hid (Whole.new w 26 (mCs (bs m.name) ea en ec ia im ic ca cn cc da dn dc ra rn rc))
  obtain ⟨⟨_, k2, k3, k4, k5⟩, _⟩ := chk_ok hc
  have HR := Lib.hid h.rl
  have HL := Lib.hid l5
  have HF := Lib.hid (fun (k : Nat) (hk : k < rn) => hf.rels _ (mem_getD (l := m.rels) (d := ⟨0, 0, 0⟩) (i := k) (by omega)))
  have hrn : (rn : Int) ≤ 256 := by omega
  have hrc : (rn : Int) ≤ rc := by have := h.rl.len.2.1; omega
  have hcn : (cn : Int) ≤ 512 := by omega
  have hdn : (dn : Int) ≤ 128 := by omega
  have HLs := Lib.hid (And.intro l3 l4)
  obtain ⟨E, hE⟩ : ∃ E, E = ff (placeB m) rn := ⟨_, rfl⟩
  rw [← hE]
  have HE := Lib.hid hE
  clear hE h hc hf l1 l2 l3 l4 l5 k2 k3 k4 k5 b0
  generalize bs m.name = x at *
  go_enter Tryz.func17, Tryz.ntmps17
  go_wp2_with fail
  generalize w.alloc (.cells (mCs x ea en ec ia im ic ca cn cc da dn dc ra rn rc) 26) = W at *
  go_loopw [3] (fun i wr => ∃ k : Nat, k ≤ rn ∧ i = .int .i64 (k : Int) ∧ Hid (∀ j, j < k → placeB m j = false) ∧ Below W.heap.size W wr) (fun i _ => rn - (intOf i).toNat)
  case atStart => exact ⟨0, by omega, rfl, Lib.hid (fun j hj => by omega), Below.refl _ _⟩
  case round =>
    obtain ⟨k, hk, rfl, hp, hbl⟩ := hrel
    obtain ⟨c0, c1, c2, c3, c4, c5⟩ := mod_cells (HX.out.belowS hbl)
    have c6 := (HX.out.belowS hbl).lt
    have hbw := HB.out.trans (hbl.mono HB.out.size)
    by_cases hlt : k < rn
    · have hlt' : (k : Int) < rn := by omega
      have kl : k < m.rels.length := by rw [HL.out]; exact hlt
      obtain ⟨g, off, rfl, q1, e0, e1, e2⟩ := HR.out.at hbw hlt
      have hF := HF.out k hlt
      change _ ∧ (rl m k).at_ < 65536 ∧ (rl m k).wh < 65536 at hF
      change wr.cell? _ = some (.int .u8 ((rl m k).kind : Int)) at e0
      change wr.cell? _ = some (.int .u16 ((rl m k).at_ : Int)) at e1
      change wr.cell? _ = some (.int .u16 ((rl m k).wh : Int)) at e2
      have hPY := Lib.hid (fun (t : Nat) (ht : t < k) h1 h2 => place_yes (m := m) ht h1 h2)
      have hPF := Lib.hid (fun h => place_far (m := m) (k := k) h)
      have hPN := Lib.hid (fun h1 h2 => (placeB_no (m := m) (i := k)).2 ⟨h1, h2⟩)
      have CI := Lib.hid (fun u => inCode_eq (rl m k).kind u)
      rw [HLs.out.1, HLs.out.2] at hPF hPN
      obtain ⟨_, hF1, hF2⟩ := hF
      clear kl
      generalize hr : rl m k = r at *
      clear hr
      obtain ⟨rk, rt, rw2⟩ := r
      simp only at e0 e1 e2 hPY hPF hPN hF1 hF2 CI
      have hwr : IntKind.i64.wrap (rt : Int) = (rt : Int) := by rw [IntKind.wrap_i64]; omega
      generalize hb : inC rk = b at *
      clear hb
      have hB1 := hbw.alloc hbw.size (.cells #[.int .u8 (rk : Int), .int .u16 (rt : Int), .int .u16 (rw2 : Int)] 47)
      have hB2 := hbl.alloc hbl.size (.cells #[.int .u8 (rk : Int), .int .u16 (rt : Int), .int .u16 (rw2 : Int)] 47)
      have HXb := Lib.hid ((HX.out.belowS hbl).alloc (.cells #[.int .u8 (rk : Int), .int .u16 (rt : Int), .int .u16 (rw2 : Int)] 47))
      have HY := Lib.hid (Whole.new wr 47 #[.int .u8 (rk : Int), .int .u16 (rt : Int), .int .u16 (rw2 : Int)])
      have CJ := Lib.hid (fun (t : Nat) (u : World) => inCode_eq (rl m t).kind u)
      cases b
      case false =>
        simp only [Bool.false_eq_true, if_false, if_true] at hPF hPN
        by_cases hx : dn ≤ rt
        · have hh := Lib.hid (HE.out.trans (ff_yes hlt (hPF.out hx) hp.out))
          have hx' : (dn : Int) ≤ (rt : Int) := by omega
          clear hPY hPF hPN hp hx
          go_wp2_with (go_at_call 41; (with_reducible refine (CI.out _).mono ?_); rintro e w1 ⟨rfl, rfl⟩)
          go_ret
          exact ⟨ret_int hh.out.symm, hB1⟩
        have hPN := Lib.hid (hPN.out (show rt < dn by omega))
        have hx' : ¬ (dn : Int) ≤ (rt : Int) := by omega
        clear hPF hx
        go_wp2_with (go_at_call 41; (with_reducible refine (CI.out _).mono ?_); rintro e w1 ⟨rfl, rfl⟩)
        generalize wr.alloc (.cells #[.int .u8 (rk : Int), .int .u16 (rt : Int), .int .u16 (rw2 : Int)] 47) = W2 at *
        clear hx'
        rename_i hq0
        clear hq0
        go_loopw [6] (fun i wr2 => ∃ t : Nat, t ≤ k ∧ i = .int .i64 (t : Int) ∧ Hid (∀ j, j < t → ¬ ((rl m j).at_ = rt ∧ inC (rl m j).kind = false)) ∧ Below W2.heap.size W2 wr2) (fun i _ => k - (intOf i).toNat)
        case atStart => exact ⟨0, by omega, rfl, Lib.hid (fun j hj => by omega), Below.refl _ _⟩
        case round =>
          clear c0 c1 c2 c3 c4 c5 c6 e0 e1 e2
          obtain ⟨t, ht, rfl, hq2, hbl2⟩ := hrel
          obtain ⟨c0, c1, c2, c3, c4, c5⟩ := mod_cells (HXb.out.belowS hbl2)
          have c6 := (HXb.out.belowS hbl2).lt
          obtain ⟨d0, d1, d2⟩ := rel_cells (HY.out.belowS hbl2)
          have d3 := (HY.out.belowS hbl2).lt
          have hbz := hB1.trans (hbl2.mono hB1.size)
          by_cases hlt2 : t < k
          · have hlt2' : (t : Int) < k := by omega
            have hlt3 : (t : Int) < rn := by omega
            obtain ⟨g', off', hga, q2, e0, e1, e2⟩ := HR.out.at hbz (show t < rn by omega)
            simp only [Option.some.injEq, Addr.mk.injEq, and_true] at hga
            obtain ⟨rfl, rfl⟩ := hga
            have hjk := Lib.hid (fun h => fun j (hj : j < t + 1) => if h' : j < t then hq2.out j h' else by rw [show j = t by omega]; exact (h : ¬ ((rl m t).at_ = rt ∧ inC (rl m t).kind = false)))
            have CT := Lib.hid (CJ.out t)
            change _ = some (Value.int .u8 ((rl m t).kind : Int)) at e0
            change _ = some (Value.int .u16 ((rl m t).at_ : Int)) at e1
            change _ = some (Value.int .u16 ((rl m t).wh : Int)) at e2
            by_cases hat : (rl m t).at_ = rt
            · have hat' : decide (((rl m t).at_ : Int) = (rt : Int)) = true := decide_eq_true (by omega)
              have hYt := Lib.hid (hPY.out t hlt2 hat)
              rw [hat] at e1
              by_cases hic : inC (rl m t).kind = false
              · have hh := Lib.hid (HE.out.trans (ff_yes hlt (hYt.out hic) hp.out))
                rw [hic] at CT
                clear hp hq2 hPN hPY hjk hYt hat hat' hic
                generalize ((rl m t).kind : Int) = z0 at *
                generalize ((rl m t).wh : Int) = z2 at *
                go_wp2_with fail
                go_quiet (first | with_reducible exact Calls.quiet_of_same (CT.out _) | with_reducible exact Calls.quiet_of_same (CI.out _))
                go_wp2_with fail
                go_ret
                exact ⟨ret_int hh.out.symm, below_drewN hbz _⟩
              · have hq3 := Lib.hid (hjk.out (fun h => hic h.2))
                have hic2 : inC (rl m t).kind = !false := by cases h : inC (rl m t).kind <;> simp_all
                rw [hic2] at CT
                clear hjk hYt hat hat' hic hic2
                generalize ((rl m t).kind : Int) = z0 at *
                generalize ((rl m t).wh : Int) = z2 at *
                go_wp2_with fail
                go_quiet (first | with_reducible exact Calls.quiet_of_same (CT.out _) | with_reducible exact Calls.quiet_of_same (CI.out _))
                go_wp2_with fail
                go_roundw
                case rel => exact ⟨t + 1, by omega, by go_num, hq3, below_drewN hbl2 _⟩
                case measure => simp [intOf]; omega
            · have hq3 := Lib.hid (hjk.out (fun h => hat h.1))
              have hat' : ((rl m t).at_ : Int) ≠ (rt : Int) := by omega
              have hat2 : decide (((rl m t).at_ : Int) = (rt : Int)) = false := decide_eq_false hat'
              clear hjk hat
              generalize ((rl m t).kind : Int) = z0 at *
              generalize ((rl m t).at_ : Int) = z1 at *
              generalize ((rl m t).wh : Int) = z2 at *
              go_wp2_with fail
              go_quiet (first | with_reducible exact Calls.quiet_of_same (CT.out _) | with_reducible exact Calls.quiet_of_same (CI.out _))
              go_wp2_with fail
              go_roundw
              case rel => exact ⟨t + 1, by omega, by go_num, hq3, below_drewN hbl2 _⟩
              case measure => simp [intOf]; omega
          · obtain rfl : t = k := by omega
            have hp2 := Lib.hid (fun j (hj : j < t + 1) => if h : j < t then hp.out j h else by rw [show j = t by omega]; exact hPN.out hq2.out)
            clear hp hq2 hPN hPY
            go_wp2_with fail
            go_roundw
            case rel => exact ⟨t + 1, by omega, by go_num, hp2, hB2.trans (hbl2.mono hB2.size)⟩
            case measure => simp [intOf]; omega
      case true =>
        simp only [Bool.false_eq_true, if_false, if_true] at hPF hPN
        by_cases hx : cn ≤ rt
        · have hh := Lib.hid (HE.out.trans (ff_yes hlt (hPF.out hx) hp.out))
          have hx' : (cn : Int) ≤ (rt : Int) := by omega
          clear hPY hPF hPN hp hx
          go_wp2_with (go_at_call 41; (with_reducible refine (CI.out _).mono ?_); rintro e w1 ⟨rfl, rfl⟩)
          go_ret
          exact ⟨ret_int hh.out.symm, hB1⟩
        have hPN := Lib.hid (hPN.out (show rt < cn by omega))
        have hx' : ¬ (cn : Int) ≤ (rt : Int) := by omega
        clear hPF hx
        go_wp2_with (go_at_call 41; (with_reducible refine (CI.out _).mono ?_); rintro e w1 ⟨rfl, rfl⟩)
        generalize wr.alloc (.cells #[.int .u8 (rk : Int), .int .u16 (rt : Int), .int .u16 (rw2 : Int)] 47) = W2 at *
        clear hx'
        rename_i hq0
        clear hq0
        go_loopw [6] (fun i wr2 => ∃ t : Nat, t ≤ k ∧ i = .int .i64 (t : Int) ∧ Hid (∀ j, j < t → ¬ ((rl m j).at_ = rt ∧ inC (rl m j).kind = true)) ∧ Below W2.heap.size W2 wr2) (fun i _ => k - (intOf i).toNat)
        case atStart => exact ⟨0, by omega, rfl, Lib.hid (fun j hj => by omega), Below.refl _ _⟩
        case round =>
          clear c0 c1 c2 c3 c4 c5 c6 e0 e1 e2
          obtain ⟨t, ht, rfl, hq2, hbl2⟩ := hrel
          obtain ⟨c0, c1, c2, c3, c4, c5⟩ := mod_cells (HXb.out.belowS hbl2)
          have c6 := (HXb.out.belowS hbl2).lt
          obtain ⟨d0, d1, d2⟩ := rel_cells (HY.out.belowS hbl2)
          have d3 := (HY.out.belowS hbl2).lt
          have hbz := hB1.trans (hbl2.mono hB1.size)
          by_cases hlt2 : t < k
          · have hlt2' : (t : Int) < k := by omega
            have hlt3 : (t : Int) < rn := by omega
            obtain ⟨g', off', hga, q2, e0, e1, e2⟩ := HR.out.at hbz (show t < rn by omega)
            simp only [Option.some.injEq, Addr.mk.injEq, and_true] at hga
            obtain ⟨rfl, rfl⟩ := hga
            have hjk := Lib.hid (fun h => fun j (hj : j < t + 1) => if h' : j < t then hq2.out j h' else by rw [show j = t by omega]; exact (h : ¬ ((rl m t).at_ = rt ∧ inC (rl m t).kind = true)))
            have CT := Lib.hid (CJ.out t)
            change _ = some (Value.int .u8 ((rl m t).kind : Int)) at e0
            change _ = some (Value.int .u16 ((rl m t).at_ : Int)) at e1
            change _ = some (Value.int .u16 ((rl m t).wh : Int)) at e2
            by_cases hat : (rl m t).at_ = rt
            · have hat' : decide (((rl m t).at_ : Int) = (rt : Int)) = true := decide_eq_true (by omega)
              have hYt := Lib.hid (hPY.out t hlt2 hat)
              rw [hat] at e1
              by_cases hic : inC (rl m t).kind = true
              · have hh := Lib.hid (HE.out.trans (ff_yes hlt (hYt.out hic) hp.out))
                rw [hic] at CT
                clear hp hq2 hPN hPY hjk hYt hat hat' hic
                generalize ((rl m t).kind : Int) = z0 at *
                generalize ((rl m t).wh : Int) = z2 at *
                go_wp2_with fail
                go_quiet (first | with_reducible exact Calls.quiet_of_same (CT.out _) | with_reducible exact Calls.quiet_of_same (CI.out _))
                go_wp2_with fail
                go_ret
                exact ⟨ret_int hh.out.symm, below_drewN hbz _⟩
              · have hq3 := Lib.hid (hjk.out (fun h => hic h.2))
                have hic2 : inC (rl m t).kind = !true := by cases h : inC (rl m t).kind <;> simp_all
                rw [hic2] at CT
                clear hjk hYt hat hat' hic hic2
                generalize ((rl m t).kind : Int) = z0 at *
                generalize ((rl m t).wh : Int) = z2 at *
                go_wp2_with fail
                go_quiet (first | with_reducible exact Calls.quiet_of_same (CT.out _) | with_reducible exact Calls.quiet_of_same (CI.out _))
                go_wp2_with fail
                go_roundw
                case rel => exact ⟨t + 1, by omega, by go_num, hq3, below_drewN hbl2 _⟩
                case measure => simp [intOf]; omega
            · have hq3 := Lib.hid (hjk.out (fun h => hat h.1))
              have hat' : ((rl m t).at_ : Int) ≠ (rt : Int) := by omega
              have hat2 : decide (((rl m t).at_ : Int) = (rt : Int)) = false := decide_eq_false hat'
              clear hjk hat
              generalize ((rl m t).kind : Int) = z0 at *
              generalize ((rl m t).at_ : Int) = z1 at *
              generalize ((rl m t).wh : Int) = z2 at *
              go_wp2_with fail
              go_quiet (first | with_reducible exact Calls.quiet_of_same (CT.out _) | with_reducible exact Calls.quiet_of_same (CI.out _))
              go_wp2_with fail
              go_roundw
              case rel => exact ⟨t + 1, by omega, by go_num, hq3, below_drewN hbl2 _⟩
              case measure => simp [intOf]; omega
          · obtain rfl : t = k := by omega
            have hp2 := Lib.hid (fun j (hj : j < t + 1) => if h : j < t then hp.out j h else by rw [show j = t by omega]; exact hPN.out hq2.out)
            clear hp hq2 hPN hPY
            go_wp2_with fail
            go_roundw
            case rel => exact ⟨t + 1, by omega, by go_num, hp2, hB2.trans (hbl2.mono hB2.size)⟩
            case measure => simp [intOf]; omega
    · obtain rfl : k = rn := by omega
      have hh := Lib.hid (HE.out.trans (ff_no hp.out))
      clear hp
      go_wp2_with fail
      go_ret
      exact ⟨ret_int hh.out.symm, hbw⟩
end
end Go.Proofs.YtdfafllldanfiaaGreat.VR
