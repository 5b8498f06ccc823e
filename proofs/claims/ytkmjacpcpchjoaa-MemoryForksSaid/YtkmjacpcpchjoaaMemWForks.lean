/-
  The walk of MemoryForks. Nothing here is a statement of the seed.
-/
import Derived.Test.YtkmjacpcpchjoaaMemAct
import Derived.Deep.CutRange
set_option linter.unusedSimpArgs false
set_option linter.unusedVariables false
namespace Go.Proofs.Ytkmjacpcpchjoaa.WK
open Go.RowKit PM PR PF MM MR MF

/-- a fork laid: both forks, each with its reference's -/
def Two (w : World) (B p t g gwp R : Nat) (M : Mm) (gr c gw d pf tf gf gwf R2 : Nat) (wr : World) : Prop :=
  DuoIn w p t g gwp R M gr c gw d wr ∧ (p < B ∧ t < B ∧ g < B ∧ gwp < B ∧ R < B ∧ gr < B ∧ gw < B) ∧ (B ≤ pf ∧ B ≤ tf ∧ B ≤ gf ∧ B ≤ gwf ∧ B ≤ R2) ∧ Duo w pf tf gf gwf R2 wr
theorem two_of {w w8 wx : World} {p t g gwp R gr c gw d pf tf gf gwf R2 : Nat} {M : Mm} (h : DuoIn w p t g gwp R M gr c gw d w8) (hb : Below w8.heap.size w8 wx) (hp : Pm wx pf tf gf gwf M) (hR : Whole wx R2 33 (rCs M.gt gr M.pg.length c gw M.ws.length d))
    (h1 : w8.heap.size ≤ pf) (h2 : w8.heap.size ≤ tf) (h3 : w8.heap.size ≤ gf) (h4 : w8.heap.size ≤ gwf) (h5 : w8.heap.size ≤ R2) : Two w w8.heap.size p t g gwp R M gr c gw d pf tf gf gwf R2 wx := by
  have hl := h.pm.lt
  have hr := h.rm.lt
  have hR1 := h.box.lt
  have hs := h.low.size
  exact ⟨h.belowS hb, ⟨hl.1, hl.2.1, hl.2.2.1, hl.2.2.2, hR1, hr.1, hr.2⟩, ⟨h1, h2, h3, h4, h5⟩, M, gr, c, gw, d, hp, h.rm.belowS hb, by omega, by omega, hR, by omega, by omega, by omega, by omega, by omega, below_of h.low hb⟩
theorem Two.belowS {w : World} {B p t g gwp R gr c gw d pf tf gf gwf R2 : Nat} {M : Mm} {wr w' : World} (h : Two w B p t g gwp R M gr c gw d pf tf gf gwf R2 wr) (hb : Below wr.heap.size wr w') : Two w B p t g gwp R M gr c gw d pf tf gf gwf R2 w' := by
  obtain ⟨h1, h2, h3, M2, gr2, c2, gw2, d2, h4⟩ := h
  exact ⟨h1.belowS hb, h2, h3, M2, gr2, c2, gw2, d2, h4.belowS hb⟩
theorem two_next {w : World} {B p t g gwp R gr c gw d pf tf gf gwf R2 gr2 c2 gw2 d2 : Nat} {M M2 : Mm} {wr w2 : World} (h : Two w B p t g gwp R M gr c gw d pf tf gf gwf R2 wr) (hm : DuoMid w pf tf gf gwf R2 M2 gr2 c2 gw2 d2 wr w2) :
    Two w B p t g gwp R M gr c gw d pf tf gf gwf R2 (putB w2 R2 M2.gt gr2 M2.pg.length c2 gw2 M2.ws.length d2) := by
  obtain ⟨h1, h2, h3, _⟩ := h
  obtain ⟨n1, n2⟩ := duo_next hm
  have b1 := hm.b1
  have b3 := hm.b3
  have b4 := hm.b4
  have b5 := hm.b5
  exact ⟨h1.fr n2 (by omega) (by omega) (by omega) (by omega) (by omega) (by omega) (by omega) (by rintro i (rfl | rfl | rfl | rfl) <;> assumption), h2, h3, M2, gr2, c2, gw2, d2, n1⟩
theorem pm_putB {w : World} {p t g gw b : Nat} {M : Mm} {cs : Array Value} (h : Pm w p t g gw M) (hb : Whole w b 33 cs) (G : Nat → Int) (gr n c gw' m d : Nat) : Pm (putB w b G gr n c gw' m d) p t g gw M := by
  obtain ⟨d9, _, _, hp⟩ := h.top
  obtain ⟨_, hg, c9, _, _, ht⟩ := h.tb
  exact h.fr (putB_fr w b G gr n c gw' m d) (hb.ne_ hp (by decide)).symm (hb.ne_ ht (by decide)).symm (hg.elim fun r hr => (hb.ne_ hr (by decide)).symm) (h.wr.ne_ hb (by decide)).symm
theorem rt_chain {w : World} {R R2 : Nat} {G : Nat → Int} {gr n c gw m d : Nat} (h : RT R G gr n c gw m d w) (hne : R ≠ R2) (G' : Nat → Int) (gr' n' c' gw' m' d' : Nat) :
    RT R G gr n c gw m d ((((((((((w.setCell ⟨R2, 0, none⟩ (.int .u32 (G' 0))).setCell ⟨R2, 1, none⟩ (.int .u32 (G' 1))).setCell ⟨R2, 2, none⟩ (.int .u32 (G' 2))).setCell ⟨R2, 3, none⟩ (.int .u32 (G' 3))).setCell ⟨R2, 4, none⟩ (.int .u32 (G' 4))).setCell ⟨R2, 5, none⟩ (.int .u32 (G' 5))).setCell ⟨R2, 6, none⟩ (.int .u32 (G' 6))).setCell ⟨R2, 7, none⟩ (.int .u32 (G' 7))).setCell ⟨R2, 8, none⟩ (.slice (some ⟨gr', 0, none⟩) n' c')).setCell ⟨R2, 9, none⟩ (.slice (some ⟨gw', 0, none⟩) m' d')) := by
  have o : ∀ (u : World) (i j : Nat) (v : Value), (u.setCell ⟨R2, i, none⟩ v).cell? ⟨R, j, none⟩ = u.cell? ⟨R, j, none⟩ := fun u i j v => World.cell?_setCell_other _ _ _ _ (fun e => hne (congrArg Addr.block e).symm)
  obtain ⟨h0, h1, h2, h3, h4, h5, h6, h7, h8, h9⟩ := h
  exact ⟨by rw [o, o, o, o, o, o, o, o, o, o]; exact h0, by rw [o, o, o, o, o, o, o, o, o, o]; exact h1, by rw [o, o, o, o, o, o, o, o, o, o]; exact h2, by rw [o, o, o, o, o, o, o, o, o, o]; exact h3, by rw [o, o, o, o, o, o, o, o, o, o]; exact h4, by rw [o, o, o, o, o, o, o, o, o, o]; exact h5, by rw [o, o, o, o, o, o, o, o, o, o]; exact h6, by rw [o, o, o, o, o, o, o, o, o, o]; exact h7, by rw [o, o, o, o, o, o, o, o, o, o]; exact h8, by rw [o, o, o, o, o, o, o, o, o, o]; exact h9⟩
set_option maxHeartbeats 1500000 in
set_option maxRecDepth 10000 in
theorem MemoryForks_walk (n : Int) (hn : 0 ≤ n ∧ n ≤ 255) (v1 : Value) (m1 : Nat) (v2 : Value) (m2 : Nat) (w : World) (hv1 : Acts w.heap.size w v1 m1) (hv2 : Acts w.heap.size w v2 m2) :
    Calls Try.prog 5 #[.int .u8 n, v1, v2] w fun e w' => e = .returned (.bool true) ∧ Below w.heap.size w w' := by
  obtain ⟨a1, cap1, rfl, hmc1, hcm1, hacts1⟩ := hv1
  obtain ⟨a2, cap2, rfl, hmc2, hcm2, hacts2⟩ := hv2
  unfold maxLen at hcm1 hcm2
  obtain ⟨hn0, hn1⟩ := hn
  have CA := Lib.hid (fun u => awake_any u)
  by_cases h100 : 20 < m1
  · have h100' : (20 : Int) < m1 := by omega
    clear hacts1 hacts2
    go_enter Try.func5, Try.ntmps5
    go_wp2_with (go_at_call 9; (with_reducible refine (CA.out _).mono ?_); rintro e w1 ⟨rfl, hb⟩)
    go_ret
    exact ⟨rfl, hb⟩
  · have h100' : (m1 : Int) ≤ 20 := by omega
    by_cases h200 : 20 < m2
    · have h200' : (20 : Int) < m2 := by omega
      clear hacts1 hacts2
      go_enter Try.func5, Try.ntmps5
      go_wp2_with (go_at_call 9; (with_reducible refine (CA.out _).mono ?_); rintro e w1 ⟨rfl, hb⟩)
      go_ret
      exact ⟨rfl, hb⟩
    · have h200' : (m2 : Int) ≤ 20 := by omega
      have CN := Lib.hid (newP_any (n % 21) w)
      have CM := Lib.hid (fun w => newR_any (n % 21) w)
      generalize newM (min (max (n % 21) 0) 256).toNat = M0 at *
      have HA1 := Lib.hid hacts1
      have HA2 := Lib.hid hacts2
      clear hacts1 hacts2
      go_enter Try.func5, Try.ntmps5
      go_wp2_with fail
      (go_at_call 10; (with_reducible refine CN.out.mono ?_); rintro e w1 ⟨p, t, g, gwp, rfl, hP, hp, ht, hg, hgwp, hb⟩; have HP := Lib.hid hP; have B1 := Lib.hid hb; clear hP hb)
      go_wp2_with fail
      (go_at_call 11; (with_reducible refine (CM.out _).mono ?_); rintro e w2 ⟨gr0, c0, gw0, d0, rfl, hR, h1, h2, hb2⟩; have D1 : Hid (Duo w p t g gwp w2.heap.size (w2.alloc (.cells (rCs M0.gt gr0 M0.pg.length c0 gw0 M0.ws.length d0) 33))) := Lib.hid ⟨_, _, _, _, _, duo_new HP.out hp ht hg hgwp B1.out hR h1 h2 hb2⟩; clear hR h1 h2 hb2)
      generalize M0.pg.length = n9 at *
      generalize M0.ws.length = m9 at *
      generalize M0.gt = G9 at *
      go_wp2_with fail
      generalize w2.alloc (.cells (rCs G9 gr0 n9 c0 gw0 m9 d0) 33) = w3 at *
      generalize w2.heap.size = R at *
      clear CN CM HP B1
      go_loopw [9] (fun i wr => ∃ k : Nat, k ≤ m1 ∧ i = .int .i64 (k : Int) ∧ Hid (Duo w p t g gwp R wr)) (fun i _ => m1 - (intOf i).toNat)
      case atStart => exact ⟨0, by omega, rfl, D1⟩
      case round =>
        obtain ⟨k, hk, rfl, hD⟩ := hrel
        obtain ⟨M, gr, c, gw, d, hO⟩ := hD.out
        have HO := Lib.hid hO
        have hk0 : (0 : Int) ≤ k := by omega
        by_cases hlt : k < m1
        · have hlt' : (k : Int) < m1 := by omega
          rcases HA1.out with h0 | ⟨ga, off, rfl, hga, hall⟩
          · omega
          · obtain ⟨x, hx, hat⟩ := hall k hlt
            have hat1 := hat.below hO.low hga
            unfold ActAt at hat1
            obtain ⟨x0, x1, x2, x3, x4, x5, x6⟩ := hat1
            obtain ⟨c0, c1, c2, c3, c4, c5, c6, c7, c8, c9⟩ := box_cells hO.box
            have CD := Lib.hid (duo_do hO x hx)
            clear hall hat hx hO
            generalize actM M x = M' at *
            generalize M.pg.length = n1 at *
            generalize M.ws.length = q1 at *
            generalize M.gt = G1 at *
            generalize hn2 : M'.pg.length = n2 at *
            generalize hm2 : M'.ws.length = q2 at *
            generalize hG2 : M'.gt = G2 at *
            have HN2 := Lib.hid hn2
            have HM2 := Lib.hid hm2
            have HG2 := Lib.hid hG2
            clear hn2 hm2 hG2
            go_upto_region 7 with fail
            go_region_with (go_at_call 13; (with_reducible refine CD.out.mono ?_); rintro en w4 ⟨gr', c', gw', d', rfl, hM⟩; obtain ⟨⟨v0, v1, v2, v3, v4, v5, v6, v7, v8, v9, e0, e1, e2, e3, e4, e5, e6, e7, e8, e9⟩, f0, f1, f2, f3, f4, f5, f6, f7, f8, f9⟩ := hM.open_; have HM := Lib.hid hM; clear hM)
            all_goals
              rw [putB_eq]
              have N5 : Hid (Duo w p t g gwp R (putB w4 R G2 gr' n2 c' gw' q2 d')) := by
                have e1 := HG2.out
                have e2 := HN2.out
                have e3 := HM2.out
                subst e1 e2 e3
                exact Lib.hid ⟨M', gr', c', gw', d', (duo_next HM.out).1⟩
              clear e0 e1 e2 e3 e4 e5 e6 e7 e8 e9 f0 f1 f2 f3 f4 f5 f6 f7 f8 f9 x0 x1 x2 x3 x4 x5 x6 c0 c1 c2 c3 c4 c5 c6 c7 c8 c9
              generalize putB w4 R G2 gr' n2 c' gw' q2 d' = w5 at *
              go_wp2_with fail
              go_roundw
              case rel => exact ⟨k + 1, by omega, by go_num, N5⟩
              case measure => simp [intOf]; omega
        · obtain rfl : k = m1 := by omega
          have hRl := hO.box.lt
          have CF := Lib.hid (fun u hb => mfork_any (hO.belowS (w' := u) hb).pm)
          have K8 : RT R M.gt gr M.pg.length c gw M.ws.length d wr := box_cells hO.box
          have K8d : RT R M.gt gr M.pg.length c gw M.ws.length d wr.drew := K8
          have hO9 : Hid (∀ (wx : World) (pf tf gf gwf R2 : Nat), Below wr.heap.size wr wx → Pm wx pf tf gf gwf M → Whole wx R2 33 (rCs M.gt gr M.pg.length c gw M.ws.length d) → wr.heap.size ≤ pf → wr.heap.size ≤ tf → wr.heap.size ≤ gf → wr.heap.size ≤ gwf → wr.heap.size ≤ R2 → Two w wr.heap.size p t g gwp R M gr c gw d pf tf gf gwf R2 wx) := Lib.hid fun wx pf tf gf gwf R2 q1 q2 q3 q4 q5 q6 q7 q8 => two_of hO q1 q2 q3 q4 q5 q6 q7 q8
          clear hO
          generalize M.pg.length = n1 at *
          generalize M.ws.length = q1 at *
          generalize M.gt = G1 at *
          go_upto_region 8 with fail
          have hbd : Below wr.heap.size wr wr.drew := (Below.refl _ _).drew
          have hba1 : Below wr.heap.size wr (wr.drew.alloc (.cells zCs 33)) := hbd.alloc hbd.size _
          have hba2 : Below wr.heap.size wr (wr.alloc (.cells zCs 33)).drew := (below_new _ _).drew
          have K81 := rt_go K8 hRl hba1
          have K82 := rt_go K8 hRl hba2
          have HNX1 : Hid (Whole (wr.drew.alloc (.cells zCs 33)) wr.heap.size 33 zCs) := Lib.hid (Whole.new wr.drew _ _)
          have HNX2 : Hid (Whole (wr.alloc (.cells zCs 33)).drew wr.heap.size 33 zCs) := Lib.hid (Whole.new wr _ _)
          go_cut [10, 11, 12] from 54 to 147 (fun c10 c11 c12 wx => ∃ pf tf gf gwf R2, c10 = .pointer (some ⟨pf, 0, none⟩) ∧ c11 = .pointer (some ⟨R2, 0, none⟩) ∧ c12 = .bool true ∧ Hid (Two w wr.heap.size p t g gwp R M gr c gw d pf tf gf gwf R2 wx))
          case first =>
            go_region_held3 (fun u => RT R G1 gr n1 c gw q1 d u)
              (first | with_reducible exact K9 | with_reducible exact HAL.out _ | with_reducible exact HST.out _ _ _ _ _ _ _ | with_reducible exact K8d | with_reducible exact K81 | with_reducible exact K82)
              (first | (go_at_call 21; (first | ((with_reducible refine (CF.out _ hbd).mono ?_); rintro e w9 ⟨pf, tf, gf, gwf, rfl, hP, s1, s2, s3, s4, hb9⟩; have hb8 := below_of hbd hb9; have K9 := rt_go K8 hRl hb8; have HP := Lib.hid hP; have HAL := Lib.hid (fun o => rt_go K8 hRl (below_of hb8 (below_new w9 o))); clear hP) | ((with_reducible refine (CF.out _ hba1).mono ?_); rintro e w9 ⟨pf, tf, gf, gwf, rfl, hP, s1, s2, s3, s4, hb9⟩; have hb8 := below_of hba1 hb9; have K9 := rt_go K8 hRl hb8; have Z9 := HNX1.out.belowS hb9; obtain ⟨⟨v0, v1, v2, v3, v4, v5, v6, v7, v8, v9, e0, e1, e2, e3, e4, e5, e6, e7, e8, e9⟩, f0, f1, f2, f3, f4, f5, f6, f7, f8, f9⟩ := box_open Z9 rfl; have l9 := Z9.lt; have HP := Lib.hid hP; have HZ9 := Lib.hid Z9; have HST := Lib.hid (rt_chain K9 (R2 := wr.heap.size) (by omega)); clear hP Z9) | ((with_reducible refine (CF.out _ hba2).mono ?_); rintro e w9 ⟨pf, tf, gf, gwf, rfl, hP, s1, s2, s3, s4, hb9⟩; have hb8 := below_of hba2 hb9; have K9 := rt_go K8 hRl hb8; have Z9 := HNX2.out.belowS hb9; obtain ⟨⟨v0, v1, v2, v3, v4, v5, v6, v7, v8, v9, e0, e1, e2, e3, e4, e5, e6, e7, e8, e9⟩, f0, f1, f2, f3, f4, f5, f6, f7, f8, f9⟩ := box_open Z9 rfl; have l9 := Z9.lt; have HP := Lib.hid hP; have HZ9 := Lib.hid Z9; have HST := Lib.hid (rt_chain K9 (R2 := wr.heap.size) (by omega)); clear hP Z9))))
            · rename_i hHeld
              clear hHeld
              have r1 : wr.heap.size ≤ pf := by (have := s1; simp at this; omega)
              have r2 : wr.heap.size ≤ tf := by (have := s2; simp at this; omega)
              have r3 : wr.heap.size ≤ gf := by (have := s3; simp at this; omega)
              have r4 : wr.heap.size ≤ gwf := by (have := s4; simp at this; omega)
              have HN := Lib.hid (hO9.out _ pf tf gf gwf w9.heap.size (below_of hb8 (below_new w9 (.cells (rCs G1 gr n1 c gw q1 d) 33))) (HP.out.belowS (below_new _ _)) (Whole.new _ _ _) r1 r2 r3 r4 hb8.size)
              clear HAL K9 hO9 HP
              generalize w9.alloc (.cells (rCs G1 gr n1 c gw q1 d) 33) = wz at *
              go_wp2_with fail
              go_meet
              exact ⟨pf, tf, gf, gwf, _, rfl, rfl, rfl, HN⟩
            · rename_i hHeld
              clear hHeld
              have r1 : wr.heap.size ≤ pf := by (have := s1; simp at this; omega)
              have r2 : wr.heap.size ≤ tf := by (have := s2; simp at this; omega)
              have r3 : wr.heap.size ≤ gf := by (have := s3; simp at this; omega)
              have r4 : wr.heap.size ≤ gwf := by (have := s4; simp at this; omega)
              rw [putB_eq]
              have HN := Lib.hid (hO9.out _ pf tf gf gwf wr.heap.size (putB_below (b := wr.heap.size) hb8 (Nat.le_refl _) hb8.size G1 gr n1 c gw q1 d) (pm_putB HP.out HZ9.out G1 gr n1 c gw q1 d) (putB_whole HZ9.out rfl G1 gr n1 c gw q1 d) r1 r2 r3 r4 (Nat.le_refl _))
              clear HST K9 hO9 HP HZ9 e0 e1 e2 e3 e4 e5 e6 e7 e8 e9 f0 f1 f2 f3 f4 f5 f6 f7 f8 f9 l9
              generalize putB w9 wr.heap.size G1 gr n1 c gw q1 d = wz at *
              go_wp2_with fail
              go_meet
              exact ⟨pf, tf, gf, gwf, _, rfl, rfl, rfl, HN⟩
          case rest =>
          obtain ⟨pf, tf, gf, gwf, R2, rfl, rfl, rfl, HT8⟩ := hcut
          clear K8 K8d K81 K82 HNX1 HNX2 hba1 hba2 hbd CF hO9 HO hD
          generalize wr.heap.size = B8 at *
          go_wp2_with fail
          go_loopw [13] (fun i wr => ∃ k : Nat, k ≤ m2 ∧ i = .int .i64 (k : Int) ∧ Hid (Two w B8 p t g gwp R M gr c gw d pf tf gf gwf R2 wr)) (fun i _ => m2 - (intOf i).toNat)
          case atStart => exact ⟨0, by omega, rfl, HT8⟩
          case round =>
            obtain ⟨k2, hk2, rfl, hT⟩ := hrel
            obtain ⟨hT1, hT2, hT3, M2, gr2, c2, gw2, d2, hO2⟩ := id hT.out
            have hk20 : (0 : Int) ≤ k2 := by omega
            by_cases hlt2 : k2 < m2
            · have hlt2' : (k2 : Int) < m2 := by omega
              rcases HA2.out with h0 | ⟨ga, off, rfl, hga, hall⟩
              · omega
              · obtain ⟨x, hx, hat⟩ := hall k2 hlt2
                have hat1 := hat.below hO2.low hga
                unfold ActAt at hat1
                obtain ⟨x0, x1, x2, x3, x4, x5, x6⟩ := hat1
                obtain ⟨c0, c1, c2', c3, c4, c5, c6, c7, c8, c9⟩ := box_cells hO2.box
                have CD := Lib.hid (duo_do hO2 x hx)
                clear hall hat hx hO2 hT1 hT2 hT3
                generalize actM M2 x = M' at *
                generalize M2.pg.length = n3 at *
                generalize M2.ws.length = q3 at *
                generalize M2.gt = G3 at *
                generalize hn4 : M'.pg.length = n4 at *
                generalize hm4 : M'.ws.length = q4 at *
                generalize hG4 : M'.gt = G4 at *
                have HN4 := Lib.hid hn4
                have HM4 := Lib.hid hm4
                have HG4 := Lib.hid hG4
                clear hn4 hm4 hG4
                go_upto_region 14 with fail
                go_region_with (go_at_call 13; (with_reducible refine CD.out.mono ?_); rintro en w4 ⟨gr', c', gw', d', rfl, hM⟩; obtain ⟨⟨v0, v1, v2, v3, v4, v5, v6, v7, v8, v9, e0, e1, e2, e3, e4, e5, e6, e7, e8, e9⟩, f0, f1, f2, f3, f4, f5, f6, f7, f8, f9⟩ := hM.open_; have HM := Lib.hid hM; clear hM)
                all_goals
                  rw [putB_eq]
                  have N5 : Hid (Two w B8 p t g gwp R M gr c gw d pf tf gf gwf R2 (putB w4 R2 G4 gr' n4 c' gw' q4 d')) := by
                    have e1 := HG4.out
                    have e2 := HN4.out
                    have e3 := HM4.out
                    subst e1 e2 e3
                    exact Lib.hid (two_next hT.out HM.out)
                  clear e0 e1 e2 e3 e4 e5 e6 e7 e8 e9 f0 f1 f2 f3 f4 f5 f6 f7 f8 f9 x0 x1 x2 x3 x4 x5 x6 c0 c1 c2' c3 c4 c5 c6 c7 c8 c9 CD HM
                  generalize putB w4 R2 G4 gr' n4 c' gw' q4 d' = w5 at *
                  go_wp2_with fail
                  go_roundw
                  case rel => exact ⟨k2 + 1, by omega, by go_num, N5⟩
                  case measure => simp [intOf]; omega
            · obtain rfl : k2 = m2 := by omega
              have K1 : RT R M.gt gr M.pg.length c gw M.ws.length d wr := box_cells hT1.box
              have K2 : RT R2 M2.gt gr2 M2.pg.length c2 gw2 M2.ws.length d2 wr := box_cells hO2.box
              have hRl := hT1.box.lt
              have hR2l := hO2.box.lt
              have CS1 := Lib.hid (fun u hb => duo_same (hT1.belowS (w' := u) hb))
              have CS2 := Lib.hid (fun u hb => duo_same (hO2.belowS (w' := u) hb))
              have HLow := Lib.hid hO2.low
              have CST := Lib.hid (fun u => store_nil 90 1 0 1 (by omega) u)
              clear hO2 hT1 hT2 hT3 hT HA2
              generalize M.pg.length = n1 at *
              generalize M.ws.length = q1 at *
              generalize M.gt = G1 at *
              generalize M2.pg.length = n3 at *
              generalize M2.ws.length = q3 at *
              generalize M2.gt = G3 at *
              go_wp2_with (first | (go_at_call 22; (with_reducible refine (fetch_nil _ _ _).mono ?_); rintro e wn ⟨rfl, rfl⟩) | (go_at_call 23; (with_reducible refine (load_nil _ _ _).mono ?_); rintro e wn ⟨rfl, rfl⟩) | (go_at_call 17; (with_reducible refine (size_nil _).mono ?_); rintro e wn ⟨rfl, rfl⟩) | (go_at_call 19; (with_reducible refine (pages_nil _).mono ?_); rintro e wn ⟨rfl, rfl⟩) | (go_at_call 24; (with_reducible refine (peek_nil _ _).mono ?_); rintro e wn ⟨rfl, rfl⟩) | (go_at_call 25; (with_reducible refine (gate_nil _ _).mono ?_); rintro e wn ⟨rfl, rfl⟩) | (go_at_call 21; (with_reducible refine (mfork_nil _).mono ?_); rintro e wn ⟨rfl, rfl⟩) | (go_at_call 27; (with_reducible refine (put_nil _ _ _).mono ?_); rintro e wn ⟨rfl, rfl⟩) | (go_at_call 28; (with_reducible refine (setGate_nil _ _ _).mono ?_); rintro e wn ⟨rfl, rfl⟩) | (go_at_call 26; (with_reducible refine (CST.out _).mono ?_); rintro e w5 ⟨rfl, hb5⟩; obtain ⟨c0, c1, c2', c3, c4, c5, c6, c7, c8, c9⟩ := rt_go K2 hR2l hb5) | (go_at_call 12; (with_reducible refine (CS2.out _ hb5).mono ?_); rintro e w6 ⟨rfl, hb6⟩; have hB6 := below_of hb5 hb6; obtain ⟨d0', d1', d2', d3', d4', d5', d6', d7', d8', d9'⟩ := rt_go K1 hRl hB6) | (go_at_call 12; (with_reducible refine (CS1.out _ hB6).mono ?_); rintro e w7 ⟨rfl, hb7⟩; have hB7 := below_of hB6 hb7) | (go_at_call 9; (with_reducible refine (CA.out _).mono ?_); rintro e w8 ⟨rfl, hb8⟩; have hB8 := below_of hB7 hb8))
              go_ret
              exact ⟨rfl, below_of HLow.out hB8⟩
end Go.Proofs.Ytkmjacpcpchjoaa.WK
