/-
  The law HartGuards, walked. Nothing here is a statement of the seed.
-/
import Derived.Test.YtihcellcdkhadaaHartTry
import Derived.Test.YtihcellcdkhadaaHartMath6
import Derived.Deep.RegionHeld3
import Derived.Deep.CutRange
set_option linter.unusedSimpArgs false
set_option linter.unusedVariables false
namespace Go.Proofs.Ytihcellcdkhadaa.HF
open Go.RowKit PM PR PF MM MR MF HM HR
/-- two boxes, of what is to be made and of a hart -/
theorem lh_facts (w : World) (cl ch : Array Value) : Below w.heap.size w ((w.alloc (.cells cl 35)).alloc (.cells ch 28)) ∧ Whole ((w.alloc (.cells cl 35)).alloc (.cells ch 28)) w.heap.size 35 cl ∧ Whole ((w.alloc (.cells cl 35)).alloc (.cells ch 28)) (w.heap.size + 1) 28 ch := by
  refine ⟨bl2 .., (Whole.new w _ _).alloc _, ?_⟩
  have := Whole.new (w.alloc (.cells cl 35)) 28 ch
  simpa using this
abbrev GuS (b b6 : Nat) (k : Nat) (y : Int) (u : World) : Prop := u.cell? ⟨b, 1, none⟩ = some (.bool true) ∧ u.cell? ⟨b, 2, none⟩ = some (.int .u32 (k : Int)) ∧ u.cell? ⟨b, 3, none⟩ = some (.int .u32 y) ∧ u.cell? ⟨b6, 1, none⟩ = some (.bool false) ∧ u.cell? ⟨b6, 2, none⟩ = some (.bool true)
theorem GuS.go {b b6 k : Nat} {y : Int} {u v : World} (h : GuS b b6 k y u) (hb : Below u.heap.size u v) : GuS b b6 k y v := ⟨cell_go hb h.1, cell_go hb h.2.1, cell_go hb h.2.2.1, cell_go hb h.2.2.2.1, cell_go hb h.2.2.2.2⟩
end Go.Proofs.Ytihcellcdkhadaa.HF
namespace Go.Proofs.Ytihcellcdkhadaa.WK
open Go.RowKit PM PR PF MM MR MF HM HR HF
set_option maxHeartbeats 16000000
set_option maxRecDepth 10000
theorem HartGuards_walk {w : World} {s : Option Addr} {n c : Nat} {l : List Int} {s' : Option Addr} {n' c' : Nat} {l' : List Int} {gt : Int} {rt : Bool} {h : Ht} {a : Option Addr} {m q : Nat} {xe : Int} (hc : Rs w.heap.size w s n c l) (hd : Rs w.heap.size w s' n' c' l') (hl : ∀ x ∈ l, B32 x) (hl' : ∀ x ∈ l', B32 x) (hg : B32 gt) (hr : Rs w.heap.size w a m q h.sk) (hn : h.sk.length * 4 ≤ 140737488355328) (ok : HOk h) :
    Calls Try.prog 4 #[.agg #[.slice s n c, .slice s' n' c', .int .u32 gt, .bool rt], hV h.pc h.r a m q h.why h.ep h.home, .int .u64 xe] w fun e w' => e = .returned (.bool true) ∧ Below w.heap.size w w' := by
  have hlm := hr.len
  obtain ⟨T0, T1, T2⟩ := lh_facts w (ldCs s n c s' n' c' gt rt) (hCs h.pc h.r a m q h.why h.ep h.home)
  have CM := Lib.hid (show Calls _ _ #[.agg #[.slice s n c, .slice s' n' c', .int .u32 gt, .bool rt]] _ _ from made_any (rs_go hc T0 T0.size) (rs_go hd T0 T0.size) gt rt)
  have wk := land_wok hl hl' hg rt
  have mk := land_ok l l' gt rt
  have gd := step_gd (h := h) mk xe
  have hws : (landM l l' gt rt).ws.length = 128 := landW_len l l'
  have CF := Lib.hid (fun (p t g gw : Nat) (u : World) (h : Pm u p t g gw (landM l l' gt rt)) => mfork_any h)
  have CS := Lib.hid (fun (p t g gw : Nat) (u : World) (h' : Pm u p t g gw (landM l l' gt rt)) (hb : Below w.heap.size w u) => step_as (h := h) (n := m) (c := q) (a := a) h' (rs_go hr hb hb.size) (by omega) ok wk xe (h' := (stepR h (landM l l' gt rt) xe).h) (M' := (stepR h (landM l l' gt rt) xe).m) (sf := (stepR h (landM l l' gt rt) xe).sf) (st := (stepR h (landM l l' gt rt) xe).st) (nt := (stepR h (landM l l' gt rt) xe).nt) (nx := (stepR h (landM l l' gt rt) xe).nx) rfl)
  generalize stepR h (landM l l' gt rt) xe = r at *
  generalize landM l l' gt rt = M at *
  obtain ⟨⟨pc, R, L, why, ep, home⟩, M', sf, st, nt, nx⟩ := r
  obtain ⟨pc0, R0, L0, why0, ep0, home0⟩ := h
  simp only at *
  have AW := Lib.hid awake_any
  have HWS := Lib.hid hws
  clear hws
  have TT := Lib.hid (And.intro T0 T2)
  have GD := Lib.hid gd
  clear gd T0 T1 T2 wk mk hc hd hl hl' hg hr hn ok
  go_enter Try.func4, Try.ntmps4
  go_upto_region 3 with (first | (go_at_call 15; (with_reducible refine CM.out.mono ?_); rintro e w2 ⟨p, t, g, gw, gr, c2, gwr, d, rfl, pm, rm, _, _, hp, ht, hg, hgw, _, _, hb2⟩; have H2 := Lib.hid pm; have B2 := Lib.hid hb2; have H3 := Lib.hid (pm.belowS (below_new w2 (.cells (rCs M.gt gr M.pg.length c2 gwr M.ws.length d) 41))); clear pm rm hb2) | (go_at_call 16; (with_reducible refine (CF.out p t g gw _ H3.out).mono ?_); rintro e w4 ⟨p2, t2, g2, gw2, rfl, pm2, hp2, ht2, hg2, hgw2, hb4⟩; have K4 := Lib.hid pm2; have B4 := Lib.hid hb4; have X4 := Lib.hid (((TT.out.2.belowS B2.out).alloc (.cells (rCs M.gt gr M.pg.length c2 gwr M.ws.length d) 41)).belowS hb4); have q1 := X4.out.lt; obtain ⟨k0, k1, k2, k3, k4, k5, k6, k7, k8, k9, k10, k11, k12⟩ := hart_cells X4.out; clear pm2 hb4))
  have hs2 : w.heap.size + 1 + 1 ≤ w2.heap.size := by have := B2.out.size; simp at this; omega
  have hp' : w.heap.size + 1 + 1 ≤ p := by have := hp; simp at this; omega
  have hg' : w.heap.size + 1 + 1 ≤ g := by have := hg; simp at this; omega
  have hgw' : w.heap.size + 1 + 1 ≤ gw := by have := hgw; simp at this; omega
  have L2 := Lib.hid H2.out.lt
  have hp2' : w2.heap.size + 1 ≤ p2 := by have := hp2; simp at this; omega
  have ht2' : w2.heap.size + 1 ≤ t2 := by have := ht2; simp at this; omega
  have hg2' : w2.heap.size + 1 ≤ g2 := by have := hg2; simp at this; omega
  have hgw2' : w2.heap.size + 1 ≤ gw2 := by have := hgw2; simp at this; omega
  have M4 := Lib.hid (H3.out.belowS B4.out)
  have B5 := Lib.hid ((TT.out.1.trans (B2.out.mono TT.out.1.size)).trans (((below_new w2 (.cells (rCs M.gt gr M.pg.length c2 gwr M.ws.length d) 41)).trans (B4.out.mono (by simp))).mono (by omega)))
  have CS4 := Lib.hid (CS.out p t g gw w4 M4.out B5.out)
  clear CS CF CM hp hg hgw ht hp2 ht2 hg2 hgw2 H2 H3 TT B2 B4
  go_upto_region 4 with (go_at_call 17; (with_reducible refine CS4.out.mono ?_); rintro e w5 ⟨a5, n5, d5, rfl, sk, pm, hf⟩; have hn5 : L.length = n5 := sk.len; have H5 := Lib.hid pm; have F5 := Lib.hid hf; clear sk pm hf)
  obtain ⟨T0, T1, T2⟩ := hn_facts w5 (hCs pc R a5 n5 d5 why ep home) (nCs sf st nt nx)
  obtain ⟨l1, l2, l3, l4⟩ := L2.out
  have hs5 := F5.out.size
  have X6 := Lib.hid ((X4.out.fr F5.out (by rintro (e | e | e) <;> omega)).belowS T0)
  have H6 := Lib.hid (H5.out.belowS T0)
  have K6 := Lib.hid ((K4.out.fr F5.out (by rintro (e | e | e) <;> omega) (by rintro (e | e | e) <;> omega) (by rintro (e | e | e) <;> omega) (by rintro (e | e | e) <;> omega)).belowS T0)
  have B6 := Lib.hid ((PR.Below.fr B5.out F5.out B5.out.size (by rintro i (rfl | rfl | rfl) <;> omega)).trans (T0.mono (Nat.le_trans B5.out.size hs5)))
  have HN5 := Lib.hid hn5
  clear k0 k1 k2 k3 k4 k5 k6 k7 k8 k9 k10 k11 k12 T0 q1 F5 H5 K4 M4 B5 CS4 X4 hs5 l1 l2 l3 l4 L2 hp' hg' hgw' hp2' ht2' hg2' hgw2' hs2 hn5
  generalize w5.heap.size = b5 at *
  generalize ((w5.alloc _).alloc _) = W at *
  have X := Lib.hid T1
  have Y := Lib.hid T2
  clear T1 T2
  have SZ := Lib.hid (fun u hb => size_any (H6.out.belowS (w' := u) hb))
  rw [show (M'.ws.length : Int) = 128 by have h1 := GD.out.m.2.1; have h2 := HWS.out; simp only at h1; omega] at SZ
  have P1 := Lib.hid (fun u hb y hy => peek_any (H6.out.belowS (w' := u) hb) y hy)
  have P2 := Lib.hid (fun u hb y hy => peek_any (K6.out.belowS (w' := u) hb) y hy)
  have PG := Lib.hid (fun u hb => pages_any (H6.out.belowS (w' := u) hb))
  have PO := Lib.hid (fun y hy u => pageOf_any y hy u)
  have GT := Lib.hid (fun u hb i => get_tb (H6.out.belowS (w' := u) hb).tb i)
  have KEY : Hid (∀ k : Int, 0 ≤ k → peek M' k = peek M k ∨ (st = true ∧ nt = k ∧ peek M' k = nx ∧ (gP M'.pg (pageOf k)).wr = true ∧ (gP M'.pg (pageOf k)).ex = false)) := Lib.hid (by
    have h1 : M'.pg = M.pg := GD.out.m.1
    rw [h1]
    exact GD.out.m.2.2)
  have GH : Hid (GdH ⟨pc0, R0, L0, why0, ep0, home0⟩ xe ⟨⟨pc, R, L, why, ep, home⟩, M', sf, st, nt, nx⟩) := Lib.hid GD.out.h
  have hL0 := hlm.1
  unfold GdH at GH
  simp only at GH
  clear GD HWS H6 K6
  generalize peek M' = pk1 at *
  generalize peek M = pk2 at *
  generalize gP M'.pg = gp at *
  generalize M'.pg = pgs at *
  go_wp2_with fail
  go_loopw [12] (fun i wr => ∃ k : Nat, k ≤ 208 ∧ i = .int .i64 (k : Int) ∧ Below W.heap.size W wr) (fun i _ => 208 - (intOf i).toNat)
  case atStart => exact ⟨0, by omega, rfl, Below.refl _ _⟩
  case round =>
    obtain ⟨k, hk, rfl, hbk⟩ := hrel
    have hk0 : (0 : Int) ≤ k := by omega
    by_cases hlt : k < 208
    · have hlt' : (k : Int) < 208 := by omega
      have hw1 : IntKind.u32.wrap (k : Int) = k := by rw [IntKind.wrap_u32]; omega
      have P1k := Lib.hid (fun u hb => P1.out u hb (k : Int) (by omega))
      have P2k := Lib.hid (fun u hb => P2.out u hb (k : Int) (by omega))
      have POk := Lib.hid (PO.out (k : Int) (by omega))
      have KEYk := Lib.hid (KEY.out (k : Int) hk0)
      clear GH
      by_cases e : pk1 k = pk2 k
      · rw [← e] at P2k
        clear e KEYk
        generalize pk1 (k : Int) = y at *
        go_wp2_with (first | (go_at_call 18; (with_reducible refine (SZ.out _ hbk).mono ?_); rintro e w6 ⟨rfl, rfl⟩) | (go_at_call 19; (first | (with_reducible refine (P1k.out _ hbk).mono ?_) | (with_reducible refine (P2k.out _ hbk).mono ?_)); rintro e w6 ⟨rfl, hb⟩; have hbk := below_of hbk hb))
        go_roundw
        case rel => exact ⟨k + 1, by omega, by go_num, hbk⟩
        case measure => simp [intOf]; omega
      · rcases KEYk.out with e' | ⟨rfl, rfl, e1, e2, e3⟩
        · exact absurd e' e
        have GTk := Lib.hid (fun u hb => GT.out u hb (pageOf k))
        generalize gp (pageOf k) = pgk at *
        obtain ⟨gst, gex, gwr2, gow, gep⟩ := pgk
        simp only at e2 e3
        subst e1 e2 e3
        have en : (pk1 k == pk2 k) = false := by simpa using e
        generalize pk1 (k : Int) = y1 at *
        generalize pk2 (k : Int) = y2 at *
        generalize pageOf (k : Int) = pok at *
        clear KEYk e
        go_upto_region 10 with (first | (go_at_call 18; (with_reducible refine (SZ.out _ hbk).mono ?_); rintro e w6 ⟨rfl, rfl⟩) | (go_at_call 19; (first | (with_reducible refine (P1k.out _ hbk).mono ?_) | (with_reducible refine (P2k.out _ hbk).mono ?_)); rintro e w6 ⟨rfl, hb⟩; have hbk := below_of hbk hb) | (go_at_call 20; (with_reducible refine (PG.out _ hbk).mono ?_); rintro e w6 ⟨rfl, rfl⟩) | (go_at_call 22; (with_reducible refine (POk.out _).mono ?_); rintro e w6 ⟨rfl, rfl⟩) | (go_at_call 21; (with_reducible refine (GTk.out _ hbk).mono ?_); rintro e w6 ⟨rfl, hb⟩; have hbk := below_of hbk hb))
        have Yw := (Y.out.belowS hbk).alloc (.cells #[.int .u8 gst, .bool false, .bool true, .int .u16 gow, .int .u64 gep] 54)
        have Zw := Whole.new w6 54 #[.int .u8 gst, .bool false, .bool true, .int .u16 gow, .int .u64 gep]
        have hb7 : Below W.heap.size W (w6.alloc (.cells #[.int .u8 gst, .bool false, .bool true, .int .u16 gow, .int .u64 gep] 54)).drew := (hbk.alloc hbk.size _).drew
        have SX : GuS (b5 + 1) w6.heap.size k y1 (w6.alloc (.cells #[.int .u8 gst, .bool false, .bool true, .int .u16 gow, .int .u64 gep] 54)).drew := ⟨Yw.cell 1, Yw.cell 2, Yw.cell 3, Zw.cell 1, Zw.cell 2⟩
        clear Yw Zw KEY P2k POk GTk hbk hb
        generalize w6.heap.size = b6 at *
        generalize (w6.alloc _) = W7 at *
        go_region_held3 (fun u => GuS (b5 + 1) b6 k y1 u)
          (first | with_reducible exact SX | with_reducible assumption)
          (first | (go_at_call 19; (with_reducible refine (P1k.out _ hb7).mono ?_); rintro e w8 ⟨rfl, hb⟩; have SX := GuS.go SX hb; have hb8 := below_of hb7 hb))
        rename_i hHeld
        clear hHeld
        go_wp2_with fail
        go_roundw
        case rel => exact ⟨k + 1, by omega, by go_num, hb8⟩
        case measure => simp [intOf]; omega
    · obtain rfl : k = 208 := by omega
      have Xr := Lib.hid (X.out.belowS hbk)
      have Hr := Lib.hid (X6.out.belowS hbk)
      have Nr := Lib.hid (Y.out.belowS hbk)
      have BL := Lib.hid (B6.out.trans (hbk.mono B6.out.size))
      obtain ⟨k0, k1, k2, k3, k4, k5, k6, k7, k8, k9, k10, k11, k12⟩ := hart_cells Xr.out
      obtain ⟨m0, m1, m2, m3, m4, m5, m6, m7, m8, m9, m10, m11, m12⟩ := hart_cells Hr.out
      obtain ⟨o0, o1, o2, o3⟩ := note_cells Nr.out
      have q1 := Xr.out.lt
      have q2 := Hr.out.lt
      have q3 := Nr.out.lt
      have hn5 := HN5.out
      have hmx : (m : Int) ≤ 9223372036854775807 := by have := hlm.2.1; have := hlm.2.2; unfold maxLen at *; omega
      clear KEY X Y X6 P1 P2 PG PO GT B6 HN5
      rcases GH.out with ⟨rfl, rfl, rfl, rfl, rfl, rfl, rfl⟩ | ⟨rfl, rfl, rfl, hwp, hle⟩
      · simp only [List.length_nil] at hn5 hL0
        subst hn5 hL0
        clear GH
        rw [show (80 : Int) + 128 = 208 from rfl] at SZ
        go_wp2_with (first | (go_at_call 18; (with_reducible refine (SZ.out _ hbk).mono ?_); rintro e w6 ⟨rfl, rfl⟩) | (go_at_call 14; (with_reducible refine (AW.out _).mono ?_); rintro e w10 ⟨rfl, hb⟩; have HZ := Lib.hid hb; clear hb))
        go_ret
        exact ⟨rfl, BL.out.trans (HZ.out.mono BL.out.size)⟩
      · rw [show (80 : Int) + 128 = 208 from rfl] at SZ
        have hmax : (n5 : Int) ≤ max (m : Int) 16 := by omega
        clear GH
        rcases hwp with rfl | rfl
        · go_wp2_with (first | (go_at_call 18; (with_reducible refine (SZ.out _ hbk).mono ?_); rintro e w6 ⟨rfl, rfl⟩) | (go_at_call 14; (with_reducible refine (AW.out _).mono ?_); rintro e w10 ⟨rfl, hb⟩; have HZ := Lib.hid hb; clear hb))
          all_goals
            go_ret
            exact ⟨rfl, BL.out.trans (HZ.out.mono BL.out.size)⟩
        · by_cases hw : why = 0
          · subst hw
            go_wp2_with (first | (go_at_call 18; (with_reducible refine (SZ.out _ hbk).mono ?_); rintro e w6 ⟨rfl, rfl⟩) | (go_at_call 14; (with_reducible refine (AW.out _).mono ?_); rintro e w10 ⟨rfl, hb⟩; have HZ := Lib.hid hb; clear hb))
            all_goals
              go_ret
              exact ⟨rfl, BL.out.trans (HZ.out.mono BL.out.size)⟩
          · have hw' : (why == 0) = false := by simpa using hw
            go_wp2_with (first | (go_at_call 18; (with_reducible refine (SZ.out _ hbk).mono ?_); rintro e w6 ⟨rfl, rfl⟩) | (go_at_call 14; (with_reducible refine (AW.out _).mono ?_); rintro e w10 ⟨rfl, hb⟩; have HZ := Lib.hid hb; clear hb))
            all_goals
              go_ret
              exact ⟨rfl, BL.out.trans (HZ.out.mono BL.out.size)⟩
end Go.Proofs.Ytihcellcdkhadaa.WK
