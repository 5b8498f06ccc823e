/-
  A module with the first of its rels once more. Nothing here is a statement of the seed.
-/
import Derived.Test.YtdfafllldanfiaaValTw0
import Derived.Lib.AppendZeros
set_option linter.unusedSimpArgs false
set_option linter.unusedVariables false
namespace Go.Proofs.Ytdfafllldanfiaa.WK
open Go.RowKit WM NR OM OR VM VR
set_option maxHeartbeats 4000000
set_option maxRecDepth 10000
section
variable {w : World} {ea : Option Addr} {en ec : Nat} {ia : Option Addr} {im ic : Nat} {ca : Option Addr} {cn cc : Nat} {da : Option Addr} {dn dc : Nat} {ra : Option Addr} {rn rc : Nat} {m : Md}
theorem twice_C (h : RdM (· < w.heap.size) w ea en ec ia im ic ca cn cc da dn dc ra rn rc m) (hf : FineM m) (hg : VM.Good m) (z1 : szF en [im, cn, dn, rn] ≤ 2000) (y : Int) (hy : 0 ≤ y ∧ y ≤ 255) (hn0 : 0 < rn) (hr : y % 3 = 2) :
    Calls Try.prog 7 #[mV (bs m.name) ea en ec ia im ic ca cn cc da dn dc ra rn rc, .int .u8 y] w fun e w' => e = .returned (.bool true) ∧ Below w.heap.size w w' := by
  obtain ⟨l0, hl0⟩ : ∃ l0, l0 = m.rels.getD 0 ⟨0, 0, 0⟩ := ⟨_, rfl⟩
  have hv := vld_rels hg (by have := h.lens; omega)
  rw [← hl0] at hv
  have TT := told_of (k := { m with rels := m.rels ++ [l0] }) h rfl (fine_rl hf (by rw [hl0]; exact mem_getD (by have := h.lens; omega)))
  rw [chkV_bad (show (vld { m with rels := m.rels ++ [l0] }).1 ≠ 0 by omega), ne_rl] at TT
  generalize (vld { m with rels := m.rels ++ [l0] }).1 = V1 at *
  generalize (vld { m with rels := m.rels ++ [l0] }).2 = V2 at *
  have TT := Lib.hid TT
  have J0 := Lib.hid (BJ.new w (mCs (bs m.name) ea en ec ia im ic ca cn cc da dn dc ra rn rc))
  have S1 := Lib.hid (fun (u : World) (hb : Below w.heap.size w u) => size_any (h.go hb hb.size))
  have K1 := Lib.hid (fun (u : World) (hb : Below w.heap.size w u) => vcheck_any (h.go hb hb.size) hf)
  rw [chkV_good hg] at K1
  have AW := Lib.hid (fun (u : World) => awake_any u)
  have z1' : ((szF en [im, cn, dn, rn] : Nat) : Int) ≤ 2000 := by omega
  have hz5 := szF_five z1
  clear z1
  obtain ⟨l1, l2, l3, l4, l5⟩ := h.lens
  obtain ⟨⟨y1, y2, y3, y4, y5⟩, y6, y7, y8, y9⟩ := chk_ok hg.ck
  have CP := Lib.hid (fun (u : World) (hb : Below w.heap.size w u) => refCopyO_any (h.go hb hb.size) ⟨by omega, by omega, by omega, by omega, by omega⟩)
  have HE := Lib.hid h.ex
  have HI := Lib.hid h.im
  have HR := Lib.hid h.rl
  have HL := Lib.hid (And.intro l1 (And.intro l2 (And.intro l3 (And.intro l4 l5))))
  have hen : (en : Int) ≤ 8 := by omega
  have him : (im : Int) ≤ 16 := by omega
  have hrn : (rn : Int) ≤ 256 := by omega
  have hec : (en : Int) ≤ ec := by have := (reads_len h.ex).2.1; omega
  have hic : (im : Int) ≤ ic := by have := (reads_len h.im).2.1; omega
  have hrc : (rn : Int) ≤ rc := by have := h.rl.len.2.1; omega
  obtain ⟨hy0, hy1⟩ := hy
  have HL0 := Lib.hid hl0
  have HVV := Lib.hid hv
  clear hl0 hv
  have hn0' : (0 : Int) < rn := by omega
  have hen0 : ¬ (0 : Int) < en ∨ (0 : Int) < en := by omega
  have him0 : ¬ (0 : Int) < im ∨ (0 : Int) < im := by omega
  clear h hf hg l1 l2 l3 l4 l5 y1 y2 y3 y4 y5 y6 y7 y8 y9 hz5
  generalize bs m.name = x at *
  generalize ((szF en [im, cn, dn, rn] : Nat) : Int) = s1 at *
  go_enter Try.func7, Try.ntmps7
  go_upto_region 1 with fail
  generalize w.alloc (.cells (mCs x ea en ec ia im ic ca cn cc da dn dc ra rn rc) 26) = W0 at *
  obtain ⟨c0, c1, c2, c3, c4, c5⟩ := mod_cells J0.out.X
  have c6 := J0.out.X.lt
  go_upto_region 3 with (first | (go_at_call 8; (with_reducible refine (S1.out _ J0.out.B).mono ?_); rintro e w1 ⟨rfl, hb⟩; have J1 := Lib.hid (J0.out.belowS hb); obtain ⟨d0, d1, d2, d3, d4, d5⟩ := mod_cells J1.out.X; have d6 := J1.out.X.lt; clear hb) | (go_at_call 12; (with_reducible refine (K1.out _ J1.out.B).mono ?_); rintro e w2 ⟨rfl, hb⟩; have J2 := Lib.hid (J1.out.belowS hb); clear hb))
  clear c0 c1 c2 c3 c4 c5 c6 d0 d1 d2 d3 d4 d5 d6 J0 J1 S1 K1
  obtain ⟨c0, c1, c2, c3, c4, c5⟩ := mod_cells J2.out.X
  have c6 := J2.out.X.lt
  go_upto_region 4 with (go_at_call 14; (with_reducible refine (CP.out _ J2.out.B).mono ?_); rintro e w3 ⟨ea2, en2, ec2, ia2, im2, ic2, ca2, cn2, cc2, da2, dn2, dc2, ra2, rn2, rc2, rfl, hO, hb⟩; have OD := Lib.hid hO; have J3 := Lib.hid (J2.out.belowS hb); have hLn := Lib.hid hO.own.reads.lens; have hsz := hb.size; clear hb hO)
  have X4 := Whole.new w3 26 (mCs x ea2 en2 ec2 ia2 im2 ic2 ca2 cn2 cc2 da2 dn2 dc2 ra2 rn2 rc2)
  have b4 := below_new w3 (.cells (mCs x ea2 en2 ec2 ia2 im2 ic2 ca2 cn2 cc2 da2 dn2 dc2 ra2 rn2 rc2) 26)
  have O4 := OD.out.belowS b4
  have J4 := J3.out.belowS b4
  have s4 := b4.size
  clear b4
  generalize w3.alloc (.cells (mCs x ea2 en2 ec2 ia2 im2 ic2 ca2 cn2 cc2 da2 dn2 dc2 ra2 rn2 rc2) 26) = W4 at *
  clear c0 c1 c2 c3 c4 c5 c6
  obtain ⟨c0, c1, c2, c3, c4, c5⟩ := mod_cells J4.X
  have c6 := J4.X.lt
  obtain ⟨d0, d1, d2, d3, d4, d5⟩ := mod_cells X4
  have d6 := X4.lt
  have hn2 : rn2 = rn := by have := hLn.out.2.2.2.2; have := HL.out.2.2.2.2; omega
  subst hn2
  obtain ⟨g, off, hga, q1, t0, t1, t2⟩ := HR.out.at (Below.refl _ _) (show 0 < rn2 by omega)
  rw [← HL0.out] at t0 t1 t2
  simp only [Nat.zero_mul, Nat.add_zero] at t0 t1 t2
  subst hga
  have hgw : g < w.heap.size := World.block_lt_of_cell? w _ t0
  have r0 := (J4.B.cell (p := _) hgw).trans t0
  have r1 := (J4.B.cell (p := _) hgw).trans t1
  have r2 := (J4.B.cell (p := _) hgw).trans t2
  have hgz : g < W4.heap.size := World.block_lt_of_cell? W4 _ r0
  have b5 : Below W4.heap.size W4 ((W4.alloc (.cells #[.int .u8 (l0.kind : Int), .int .u16 (l0.at_ : Int), .int .u16 (l0.wh : Int)] 38)).drew) := (below_new W4 _).drew
  obtain ⟨a5, c5', u5, hr5, O5, hg5, hB5⟩ := app_rl (ty := 24) (O4.belowS b5) (by have := b5.size; omega) ⟨W4.heap.size, 0, none⟩ l0 (new_cells (u := W4) (xs := relC [l0])) (by omega)
  have X5 := box_turn (X4.belowS b5) hg5 (fun g hg => (hB5 g hg).2) (by decide)
  have J5 := (J4.belowS b5).row hg5 hB5 (by decide) (by have := J2.out.B.size; omega)
  have R6 := Lib.hid (O5.box X5 5 (.slice a5 (rn2 + 1) c5')).lt
  have J6 := Lib.hid (J5.set_ (b := w3.heap.size) (i := 5) (by have := J3.out.sz; omega) (.slice a5 (rn2 + 1) c5'))
  have X6 := Lib.hid (X5.set_ 5 (.slice a5 (rn2 + 1) c5'))
  obtain ⟨e0, e1, e2, e3, e4, e5⟩ := mod_cells X5
  have e6 := X5.lt
  have fz := X5.frozen 5
  have K4 : (fun u => MC w.heap.size x ea en ec ia im ic ca cn cc da dn dc (some ⟨g, off, none⟩) rn2 rc u ∧ u.cell? ⟨g, off, none⟩ = some (.int .u8 (l0.kind : Int)) ∧ u.cell? ⟨g, off + 1, none⟩ = some (.int .u16 (l0.at_ : Int)) ∧ u.cell? ⟨g, off + 2, none⟩ = some (.int .u16 (l0.wh : Int))) W4.drew := ⟨mod_cells J4.X, ⟨r0, r1, r2⟩⟩
  have K5 : (fun u => MC w.heap.size x ea en ec ia im ic ca cn cc da dn dc (some ⟨g, off, none⟩) rn2 rc u ∧ u.cell? ⟨g, off, none⟩ = some (.int .u8 (l0.kind : Int)) ∧ u.cell? ⟨g, off + 1, none⟩ = some (.int .u16 (l0.at_ : Int)) ∧ u.cell? ⟨g, off + 2, none⟩ = some (.int .u16 (l0.wh : Int))) ((W4.alloc (.cells #[.int .u8 (l0.kind : Int), .int .u16 (l0.at_ : Int), .int .u16 (l0.wh : Int)] 38)).drew) := ⟨mod_cells (J4.belowS b5).X, ⟨(b5.cell (p := _) hgz).trans r0, (b5.cell (p := _) hgz).trans r1, (b5.cell (p := _) hgz).trans r2⟩⟩
  have hlt5 : g < ((W4.alloc (.cells #[.int .u8 (l0.kind : Int), .int .u16 (l0.at_ : Int), .int .u16 (l0.wh : Int)] 38)).drew).heap.size := Nat.lt_of_lt_of_le hgz b5.size
  have k5 : Below w.heap.size ((W4.alloc (.cells #[.int .u8 (l0.kind : Int), .int .u16 (l0.at_ : Int), .int .u16 (l0.wh : Int)] 38)).drew) u5 := below_row (Below.refl _ _) hg5 (fun g hg => by have := (hB5 g hg).1; have := J2.out.B.size; omega) (by have := J4.B.size; have := b5.size; omega)
  have K6 : (fun u => MC w.heap.size x ea en ec ia im ic ca cn cc da dn dc (some ⟨g, off, none⟩) rn2 rc u ∧ u.cell? ⟨g, off, none⟩ = some (.int .u8 (l0.kind : Int)) ∧ u.cell? ⟨g, off + 1, none⟩ = some (.int .u16 (l0.at_ : Int)) ∧ u.cell? ⟨g, off + 2, none⟩ = some (.int .u16 (l0.wh : Int))) u5 := ⟨mod_cells J5.X, ⟨(k5.cell (p := _) hgw).trans ((b5.cell (p := _) hgz).trans r0), (k5.cell (p := _) hgw).trans ((b5.cell (p := _) hgz).trans r1), (k5.cell (p := _) hgw).trans ((b5.cell (p := _) hgz).trans r2)⟩⟩
  have K7 : (fun u => MC w.heap.size x ea en ec ia im ic ca cn cc da dn dc (some ⟨g, off, none⟩) rn2 rc u ∧ u.cell? ⟨g, off, none⟩ = some (.int .u8 (l0.kind : Int)) ∧ u.cell? ⟨g, off + 1, none⟩ = some (.int .u16 (l0.at_ : Int)) ∧ u.cell? ⟨g, off + 2, none⟩ = some (.int .u16 (l0.wh : Int))) (u5.setCell ⟨w3.heap.size, 5, none⟩ (.slice a5 (rn2 + 1) c5')) := ⟨mod_cells J6.out.X, ⟨((below_set (B := w.heap.size) (Below.refl _ u5) (b := w3.heap.size) (i := 5) (by have := J3.out.sz; omega) _).cell (p := _) hgw).trans ((k5.cell (p := _) hgw).trans ((b5.cell (p := _) hgz).trans r0)), ((below_set (B := w.heap.size) (Below.refl _ u5) (b := w3.heap.size) (i := 5) (by have := J3.out.sz; omega) _).cell (p := _) hgw).trans ((k5.cell (p := _) hgw).trans ((b5.cell (p := _) hgz).trans r1)), ((below_set (B := w.heap.size) (Below.refl _ u5) (b := w3.heap.size) (i := 5) (by have := J3.out.sz; omega) _).cell (p := _) hgw).trans ((k5.cell (p := _) hgw).trans ((b5.cell (p := _) hgz).trans r2))⟩⟩
  clear X4 O4 J4 b5 O5 X5 J5 OD J3 hg5 hB5 k5 hlt5 CP s4 hLn HE HI HR
  rcases HVV.out with rfl | rfl
  · skip
    rcases hen0 with hen0 | hen0
    · skip
      rcases him0 with him0 | him0
      · skip
        go_upto_region 9 with fail
        refine wp_region_held_drew (S := fun u => MC w.heap.size x ea en ec ia im ic ca cn cc da dn dc (some ⟨g, off, none⟩) rn2 rc u ∧ u.cell? ⟨g, off, none⟩ = some (.int .u8 (l0.kind : Int)) ∧ u.cell? ⟨g, off + 1, none⟩ = some (.int .u16 (l0.at_ : Int)) ∧ u.cell? ⟨g, off + 2, none⟩ = some (.int .u16 (l0.wh : Int))) (by kernel_rfl) K4 (fun hHeld => ?_)
        refine wpAnyH_take (i := 0) (v := ?tv1) rfl (by kernel_rfl) (by kernel_rfl) (by kernel_rfl) (fun _ _ _ h => h) (Or.inl ⟨by rfl, ?ty1⟩) (by assumption) ?tr1
        case ty1 =>
          intro u hSu
          obtain ⟨⟨s0, s1, s2, s3, s4, s5⟩, s6, s7, s8⟩ := hSu
          go_simp
          try with_reducible rfl
        try simp only [Act.put, List.getElem_toArray, List.getElem_cons_succ, List.getElem_cons_zero, List.setIfInBounds_toArray, List.set_cons_zero, List.set_cons_succ]
        refine wpAnyH_take (i := 2) (v := ?tv2) rfl (by kernel_rfl) (by kernel_rfl) (by kernel_rfl) (fun _ _ _ h => h) (Or.inl ⟨by rfl, ?ty2⟩) (by assumption) ?tr2
        case ty2 =>
          intro u hSu
          obtain ⟨⟨s0, s1, s2, s3, s4, s5⟩, s6, s7, s8⟩ := hSu
          go_simp
          try with_reducible rfl
        try simp only [Act.put, List.getElem_toArray, List.getElem_cons_succ, List.getElem_cons_zero, List.setIfInBounds_toArray, List.set_cons_zero, List.set_cons_succ]
        refine wpAnyH_take (i := 3) (v := ?tv3) rfl (by kernel_rfl) (by kernel_rfl) (by kernel_rfl) (fun _ _ _ h => h) (Or.inl ⟨by rfl, ?ty3⟩) (by assumption) ?tr3
        case ty3 =>
          intro u hSu
          obtain ⟨⟨s0, s1, s2, s3, s4, s5⟩, s6, s7, s8⟩ := hSu
          go_simp
          try with_reducible rfl
        try simp only [Act.put, List.getElem_toArray, List.getElem_cons_succ, List.getElem_cons_zero, List.setIfInBounds_toArray, List.set_cons_zero, List.set_cons_succ]
        refine wpAnyH_take (i := 4) (v := ?tv4) rfl (by kernel_rfl) (by kernel_rfl) (by kernel_rfl) (fun _ _ _ h => h) (Or.inl ⟨by rfl, ?ty4⟩) (by assumption) ?tr4
        case ty4 =>
          intro u hSu
          obtain ⟨⟨s0, s1, s2, s3, s4, s5⟩, s6, s7, s8⟩ := hSu
          go_simp
          try with_reducible rfl
        try simp only [Act.put, List.getElem_toArray, List.getElem_cons_succ, List.getElem_cons_zero, List.setIfInBounds_toArray, List.set_cons_zero, List.set_cons_succ]
        refine wpAnyH_take (i := 5) (v := ?tv5) rfl (by kernel_rfl) (by kernel_rfl) (by kernel_rfl) (fun _ _ _ h => h) (Or.inl ⟨by rfl, ?ty5⟩) (by assumption) ?tr5
        case ty5 =>
          intro u hSu
          obtain ⟨⟨s0, s1, s2, s3, s4, s5⟩, s6, s7, s8⟩ := hSu
          go_simp
          try with_reducible rfl
        try simp only [Act.put, List.getElem_toArray, List.getElem_cons_succ, List.getElem_cons_zero, List.setIfInBounds_toArray, List.set_cons_zero, List.set_cons_succ]
        refine wpAnyH_ready (rs := [1, 6]) (by kernel_rfl) (by simp) ?_
        refine AllReadyH.cons rfl ?_ (AllReadyH.cons rfl ?_ AllReadyH.nil)
        · intro K hK
          go_simp
          refine hK.out _ _ K4 (fun hHeld => ?_)
          clear hK K
          try simp only [Act.put, List.getElem_toArray, List.getElem_cons_succ, List.getElem_cons_zero, List.setIfInBounds_toArray, List.set_cons_zero, List.set_cons_succ]
          refine wpAnyH_ready (rs := [6]) (by kernel_rfl) (by simp) ?_
          refine AllReadyH.cons rfl (fun K hK => ?_) AllReadyH.nil
          go_simp
          refine hK.out _ _ K5 (fun hHeld => ?_)
          clear hK K
          try simp only [Act.put, List.getElem_toArray, List.getElem_cons_succ, List.getElem_cons_zero, List.setIfInBounds_toArray, List.set_cons_zero, List.set_cons_succ]
          refine wpAnyH_ready (rs := [7]) (by kernel_rfl) (by simp) ?_
          refine AllReadyH.cons rfl (fun K hK => ?_) AllReadyH.nil
          refine Lib.wp_append_run _ _ _ _ _ rfl (.slice ra2 rn2 rc2) (.slice (some ⟨W4.heap.size, 0, none⟩) 1 1) rfl rfl _ _ hr5 ?_
          refine hK.out _ _ K6 (fun hHeld => ?_)
          clear hK K
          try simp only [Act.put, List.getElem_toArray, List.getElem_cons_succ, List.getElem_cons_zero, List.setIfInBounds_toArray, List.set_cons_zero, List.set_cons_succ]
          refine wpAnyH_take (i := 8) (v := ?tv6) rfl (by kernel_rfl) (by kernel_rfl) (by kernel_rfl) (fun _ _ _ h => h) (Or.inl ⟨by rfl, ?ty6⟩) (by assumption) ?tr6
          case ty6 =>
            intro u hSu
            obtain ⟨⟨s0, s1, s2, s3, s4, s5⟩, s6, s7, s8⟩ := hSu
            go_simp
            try with_reducible rfl
          try simp only [Act.put, List.getElem_toArray, List.getElem_cons_succ, List.getElem_cons_zero, List.setIfInBounds_toArray, List.set_cons_zero, List.set_cons_succ]
          refine wpAnyH_ready (rs := [9]) (by kernel_rfl) (by simp) ?_
          refine AllReadyH.cons rfl (fun K hK => ?_) AllReadyH.nil
          go_simp
          refine hK.out _ _ K7 (fun hHeld => ?_)
          clear hK K
          try simp only [Act.put, List.getElem_toArray, List.getElem_cons_succ, List.getElem_cons_zero, List.setIfInBounds_toArray, List.set_cons_zero, List.set_cons_succ]
          refine wpAnyH_done (by kernel_rfl) ?_ _
          clear e0 e1 e2 e3 e4 e5 e6 fz c0 c1 c2 c3 c4 c5 c6 d0 d1 d2 d3 d4 d5 d6 K4 K5 K6 K7 hr5 hHeld
          generalize u5.setCell ⟨w3.heap.size, 5, none⟩ (.slice a5 (rn2 + 1) c5') = U at *
          obtain ⟨c0, c1, c2, c3, c4, c5⟩ := mod_cells J6.out.X
          have c6 := J6.out.X.lt
          obtain ⟨d0, d1, d2, d3, d4, d5⟩ := mod_cells X6.out
          have d6 := X6.out.lt
          all_goals
            go_wp2_with (first | (go_at_call 15; (with_reducible refine (TT.out.mo _ _ _ _ _ _ _ _ _ _ _ _ _ _ _ _ R6.out).mono ?_); rintro e w6 ⟨rfl, hb⟩; have J7 := Lib.hid (J6.out.belowS hb); have X7 := Lib.hid (X6.out.belowS hb); have R7 := Lib.hid (RdM.go R6.out hb hb.size); obtain ⟨p0, p1, p2, p3, p4, p5⟩ := mod_cells J7.out.X; have p6 := J7.out.X.lt; obtain ⟨q0, q1, q2, q3, q4, q5⟩ := mod_cells X7.out; have q6 := X7.out.lt; clear hb) | (go_at_call 16; (with_reducible refine (TT.out.sa _ _ _ _ _ _ _ _ _ _ _ _ _ _ _ _ J7.out.B R7.out).mono ?_); rintro e w7 ⟨rfl, hb⟩; have J8 := Lib.hid (J7.out.belowS hb); have X8 := Lib.hid (X7.out.belowS hb); have R8 := Lib.hid (RdM.go R7.out hb hb.size); obtain ⟨t0, t1, t2, t3, t4, t5⟩ := mod_cells X8.out; have t6 := X8.out.lt; clear hb) | (go_at_call 12; (with_reducible refine (TT.out.ch _ _ _ _ _ _ _ _ _ _ _ _ _ _ _ _ R8.out).mono ?_); rintro e w8 ⟨rfl, hb⟩; have J9 := Lib.hid (J8.out.belowS hb); clear hb) | (go_at_call 9; (with_reducible refine (AW.out _).mono ?_); rintro e w9 ⟨rfl, hb⟩; have J10 := Lib.hid (J9.out.belowS hb); clear hb))
            go_ret
            exact ⟨rfl, J10.out.B⟩
        · intro K hK
          go_simp
          refine hK.out _ _ K5 (fun hHeld => ?_)
          clear hK K
          try simp only [Act.put, List.getElem_toArray, List.getElem_cons_succ, List.getElem_cons_zero, List.setIfInBounds_toArray, List.set_cons_zero, List.set_cons_succ]
          refine wpAnyH_ready (rs := [1]) (by kernel_rfl) (by simp) ?_
          refine AllReadyH.cons rfl (fun K hK => ?_) AllReadyH.nil
          go_simp
          refine hK.out _ _ K5 (fun hHeld => ?_)
          clear hK K
          try simp only [Act.put, List.getElem_toArray, List.getElem_cons_succ, List.getElem_cons_zero, List.setIfInBounds_toArray, List.set_cons_zero, List.set_cons_succ]
          refine wpAnyH_ready (rs := [7]) (by kernel_rfl) (by simp) ?_
          refine AllReadyH.cons rfl (fun K hK => ?_) AllReadyH.nil
          refine Lib.wp_append_run _ _ _ _ _ rfl (.slice ra2 rn2 rc2) (.slice (some ⟨W4.heap.size, 0, none⟩) 1 1) rfl rfl _ _ hr5 ?_
          refine hK.out _ _ K6 (fun hHeld => ?_)
          clear hK K
          try simp only [Act.put, List.getElem_toArray, List.getElem_cons_succ, List.getElem_cons_zero, List.setIfInBounds_toArray, List.set_cons_zero, List.set_cons_succ]
          refine wpAnyH_take (i := 8) (v := ?tv7) rfl (by kernel_rfl) (by kernel_rfl) (by kernel_rfl) (fun _ _ _ h => h) (Or.inl ⟨by rfl, ?ty7⟩) (by assumption) ?tr7
          case ty7 =>
            intro u hSu
            obtain ⟨⟨s0, s1, s2, s3, s4, s5⟩, s6, s7, s8⟩ := hSu
            go_simp
            try with_reducible rfl
          try simp only [Act.put, List.getElem_toArray, List.getElem_cons_succ, List.getElem_cons_zero, List.setIfInBounds_toArray, List.set_cons_zero, List.set_cons_succ]
          refine wpAnyH_ready (rs := [9]) (by kernel_rfl) (by simp) ?_
          refine AllReadyH.cons rfl (fun K hK => ?_) AllReadyH.nil
          go_simp
          refine hK.out _ _ K7 (fun hHeld => ?_)
          clear hK K
          try simp only [Act.put, List.getElem_toArray, List.getElem_cons_succ, List.getElem_cons_zero, List.setIfInBounds_toArray, List.set_cons_zero, List.set_cons_succ]
          refine wpAnyH_done (by kernel_rfl) ?_ _
          clear e0 e1 e2 e3 e4 e5 e6 fz c0 c1 c2 c3 c4 c5 c6 d0 d1 d2 d3 d4 d5 d6 K4 K5 K6 K7 hr5 hHeld
          generalize u5.setCell ⟨w3.heap.size, 5, none⟩ (.slice a5 (rn2 + 1) c5') = U at *
          obtain ⟨c0, c1, c2, c3, c4, c5⟩ := mod_cells J6.out.X
          have c6 := J6.out.X.lt
          obtain ⟨d0, d1, d2, d3, d4, d5⟩ := mod_cells X6.out
          have d6 := X6.out.lt
          all_goals
            go_wp2_with (first | (go_at_call 15; (with_reducible refine (TT.out.mo _ _ _ _ _ _ _ _ _ _ _ _ _ _ _ _ R6.out).mono ?_); rintro e w6 ⟨rfl, hb⟩; have J7 := Lib.hid (J6.out.belowS hb); have X7 := Lib.hid (X6.out.belowS hb); have R7 := Lib.hid (RdM.go R6.out hb hb.size); obtain ⟨p0, p1, p2, p3, p4, p5⟩ := mod_cells J7.out.X; have p6 := J7.out.X.lt; obtain ⟨q0, q1, q2, q3, q4, q5⟩ := mod_cells X7.out; have q6 := X7.out.lt; clear hb) | (go_at_call 16; (with_reducible refine (TT.out.sa _ _ _ _ _ _ _ _ _ _ _ _ _ _ _ _ J7.out.B R7.out).mono ?_); rintro e w7 ⟨rfl, hb⟩; have J8 := Lib.hid (J7.out.belowS hb); have X8 := Lib.hid (X7.out.belowS hb); have R8 := Lib.hid (RdM.go R7.out hb hb.size); obtain ⟨t0, t1, t2, t3, t4, t5⟩ := mod_cells X8.out; have t6 := X8.out.lt; clear hb) | (go_at_call 12; (with_reducible refine (TT.out.ch _ _ _ _ _ _ _ _ _ _ _ _ _ _ _ _ R8.out).mono ?_); rintro e w8 ⟨rfl, hb⟩; have J9 := Lib.hid (J8.out.belowS hb); clear hb) | (go_at_call 9; (with_reducible refine (AW.out _).mono ?_); rintro e w9 ⟨rfl, hb⟩; have J10 := Lib.hid (J9.out.belowS hb); clear hb))
            go_ret
            exact ⟨rfl, J10.out.B⟩
      · skip
        go_upto_region 9 with fail
        refine wp_region_held_drew (S := fun u => MC w.heap.size x ea en ec ia im ic ca cn cc da dn dc (some ⟨g, off, none⟩) rn2 rc u ∧ u.cell? ⟨g, off, none⟩ = some (.int .u8 (l0.kind : Int)) ∧ u.cell? ⟨g, off + 1, none⟩ = some (.int .u16 (l0.at_ : Int)) ∧ u.cell? ⟨g, off + 2, none⟩ = some (.int .u16 (l0.wh : Int))) (by kernel_rfl) K4 (fun hHeld => ?_)
        refine wpAnyH_take (i := 0) (v := ?tv8) rfl (by kernel_rfl) (by kernel_rfl) (by kernel_rfl) (fun _ _ _ h => h) (Or.inl ⟨by rfl, ?ty8⟩) (by assumption) ?tr8
        case ty8 =>
          intro u hSu
          obtain ⟨⟨s0, s1, s2, s3, s4, s5⟩, s6, s7, s8⟩ := hSu
          go_simp
          try with_reducible rfl
        try simp only [Act.put, List.getElem_toArray, List.getElem_cons_succ, List.getElem_cons_zero, List.setIfInBounds_toArray, List.set_cons_zero, List.set_cons_succ]
        refine wpAnyH_take (i := 2) (v := ?tv9) rfl (by kernel_rfl) (by kernel_rfl) (by kernel_rfl) (fun _ _ _ h => h) (Or.inl ⟨by rfl, ?ty9⟩) (by assumption) ?tr9
        case ty9 =>
          intro u hSu
          obtain ⟨⟨s0, s1, s2, s3, s4, s5⟩, s6, s7, s8⟩ := hSu
          go_simp
          try with_reducible rfl
        try simp only [Act.put, List.getElem_toArray, List.getElem_cons_succ, List.getElem_cons_zero, List.setIfInBounds_toArray, List.set_cons_zero, List.set_cons_succ]
        refine wpAnyH_take (i := 3) (v := ?tv10) rfl (by kernel_rfl) (by kernel_rfl) (by kernel_rfl) (fun _ _ _ h => h) (Or.inl ⟨by rfl, ?ty10⟩) (by assumption) ?tr10
        case ty10 =>
          intro u hSu
          obtain ⟨⟨s0, s1, s2, s3, s4, s5⟩, s6, s7, s8⟩ := hSu
          go_simp
          try with_reducible rfl
        try simp only [Act.put, List.getElem_toArray, List.getElem_cons_succ, List.getElem_cons_zero, List.setIfInBounds_toArray, List.set_cons_zero, List.set_cons_succ]
        refine wpAnyH_take (i := 4) (v := ?tv11) rfl (by kernel_rfl) (by kernel_rfl) (by kernel_rfl) (fun _ _ _ h => h) (Or.inl ⟨by rfl, ?ty11⟩) (by assumption) ?tr11
        case ty11 =>
          intro u hSu
          obtain ⟨⟨s0, s1, s2, s3, s4, s5⟩, s6, s7, s8⟩ := hSu
          go_simp
          try with_reducible rfl
        try simp only [Act.put, List.getElem_toArray, List.getElem_cons_succ, List.getElem_cons_zero, List.setIfInBounds_toArray, List.set_cons_zero, List.set_cons_succ]
        refine wpAnyH_take (i := 5) (v := ?tv12) rfl (by kernel_rfl) (by kernel_rfl) (by kernel_rfl) (fun _ _ _ h => h) (Or.inl ⟨by rfl, ?ty12⟩) (by assumption) ?tr12
        case ty12 =>
          intro u hSu
          obtain ⟨⟨s0, s1, s2, s3, s4, s5⟩, s6, s7, s8⟩ := hSu
          go_simp
          try with_reducible rfl
        try simp only [Act.put, List.getElem_toArray, List.getElem_cons_succ, List.getElem_cons_zero, List.setIfInBounds_toArray, List.set_cons_zero, List.set_cons_succ]
        refine wpAnyH_ready (rs := [1, 6]) (by kernel_rfl) (by simp) ?_
        refine AllReadyH.cons rfl ?_ (AllReadyH.cons rfl ?_ AllReadyH.nil)
        · intro K hK
          go_simp
          refine hK.out _ _ K4 (fun hHeld => ?_)
          clear hK K
          try simp only [Act.put, List.getElem_toArray, List.getElem_cons_succ, List.getElem_cons_zero, List.setIfInBounds_toArray, List.set_cons_zero, List.set_cons_succ]
          refine wpAnyH_ready (rs := [6]) (by kernel_rfl) (by simp) ?_
          refine AllReadyH.cons rfl (fun K hK => ?_) AllReadyH.nil
          go_simp
          refine hK.out _ _ K5 (fun hHeld => ?_)
          clear hK K
          try simp only [Act.put, List.getElem_toArray, List.getElem_cons_succ, List.getElem_cons_zero, List.setIfInBounds_toArray, List.set_cons_zero, List.set_cons_succ]
          refine wpAnyH_ready (rs := [7]) (by kernel_rfl) (by simp) ?_
          refine AllReadyH.cons rfl (fun K hK => ?_) AllReadyH.nil
          refine Lib.wp_append_run _ _ _ _ _ rfl (.slice ra2 rn2 rc2) (.slice (some ⟨W4.heap.size, 0, none⟩) 1 1) rfl rfl _ _ hr5 ?_
          refine hK.out _ _ K6 (fun hHeld => ?_)
          clear hK K
          try simp only [Act.put, List.getElem_toArray, List.getElem_cons_succ, List.getElem_cons_zero, List.setIfInBounds_toArray, List.set_cons_zero, List.set_cons_succ]
          refine wpAnyH_take (i := 8) (v := ?tv13) rfl (by kernel_rfl) (by kernel_rfl) (by kernel_rfl) (fun _ _ _ h => h) (Or.inl ⟨by rfl, ?ty13⟩) (by assumption) ?tr13
          case ty13 =>
            intro u hSu
            obtain ⟨⟨s0, s1, s2, s3, s4, s5⟩, s6, s7, s8⟩ := hSu
            go_simp
            try with_reducible rfl
          try simp only [Act.put, List.getElem_toArray, List.getElem_cons_succ, List.getElem_cons_zero, List.setIfInBounds_toArray, List.set_cons_zero, List.set_cons_succ]
          refine wpAnyH_ready (rs := [9]) (by kernel_rfl) (by simp) ?_
          refine AllReadyH.cons rfl (fun K hK => ?_) AllReadyH.nil
          go_simp
          refine hK.out _ _ K7 (fun hHeld => ?_)
          clear hK K
          try simp only [Act.put, List.getElem_toArray, List.getElem_cons_succ, List.getElem_cons_zero, List.setIfInBounds_toArray, List.set_cons_zero, List.set_cons_succ]
          refine wpAnyH_done (by kernel_rfl) ?_ _
          clear e0 e1 e2 e3 e4 e5 e6 fz c0 c1 c2 c3 c4 c5 c6 d0 d1 d2 d3 d4 d5 d6 K4 K5 K6 K7 hr5 hHeld
          generalize u5.setCell ⟨w3.heap.size, 5, none⟩ (.slice a5 (rn2 + 1) c5') = U at *
          obtain ⟨c0, c1, c2, c3, c4, c5⟩ := mod_cells J6.out.X
          have c6 := J6.out.X.lt
          obtain ⟨d0, d1, d2, d3, d4, d5⟩ := mod_cells X6.out
          have d6 := X6.out.lt
          all_goals
            go_wp2_with (first | (go_at_call 15; (with_reducible refine (TT.out.mo _ _ _ _ _ _ _ _ _ _ _ _ _ _ _ _ R6.out).mono ?_); rintro e w6 ⟨rfl, hb⟩; have J7 := Lib.hid (J6.out.belowS hb); have X7 := Lib.hid (X6.out.belowS hb); have R7 := Lib.hid (RdM.go R6.out hb hb.size); obtain ⟨p0, p1, p2, p3, p4, p5⟩ := mod_cells J7.out.X; have p6 := J7.out.X.lt; obtain ⟨q0, q1, q2, q3, q4, q5⟩ := mod_cells X7.out; have q6 := X7.out.lt; clear hb) | (go_at_call 16; (with_reducible refine (TT.out.sa _ _ _ _ _ _ _ _ _ _ _ _ _ _ _ _ J7.out.B R7.out).mono ?_); rintro e w7 ⟨rfl, hb⟩; have J8 := Lib.hid (J7.out.belowS hb); have X8 := Lib.hid (X7.out.belowS hb); have R8 := Lib.hid (RdM.go R7.out hb hb.size); obtain ⟨t0, t1, t2, t3, t4, t5⟩ := mod_cells X8.out; have t6 := X8.out.lt; clear hb) | (go_at_call 12; (with_reducible refine (TT.out.ch _ _ _ _ _ _ _ _ _ _ _ _ _ _ _ _ R8.out).mono ?_); rintro e w8 ⟨rfl, hb⟩; have J9 := Lib.hid (J8.out.belowS hb); clear hb) | (go_at_call 9; (with_reducible refine (AW.out _).mono ?_); rintro e w9 ⟨rfl, hb⟩; have J10 := Lib.hid (J9.out.belowS hb); clear hb))
            go_ret
            exact ⟨rfl, J10.out.B⟩
        · intro K hK
          go_simp
          refine hK.out _ _ K5 (fun hHeld => ?_)
          clear hK K
          try simp only [Act.put, List.getElem_toArray, List.getElem_cons_succ, List.getElem_cons_zero, List.setIfInBounds_toArray, List.set_cons_zero, List.set_cons_succ]
          refine wpAnyH_ready (rs := [1]) (by kernel_rfl) (by simp) ?_
          refine AllReadyH.cons rfl (fun K hK => ?_) AllReadyH.nil
          go_simp
          refine hK.out _ _ K5 (fun hHeld => ?_)
          clear hK K
          try simp only [Act.put, List.getElem_toArray, List.getElem_cons_succ, List.getElem_cons_zero, List.setIfInBounds_toArray, List.set_cons_zero, List.set_cons_succ]
          refine wpAnyH_ready (rs := [7]) (by kernel_rfl) (by simp) ?_
          refine AllReadyH.cons rfl (fun K hK => ?_) AllReadyH.nil
          refine Lib.wp_append_run _ _ _ _ _ rfl (.slice ra2 rn2 rc2) (.slice (some ⟨W4.heap.size, 0, none⟩) 1 1) rfl rfl _ _ hr5 ?_
          refine hK.out _ _ K6 (fun hHeld => ?_)
          clear hK K
          try simp only [Act.put, List.getElem_toArray, List.getElem_cons_succ, List.getElem_cons_zero, List.setIfInBounds_toArray, List.set_cons_zero, List.set_cons_succ]
          refine wpAnyH_take (i := 8) (v := ?tv14) rfl (by kernel_rfl) (by kernel_rfl) (by kernel_rfl) (fun _ _ _ h => h) (Or.inl ⟨by rfl, ?ty14⟩) (by assumption) ?tr14
          case ty14 =>
            intro u hSu
            obtain ⟨⟨s0, s1, s2, s3, s4, s5⟩, s6, s7, s8⟩ := hSu
            go_simp
            try with_reducible rfl
          try simp only [Act.put, List.getElem_toArray, List.getElem_cons_succ, List.getElem_cons_zero, List.setIfInBounds_toArray, List.set_cons_zero, List.set_cons_succ]
          refine wpAnyH_ready (rs := [9]) (by kernel_rfl) (by simp) ?_
          refine AllReadyH.cons rfl (fun K hK => ?_) AllReadyH.nil
          go_simp
          refine hK.out _ _ K7 (fun hHeld => ?_)
          clear hK K
          try simp only [Act.put, List.getElem_toArray, List.getElem_cons_succ, List.getElem_cons_zero, List.setIfInBounds_toArray, List.set_cons_zero, List.set_cons_succ]
          refine wpAnyH_done (by kernel_rfl) ?_ _
          clear e0 e1 e2 e3 e4 e5 e6 fz c0 c1 c2 c3 c4 c5 c6 d0 d1 d2 d3 d4 d5 d6 K4 K5 K6 K7 hr5 hHeld
          generalize u5.setCell ⟨w3.heap.size, 5, none⟩ (.slice a5 (rn2 + 1) c5') = U at *
          obtain ⟨c0, c1, c2, c3, c4, c5⟩ := mod_cells J6.out.X
          have c6 := J6.out.X.lt
          obtain ⟨d0, d1, d2, d3, d4, d5⟩ := mod_cells X6.out
          have d6 := X6.out.lt
          all_goals
            go_wp2_with (first | (go_at_call 15; (with_reducible refine (TT.out.mo _ _ _ _ _ _ _ _ _ _ _ _ _ _ _ _ R6.out).mono ?_); rintro e w6 ⟨rfl, hb⟩; have J7 := Lib.hid (J6.out.belowS hb); have X7 := Lib.hid (X6.out.belowS hb); have R7 := Lib.hid (RdM.go R6.out hb hb.size); obtain ⟨p0, p1, p2, p3, p4, p5⟩ := mod_cells J7.out.X; have p6 := J7.out.X.lt; obtain ⟨q0, q1, q2, q3, q4, q5⟩ := mod_cells X7.out; have q6 := X7.out.lt; clear hb) | (go_at_call 16; (with_reducible refine (TT.out.sa _ _ _ _ _ _ _ _ _ _ _ _ _ _ _ _ J7.out.B R7.out).mono ?_); rintro e w7 ⟨rfl, hb⟩; have J8 := Lib.hid (J7.out.belowS hb); have X8 := Lib.hid (X7.out.belowS hb); have R8 := Lib.hid (RdM.go R7.out hb hb.size); obtain ⟨t0, t1, t2, t3, t4, t5⟩ := mod_cells X8.out; have t6 := X8.out.lt; clear hb) | (go_at_call 12; (with_reducible refine (TT.out.ch _ _ _ _ _ _ _ _ _ _ _ _ _ _ _ _ R8.out).mono ?_); rintro e w8 ⟨rfl, hb⟩; have J9 := Lib.hid (J8.out.belowS hb); clear hb) | (go_at_call 9; (with_reducible refine (AW.out _).mono ?_); rintro e w9 ⟨rfl, hb⟩; have J10 := Lib.hid (J9.out.belowS hb); clear hb))
            go_ret
            exact ⟨rfl, J10.out.B⟩
    · skip
      rcases him0 with him0 | him0
      · skip
        go_upto_region 9 with fail
        refine wp_region_held_drew (S := fun u => MC w.heap.size x ea en ec ia im ic ca cn cc da dn dc (some ⟨g, off, none⟩) rn2 rc u ∧ u.cell? ⟨g, off, none⟩ = some (.int .u8 (l0.kind : Int)) ∧ u.cell? ⟨g, off + 1, none⟩ = some (.int .u16 (l0.at_ : Int)) ∧ u.cell? ⟨g, off + 2, none⟩ = some (.int .u16 (l0.wh : Int))) (by kernel_rfl) K4 (fun hHeld => ?_)
        refine wpAnyH_take (i := 0) (v := ?tv15) rfl (by kernel_rfl) (by kernel_rfl) (by kernel_rfl) (fun _ _ _ h => h) (Or.inl ⟨by rfl, ?ty15⟩) (by assumption) ?tr15
        case ty15 =>
          intro u hSu
          obtain ⟨⟨s0, s1, s2, s3, s4, s5⟩, s6, s7, s8⟩ := hSu
          go_simp
          try with_reducible rfl
        try simp only [Act.put, List.getElem_toArray, List.getElem_cons_succ, List.getElem_cons_zero, List.setIfInBounds_toArray, List.set_cons_zero, List.set_cons_succ]
        refine wpAnyH_take (i := 2) (v := ?tv16) rfl (by kernel_rfl) (by kernel_rfl) (by kernel_rfl) (fun _ _ _ h => h) (Or.inl ⟨by rfl, ?ty16⟩) (by assumption) ?tr16
        case ty16 =>
          intro u hSu
          obtain ⟨⟨s0, s1, s2, s3, s4, s5⟩, s6, s7, s8⟩ := hSu
          go_simp
          try with_reducible rfl
        try simp only [Act.put, List.getElem_toArray, List.getElem_cons_succ, List.getElem_cons_zero, List.setIfInBounds_toArray, List.set_cons_zero, List.set_cons_succ]
        refine wpAnyH_take (i := 3) (v := ?tv17) rfl (by kernel_rfl) (by kernel_rfl) (by kernel_rfl) (fun _ _ _ h => h) (Or.inl ⟨by rfl, ?ty17⟩) (by assumption) ?tr17
        case ty17 =>
          intro u hSu
          obtain ⟨⟨s0, s1, s2, s3, s4, s5⟩, s6, s7, s8⟩ := hSu
          go_simp
          try with_reducible rfl
        try simp only [Act.put, List.getElem_toArray, List.getElem_cons_succ, List.getElem_cons_zero, List.setIfInBounds_toArray, List.set_cons_zero, List.set_cons_succ]
        refine wpAnyH_take (i := 4) (v := ?tv18) rfl (by kernel_rfl) (by kernel_rfl) (by kernel_rfl) (fun _ _ _ h => h) (Or.inl ⟨by rfl, ?ty18⟩) (by assumption) ?tr18
        case ty18 =>
          intro u hSu
          obtain ⟨⟨s0, s1, s2, s3, s4, s5⟩, s6, s7, s8⟩ := hSu
          go_simp
          try with_reducible rfl
        try simp only [Act.put, List.getElem_toArray, List.getElem_cons_succ, List.getElem_cons_zero, List.setIfInBounds_toArray, List.set_cons_zero, List.set_cons_succ]
        refine wpAnyH_take (i := 5) (v := ?tv19) rfl (by kernel_rfl) (by kernel_rfl) (by kernel_rfl) (fun _ _ _ h => h) (Or.inl ⟨by rfl, ?ty19⟩) (by assumption) ?tr19
        case ty19 =>
          intro u hSu
          obtain ⟨⟨s0, s1, s2, s3, s4, s5⟩, s6, s7, s8⟩ := hSu
          go_simp
          try with_reducible rfl
        try simp only [Act.put, List.getElem_toArray, List.getElem_cons_succ, List.getElem_cons_zero, List.setIfInBounds_toArray, List.set_cons_zero, List.set_cons_succ]
        refine wpAnyH_ready (rs := [1, 6]) (by kernel_rfl) (by simp) ?_
        refine AllReadyH.cons rfl ?_ (AllReadyH.cons rfl ?_ AllReadyH.nil)
        · intro K hK
          go_simp
          refine hK.out _ _ K4 (fun hHeld => ?_)
          clear hK K
          try simp only [Act.put, List.getElem_toArray, List.getElem_cons_succ, List.getElem_cons_zero, List.setIfInBounds_toArray, List.set_cons_zero, List.set_cons_succ]
          refine wpAnyH_ready (rs := [6]) (by kernel_rfl) (by simp) ?_
          refine AllReadyH.cons rfl (fun K hK => ?_) AllReadyH.nil
          go_simp
          refine hK.out _ _ K5 (fun hHeld => ?_)
          clear hK K
          try simp only [Act.put, List.getElem_toArray, List.getElem_cons_succ, List.getElem_cons_zero, List.setIfInBounds_toArray, List.set_cons_zero, List.set_cons_succ]
          refine wpAnyH_ready (rs := [7]) (by kernel_rfl) (by simp) ?_
          refine AllReadyH.cons rfl (fun K hK => ?_) AllReadyH.nil
          refine Lib.wp_append_run _ _ _ _ _ rfl (.slice ra2 rn2 rc2) (.slice (some ⟨W4.heap.size, 0, none⟩) 1 1) rfl rfl _ _ hr5 ?_
          refine hK.out _ _ K6 (fun hHeld => ?_)
          clear hK K
          try simp only [Act.put, List.getElem_toArray, List.getElem_cons_succ, List.getElem_cons_zero, List.setIfInBounds_toArray, List.set_cons_zero, List.set_cons_succ]
          refine wpAnyH_take (i := 8) (v := ?tv20) rfl (by kernel_rfl) (by kernel_rfl) (by kernel_rfl) (fun _ _ _ h => h) (Or.inl ⟨by rfl, ?ty20⟩) (by assumption) ?tr20
          case ty20 =>
            intro u hSu
            obtain ⟨⟨s0, s1, s2, s3, s4, s5⟩, s6, s7, s8⟩ := hSu
            go_simp
            try with_reducible rfl
          try simp only [Act.put, List.getElem_toArray, List.getElem_cons_succ, List.getElem_cons_zero, List.setIfInBounds_toArray, List.set_cons_zero, List.set_cons_succ]
          refine wpAnyH_ready (rs := [9]) (by kernel_rfl) (by simp) ?_
          refine AllReadyH.cons rfl (fun K hK => ?_) AllReadyH.nil
          go_simp
          refine hK.out _ _ K7 (fun hHeld => ?_)
          clear hK K
          try simp only [Act.put, List.getElem_toArray, List.getElem_cons_succ, List.getElem_cons_zero, List.setIfInBounds_toArray, List.set_cons_zero, List.set_cons_succ]
          refine wpAnyH_done (by kernel_rfl) ?_ _
          clear e0 e1 e2 e3 e4 e5 e6 fz c0 c1 c2 c3 c4 c5 c6 d0 d1 d2 d3 d4 d5 d6 K4 K5 K6 K7 hr5 hHeld
          generalize u5.setCell ⟨w3.heap.size, 5, none⟩ (.slice a5 (rn2 + 1) c5') = U at *
          obtain ⟨c0, c1, c2, c3, c4, c5⟩ := mod_cells J6.out.X
          have c6 := J6.out.X.lt
          obtain ⟨d0, d1, d2, d3, d4, d5⟩ := mod_cells X6.out
          have d6 := X6.out.lt
          all_goals
            go_wp2_with (first | (go_at_call 15; (with_reducible refine (TT.out.mo _ _ _ _ _ _ _ _ _ _ _ _ _ _ _ _ R6.out).mono ?_); rintro e w6 ⟨rfl, hb⟩; have J7 := Lib.hid (J6.out.belowS hb); have X7 := Lib.hid (X6.out.belowS hb); have R7 := Lib.hid (RdM.go R6.out hb hb.size); obtain ⟨p0, p1, p2, p3, p4, p5⟩ := mod_cells J7.out.X; have p6 := J7.out.X.lt; obtain ⟨q0, q1, q2, q3, q4, q5⟩ := mod_cells X7.out; have q6 := X7.out.lt; clear hb) | (go_at_call 16; (with_reducible refine (TT.out.sa _ _ _ _ _ _ _ _ _ _ _ _ _ _ _ _ J7.out.B R7.out).mono ?_); rintro e w7 ⟨rfl, hb⟩; have J8 := Lib.hid (J7.out.belowS hb); have X8 := Lib.hid (X7.out.belowS hb); have R8 := Lib.hid (RdM.go R7.out hb hb.size); obtain ⟨t0, t1, t2, t3, t4, t5⟩ := mod_cells X8.out; have t6 := X8.out.lt; clear hb) | (go_at_call 12; (with_reducible refine (TT.out.ch _ _ _ _ _ _ _ _ _ _ _ _ _ _ _ _ R8.out).mono ?_); rintro e w8 ⟨rfl, hb⟩; have J9 := Lib.hid (J8.out.belowS hb); clear hb) | (go_at_call 9; (with_reducible refine (AW.out _).mono ?_); rintro e w9 ⟨rfl, hb⟩; have J10 := Lib.hid (J9.out.belowS hb); clear hb))
            go_ret
            exact ⟨rfl, J10.out.B⟩
        · intro K hK
          go_simp
          refine hK.out _ _ K5 (fun hHeld => ?_)
          clear hK K
          try simp only [Act.put, List.getElem_toArray, List.getElem_cons_succ, List.getElem_cons_zero, List.setIfInBounds_toArray, List.set_cons_zero, List.set_cons_succ]
          refine wpAnyH_ready (rs := [1]) (by kernel_rfl) (by simp) ?_
          refine AllReadyH.cons rfl (fun K hK => ?_) AllReadyH.nil
          go_simp
          refine hK.out _ _ K5 (fun hHeld => ?_)
          clear hK K
          try simp only [Act.put, List.getElem_toArray, List.getElem_cons_succ, List.getElem_cons_zero, List.setIfInBounds_toArray, List.set_cons_zero, List.set_cons_succ]
          refine wpAnyH_ready (rs := [7]) (by kernel_rfl) (by simp) ?_
          refine AllReadyH.cons rfl (fun K hK => ?_) AllReadyH.nil
          refine Lib.wp_append_run _ _ _ _ _ rfl (.slice ra2 rn2 rc2) (.slice (some ⟨W4.heap.size, 0, none⟩) 1 1) rfl rfl _ _ hr5 ?_
          refine hK.out _ _ K6 (fun hHeld => ?_)
          clear hK K
          try simp only [Act.put, List.getElem_toArray, List.getElem_cons_succ, List.getElem_cons_zero, List.setIfInBounds_toArray, List.set_cons_zero, List.set_cons_succ]
          refine wpAnyH_take (i := 8) (v := ?tv21) rfl (by kernel_rfl) (by kernel_rfl) (by kernel_rfl) (fun _ _ _ h => h) (Or.inl ⟨by rfl, ?ty21⟩) (by assumption) ?tr21
          case ty21 =>
            intro u hSu
            obtain ⟨⟨s0, s1, s2, s3, s4, s5⟩, s6, s7, s8⟩ := hSu
            go_simp
            try with_reducible rfl
          try simp only [Act.put, List.getElem_toArray, List.getElem_cons_succ, List.getElem_cons_zero, List.setIfInBounds_toArray, List.set_cons_zero, List.set_cons_succ]
          refine wpAnyH_ready (rs := [9]) (by kernel_rfl) (by simp) ?_
          refine AllReadyH.cons rfl (fun K hK => ?_) AllReadyH.nil
          go_simp
          refine hK.out _ _ K7 (fun hHeld => ?_)
          clear hK K
          try simp only [Act.put, List.getElem_toArray, List.getElem_cons_succ, List.getElem_cons_zero, List.setIfInBounds_toArray, List.set_cons_zero, List.set_cons_succ]
          refine wpAnyH_done (by kernel_rfl) ?_ _
          clear e0 e1 e2 e3 e4 e5 e6 fz c0 c1 c2 c3 c4 c5 c6 d0 d1 d2 d3 d4 d5 d6 K4 K5 K6 K7 hr5 hHeld
          generalize u5.setCell ⟨w3.heap.size, 5, none⟩ (.slice a5 (rn2 + 1) c5') = U at *
          obtain ⟨c0, c1, c2, c3, c4, c5⟩ := mod_cells J6.out.X
          have c6 := J6.out.X.lt
          obtain ⟨d0, d1, d2, d3, d4, d5⟩ := mod_cells X6.out
          have d6 := X6.out.lt
          all_goals
            go_wp2_with (first | (go_at_call 15; (with_reducible refine (TT.out.mo _ _ _ _ _ _ _ _ _ _ _ _ _ _ _ _ R6.out).mono ?_); rintro e w6 ⟨rfl, hb⟩; have J7 := Lib.hid (J6.out.belowS hb); have X7 := Lib.hid (X6.out.belowS hb); have R7 := Lib.hid (RdM.go R6.out hb hb.size); obtain ⟨p0, p1, p2, p3, p4, p5⟩ := mod_cells J7.out.X; have p6 := J7.out.X.lt; obtain ⟨q0, q1, q2, q3, q4, q5⟩ := mod_cells X7.out; have q6 := X7.out.lt; clear hb) | (go_at_call 16; (with_reducible refine (TT.out.sa _ _ _ _ _ _ _ _ _ _ _ _ _ _ _ _ J7.out.B R7.out).mono ?_); rintro e w7 ⟨rfl, hb⟩; have J8 := Lib.hid (J7.out.belowS hb); have X8 := Lib.hid (X7.out.belowS hb); have R8 := Lib.hid (RdM.go R7.out hb hb.size); obtain ⟨t0, t1, t2, t3, t4, t5⟩ := mod_cells X8.out; have t6 := X8.out.lt; clear hb) | (go_at_call 12; (with_reducible refine (TT.out.ch _ _ _ _ _ _ _ _ _ _ _ _ _ _ _ _ R8.out).mono ?_); rintro e w8 ⟨rfl, hb⟩; have J9 := Lib.hid (J8.out.belowS hb); clear hb) | (go_at_call 9; (with_reducible refine (AW.out _).mono ?_); rintro e w9 ⟨rfl, hb⟩; have J10 := Lib.hid (J9.out.belowS hb); clear hb))
            go_ret
            exact ⟨rfl, J10.out.B⟩
      · skip
        go_upto_region 9 with fail
        refine wp_region_held_drew (S := fun u => MC w.heap.size x ea en ec ia im ic ca cn cc da dn dc (some ⟨g, off, none⟩) rn2 rc u ∧ u.cell? ⟨g, off, none⟩ = some (.int .u8 (l0.kind : Int)) ∧ u.cell? ⟨g, off + 1, none⟩ = some (.int .u16 (l0.at_ : Int)) ∧ u.cell? ⟨g, off + 2, none⟩ = some (.int .u16 (l0.wh : Int))) (by kernel_rfl) K4 (fun hHeld => ?_)
        refine wpAnyH_take (i := 0) (v := ?tv22) rfl (by kernel_rfl) (by kernel_rfl) (by kernel_rfl) (fun _ _ _ h => h) (Or.inl ⟨by rfl, ?ty22⟩) (by assumption) ?tr22
        case ty22 =>
          intro u hSu
          obtain ⟨⟨s0, s1, s2, s3, s4, s5⟩, s6, s7, s8⟩ := hSu
          go_simp
          try with_reducible rfl
        try simp only [Act.put, List.getElem_toArray, List.getElem_cons_succ, List.getElem_cons_zero, List.setIfInBounds_toArray, List.set_cons_zero, List.set_cons_succ]
        refine wpAnyH_take (i := 2) (v := ?tv23) rfl (by kernel_rfl) (by kernel_rfl) (by kernel_rfl) (fun _ _ _ h => h) (Or.inl ⟨by rfl, ?ty23⟩) (by assumption) ?tr23
        case ty23 =>
          intro u hSu
          obtain ⟨⟨s0, s1, s2, s3, s4, s5⟩, s6, s7, s8⟩ := hSu
          go_simp
          try with_reducible rfl
        try simp only [Act.put, List.getElem_toArray, List.getElem_cons_succ, List.getElem_cons_zero, List.setIfInBounds_toArray, List.set_cons_zero, List.set_cons_succ]
        refine wpAnyH_take (i := 3) (v := ?tv24) rfl (by kernel_rfl) (by kernel_rfl) (by kernel_rfl) (fun _ _ _ h => h) (Or.inl ⟨by rfl, ?ty24⟩) (by assumption) ?tr24
        case ty24 =>
          intro u hSu
          obtain ⟨⟨s0, s1, s2, s3, s4, s5⟩, s6, s7, s8⟩ := hSu
          go_simp
          try with_reducible rfl
        try simp only [Act.put, List.getElem_toArray, List.getElem_cons_succ, List.getElem_cons_zero, List.setIfInBounds_toArray, List.set_cons_zero, List.set_cons_succ]
        refine wpAnyH_take (i := 4) (v := ?tv25) rfl (by kernel_rfl) (by kernel_rfl) (by kernel_rfl) (fun _ _ _ h => h) (Or.inl ⟨by rfl, ?ty25⟩) (by assumption) ?tr25
        case ty25 =>
          intro u hSu
          obtain ⟨⟨s0, s1, s2, s3, s4, s5⟩, s6, s7, s8⟩ := hSu
          go_simp
          try with_reducible rfl
        try simp only [Act.put, List.getElem_toArray, List.getElem_cons_succ, List.getElem_cons_zero, List.setIfInBounds_toArray, List.set_cons_zero, List.set_cons_succ]
        refine wpAnyH_take (i := 5) (v := ?tv26) rfl (by kernel_rfl) (by kernel_rfl) (by kernel_rfl) (fun _ _ _ h => h) (Or.inl ⟨by rfl, ?ty26⟩) (by assumption) ?tr26
        case ty26 =>
          intro u hSu
          obtain ⟨⟨s0, s1, s2, s3, s4, s5⟩, s6, s7, s8⟩ := hSu
          go_simp
          try with_reducible rfl
        try simp only [Act.put, List.getElem_toArray, List.getElem_cons_succ, List.getElem_cons_zero, List.setIfInBounds_toArray, List.set_cons_zero, List.set_cons_succ]
        refine wpAnyH_ready (rs := [1, 6]) (by kernel_rfl) (by simp) ?_
        refine AllReadyH.cons rfl ?_ (AllReadyH.cons rfl ?_ AllReadyH.nil)
        · intro K hK
          go_simp
          refine hK.out _ _ K4 (fun hHeld => ?_)
          clear hK K
          try simp only [Act.put, List.getElem_toArray, List.getElem_cons_succ, List.getElem_cons_zero, List.setIfInBounds_toArray, List.set_cons_zero, List.set_cons_succ]
          refine wpAnyH_ready (rs := [6]) (by kernel_rfl) (by simp) ?_
          refine AllReadyH.cons rfl (fun K hK => ?_) AllReadyH.nil
          go_simp
          refine hK.out _ _ K5 (fun hHeld => ?_)
          clear hK K
          try simp only [Act.put, List.getElem_toArray, List.getElem_cons_succ, List.getElem_cons_zero, List.setIfInBounds_toArray, List.set_cons_zero, List.set_cons_succ]
          refine wpAnyH_ready (rs := [7]) (by kernel_rfl) (by simp) ?_
          refine AllReadyH.cons rfl (fun K hK => ?_) AllReadyH.nil
          refine Lib.wp_append_run _ _ _ _ _ rfl (.slice ra2 rn2 rc2) (.slice (some ⟨W4.heap.size, 0, none⟩) 1 1) rfl rfl _ _ hr5 ?_
          refine hK.out _ _ K6 (fun hHeld => ?_)
          clear hK K
          try simp only [Act.put, List.getElem_toArray, List.getElem_cons_succ, List.getElem_cons_zero, List.setIfInBounds_toArray, List.set_cons_zero, List.set_cons_succ]
          refine wpAnyH_take (i := 8) (v := ?tv27) rfl (by kernel_rfl) (by kernel_rfl) (by kernel_rfl) (fun _ _ _ h => h) (Or.inl ⟨by rfl, ?ty27⟩) (by assumption) ?tr27
          case ty27 =>
            intro u hSu
            obtain ⟨⟨s0, s1, s2, s3, s4, s5⟩, s6, s7, s8⟩ := hSu
            go_simp
            try with_reducible rfl
          try simp only [Act.put, List.getElem_toArray, List.getElem_cons_succ, List.getElem_cons_zero, List.setIfInBounds_toArray, List.set_cons_zero, List.set_cons_succ]
          refine wpAnyH_ready (rs := [9]) (by kernel_rfl) (by simp) ?_
          refine AllReadyH.cons rfl (fun K hK => ?_) AllReadyH.nil
          go_simp
          refine hK.out _ _ K7 (fun hHeld => ?_)
          clear hK K
          try simp only [Act.put, List.getElem_toArray, List.getElem_cons_succ, List.getElem_cons_zero, List.setIfInBounds_toArray, List.set_cons_zero, List.set_cons_succ]
          refine wpAnyH_done (by kernel_rfl) ?_ _
          clear e0 e1 e2 e3 e4 e5 e6 fz c0 c1 c2 c3 c4 c5 c6 d0 d1 d2 d3 d4 d5 d6 K4 K5 K6 K7 hr5 hHeld
          generalize u5.setCell ⟨w3.heap.size, 5, none⟩ (.slice a5 (rn2 + 1) c5') = U at *
          obtain ⟨c0, c1, c2, c3, c4, c5⟩ := mod_cells J6.out.X
          have c6 := J6.out.X.lt
          obtain ⟨d0, d1, d2, d3, d4, d5⟩ := mod_cells X6.out
          have d6 := X6.out.lt
          all_goals
            go_wp2_with (first | (go_at_call 15; (with_reducible refine (TT.out.mo _ _ _ _ _ _ _ _ _ _ _ _ _ _ _ _ R6.out).mono ?_); rintro e w6 ⟨rfl, hb⟩; have J7 := Lib.hid (J6.out.belowS hb); have X7 := Lib.hid (X6.out.belowS hb); have R7 := Lib.hid (RdM.go R6.out hb hb.size); obtain ⟨p0, p1, p2, p3, p4, p5⟩ := mod_cells J7.out.X; have p6 := J7.out.X.lt; obtain ⟨q0, q1, q2, q3, q4, q5⟩ := mod_cells X7.out; have q6 := X7.out.lt; clear hb) | (go_at_call 16; (with_reducible refine (TT.out.sa _ _ _ _ _ _ _ _ _ _ _ _ _ _ _ _ J7.out.B R7.out).mono ?_); rintro e w7 ⟨rfl, hb⟩; have J8 := Lib.hid (J7.out.belowS hb); have X8 := Lib.hid (X7.out.belowS hb); have R8 := Lib.hid (RdM.go R7.out hb hb.size); obtain ⟨t0, t1, t2, t3, t4, t5⟩ := mod_cells X8.out; have t6 := X8.out.lt; clear hb) | (go_at_call 12; (with_reducible refine (TT.out.ch _ _ _ _ _ _ _ _ _ _ _ _ _ _ _ _ R8.out).mono ?_); rintro e w8 ⟨rfl, hb⟩; have J9 := Lib.hid (J8.out.belowS hb); clear hb) | (go_at_call 9; (with_reducible refine (AW.out _).mono ?_); rintro e w9 ⟨rfl, hb⟩; have J10 := Lib.hid (J9.out.belowS hb); clear hb))
            go_ret
            exact ⟨rfl, J10.out.B⟩
        · intro K hK
          go_simp
          refine hK.out _ _ K5 (fun hHeld => ?_)
          clear hK K
          try simp only [Act.put, List.getElem_toArray, List.getElem_cons_succ, List.getElem_cons_zero, List.setIfInBounds_toArray, List.set_cons_zero, List.set_cons_succ]
          refine wpAnyH_ready (rs := [1]) (by kernel_rfl) (by simp) ?_
          refine AllReadyH.cons rfl (fun K hK => ?_) AllReadyH.nil
          go_simp
          refine hK.out _ _ K5 (fun hHeld => ?_)
          clear hK K
          try simp only [Act.put, List.getElem_toArray, List.getElem_cons_succ, List.getElem_cons_zero, List.setIfInBounds_toArray, List.set_cons_zero, List.set_cons_succ]
          refine wpAnyH_ready (rs := [7]) (by kernel_rfl) (by simp) ?_
          refine AllReadyH.cons rfl (fun K hK => ?_) AllReadyH.nil
          refine Lib.wp_append_run _ _ _ _ _ rfl (.slice ra2 rn2 rc2) (.slice (some ⟨W4.heap.size, 0, none⟩) 1 1) rfl rfl _ _ hr5 ?_
          refine hK.out _ _ K6 (fun hHeld => ?_)
          clear hK K
          try simp only [Act.put, List.getElem_toArray, List.getElem_cons_succ, List.getElem_cons_zero, List.setIfInBounds_toArray, List.set_cons_zero, List.set_cons_succ]
          refine wpAnyH_take (i := 8) (v := ?tv28) rfl (by kernel_rfl) (by kernel_rfl) (by kernel_rfl) (fun _ _ _ h => h) (Or.inl ⟨by rfl, ?ty28⟩) (by assumption) ?tr28
          case ty28 =>
            intro u hSu
            obtain ⟨⟨s0, s1, s2, s3, s4, s5⟩, s6, s7, s8⟩ := hSu
            go_simp
            try with_reducible rfl
          try simp only [Act.put, List.getElem_toArray, List.getElem_cons_succ, List.getElem_cons_zero, List.setIfInBounds_toArray, List.set_cons_zero, List.set_cons_succ]
          refine wpAnyH_ready (rs := [9]) (by kernel_rfl) (by simp) ?_
          refine AllReadyH.cons rfl (fun K hK => ?_) AllReadyH.nil
          go_simp
          refine hK.out _ _ K7 (fun hHeld => ?_)
          clear hK K
          try simp only [Act.put, List.getElem_toArray, List.getElem_cons_succ, List.getElem_cons_zero, List.setIfInBounds_toArray, List.set_cons_zero, List.set_cons_succ]
          refine wpAnyH_done (by kernel_rfl) ?_ _
          clear e0 e1 e2 e3 e4 e5 e6 fz c0 c1 c2 c3 c4 c5 c6 d0 d1 d2 d3 d4 d5 d6 K4 K5 K6 K7 hr5 hHeld
          generalize u5.setCell ⟨w3.heap.size, 5, none⟩ (.slice a5 (rn2 + 1) c5') = U at *
          obtain ⟨c0, c1, c2, c3, c4, c5⟩ := mod_cells J6.out.X
          have c6 := J6.out.X.lt
          obtain ⟨d0, d1, d2, d3, d4, d5⟩ := mod_cells X6.out
          have d6 := X6.out.lt
          all_goals
            go_wp2_with (first | (go_at_call 15; (with_reducible refine (TT.out.mo _ _ _ _ _ _ _ _ _ _ _ _ _ _ _ _ R6.out).mono ?_); rintro e w6 ⟨rfl, hb⟩; have J7 := Lib.hid (J6.out.belowS hb); have X7 := Lib.hid (X6.out.belowS hb); have R7 := Lib.hid (RdM.go R6.out hb hb.size); obtain ⟨p0, p1, p2, p3, p4, p5⟩ := mod_cells J7.out.X; have p6 := J7.out.X.lt; obtain ⟨q0, q1, q2, q3, q4, q5⟩ := mod_cells X7.out; have q6 := X7.out.lt; clear hb) | (go_at_call 16; (with_reducible refine (TT.out.sa _ _ _ _ _ _ _ _ _ _ _ _ _ _ _ _ J7.out.B R7.out).mono ?_); rintro e w7 ⟨rfl, hb⟩; have J8 := Lib.hid (J7.out.belowS hb); have X8 := Lib.hid (X7.out.belowS hb); have R8 := Lib.hid (RdM.go R7.out hb hb.size); obtain ⟨t0, t1, t2, t3, t4, t5⟩ := mod_cells X8.out; have t6 := X8.out.lt; clear hb) | (go_at_call 12; (with_reducible refine (TT.out.ch _ _ _ _ _ _ _ _ _ _ _ _ _ _ _ _ R8.out).mono ?_); rintro e w8 ⟨rfl, hb⟩; have J9 := Lib.hid (J8.out.belowS hb); clear hb) | (go_at_call 9; (with_reducible refine (AW.out _).mono ?_); rintro e w9 ⟨rfl, hb⟩; have J10 := Lib.hid (J9.out.belowS hb); clear hb))
            go_ret
            exact ⟨rfl, J10.out.B⟩
  · skip
    rcases hen0 with hen0 | hen0
    · skip
      rcases him0 with him0 | him0
      · skip
        go_upto_region 9 with fail
        refine wp_region_held_drew (S := fun u => MC w.heap.size x ea en ec ia im ic ca cn cc da dn dc (some ⟨g, off, none⟩) rn2 rc u ∧ u.cell? ⟨g, off, none⟩ = some (.int .u8 (l0.kind : Int)) ∧ u.cell? ⟨g, off + 1, none⟩ = some (.int .u16 (l0.at_ : Int)) ∧ u.cell? ⟨g, off + 2, none⟩ = some (.int .u16 (l0.wh : Int))) (by kernel_rfl) K4 (fun hHeld => ?_)
        refine wpAnyH_take (i := 0) (v := ?tv29) rfl (by kernel_rfl) (by kernel_rfl) (by kernel_rfl) (fun _ _ _ h => h) (Or.inl ⟨by rfl, ?ty29⟩) (by assumption) ?tr29
        case ty29 =>
          intro u hSu
          obtain ⟨⟨s0, s1, s2, s3, s4, s5⟩, s6, s7, s8⟩ := hSu
          go_simp
          try with_reducible rfl
        try simp only [Act.put, List.getElem_toArray, List.getElem_cons_succ, List.getElem_cons_zero, List.setIfInBounds_toArray, List.set_cons_zero, List.set_cons_succ]
        refine wpAnyH_take (i := 2) (v := ?tv30) rfl (by kernel_rfl) (by kernel_rfl) (by kernel_rfl) (fun _ _ _ h => h) (Or.inl ⟨by rfl, ?ty30⟩) (by assumption) ?tr30
        case ty30 =>
          intro u hSu
          obtain ⟨⟨s0, s1, s2, s3, s4, s5⟩, s6, s7, s8⟩ := hSu
          go_simp
          try with_reducible rfl
        try simp only [Act.put, List.getElem_toArray, List.getElem_cons_succ, List.getElem_cons_zero, List.setIfInBounds_toArray, List.set_cons_zero, List.set_cons_succ]
        refine wpAnyH_take (i := 3) (v := ?tv31) rfl (by kernel_rfl) (by kernel_rfl) (by kernel_rfl) (fun _ _ _ h => h) (Or.inl ⟨by rfl, ?ty31⟩) (by assumption) ?tr31
        case ty31 =>
          intro u hSu
          obtain ⟨⟨s0, s1, s2, s3, s4, s5⟩, s6, s7, s8⟩ := hSu
          go_simp
          try with_reducible rfl
        try simp only [Act.put, List.getElem_toArray, List.getElem_cons_succ, List.getElem_cons_zero, List.setIfInBounds_toArray, List.set_cons_zero, List.set_cons_succ]
        refine wpAnyH_take (i := 4) (v := ?tv32) rfl (by kernel_rfl) (by kernel_rfl) (by kernel_rfl) (fun _ _ _ h => h) (Or.inl ⟨by rfl, ?ty32⟩) (by assumption) ?tr32
        case ty32 =>
          intro u hSu
          obtain ⟨⟨s0, s1, s2, s3, s4, s5⟩, s6, s7, s8⟩ := hSu
          go_simp
          try with_reducible rfl
        try simp only [Act.put, List.getElem_toArray, List.getElem_cons_succ, List.getElem_cons_zero, List.setIfInBounds_toArray, List.set_cons_zero, List.set_cons_succ]
        refine wpAnyH_take (i := 5) (v := ?tv33) rfl (by kernel_rfl) (by kernel_rfl) (by kernel_rfl) (fun _ _ _ h => h) (Or.inl ⟨by rfl, ?ty33⟩) (by assumption) ?tr33
        case ty33 =>
          intro u hSu
          obtain ⟨⟨s0, s1, s2, s3, s4, s5⟩, s6, s7, s8⟩ := hSu
          go_simp
          try with_reducible rfl
        try simp only [Act.put, List.getElem_toArray, List.getElem_cons_succ, List.getElem_cons_zero, List.setIfInBounds_toArray, List.set_cons_zero, List.set_cons_succ]
        refine wpAnyH_ready (rs := [1, 6]) (by kernel_rfl) (by simp) ?_
        refine AllReadyH.cons rfl ?_ (AllReadyH.cons rfl ?_ AllReadyH.nil)
        · intro K hK
          go_simp
          refine hK.out _ _ K4 (fun hHeld => ?_)
          clear hK K
          try simp only [Act.put, List.getElem_toArray, List.getElem_cons_succ, List.getElem_cons_zero, List.setIfInBounds_toArray, List.set_cons_zero, List.set_cons_succ]
          refine wpAnyH_ready (rs := [6]) (by kernel_rfl) (by simp) ?_
          refine AllReadyH.cons rfl (fun K hK => ?_) AllReadyH.nil
          go_simp
          refine hK.out _ _ K5 (fun hHeld => ?_)
          clear hK K
          try simp only [Act.put, List.getElem_toArray, List.getElem_cons_succ, List.getElem_cons_zero, List.setIfInBounds_toArray, List.set_cons_zero, List.set_cons_succ]
          refine wpAnyH_ready (rs := [7]) (by kernel_rfl) (by simp) ?_
          refine AllReadyH.cons rfl (fun K hK => ?_) AllReadyH.nil
          refine Lib.wp_append_run _ _ _ _ _ rfl (.slice ra2 rn2 rc2) (.slice (some ⟨W4.heap.size, 0, none⟩) 1 1) rfl rfl _ _ hr5 ?_
          refine hK.out _ _ K6 (fun hHeld => ?_)
          clear hK K
          try simp only [Act.put, List.getElem_toArray, List.getElem_cons_succ, List.getElem_cons_zero, List.setIfInBounds_toArray, List.set_cons_zero, List.set_cons_succ]
          refine wpAnyH_take (i := 8) (v := ?tv34) rfl (by kernel_rfl) (by kernel_rfl) (by kernel_rfl) (fun _ _ _ h => h) (Or.inl ⟨by rfl, ?ty34⟩) (by assumption) ?tr34
          case ty34 =>
            intro u hSu
            obtain ⟨⟨s0, s1, s2, s3, s4, s5⟩, s6, s7, s8⟩ := hSu
            go_simp
            try with_reducible rfl
          try simp only [Act.put, List.getElem_toArray, List.getElem_cons_succ, List.getElem_cons_zero, List.setIfInBounds_toArray, List.set_cons_zero, List.set_cons_succ]
          refine wpAnyH_ready (rs := [9]) (by kernel_rfl) (by simp) ?_
          refine AllReadyH.cons rfl (fun K hK => ?_) AllReadyH.nil
          go_simp
          refine hK.out _ _ K7 (fun hHeld => ?_)
          clear hK K
          try simp only [Act.put, List.getElem_toArray, List.getElem_cons_succ, List.getElem_cons_zero, List.setIfInBounds_toArray, List.set_cons_zero, List.set_cons_succ]
          refine wpAnyH_done (by kernel_rfl) ?_ _
          clear e0 e1 e2 e3 e4 e5 e6 fz c0 c1 c2 c3 c4 c5 c6 d0 d1 d2 d3 d4 d5 d6 K4 K5 K6 K7 hr5 hHeld
          generalize u5.setCell ⟨w3.heap.size, 5, none⟩ (.slice a5 (rn2 + 1) c5') = U at *
          obtain ⟨c0, c1, c2, c3, c4, c5⟩ := mod_cells J6.out.X
          have c6 := J6.out.X.lt
          obtain ⟨d0, d1, d2, d3, d4, d5⟩ := mod_cells X6.out
          have d6 := X6.out.lt
          all_goals
            go_wp2_with (first | (go_at_call 15; (with_reducible refine (TT.out.mo _ _ _ _ _ _ _ _ _ _ _ _ _ _ _ _ R6.out).mono ?_); rintro e w6 ⟨rfl, hb⟩; have J7 := Lib.hid (J6.out.belowS hb); have X7 := Lib.hid (X6.out.belowS hb); have R7 := Lib.hid (RdM.go R6.out hb hb.size); obtain ⟨p0, p1, p2, p3, p4, p5⟩ := mod_cells J7.out.X; have p6 := J7.out.X.lt; obtain ⟨q0, q1, q2, q3, q4, q5⟩ := mod_cells X7.out; have q6 := X7.out.lt; clear hb) | (go_at_call 16; (with_reducible refine (TT.out.sa _ _ _ _ _ _ _ _ _ _ _ _ _ _ _ _ J7.out.B R7.out).mono ?_); rintro e w7 ⟨rfl, hb⟩; have J8 := Lib.hid (J7.out.belowS hb); have X8 := Lib.hid (X7.out.belowS hb); have R8 := Lib.hid (RdM.go R7.out hb hb.size); obtain ⟨t0, t1, t2, t3, t4, t5⟩ := mod_cells X8.out; have t6 := X8.out.lt; clear hb) | (go_at_call 12; (with_reducible refine (TT.out.ch _ _ _ _ _ _ _ _ _ _ _ _ _ _ _ _ R8.out).mono ?_); rintro e w8 ⟨rfl, hb⟩; have J9 := Lib.hid (J8.out.belowS hb); clear hb) | (go_at_call 9; (with_reducible refine (AW.out _).mono ?_); rintro e w9 ⟨rfl, hb⟩; have J10 := Lib.hid (J9.out.belowS hb); clear hb))
            go_ret
            exact ⟨rfl, J10.out.B⟩
        · intro K hK
          go_simp
          refine hK.out _ _ K5 (fun hHeld => ?_)
          clear hK K
          try simp only [Act.put, List.getElem_toArray, List.getElem_cons_succ, List.getElem_cons_zero, List.setIfInBounds_toArray, List.set_cons_zero, List.set_cons_succ]
          refine wpAnyH_ready (rs := [1]) (by kernel_rfl) (by simp) ?_
          refine AllReadyH.cons rfl (fun K hK => ?_) AllReadyH.nil
          go_simp
          refine hK.out _ _ K5 (fun hHeld => ?_)
          clear hK K
          try simp only [Act.put, List.getElem_toArray, List.getElem_cons_succ, List.getElem_cons_zero, List.setIfInBounds_toArray, List.set_cons_zero, List.set_cons_succ]
          refine wpAnyH_ready (rs := [7]) (by kernel_rfl) (by simp) ?_
          refine AllReadyH.cons rfl (fun K hK => ?_) AllReadyH.nil
          refine Lib.wp_append_run _ _ _ _ _ rfl (.slice ra2 rn2 rc2) (.slice (some ⟨W4.heap.size, 0, none⟩) 1 1) rfl rfl _ _ hr5 ?_
          refine hK.out _ _ K6 (fun hHeld => ?_)
          clear hK K
          try simp only [Act.put, List.getElem_toArray, List.getElem_cons_succ, List.getElem_cons_zero, List.setIfInBounds_toArray, List.set_cons_zero, List.set_cons_succ]
          refine wpAnyH_take (i := 8) (v := ?tv35) rfl (by kernel_rfl) (by kernel_rfl) (by kernel_rfl) (fun _ _ _ h => h) (Or.inl ⟨by rfl, ?ty35⟩) (by assumption) ?tr35
          case ty35 =>
            intro u hSu
            obtain ⟨⟨s0, s1, s2, s3, s4, s5⟩, s6, s7, s8⟩ := hSu
            go_simp
            try with_reducible rfl
          try simp only [Act.put, List.getElem_toArray, List.getElem_cons_succ, List.getElem_cons_zero, List.setIfInBounds_toArray, List.set_cons_zero, List.set_cons_succ]
          refine wpAnyH_ready (rs := [9]) (by kernel_rfl) (by simp) ?_
          refine AllReadyH.cons rfl (fun K hK => ?_) AllReadyH.nil
          go_simp
          refine hK.out _ _ K7 (fun hHeld => ?_)
          clear hK K
          try simp only [Act.put, List.getElem_toArray, List.getElem_cons_succ, List.getElem_cons_zero, List.setIfInBounds_toArray, List.set_cons_zero, List.set_cons_succ]
          refine wpAnyH_done (by kernel_rfl) ?_ _
          clear e0 e1 e2 e3 e4 e5 e6 fz c0 c1 c2 c3 c4 c5 c6 d0 d1 d2 d3 d4 d5 d6 K4 K5 K6 K7 hr5 hHeld
          generalize u5.setCell ⟨w3.heap.size, 5, none⟩ (.slice a5 (rn2 + 1) c5') = U at *
          obtain ⟨c0, c1, c2, c3, c4, c5⟩ := mod_cells J6.out.X
          have c6 := J6.out.X.lt
          obtain ⟨d0, d1, d2, d3, d4, d5⟩ := mod_cells X6.out
          have d6 := X6.out.lt
          all_goals
            go_wp2_with (first | (go_at_call 15; (with_reducible refine (TT.out.mo _ _ _ _ _ _ _ _ _ _ _ _ _ _ _ _ R6.out).mono ?_); rintro e w6 ⟨rfl, hb⟩; have J7 := Lib.hid (J6.out.belowS hb); have X7 := Lib.hid (X6.out.belowS hb); have R7 := Lib.hid (RdM.go R6.out hb hb.size); obtain ⟨p0, p1, p2, p3, p4, p5⟩ := mod_cells J7.out.X; have p6 := J7.out.X.lt; obtain ⟨q0, q1, q2, q3, q4, q5⟩ := mod_cells X7.out; have q6 := X7.out.lt; clear hb) | (go_at_call 16; (with_reducible refine (TT.out.sa _ _ _ _ _ _ _ _ _ _ _ _ _ _ _ _ J7.out.B R7.out).mono ?_); rintro e w7 ⟨rfl, hb⟩; have J8 := Lib.hid (J7.out.belowS hb); have X8 := Lib.hid (X7.out.belowS hb); have R8 := Lib.hid (RdM.go R7.out hb hb.size); obtain ⟨t0, t1, t2, t3, t4, t5⟩ := mod_cells X8.out; have t6 := X8.out.lt; clear hb) | (go_at_call 12; (with_reducible refine (TT.out.ch _ _ _ _ _ _ _ _ _ _ _ _ _ _ _ _ R8.out).mono ?_); rintro e w8 ⟨rfl, hb⟩; have J9 := Lib.hid (J8.out.belowS hb); clear hb) | (go_at_call 9; (with_reducible refine (AW.out _).mono ?_); rintro e w9 ⟨rfl, hb⟩; have J10 := Lib.hid (J9.out.belowS hb); clear hb))
            go_ret
            exact ⟨rfl, J10.out.B⟩
      · skip
        go_upto_region 9 with fail
        refine wp_region_held_drew (S := fun u => MC w.heap.size x ea en ec ia im ic ca cn cc da dn dc (some ⟨g, off, none⟩) rn2 rc u ∧ u.cell? ⟨g, off, none⟩ = some (.int .u8 (l0.kind : Int)) ∧ u.cell? ⟨g, off + 1, none⟩ = some (.int .u16 (l0.at_ : Int)) ∧ u.cell? ⟨g, off + 2, none⟩ = some (.int .u16 (l0.wh : Int))) (by kernel_rfl) K4 (fun hHeld => ?_)
        refine wpAnyH_take (i := 0) (v := ?tv36) rfl (by kernel_rfl) (by kernel_rfl) (by kernel_rfl) (fun _ _ _ h => h) (Or.inl ⟨by rfl, ?ty36⟩) (by assumption) ?tr36
        case ty36 =>
          intro u hSu
          obtain ⟨⟨s0, s1, s2, s3, s4, s5⟩, s6, s7, s8⟩ := hSu
          go_simp
          try with_reducible rfl
        try simp only [Act.put, List.getElem_toArray, List.getElem_cons_succ, List.getElem_cons_zero, List.setIfInBounds_toArray, List.set_cons_zero, List.set_cons_succ]
        refine wpAnyH_take (i := 2) (v := ?tv37) rfl (by kernel_rfl) (by kernel_rfl) (by kernel_rfl) (fun _ _ _ h => h) (Or.inl ⟨by rfl, ?ty37⟩) (by assumption) ?tr37
        case ty37 =>
          intro u hSu
          obtain ⟨⟨s0, s1, s2, s3, s4, s5⟩, s6, s7, s8⟩ := hSu
          go_simp
          try with_reducible rfl
        try simp only [Act.put, List.getElem_toArray, List.getElem_cons_succ, List.getElem_cons_zero, List.setIfInBounds_toArray, List.set_cons_zero, List.set_cons_succ]
        refine wpAnyH_take (i := 3) (v := ?tv38) rfl (by kernel_rfl) (by kernel_rfl) (by kernel_rfl) (fun _ _ _ h => h) (Or.inl ⟨by rfl, ?ty38⟩) (by assumption) ?tr38
        case ty38 =>
          intro u hSu
          obtain ⟨⟨s0, s1, s2, s3, s4, s5⟩, s6, s7, s8⟩ := hSu
          go_simp
          try with_reducible rfl
        try simp only [Act.put, List.getElem_toArray, List.getElem_cons_succ, List.getElem_cons_zero, List.setIfInBounds_toArray, List.set_cons_zero, List.set_cons_succ]
        refine wpAnyH_take (i := 4) (v := ?tv39) rfl (by kernel_rfl) (by kernel_rfl) (by kernel_rfl) (fun _ _ _ h => h) (Or.inl ⟨by rfl, ?ty39⟩) (by assumption) ?tr39
        case ty39 =>
          intro u hSu
          obtain ⟨⟨s0, s1, s2, s3, s4, s5⟩, s6, s7, s8⟩ := hSu
          go_simp
          try with_reducible rfl
        try simp only [Act.put, List.getElem_toArray, List.getElem_cons_succ, List.getElem_cons_zero, List.setIfInBounds_toArray, List.set_cons_zero, List.set_cons_succ]
        refine wpAnyH_take (i := 5) (v := ?tv40) rfl (by kernel_rfl) (by kernel_rfl) (by kernel_rfl) (fun _ _ _ h => h) (Or.inl ⟨by rfl, ?ty40⟩) (by assumption) ?tr40
        case ty40 =>
          intro u hSu
          obtain ⟨⟨s0, s1, s2, s3, s4, s5⟩, s6, s7, s8⟩ := hSu
          go_simp
          try with_reducible rfl
        try simp only [Act.put, List.getElem_toArray, List.getElem_cons_succ, List.getElem_cons_zero, List.setIfInBounds_toArray, List.set_cons_zero, List.set_cons_succ]
        refine wpAnyH_ready (rs := [1, 6]) (by kernel_rfl) (by simp) ?_
        refine AllReadyH.cons rfl ?_ (AllReadyH.cons rfl ?_ AllReadyH.nil)
        · intro K hK
          go_simp
          refine hK.out _ _ K4 (fun hHeld => ?_)
          clear hK K
          try simp only [Act.put, List.getElem_toArray, List.getElem_cons_succ, List.getElem_cons_zero, List.setIfInBounds_toArray, List.set_cons_zero, List.set_cons_succ]
          refine wpAnyH_ready (rs := [6]) (by kernel_rfl) (by simp) ?_
          refine AllReadyH.cons rfl (fun K hK => ?_) AllReadyH.nil
          go_simp
          refine hK.out _ _ K5 (fun hHeld => ?_)
          clear hK K
          try simp only [Act.put, List.getElem_toArray, List.getElem_cons_succ, List.getElem_cons_zero, List.setIfInBounds_toArray, List.set_cons_zero, List.set_cons_succ]
          refine wpAnyH_ready (rs := [7]) (by kernel_rfl) (by simp) ?_
          refine AllReadyH.cons rfl (fun K hK => ?_) AllReadyH.nil
          refine Lib.wp_append_run _ _ _ _ _ rfl (.slice ra2 rn2 rc2) (.slice (some ⟨W4.heap.size, 0, none⟩) 1 1) rfl rfl _ _ hr5 ?_
          refine hK.out _ _ K6 (fun hHeld => ?_)
          clear hK K
          try simp only [Act.put, List.getElem_toArray, List.getElem_cons_succ, List.getElem_cons_zero, List.setIfInBounds_toArray, List.set_cons_zero, List.set_cons_succ]
          refine wpAnyH_take (i := 8) (v := ?tv41) rfl (by kernel_rfl) (by kernel_rfl) (by kernel_rfl) (fun _ _ _ h => h) (Or.inl ⟨by rfl, ?ty41⟩) (by assumption) ?tr41
          case ty41 =>
            intro u hSu
            obtain ⟨⟨s0, s1, s2, s3, s4, s5⟩, s6, s7, s8⟩ := hSu
            go_simp
            try with_reducible rfl
          try simp only [Act.put, List.getElem_toArray, List.getElem_cons_succ, List.getElem_cons_zero, List.setIfInBounds_toArray, List.set_cons_zero, List.set_cons_succ]
          refine wpAnyH_ready (rs := [9]) (by kernel_rfl) (by simp) ?_
          refine AllReadyH.cons rfl (fun K hK => ?_) AllReadyH.nil
          go_simp
          refine hK.out _ _ K7 (fun hHeld => ?_)
          clear hK K
          try simp only [Act.put, List.getElem_toArray, List.getElem_cons_succ, List.getElem_cons_zero, List.setIfInBounds_toArray, List.set_cons_zero, List.set_cons_succ]
          refine wpAnyH_done (by kernel_rfl) ?_ _
          clear e0 e1 e2 e3 e4 e5 e6 fz c0 c1 c2 c3 c4 c5 c6 d0 d1 d2 d3 d4 d5 d6 K4 K5 K6 K7 hr5 hHeld
          generalize u5.setCell ⟨w3.heap.size, 5, none⟩ (.slice a5 (rn2 + 1) c5') = U at *
          obtain ⟨c0, c1, c2, c3, c4, c5⟩ := mod_cells J6.out.X
          have c6 := J6.out.X.lt
          obtain ⟨d0, d1, d2, d3, d4, d5⟩ := mod_cells X6.out
          have d6 := X6.out.lt
          all_goals
            go_wp2_with (first | (go_at_call 15; (with_reducible refine (TT.out.mo _ _ _ _ _ _ _ _ _ _ _ _ _ _ _ _ R6.out).mono ?_); rintro e w6 ⟨rfl, hb⟩; have J7 := Lib.hid (J6.out.belowS hb); have X7 := Lib.hid (X6.out.belowS hb); have R7 := Lib.hid (RdM.go R6.out hb hb.size); obtain ⟨p0, p1, p2, p3, p4, p5⟩ := mod_cells J7.out.X; have p6 := J7.out.X.lt; obtain ⟨q0, q1, q2, q3, q4, q5⟩ := mod_cells X7.out; have q6 := X7.out.lt; clear hb) | (go_at_call 16; (with_reducible refine (TT.out.sa _ _ _ _ _ _ _ _ _ _ _ _ _ _ _ _ J7.out.B R7.out).mono ?_); rintro e w7 ⟨rfl, hb⟩; have J8 := Lib.hid (J7.out.belowS hb); have X8 := Lib.hid (X7.out.belowS hb); have R8 := Lib.hid (RdM.go R7.out hb hb.size); obtain ⟨t0, t1, t2, t3, t4, t5⟩ := mod_cells X8.out; have t6 := X8.out.lt; clear hb) | (go_at_call 12; (with_reducible refine (TT.out.ch _ _ _ _ _ _ _ _ _ _ _ _ _ _ _ _ R8.out).mono ?_); rintro e w8 ⟨rfl, hb⟩; have J9 := Lib.hid (J8.out.belowS hb); clear hb) | (go_at_call 9; (with_reducible refine (AW.out _).mono ?_); rintro e w9 ⟨rfl, hb⟩; have J10 := Lib.hid (J9.out.belowS hb); clear hb))
            go_ret
            exact ⟨rfl, J10.out.B⟩
        · intro K hK
          go_simp
          refine hK.out _ _ K5 (fun hHeld => ?_)
          clear hK K
          try simp only [Act.put, List.getElem_toArray, List.getElem_cons_succ, List.getElem_cons_zero, List.setIfInBounds_toArray, List.set_cons_zero, List.set_cons_succ]
          refine wpAnyH_ready (rs := [1]) (by kernel_rfl) (by simp) ?_
          refine AllReadyH.cons rfl (fun K hK => ?_) AllReadyH.nil
          go_simp
          refine hK.out _ _ K5 (fun hHeld => ?_)
          clear hK K
          try simp only [Act.put, List.getElem_toArray, List.getElem_cons_succ, List.getElem_cons_zero, List.setIfInBounds_toArray, List.set_cons_zero, List.set_cons_succ]
          refine wpAnyH_ready (rs := [7]) (by kernel_rfl) (by simp) ?_
          refine AllReadyH.cons rfl (fun K hK => ?_) AllReadyH.nil
          refine Lib.wp_append_run _ _ _ _ _ rfl (.slice ra2 rn2 rc2) (.slice (some ⟨W4.heap.size, 0, none⟩) 1 1) rfl rfl _ _ hr5 ?_
          refine hK.out _ _ K6 (fun hHeld => ?_)
          clear hK K
          try simp only [Act.put, List.getElem_toArray, List.getElem_cons_succ, List.getElem_cons_zero, List.setIfInBounds_toArray, List.set_cons_zero, List.set_cons_succ]
          refine wpAnyH_take (i := 8) (v := ?tv42) rfl (by kernel_rfl) (by kernel_rfl) (by kernel_rfl) (fun _ _ _ h => h) (Or.inl ⟨by rfl, ?ty42⟩) (by assumption) ?tr42
          case ty42 =>
            intro u hSu
            obtain ⟨⟨s0, s1, s2, s3, s4, s5⟩, s6, s7, s8⟩ := hSu
            go_simp
            try with_reducible rfl
          try simp only [Act.put, List.getElem_toArray, List.getElem_cons_succ, List.getElem_cons_zero, List.setIfInBounds_toArray, List.set_cons_zero, List.set_cons_succ]
          refine wpAnyH_ready (rs := [9]) (by kernel_rfl) (by simp) ?_
          refine AllReadyH.cons rfl (fun K hK => ?_) AllReadyH.nil
          go_simp
          refine hK.out _ _ K7 (fun hHeld => ?_)
          clear hK K
          try simp only [Act.put, List.getElem_toArray, List.getElem_cons_succ, List.getElem_cons_zero, List.setIfInBounds_toArray, List.set_cons_zero, List.set_cons_succ]
          refine wpAnyH_done (by kernel_rfl) ?_ _
          clear e0 e1 e2 e3 e4 e5 e6 fz c0 c1 c2 c3 c4 c5 c6 d0 d1 d2 d3 d4 d5 d6 K4 K5 K6 K7 hr5 hHeld
          generalize u5.setCell ⟨w3.heap.size, 5, none⟩ (.slice a5 (rn2 + 1) c5') = U at *
          obtain ⟨c0, c1, c2, c3, c4, c5⟩ := mod_cells J6.out.X
          have c6 := J6.out.X.lt
          obtain ⟨d0, d1, d2, d3, d4, d5⟩ := mod_cells X6.out
          have d6 := X6.out.lt
          all_goals
            go_wp2_with (first | (go_at_call 15; (with_reducible refine (TT.out.mo _ _ _ _ _ _ _ _ _ _ _ _ _ _ _ _ R6.out).mono ?_); rintro e w6 ⟨rfl, hb⟩; have J7 := Lib.hid (J6.out.belowS hb); have X7 := Lib.hid (X6.out.belowS hb); have R7 := Lib.hid (RdM.go R6.out hb hb.size); obtain ⟨p0, p1, p2, p3, p4, p5⟩ := mod_cells J7.out.X; have p6 := J7.out.X.lt; obtain ⟨q0, q1, q2, q3, q4, q5⟩ := mod_cells X7.out; have q6 := X7.out.lt; clear hb) | (go_at_call 16; (with_reducible refine (TT.out.sa _ _ _ _ _ _ _ _ _ _ _ _ _ _ _ _ J7.out.B R7.out).mono ?_); rintro e w7 ⟨rfl, hb⟩; have J8 := Lib.hid (J7.out.belowS hb); have X8 := Lib.hid (X7.out.belowS hb); have R8 := Lib.hid (RdM.go R7.out hb hb.size); obtain ⟨t0, t1, t2, t3, t4, t5⟩ := mod_cells X8.out; have t6 := X8.out.lt; clear hb) | (go_at_call 12; (with_reducible refine (TT.out.ch _ _ _ _ _ _ _ _ _ _ _ _ _ _ _ _ R8.out).mono ?_); rintro e w8 ⟨rfl, hb⟩; have J9 := Lib.hid (J8.out.belowS hb); clear hb) | (go_at_call 9; (with_reducible refine (AW.out _).mono ?_); rintro e w9 ⟨rfl, hb⟩; have J10 := Lib.hid (J9.out.belowS hb); clear hb))
            go_ret
            exact ⟨rfl, J10.out.B⟩
    · skip
      rcases him0 with him0 | him0
      · skip
        go_upto_region 9 with fail
        refine wp_region_held_drew (S := fun u => MC w.heap.size x ea en ec ia im ic ca cn cc da dn dc (some ⟨g, off, none⟩) rn2 rc u ∧ u.cell? ⟨g, off, none⟩ = some (.int .u8 (l0.kind : Int)) ∧ u.cell? ⟨g, off + 1, none⟩ = some (.int .u16 (l0.at_ : Int)) ∧ u.cell? ⟨g, off + 2, none⟩ = some (.int .u16 (l0.wh : Int))) (by kernel_rfl) K4 (fun hHeld => ?_)
        refine wpAnyH_take (i := 0) (v := ?tv43) rfl (by kernel_rfl) (by kernel_rfl) (by kernel_rfl) (fun _ _ _ h => h) (Or.inl ⟨by rfl, ?ty43⟩) (by assumption) ?tr43
        case ty43 =>
          intro u hSu
          obtain ⟨⟨s0, s1, s2, s3, s4, s5⟩, s6, s7, s8⟩ := hSu
          go_simp
          try with_reducible rfl
        try simp only [Act.put, List.getElem_toArray, List.getElem_cons_succ, List.getElem_cons_zero, List.setIfInBounds_toArray, List.set_cons_zero, List.set_cons_succ]
        refine wpAnyH_take (i := 2) (v := ?tv44) rfl (by kernel_rfl) (by kernel_rfl) (by kernel_rfl) (fun _ _ _ h => h) (Or.inl ⟨by rfl, ?ty44⟩) (by assumption) ?tr44
        case ty44 =>
          intro u hSu
          obtain ⟨⟨s0, s1, s2, s3, s4, s5⟩, s6, s7, s8⟩ := hSu
          go_simp
          try with_reducible rfl
        try simp only [Act.put, List.getElem_toArray, List.getElem_cons_succ, List.getElem_cons_zero, List.setIfInBounds_toArray, List.set_cons_zero, List.set_cons_succ]
        refine wpAnyH_take (i := 3) (v := ?tv45) rfl (by kernel_rfl) (by kernel_rfl) (by kernel_rfl) (fun _ _ _ h => h) (Or.inl ⟨by rfl, ?ty45⟩) (by assumption) ?tr45
        case ty45 =>
          intro u hSu
          obtain ⟨⟨s0, s1, s2, s3, s4, s5⟩, s6, s7, s8⟩ := hSu
          go_simp
          try with_reducible rfl
        try simp only [Act.put, List.getElem_toArray, List.getElem_cons_succ, List.getElem_cons_zero, List.setIfInBounds_toArray, List.set_cons_zero, List.set_cons_succ]
        refine wpAnyH_take (i := 4) (v := ?tv46) rfl (by kernel_rfl) (by kernel_rfl) (by kernel_rfl) (fun _ _ _ h => h) (Or.inl ⟨by rfl, ?ty46⟩) (by assumption) ?tr46
        case ty46 =>
          intro u hSu
          obtain ⟨⟨s0, s1, s2, s3, s4, s5⟩, s6, s7, s8⟩ := hSu
          go_simp
          try with_reducible rfl
        try simp only [Act.put, List.getElem_toArray, List.getElem_cons_succ, List.getElem_cons_zero, List.setIfInBounds_toArray, List.set_cons_zero, List.set_cons_succ]
        refine wpAnyH_take (i := 5) (v := ?tv47) rfl (by kernel_rfl) (by kernel_rfl) (by kernel_rfl) (fun _ _ _ h => h) (Or.inl ⟨by rfl, ?ty47⟩) (by assumption) ?tr47
        case ty47 =>
          intro u hSu
          obtain ⟨⟨s0, s1, s2, s3, s4, s5⟩, s6, s7, s8⟩ := hSu
          go_simp
          try with_reducible rfl
        try simp only [Act.put, List.getElem_toArray, List.getElem_cons_succ, List.getElem_cons_zero, List.setIfInBounds_toArray, List.set_cons_zero, List.set_cons_succ]
        refine wpAnyH_ready (rs := [1, 6]) (by kernel_rfl) (by simp) ?_
        refine AllReadyH.cons rfl ?_ (AllReadyH.cons rfl ?_ AllReadyH.nil)
        · intro K hK
          go_simp
          refine hK.out _ _ K4 (fun hHeld => ?_)
          clear hK K
          try simp only [Act.put, List.getElem_toArray, List.getElem_cons_succ, List.getElem_cons_zero, List.setIfInBounds_toArray, List.set_cons_zero, List.set_cons_succ]
          refine wpAnyH_ready (rs := [6]) (by kernel_rfl) (by simp) ?_
          refine AllReadyH.cons rfl (fun K hK => ?_) AllReadyH.nil
          go_simp
          refine hK.out _ _ K5 (fun hHeld => ?_)
          clear hK K
          try simp only [Act.put, List.getElem_toArray, List.getElem_cons_succ, List.getElem_cons_zero, List.setIfInBounds_toArray, List.set_cons_zero, List.set_cons_succ]
          refine wpAnyH_ready (rs := [7]) (by kernel_rfl) (by simp) ?_
          refine AllReadyH.cons rfl (fun K hK => ?_) AllReadyH.nil
          refine Lib.wp_append_run _ _ _ _ _ rfl (.slice ra2 rn2 rc2) (.slice (some ⟨W4.heap.size, 0, none⟩) 1 1) rfl rfl _ _ hr5 ?_
          refine hK.out _ _ K6 (fun hHeld => ?_)
          clear hK K
          try simp only [Act.put, List.getElem_toArray, List.getElem_cons_succ, List.getElem_cons_zero, List.setIfInBounds_toArray, List.set_cons_zero, List.set_cons_succ]
          refine wpAnyH_take (i := 8) (v := ?tv48) rfl (by kernel_rfl) (by kernel_rfl) (by kernel_rfl) (fun _ _ _ h => h) (Or.inl ⟨by rfl, ?ty48⟩) (by assumption) ?tr48
          case ty48 =>
            intro u hSu
            obtain ⟨⟨s0, s1, s2, s3, s4, s5⟩, s6, s7, s8⟩ := hSu
            go_simp
            try with_reducible rfl
          try simp only [Act.put, List.getElem_toArray, List.getElem_cons_succ, List.getElem_cons_zero, List.setIfInBounds_toArray, List.set_cons_zero, List.set_cons_succ]
          refine wpAnyH_ready (rs := [9]) (by kernel_rfl) (by simp) ?_
          refine AllReadyH.cons rfl (fun K hK => ?_) AllReadyH.nil
          go_simp
          refine hK.out _ _ K7 (fun hHeld => ?_)
          clear hK K
          try simp only [Act.put, List.getElem_toArray, List.getElem_cons_succ, List.getElem_cons_zero, List.setIfInBounds_toArray, List.set_cons_zero, List.set_cons_succ]
          refine wpAnyH_done (by kernel_rfl) ?_ _
          clear e0 e1 e2 e3 e4 e5 e6 fz c0 c1 c2 c3 c4 c5 c6 d0 d1 d2 d3 d4 d5 d6 K4 K5 K6 K7 hr5 hHeld
          generalize u5.setCell ⟨w3.heap.size, 5, none⟩ (.slice a5 (rn2 + 1) c5') = U at *
          obtain ⟨c0, c1, c2, c3, c4, c5⟩ := mod_cells J6.out.X
          have c6 := J6.out.X.lt
          obtain ⟨d0, d1, d2, d3, d4, d5⟩ := mod_cells X6.out
          have d6 := X6.out.lt
          all_goals
            go_wp2_with (first | (go_at_call 15; (with_reducible refine (TT.out.mo _ _ _ _ _ _ _ _ _ _ _ _ _ _ _ _ R6.out).mono ?_); rintro e w6 ⟨rfl, hb⟩; have J7 := Lib.hid (J6.out.belowS hb); have X7 := Lib.hid (X6.out.belowS hb); have R7 := Lib.hid (RdM.go R6.out hb hb.size); obtain ⟨p0, p1, p2, p3, p4, p5⟩ := mod_cells J7.out.X; have p6 := J7.out.X.lt; obtain ⟨q0, q1, q2, q3, q4, q5⟩ := mod_cells X7.out; have q6 := X7.out.lt; clear hb) | (go_at_call 16; (with_reducible refine (TT.out.sa _ _ _ _ _ _ _ _ _ _ _ _ _ _ _ _ J7.out.B R7.out).mono ?_); rintro e w7 ⟨rfl, hb⟩; have J8 := Lib.hid (J7.out.belowS hb); have X8 := Lib.hid (X7.out.belowS hb); have R8 := Lib.hid (RdM.go R7.out hb hb.size); obtain ⟨t0, t1, t2, t3, t4, t5⟩ := mod_cells X8.out; have t6 := X8.out.lt; clear hb) | (go_at_call 12; (with_reducible refine (TT.out.ch _ _ _ _ _ _ _ _ _ _ _ _ _ _ _ _ R8.out).mono ?_); rintro e w8 ⟨rfl, hb⟩; have J9 := Lib.hid (J8.out.belowS hb); clear hb) | (go_at_call 9; (with_reducible refine (AW.out _).mono ?_); rintro e w9 ⟨rfl, hb⟩; have J10 := Lib.hid (J9.out.belowS hb); clear hb))
            go_ret
            exact ⟨rfl, J10.out.B⟩
        · intro K hK
          go_simp
          refine hK.out _ _ K5 (fun hHeld => ?_)
          clear hK K
          try simp only [Act.put, List.getElem_toArray, List.getElem_cons_succ, List.getElem_cons_zero, List.setIfInBounds_toArray, List.set_cons_zero, List.set_cons_succ]
          refine wpAnyH_ready (rs := [1]) (by kernel_rfl) (by simp) ?_
          refine AllReadyH.cons rfl (fun K hK => ?_) AllReadyH.nil
          go_simp
          refine hK.out _ _ K5 (fun hHeld => ?_)
          clear hK K
          try simp only [Act.put, List.getElem_toArray, List.getElem_cons_succ, List.getElem_cons_zero, List.setIfInBounds_toArray, List.set_cons_zero, List.set_cons_succ]
          refine wpAnyH_ready (rs := [7]) (by kernel_rfl) (by simp) ?_
          refine AllReadyH.cons rfl (fun K hK => ?_) AllReadyH.nil
          refine Lib.wp_append_run _ _ _ _ _ rfl (.slice ra2 rn2 rc2) (.slice (some ⟨W4.heap.size, 0, none⟩) 1 1) rfl rfl _ _ hr5 ?_
          refine hK.out _ _ K6 (fun hHeld => ?_)
          clear hK K
          try simp only [Act.put, List.getElem_toArray, List.getElem_cons_succ, List.getElem_cons_zero, List.setIfInBounds_toArray, List.set_cons_zero, List.set_cons_succ]
          refine wpAnyH_take (i := 8) (v := ?tv49) rfl (by kernel_rfl) (by kernel_rfl) (by kernel_rfl) (fun _ _ _ h => h) (Or.inl ⟨by rfl, ?ty49⟩) (by assumption) ?tr49
          case ty49 =>
            intro u hSu
            obtain ⟨⟨s0, s1, s2, s3, s4, s5⟩, s6, s7, s8⟩ := hSu
            go_simp
            try with_reducible rfl
          try simp only [Act.put, List.getElem_toArray, List.getElem_cons_succ, List.getElem_cons_zero, List.setIfInBounds_toArray, List.set_cons_zero, List.set_cons_succ]
          refine wpAnyH_ready (rs := [9]) (by kernel_rfl) (by simp) ?_
          refine AllReadyH.cons rfl (fun K hK => ?_) AllReadyH.nil
          go_simp
          refine hK.out _ _ K7 (fun hHeld => ?_)
          clear hK K
          try simp only [Act.put, List.getElem_toArray, List.getElem_cons_succ, List.getElem_cons_zero, List.setIfInBounds_toArray, List.set_cons_zero, List.set_cons_succ]
          refine wpAnyH_done (by kernel_rfl) ?_ _
          clear e0 e1 e2 e3 e4 e5 e6 fz c0 c1 c2 c3 c4 c5 c6 d0 d1 d2 d3 d4 d5 d6 K4 K5 K6 K7 hr5 hHeld
          generalize u5.setCell ⟨w3.heap.size, 5, none⟩ (.slice a5 (rn2 + 1) c5') = U at *
          obtain ⟨c0, c1, c2, c3, c4, c5⟩ := mod_cells J6.out.X
          have c6 := J6.out.X.lt
          obtain ⟨d0, d1, d2, d3, d4, d5⟩ := mod_cells X6.out
          have d6 := X6.out.lt
          all_goals
            go_wp2_with (first | (go_at_call 15; (with_reducible refine (TT.out.mo _ _ _ _ _ _ _ _ _ _ _ _ _ _ _ _ R6.out).mono ?_); rintro e w6 ⟨rfl, hb⟩; have J7 := Lib.hid (J6.out.belowS hb); have X7 := Lib.hid (X6.out.belowS hb); have R7 := Lib.hid (RdM.go R6.out hb hb.size); obtain ⟨p0, p1, p2, p3, p4, p5⟩ := mod_cells J7.out.X; have p6 := J7.out.X.lt; obtain ⟨q0, q1, q2, q3, q4, q5⟩ := mod_cells X7.out; have q6 := X7.out.lt; clear hb) | (go_at_call 16; (with_reducible refine (TT.out.sa _ _ _ _ _ _ _ _ _ _ _ _ _ _ _ _ J7.out.B R7.out).mono ?_); rintro e w7 ⟨rfl, hb⟩; have J8 := Lib.hid (J7.out.belowS hb); have X8 := Lib.hid (X7.out.belowS hb); have R8 := Lib.hid (RdM.go R7.out hb hb.size); obtain ⟨t0, t1, t2, t3, t4, t5⟩ := mod_cells X8.out; have t6 := X8.out.lt; clear hb) | (go_at_call 12; (with_reducible refine (TT.out.ch _ _ _ _ _ _ _ _ _ _ _ _ _ _ _ _ R8.out).mono ?_); rintro e w8 ⟨rfl, hb⟩; have J9 := Lib.hid (J8.out.belowS hb); clear hb) | (go_at_call 9; (with_reducible refine (AW.out _).mono ?_); rintro e w9 ⟨rfl, hb⟩; have J10 := Lib.hid (J9.out.belowS hb); clear hb))
            go_ret
            exact ⟨rfl, J10.out.B⟩
      · skip
        go_upto_region 9 with fail
        refine wp_region_held_drew (S := fun u => MC w.heap.size x ea en ec ia im ic ca cn cc da dn dc (some ⟨g, off, none⟩) rn2 rc u ∧ u.cell? ⟨g, off, none⟩ = some (.int .u8 (l0.kind : Int)) ∧ u.cell? ⟨g, off + 1, none⟩ = some (.int .u16 (l0.at_ : Int)) ∧ u.cell? ⟨g, off + 2, none⟩ = some (.int .u16 (l0.wh : Int))) (by kernel_rfl) K4 (fun hHeld => ?_)
        refine wpAnyH_take (i := 0) (v := ?tv50) rfl (by kernel_rfl) (by kernel_rfl) (by kernel_rfl) (fun _ _ _ h => h) (Or.inl ⟨by rfl, ?ty50⟩) (by assumption) ?tr50
        case ty50 =>
          intro u hSu
          obtain ⟨⟨s0, s1, s2, s3, s4, s5⟩, s6, s7, s8⟩ := hSu
          go_simp
          try with_reducible rfl
        try simp only [Act.put, List.getElem_toArray, List.getElem_cons_succ, List.getElem_cons_zero, List.setIfInBounds_toArray, List.set_cons_zero, List.set_cons_succ]
        refine wpAnyH_take (i := 2) (v := ?tv51) rfl (by kernel_rfl) (by kernel_rfl) (by kernel_rfl) (fun _ _ _ h => h) (Or.inl ⟨by rfl, ?ty51⟩) (by assumption) ?tr51
        case ty51 =>
          intro u hSu
          obtain ⟨⟨s0, s1, s2, s3, s4, s5⟩, s6, s7, s8⟩ := hSu
          go_simp
          try with_reducible rfl
        try simp only [Act.put, List.getElem_toArray, List.getElem_cons_succ, List.getElem_cons_zero, List.setIfInBounds_toArray, List.set_cons_zero, List.set_cons_succ]
        refine wpAnyH_take (i := 3) (v := ?tv52) rfl (by kernel_rfl) (by kernel_rfl) (by kernel_rfl) (fun _ _ _ h => h) (Or.inl ⟨by rfl, ?ty52⟩) (by assumption) ?tr52
        case ty52 =>
          intro u hSu
          obtain ⟨⟨s0, s1, s2, s3, s4, s5⟩, s6, s7, s8⟩ := hSu
          go_simp
          try with_reducible rfl
        try simp only [Act.put, List.getElem_toArray, List.getElem_cons_succ, List.getElem_cons_zero, List.setIfInBounds_toArray, List.set_cons_zero, List.set_cons_succ]
        refine wpAnyH_take (i := 4) (v := ?tv53) rfl (by kernel_rfl) (by kernel_rfl) (by kernel_rfl) (fun _ _ _ h => h) (Or.inl ⟨by rfl, ?ty53⟩) (by assumption) ?tr53
        case ty53 =>
          intro u hSu
          obtain ⟨⟨s0, s1, s2, s3, s4, s5⟩, s6, s7, s8⟩ := hSu
          go_simp
          try with_reducible rfl
        try simp only [Act.put, List.getElem_toArray, List.getElem_cons_succ, List.getElem_cons_zero, List.setIfInBounds_toArray, List.set_cons_zero, List.set_cons_succ]
        refine wpAnyH_take (i := 5) (v := ?tv54) rfl (by kernel_rfl) (by kernel_rfl) (by kernel_rfl) (fun _ _ _ h => h) (Or.inl ⟨by rfl, ?ty54⟩) (by assumption) ?tr54
        case ty54 =>
          intro u hSu
          obtain ⟨⟨s0, s1, s2, s3, s4, s5⟩, s6, s7, s8⟩ := hSu
          go_simp
          try with_reducible rfl
        try simp only [Act.put, List.getElem_toArray, List.getElem_cons_succ, List.getElem_cons_zero, List.setIfInBounds_toArray, List.set_cons_zero, List.set_cons_succ]
        refine wpAnyH_ready (rs := [1, 6]) (by kernel_rfl) (by simp) ?_
        refine AllReadyH.cons rfl ?_ (AllReadyH.cons rfl ?_ AllReadyH.nil)
        · intro K hK
          go_simp
          refine hK.out _ _ K4 (fun hHeld => ?_)
          clear hK K
          try simp only [Act.put, List.getElem_toArray, List.getElem_cons_succ, List.getElem_cons_zero, List.setIfInBounds_toArray, List.set_cons_zero, List.set_cons_succ]
          refine wpAnyH_ready (rs := [6]) (by kernel_rfl) (by simp) ?_
          refine AllReadyH.cons rfl (fun K hK => ?_) AllReadyH.nil
          go_simp
          refine hK.out _ _ K5 (fun hHeld => ?_)
          clear hK K
          try simp only [Act.put, List.getElem_toArray, List.getElem_cons_succ, List.getElem_cons_zero, List.setIfInBounds_toArray, List.set_cons_zero, List.set_cons_succ]
          refine wpAnyH_ready (rs := [7]) (by kernel_rfl) (by simp) ?_
          refine AllReadyH.cons rfl (fun K hK => ?_) AllReadyH.nil
          refine Lib.wp_append_run _ _ _ _ _ rfl (.slice ra2 rn2 rc2) (.slice (some ⟨W4.heap.size, 0, none⟩) 1 1) rfl rfl _ _ hr5 ?_
          refine hK.out _ _ K6 (fun hHeld => ?_)
          clear hK K
          try simp only [Act.put, List.getElem_toArray, List.getElem_cons_succ, List.getElem_cons_zero, List.setIfInBounds_toArray, List.set_cons_zero, List.set_cons_succ]
          refine wpAnyH_take (i := 8) (v := ?tv55) rfl (by kernel_rfl) (by kernel_rfl) (by kernel_rfl) (fun _ _ _ h => h) (Or.inl ⟨by rfl, ?ty55⟩) (by assumption) ?tr55
          case ty55 =>
            intro u hSu
            obtain ⟨⟨s0, s1, s2, s3, s4, s5⟩, s6, s7, s8⟩ := hSu
            go_simp
            try with_reducible rfl
          try simp only [Act.put, List.getElem_toArray, List.getElem_cons_succ, List.getElem_cons_zero, List.setIfInBounds_toArray, List.set_cons_zero, List.set_cons_succ]
          refine wpAnyH_ready (rs := [9]) (by kernel_rfl) (by simp) ?_
          refine AllReadyH.cons rfl (fun K hK => ?_) AllReadyH.nil
          go_simp
          refine hK.out _ _ K7 (fun hHeld => ?_)
          clear hK K
          try simp only [Act.put, List.getElem_toArray, List.getElem_cons_succ, List.getElem_cons_zero, List.setIfInBounds_toArray, List.set_cons_zero, List.set_cons_succ]
          refine wpAnyH_done (by kernel_rfl) ?_ _
          clear e0 e1 e2 e3 e4 e5 e6 fz c0 c1 c2 c3 c4 c5 c6 d0 d1 d2 d3 d4 d5 d6 K4 K5 K6 K7 hr5 hHeld
          generalize u5.setCell ⟨w3.heap.size, 5, none⟩ (.slice a5 (rn2 + 1) c5') = U at *
          obtain ⟨c0, c1, c2, c3, c4, c5⟩ := mod_cells J6.out.X
          have c6 := J6.out.X.lt
          obtain ⟨d0, d1, d2, d3, d4, d5⟩ := mod_cells X6.out
          have d6 := X6.out.lt
          all_goals
            go_wp2_with (first | (go_at_call 15; (with_reducible refine (TT.out.mo _ _ _ _ _ _ _ _ _ _ _ _ _ _ _ _ R6.out).mono ?_); rintro e w6 ⟨rfl, hb⟩; have J7 := Lib.hid (J6.out.belowS hb); have X7 := Lib.hid (X6.out.belowS hb); have R7 := Lib.hid (RdM.go R6.out hb hb.size); obtain ⟨p0, p1, p2, p3, p4, p5⟩ := mod_cells J7.out.X; have p6 := J7.out.X.lt; obtain ⟨q0, q1, q2, q3, q4, q5⟩ := mod_cells X7.out; have q6 := X7.out.lt; clear hb) | (go_at_call 16; (with_reducible refine (TT.out.sa _ _ _ _ _ _ _ _ _ _ _ _ _ _ _ _ J7.out.B R7.out).mono ?_); rintro e w7 ⟨rfl, hb⟩; have J8 := Lib.hid (J7.out.belowS hb); have X8 := Lib.hid (X7.out.belowS hb); have R8 := Lib.hid (RdM.go R7.out hb hb.size); obtain ⟨t0, t1, t2, t3, t4, t5⟩ := mod_cells X8.out; have t6 := X8.out.lt; clear hb) | (go_at_call 12; (with_reducible refine (TT.out.ch _ _ _ _ _ _ _ _ _ _ _ _ _ _ _ _ R8.out).mono ?_); rintro e w8 ⟨rfl, hb⟩; have J9 := Lib.hid (J8.out.belowS hb); clear hb) | (go_at_call 9; (with_reducible refine (AW.out _).mono ?_); rintro e w9 ⟨rfl, hb⟩; have J10 := Lib.hid (J9.out.belowS hb); clear hb))
            go_ret
            exact ⟨rfl, J10.out.B⟩
        · intro K hK
          go_simp
          refine hK.out _ _ K5 (fun hHeld => ?_)
          clear hK K
          try simp only [Act.put, List.getElem_toArray, List.getElem_cons_succ, List.getElem_cons_zero, List.setIfInBounds_toArray, List.set_cons_zero, List.set_cons_succ]
          refine wpAnyH_ready (rs := [1]) (by kernel_rfl) (by simp) ?_
          refine AllReadyH.cons rfl (fun K hK => ?_) AllReadyH.nil
          go_simp
          refine hK.out _ _ K5 (fun hHeld => ?_)
          clear hK K
          try simp only [Act.put, List.getElem_toArray, List.getElem_cons_succ, List.getElem_cons_zero, List.setIfInBounds_toArray, List.set_cons_zero, List.set_cons_succ]
          refine wpAnyH_ready (rs := [7]) (by kernel_rfl) (by simp) ?_
          refine AllReadyH.cons rfl (fun K hK => ?_) AllReadyH.nil
          refine Lib.wp_append_run _ _ _ _ _ rfl (.slice ra2 rn2 rc2) (.slice (some ⟨W4.heap.size, 0, none⟩) 1 1) rfl rfl _ _ hr5 ?_
          refine hK.out _ _ K6 (fun hHeld => ?_)
          clear hK K
          try simp only [Act.put, List.getElem_toArray, List.getElem_cons_succ, List.getElem_cons_zero, List.setIfInBounds_toArray, List.set_cons_zero, List.set_cons_succ]
          refine wpAnyH_take (i := 8) (v := ?tv56) rfl (by kernel_rfl) (by kernel_rfl) (by kernel_rfl) (fun _ _ _ h => h) (Or.inl ⟨by rfl, ?ty56⟩) (by assumption) ?tr56
          case ty56 =>
            intro u hSu
            obtain ⟨⟨s0, s1, s2, s3, s4, s5⟩, s6, s7, s8⟩ := hSu
            go_simp
            try with_reducible rfl
          try simp only [Act.put, List.getElem_toArray, List.getElem_cons_succ, List.getElem_cons_zero, List.setIfInBounds_toArray, List.set_cons_zero, List.set_cons_succ]
          refine wpAnyH_ready (rs := [9]) (by kernel_rfl) (by simp) ?_
          refine AllReadyH.cons rfl (fun K hK => ?_) AllReadyH.nil
          go_simp
          refine hK.out _ _ K7 (fun hHeld => ?_)
          clear hK K
          try simp only [Act.put, List.getElem_toArray, List.getElem_cons_succ, List.getElem_cons_zero, List.setIfInBounds_toArray, List.set_cons_zero, List.set_cons_succ]
          refine wpAnyH_done (by kernel_rfl) ?_ _
          clear e0 e1 e2 e3 e4 e5 e6 fz c0 c1 c2 c3 c4 c5 c6 d0 d1 d2 d3 d4 d5 d6 K4 K5 K6 K7 hr5 hHeld
          generalize u5.setCell ⟨w3.heap.size, 5, none⟩ (.slice a5 (rn2 + 1) c5') = U at *
          obtain ⟨c0, c1, c2, c3, c4, c5⟩ := mod_cells J6.out.X
          have c6 := J6.out.X.lt
          obtain ⟨d0, d1, d2, d3, d4, d5⟩ := mod_cells X6.out
          have d6 := X6.out.lt
          all_goals
            go_wp2_with (first | (go_at_call 15; (with_reducible refine (TT.out.mo _ _ _ _ _ _ _ _ _ _ _ _ _ _ _ _ R6.out).mono ?_); rintro e w6 ⟨rfl, hb⟩; have J7 := Lib.hid (J6.out.belowS hb); have X7 := Lib.hid (X6.out.belowS hb); have R7 := Lib.hid (RdM.go R6.out hb hb.size); obtain ⟨p0, p1, p2, p3, p4, p5⟩ := mod_cells J7.out.X; have p6 := J7.out.X.lt; obtain ⟨q0, q1, q2, q3, q4, q5⟩ := mod_cells X7.out; have q6 := X7.out.lt; clear hb) | (go_at_call 16; (with_reducible refine (TT.out.sa _ _ _ _ _ _ _ _ _ _ _ _ _ _ _ _ J7.out.B R7.out).mono ?_); rintro e w7 ⟨rfl, hb⟩; have J8 := Lib.hid (J7.out.belowS hb); have X8 := Lib.hid (X7.out.belowS hb); have R8 := Lib.hid (RdM.go R7.out hb hb.size); obtain ⟨t0, t1, t2, t3, t4, t5⟩ := mod_cells X8.out; have t6 := X8.out.lt; clear hb) | (go_at_call 12; (with_reducible refine (TT.out.ch _ _ _ _ _ _ _ _ _ _ _ _ _ _ _ _ R8.out).mono ?_); rintro e w8 ⟨rfl, hb⟩; have J9 := Lib.hid (J8.out.belowS hb); clear hb) | (go_at_call 9; (with_reducible refine (AW.out _).mono ?_); rintro e w9 ⟨rfl, hb⟩; have J10 := Lib.hid (J9.out.belowS hb); clear hb))
            go_ret
            exact ⟨rfl, J10.out.B⟩
end
end Go.Proofs.Ytdfafllldanfiaa.WK
