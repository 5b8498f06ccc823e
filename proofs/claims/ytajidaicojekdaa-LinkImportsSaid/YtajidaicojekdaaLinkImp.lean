/-
  The law LinkImports, walked. Nothing here is a statement of the seed.
-/
import Derived.Test.YtajidaicojekdaaLinkMov
import Derived.Test.YtajidaicojekdaaLinkB
set_option linter.unusedSimpArgs false
set_option linter.unusedVariables false
namespace Go.Proofs.Ytajidaicojekdaa.KF
open Go.RowKit WM NR OM OR VM YM YR RM RF KM
theorem word_cell {B : Nat} {w : World} {a : Option Addr} {n cap : Nat} {l : List Nat} (h : w.ownsRow B 46 1 (.slice a n cap) n (u32s l)) {k : Nat} (hk : k < n) :
    ∃ g, a = some ⟨g, 0, none⟩ ∧ w.cell? ⟨g, k, none⟩ = some (.int .u32 ((l.getD k 0 : Nat) : Int)) ∧ n ≤ cap ∧ g < w.heap.size := by
  obtain ⟨hxl, hform⟩ := h
  rcases hform with ⟨_, hN0⟩ | ⟨g, cap', cur, hsl, hbg, hrow, hnc, hcm, hcs, htk⟩
  · exfalso; omega
  simp only [Value.slice.injEq, true_and] at hsl
  obtain ⟨rfl, rfl⟩ := hsl
  have hown : w.ownsRow B 46 1 (.slice (some ⟨g, 0, none⟩) n cap) n (u32s l) := ⟨hxl, Or.inr ⟨g, cap, cur, rfl, hbg, hrow, hnc, hcm, hcs, htk⟩⟩
  have e := hown.cellAt k (by omega)
  rw [u32s_len] at hxl
  rw [words_at (by omega)] at e
  exact ⟨g, rfl, e, hnc, (Array.getElem?_eq_some_iff.1 hrow).1⟩
theorem take_snoc {z : List Nat} {k : Nat} (h : k < z.length) : u32s (z.take k) ++ [Value.int .u32 ((z.getD k 0 : Nat) : Int)] = u32s (z.take (k + 1)) := by
  unfold u32s
  rw [List.take_add_one, List.getElem?_eq_getElem h, List.map_append, List.getD_eq_getElem?_getD, List.getElem?_eq_getElem h]
  simp
end Go.Proofs.Ytajidaicojekdaa.KF
namespace Go.Proofs.Ytajidaicojekdaa.WK
open Go.RowKit WM NR OM OR VM YM YR RM RF KM KF
set_option maxHeartbeats 4000000
set_option maxRecDepth 10000
section
variable {w : World} {ea : Option Addr} {en ec : Nat} {ia : Option Addr} {im ic : Nat} {ca : Option Addr} {cn cc : Nat} {da : Option Addr} {dn dc : Nat} {ra : Option Addr} {rn rc : Nat} {m : Md}
theorem LinkImports_walk (h : RdM (· < w.heap.size) w ea en ec ia im ic ca cn cc da dn dc ra rn rc m) (hf : FineM m) (za : List Nat) (va : Value) (RA : Reads (· < w.heap.size) w va (u16s za)) (hza' : ∀ x ∈ za, x < 65536)
    (zb : List Nat) (vb : Value) (RB : Reads (· < w.heap.size) w vb (u16s zb)) (hzb' : ∀ x ∈ zb, x < 65536) :
    Calls Try.prog 8 #[mV (bs m.name) ea en ec ia im ic ca cn cc da dn dc ra rn rc, va, vb] w fun e w' => e = .returned (.bool true) ∧ Below w.heap.size w w' := by
  obtain ⟨l1, l2, l3, l4, l5⟩ := h.lens
  have J0 := Lib.hid (MJ1.new w (mCs (bs m.name) ea en ec ia im ic ca cn cc da dn dc ra rn rc))
  have CS := Lib.hid (fun (u : World) (hb : Below w.heap.size w u) => size_any (h.go hb hb.size))
  have CK := Lib.hid (fun (u : World) (hb : Below w.heap.size w u) => VR.vcheck_any (h.go hb hb.size) hf)
  have AW := Lib.hid awk16
  obtain ⟨ava, cva, rfl, hva1, hva2⟩ := RA.shape
  obtain ⟨avb, cvb, rfl, hvb1, hvb2⟩ := RB.shape
  rw [u16s_len] at hva1 hvb1 RA RB
  rw [u16s_len, u16s_len]
  by_cases hall : szF en [im, cn, dn, rn] ≤ 2000 ∧ VR.chkV m = 0 ∧ im ≤ za.length ∧ im ≤ zb.length
  · obtain ⟨hs, hk, hza, hzb⟩ := hall
    obtain ⟨z1, z2, z3, z4, z5⟩ := szF_five hs
    have hG : VM.Good m := good_of (by unfold VR.chkV at hk; split at hk <;> omega)
    obtain ⟨⟨_, y2, y3, y4, _⟩, _⟩ := chk_ok hG.ck
    rw [l2] at y2
    have hl0 : cn * 4 ≤ 140737488355328 ∧ dn * 4 ≤ 140737488355328 := by omega
    have CO := Lib.hid (fun (u : World) (hb : Below w.heap.size w u) => of_any (h.go hb hb.size) hl0)
    have b1 : pgs cn ≤ 32 := pgs_le (by omega)
    have b2 : pgs dn ≤ 8 := pgs_le (by omega)
    have b3 : 0 < pgs cn := by have h0 := hG.c0; rw [l3] at h0; have := pgs_zero cn; omega
    have CT := Lib.hid (at_any ((pgs cn : Nat) : Int) ((pgs dn : Nat) : Int) 3 (by omega) (by omega) (by omega))
    obtain ⟨hq1, hq2⟩ := nW_pages (good_lng hG)
    have hpg : pgP ((pgs cn : Nat) : Int) ((pgs dn : Nat) : Int) = ((pgs cn + pgs dn : Nat) : Int) := pgP_small (by omega) (by omega)
    unfold resAt at CT
    rw [atP_val (by rw [hpg]; omega) (by omega) (by rw [hpg]; omega)] at CT
    obtain ⟨a1, a2⟩ : (0 : Int) ≤ 80 + 16 * 3 ∧ (80 + 16 * 3 : Int) ≤ 4176 := by omega
    obtain ⟨a3, a4⟩ : 0 ≤ 80 + 16 * (3 + ((pgs cn : Nat) : Int)) ∧ 80 + 16 * (3 + ((pgs cn : Nat) : Int)) ≤ 4176 := by omega
    simp only at CT
    generalize (80 + 16 * 3 : Int) = c at *
    generalize 80 + 16 * (3 + ((pgs cn : Nat) : Int)) = d at *
    have hla : m.imps.length ≤ (za.take im).length := by rw [List.length_take]; omega
    have hlb : m.imps.length ≤ (zb.take im).length := by rw [List.length_take]; omega
    have hsa : ∀ x ∈ za.take im, x ≤ 65535 := fun x hx => by have := hza' x (List.mem_of_mem_take hx); omega
    have hsb : ∀ x ∈ zb.take im, x ≤ 65535 := fun x hx => by have := hzb' x (List.mem_of_mem_take hx); omega
    have CI1 := Lib.hid (fun (u : World) (hb : Below w.heap.size w u) (q : Value) (hR : Slots u q (za.take im)) => by
      have := KP.image_any (h.go hb hb.size) hf hl0 c d (by omega) (by omega) (za.take im) q hR (fun x hx => by have := hsa x hx; omega)
      rw [good_img hG hla hsa (by omega) (by omega)] at this
      exact this)
    have CI2 := Lib.hid (fun (u : World) (hb : Below w.heap.size w u) (q : Value) (hR : Slots u q (zb.take im)) => by
      have := KP.image_any (h.go hb hb.size) hf hl0 c d (by omega) (by omega) (zb.take im) q hR (fun x hx => by have := hsb x hx; omega)
      rw [good_img hG hlb hsb (by omega) (by omega)] at this
      exact this)
    have HI1 := Lib.hid (good_img hG hla hsa (c := c) (d := d) (by omega) (by omega))
    have HI2 := Lib.hid (good_img hG hlb hsb (c := c) (d := d) (by omega) (by omega))
    have CP := Lib.hid (fun (u : World) (hb : Below w.heap.size w u) (k : Nat) (hk : k ≤ 640) => spot_any (h.go hb hb.size) hl0 (k : Int) (by omega))
    have HM := Lib.hid (fun (i : Nat) => imports_by hG (i : Int) hla hsa hlb hsb (c := c) (d := d) (by omega) (by omega))
    have HB1 := Lib.hid (fun i : Nat => (wrdW_bd hf (c := c) (d := d) (fun x hx => by have := hsa x hx; omega) (i : Int)).1)
    have HB2 := Lib.hid (fun i : Nat => (wrdW_bd hf (c := c) (d := d) (fun x hx => by have := hsb x hx; omega) (i : Int)).1)
    have hs' : ¬ (2000 : Int) < (szF en [im, cn, dn, rn] : Nat) := by omega
    have HF := Lib.hid (fun (k : Nat) (hk : k < rn) => hf.rels _ (mem_getD (l := m.rels) (d := ⟨0, 0, 0⟩) (i := k) (by omega)))
    have HG := Lib.hid hG
    have HRL := Lib.hid h.rl
    have HLR := Lib.hid l5
    have HLI := Lib.hid l2
    have hrc : (rn : Int) ≤ rc := by have := h.rl.len.2.1; omega
    have HW := Lib.hid (And.intro l3 l4)
    have HRA := Lib.hid RA
    have HRB := Lib.hid RB
    rw [hk] at CK
    obtain ⟨i0, hi, hz0, hz1, hz2⟩ := info_parts infoWord
    have hnm : im ≤ maxLen := by unfold maxLen; omega
    have hIA : Hid (imgL m c d (za.take im) = imgL m c d (za.take im)) := Lib.hid rfl
    clear h hf hs hk hG hl0 l1 l2 l3 l4 l5 z1 z2 z3 z4 hq1 hpg b1 b2 b3 y3 y4 hla hlb hsa hsb RA RB
    generalize ((szF en [im, cn, dn, rn] : Nat) : Int) = S at *
    obtain ⟨n, hnw⟩ : ∃ n, nW m = n := ⟨_, rfl⟩
    rw [hnw] at hq2
    have HNW := Lib.hid hnw
    clear hnw
    generalize pgs cn = p at *
    generalize pgs dn = pq at *
    generalize bs m.name = x at *
    have hsd : decide ((2000 : Int) < S) = false := decide_eq_false hs'
    have hza1 : decide (za.length < im) = false := decide_eq_false (by omega)
    have hza2 : decide ((za.length : Int) < (im : Int)) = false := decide_eq_false (by omega)
    have hzb1 : decide (zb.length < im) = false := decide_eq_false (by omega)
    have hzb2 : decide ((zb.length : Int) < (im : Int)) = false := decide_eq_false (by omega)
    go_enter Try.func8, Try.ntmps8
    go_upto_region 1 with fail
    generalize w.alloc (.cells (mCs x ea en ec ia im ic ca cn cc da dn dc ra rn rc) 45) = W at *
    have JJ := J0
    clear J0
    obtain ⟨c0, c1, c2, c3, c4, c5⟩ := mod_cells JJ.out.X
    have c6 := JJ.out.X.lt
    go_wp2_with (first | (go_at_call 16; (with_reducible refine (CS.out _ JJ.out.B).mono ?_); rintro e w9 ⟨rfl, hb⟩; have JJ := Lib.hid (JJ.out.belowS hb); obtain ⟨c0, c1, c2, c3, c4, c5⟩ := mod_cells JJ.out.X; have c6 := JJ.out.X.lt; clear hb) | (go_at_call 23; (with_reducible refine (CK.out _ JJ.out.B).mono ?_); rintro e w9 ⟨rfl, hb⟩; have JJ := Lib.hid (JJ.out.belowS hb); obtain ⟨c0, c1, c2, c3, c4, c5⟩ := mod_cells JJ.out.X; have c6 := JJ.out.X.lt; clear hb))
    have J1 := JJ
    clear c0 c1 c2 c3 c4 c5 c6
    go_loopw [8, 9, 10] (fun o1 o2 i wr => ∃ (k : Nat) (q1 q2 : Value), k ≤ im ∧ i = .int .i64 (k : Int) ∧ o1 = q1 ∧ o2 = q2 ∧ wr.ownsRow w9.heap.size 46 1 q1 k (u32s (za.take k)) ∧ wr.ownsRow w9.heap.size 46 1 q2 k (u32s (zb.take k)) ∧
      Hid (∀ g, q1.ownBlock = some g → q2.ownBlock ≠ some g) ∧ Below w9.heap.size w9 wr) (fun _ _ i _ => im - (intOf i).toNat)
    case atStart => exact ⟨0, _, _, by omega, rfl, rfl, rfl, World.ownsRow_nil _ _ _ _, World.ownsRow_nil _ _ _ _, Lib.hid (fun g hg => by cases hg), Below.refl _ _⟩
    case round =>
      obtain ⟨k, q1, q2, hk, rfl, rfl, rfl, hown1, hown2, hne, hbl⟩ := hrel
      by_cases hlt : k < im
      · have hlt' : (k : Int) < im := by omega
        have hka : k < za.length := by omega
        have hkb : k < zb.length := by omega
        have hJW := J1.out.B
        obtain ⟨ga, offa, rfl, _, e0⟩ := reads_at HRA.out hJW hka
        obtain ⟨gb, offb, rfl, _, e1⟩ := reads_at HRB.out hJW hkb
        rw [u16s_at za k hka] at e0
        rw [u16s_at zb k hkb] at e1
        have ha16 := hza' _ (mem_getD (l := za) (d := 0) hka)
        have hb16 := hzb' _ (mem_getD (l := zb) (d := 0) hkb)
        have hsn1 := take_snoc hka
        have hsn2 := take_snoc hkb
        have hkza : (k : Int) < (za.length : Int) := by omega
        have hkzb : (k : Int) < (zb.length : Int) := by omega
        have hca : (za.length : Int) ≤ cva := by omega
        have hcb : (zb.length : Int) ≤ cvb := by omega
        have hk0 : (0 : Int) ≤ (k : Int) := by omega
        have hla := World.block_lt_of_cell? w9 _ e0
        have hlb := World.block_lt_of_cell? w9 _ e1
        obtain ⟨X1, hX1⟩ : ∃ X : Int, ((za.getD k 0 : Nat) : Int) = X := ⟨_, rfl⟩
        obtain ⟨X2, hX2⟩ : ∃ X : Int, ((zb.getD k 0 : Nat) : Int) = X := ⟨_, rfl⟩
        rw [hX1] at e0 hsn1
        rw [hX2] at e1 hsn2
        have hx1 : IntKind.u32.wrap X1 = X1 := by rw [show IntKind.u32.wrap X1 = X1 % 4294967296 from rfl]; omega
        have hx2 : IntKind.u32.wrap X2 = X2 := by rw [show IntKind.u32.wrap X2 = X2 % 4294967296 from rfl]; omega
        have hsn1 := Lib.hid (show u32s (za.take k) ++ [.int .u32 (IntKind.u32.wrap X1)] = u32s (za.take (k + 1)) by rw [hx1]; exact hsn1)
        have hsn2 := Lib.hid (show u32s (zb.take k) ++ [.int .u32 (IntKind.u32.wrap X2)] = u32s (zb.take (k + 1)) by rw [hx2]; exact hsn2)
        clear hx1 hx2
        have S1 : ∀ u, Below w9.heap.size w9 u → u.cell? ⟨ga, offa + k, none⟩ = some (.int .u16 X1) ∧ u.cell? ⟨gb, offb + k, none⟩ = some (.int .u16 X2) := fun u hu => ⟨(hu.cell (p := ⟨ga, offa + k, none⟩) hla).trans e0, (hu.cell (p := ⟨gb, offb + k, none⟩) hlb).trans e1⟩
        have TW : Two w9 u8 u9 k k (u32s (za.take k)) (u32s (zb.take k)) wr.drew := (Two.mk hown1 hown2 hne.out hbl).drew
        clear hX1 hX2 hka hkb ha16 hb16
        go_wp2_with fail
        refine wp_region_held_drew (S := fun u => u.cell? ⟨ga, offa + k, none⟩ = some (.int .u16 X1) ∧ u.cell? ⟨gb, offb + k, none⟩ = some (.int .u16 X2)) (by kernel_rfl) (S1 _ TW.B) (fun hHeld => ?_)
        generalize wr.drew = D at *
        refine wpAnyH_take (i := 0) (v := ?tkv1) rfl (by kernel_rfl) (by kernel_rfl) (by kernel_rfl) (fun _ _ _ h => h) (Or.inl ⟨by rfl, ?tky1⟩) (by assumption) ?tkr1
        case tky1 =>
          intro u hSu
          obtain ⟨s0, s1⟩ := hSu
          go_simp
          try with_reducible rfl
        try simp only [Act.put, List.getElem_toArray, List.getElem_cons_succ, List.getElem_cons_zero, List.setIfInBounds_toArray, List.set_cons_zero, List.set_cons_succ]
        refine wpAnyH_take (i := 1) (v := ?tkv2) rfl (by kernel_rfl) (by kernel_rfl) (by kernel_rfl) (fun _ _ _ h => h) (Or.inl ⟨by rfl, ?tky2⟩) (by assumption) ?tkr2
        case tky2 =>
          intro u hSu
          obtain ⟨s0, s1⟩ := hSu
          go_simp
          try with_reducible rfl
        try simp only [Act.put, List.getElem_toArray, List.getElem_cons_succ, List.getElem_cons_zero, List.setIfInBounds_toArray, List.set_cons_zero, List.set_cons_succ]
        refine wpAnyH_take (i := 2) (v := ?tkv3) rfl (by kernel_rfl) (by kernel_rfl) (by kernel_rfl) (fun _ _ _ h => h) (Or.inl ⟨by rfl, ?tky3⟩) (by assumption) ?tkr3
        case tky3 =>
          intro u hSu
          obtain ⟨s0, s1⟩ := hSu
          go_simp
          try with_reducible rfl
        try simp only [Act.put, List.getElem_toArray, List.getElem_cons_succ, List.getElem_cons_zero, List.setIfInBounds_toArray, List.set_cons_zero, List.set_cons_succ]
        refine wpAnyH_take (i := 3) (v := ?tkv4) rfl (by kernel_rfl) (by kernel_rfl) (by kernel_rfl) (fun _ _ _ h => h) (Or.inl ⟨by rfl, ?tky4⟩) (by assumption) ?tkr4
        case tky4 =>
          intro u hSu
          obtain ⟨s0, s1⟩ := hSu
          go_simp
          try with_reducible rfl
        try simp only [Act.put, List.getElem_toArray, List.getElem_cons_succ, List.getElem_cons_zero, List.setIfInBounds_toArray, List.set_cons_zero, List.set_cons_succ]
        refine wpAnyH_take (i := 4) (v := ?tkv5) rfl (by kernel_rfl) (by kernel_rfl) (by kernel_rfl) (fun _ _ _ h => h) (Or.inl ⟨by rfl, ?tky5⟩) (by assumption) ?tkr5
        case tky5 =>
          intro u hSu
          obtain ⟨s0, s1⟩ := hSu
          go_simp
          try with_reducible rfl
        try simp only [Act.put, List.getElem_toArray, List.getElem_cons_succ, List.getElem_cons_zero, List.setIfInBounds_toArray, List.set_cons_zero, List.set_cons_succ]
        refine wpAnyH_take (i := 5) (v := ?tkv6) rfl (by kernel_rfl) (by kernel_rfl) (by kernel_rfl) (fun _ _ _ h => h) (Or.inl ⟨by rfl, ?tky6⟩) (by assumption) ?tkr6
        case tky6 =>
          intro u hSu
          obtain ⟨s0, s1⟩ := hSu
          go_simp
          try with_reducible rfl
        try simp only [Act.put, List.getElem_toArray, List.getElem_cons_succ, List.getElem_cons_zero, List.setIfInBounds_toArray, List.set_cons_zero, List.set_cons_succ]
        refine wpAnyH_take (i := 8) (v := ?tkv7) rfl (by kernel_rfl) (by kernel_rfl) (by kernel_rfl) (fun _ _ _ h => h) (Or.inl ⟨by rfl, ?tky7⟩) (by assumption) ?tkr7
        case tky7 =>
          intro u hSu
          obtain ⟨s0, s1⟩ := hSu
          go_simp
          try with_reducible rfl
        try simp only [Act.put, List.getElem_toArray, List.getElem_cons_succ, List.getElem_cons_zero, List.setIfInBounds_toArray, List.set_cons_zero, List.set_cons_succ]
        refine wpAnyH_take (i := 9) (v := ?tkv8) rfl (by kernel_rfl) (by kernel_rfl) (by kernel_rfl) (fun _ _ _ h => h) (Or.inl ⟨by rfl, ?tky8⟩) (by assumption) ?tkr8
        case tky8 =>
          intro u hSu
          obtain ⟨s0, s1⟩ := hSu
          go_simp
          try with_reducible rfl
        try simp only [Act.put, List.getElem_toArray, List.getElem_cons_succ, List.getElem_cons_zero, List.setIfInBounds_toArray, List.set_cons_zero, List.set_cons_succ]
        refine wpAnyH_take (i := 10) (v := ?tkv9) rfl (by kernel_rfl) (by kernel_rfl) (by kernel_rfl) (fun _ _ _ h => h) (Or.inl ⟨by rfl, ?tky9⟩) (by assumption) ?tkr9
        case tky9 =>
          intro u hSu
          obtain ⟨s0, s1⟩ := hSu
          go_simp
          try with_reducible rfl
        try simp only [Act.put, List.getElem_toArray, List.getElem_cons_succ, List.getElem_cons_zero, List.setIfInBounds_toArray, List.set_cons_zero, List.set_cons_succ]
        refine wpAnyH_take (i := 11) (v := ?tkv10) rfl (by kernel_rfl) (by kernel_rfl) (by kernel_rfl) (fun _ _ _ h => h) (Or.inl ⟨by rfl, ?tky10⟩) (by assumption) ?tkr10
        case tky10 =>
          intro u hSu
          obtain ⟨s0, s1⟩ := hSu
          go_simp
          try with_reducible rfl
        try simp only [Act.put, List.getElem_toArray, List.getElem_cons_succ, List.getElem_cons_zero, List.setIfInBounds_toArray, List.set_cons_zero, List.set_cons_succ]
        refine wpAnyH_take (i := 12) (v := ?tkv11) rfl (by kernel_rfl) (by kernel_rfl) (by kernel_rfl) (fun _ _ _ h => h) (Or.inl ⟨by rfl, ?tky11⟩) (by assumption) ?tkr11
        case tky11 =>
          intro u hSu
          obtain ⟨s0, s1⟩ := hSu
          go_simp
          try with_reducible rfl
        try simp only [Act.put, List.getElem_toArray, List.getElem_cons_succ, List.getElem_cons_zero, List.setIfInBounds_toArray, List.set_cons_zero, List.set_cons_succ]
        refine wpAnyH_take (i := 13) (v := ?tkv12) rfl (by kernel_rfl) (by kernel_rfl) (by kernel_rfl) (fun _ _ _ h => h) (Or.inl ⟨by rfl, ?tky12⟩) (by assumption) ?tkr12
        case tky12 =>
          intro u hSu
          obtain ⟨s0, s1⟩ := hSu
          go_simp
          try with_reducible rfl
        try simp only [Act.put, List.getElem_toArray, List.getElem_cons_succ, List.getElem_cons_zero, List.setIfInBounds_toArray, List.set_cons_zero, List.set_cons_succ]
        refine wpAnyH_ready (rs := [6, 14]) (by kernel_rfl) (by simp) ?_
        refine AllReadyH.cons rfl (fun K hK => ?rd13_6) (AllReadyH.cons rfl (fun K hK => ?rd13_14) (AllReadyH.nil))
        case rd13_6 =>
          have T1 := TW.alloc (.cells #[.int .u32 (IntKind.u32.wrap X1)] 46)
          have C6 : (D.alloc (.cells #[.int .u32 (IntKind.u32.wrap X1)] 46)).heap[D.heap.size]? = some (.cells #[.int .u32 (IntKind.u32.wrap X1)] 46 (0, 0)) := Whole.new D 46 #[.int .u32 (IntKind.u32.wrap X1)]
          go_simp
          refine hK.out _ _ (S1 _ T1.B) (fun hHeld => ?_)
          clear hK K
          try simp only [Act.put, List.getElem_toArray, List.getElem_cons_succ, List.getElem_cons_zero, List.setIfInBounds_toArray, List.set_cons_zero, List.set_cons_succ]
          refine wpAnyH_ready (rs := [7, 14]) (by kernel_rfl) (by simp) ?_
          refine AllReadyH.cons rfl (fun K hK => ?rd14_7) (AllReadyH.cons rfl (fun K hK => ?rd14_14) (AllReadyH.nil))
          case rd14_7 =>
            obtain ⟨v902, u902, hr2, t2, k2, z2⟩ := T1.app (Whole.cell C6 0) (by omega)
            have T2 := t2
            refine Lib.wp_append_run _ _ _ _ _ rfl _ _ (by rfl) (by rfl) _ _ hr2 (hK.out _ _ (S1 _ T2.B) (fun hHeld => ?_))
            clear hK K
            try simp only [Act.put, List.getElem_toArray, List.getElem_cons_succ, List.getElem_cons_zero, List.setIfInBounds_toArray, List.set_cons_zero, List.set_cons_succ]
            refine wpAnyH_ready (rs := [14]) (by kernel_rfl) (by simp) ?_
            refine AllReadyH.cons rfl (fun K hK => ?rd15_14) (AllReadyH.nil)
            case rd15_14 =>
              have T3 := T2.alloc (.cells #[.int .u32 (IntKind.u32.wrap X2)] 46)
              have C14 : (u902.alloc (.cells #[.int .u32 (IntKind.u32.wrap X2)] 46)).heap[u902.heap.size]? = some (.cells #[.int .u32 (IntKind.u32.wrap X2)] 46 (0, 0)) := Whole.new u902 46 #[.int .u32 (IntKind.u32.wrap X2)]
              go_simp
              refine hK.out _ _ (S1 _ T3.B) (fun hHeld => ?_)
              clear hK K
              try simp only [Act.put, List.getElem_toArray, List.getElem_cons_succ, List.getElem_cons_zero, List.setIfInBounds_toArray, List.set_cons_zero, List.set_cons_succ]
              refine wpAnyH_ready (rs := [15]) (by kernel_rfl) (by simp) ?_
              refine AllReadyH.cons rfl (fun K hK => ?rd16_15) (AllReadyH.nil)
              case rd16_15 =>
                obtain ⟨v904, u904, hr4, t4, k4, z4⟩ := T3.swap.app (Whole.cell C14 0) (by omega)
                have T4 := t4.swap
                refine Lib.wp_append_run _ _ _ _ _ rfl _ _ (by rfl) (by rfl) _ _ hr4 (hK.out _ _ (S1 _ T4.B) (fun hHeld => ?_))
                clear hK K
                try simp only [Act.put, List.getElem_toArray, List.getElem_cons_succ, List.getElem_cons_zero, List.setIfInBounds_toArray, List.set_cons_zero, List.set_cons_succ]
                refine wpAnyH_ready (rs := [16]) (by kernel_rfl) (by simp) ?_
                refine AllReadyH.cons rfl (fun K hK => ?rd17_16) (AllReadyH.nil)
                case rd17_16 =>
                  go_simp
                  refine hK.out _ _ (S1 _ T4.B) (fun hHeld => ?_)
                  clear hK K
                  try simp only [Act.put, List.getElem_toArray, List.getElem_cons_succ, List.getElem_cons_zero, List.setIfInBounds_toArray, List.set_cons_zero, List.set_cons_succ]
                  refine wpAnyH_ready (rs := [17]) (by kernel_rfl) (by simp) ?_
                  refine AllReadyH.cons rfl (fun K hK => ?rd18_17) (AllReadyH.nil)
                  case rd18_17 =>
                    go_simp
                    refine hK.out _ _ (S1 _ T4.B) (fun hHeld => ?_)
                    clear hK K
                    try simp only [Act.put, List.getElem_toArray, List.getElem_cons_succ, List.getElem_cons_zero, List.setIfInBounds_toArray, List.set_cons_zero, List.set_cons_succ]
                    refine wpAnyH_done (by kernel_rfl) ?_ _
                    have TE := Lib.hid T4
                    go_wp2_with fail
                    go_roundw
                    case rel => exact ⟨k + 1, _, _, by omega, by go_num, rfl, rfl, by rw [← hsn1.out]; exact TE.out.r1, by rw [← hsn2.out]; exact TE.out.r2, Lib.hid TE.out.ne, TE.out.B⟩
                    case measure => simp [intOf]; omega
          case rd14_14 =>
            have T2 := T1.alloc (.cells #[.int .u32 (IntKind.u32.wrap X2)] 46)
            have C14 : ((D.alloc (.cells #[.int .u32 (IntKind.u32.wrap X1)] 46)).alloc (.cells #[.int .u32 (IntKind.u32.wrap X2)] 46)).heap[(D.heap.size + 1)]? = some (.cells #[.int .u32 (IntKind.u32.wrap X2)] 46 (0, 0)) := by
              have h : _ = _ := Whole.new (D.alloc (.cells #[.int .u32 (IntKind.u32.wrap X1)] 46)) 46 #[.int .u32 (IntKind.u32.wrap X2)]
              rw [show (D.alloc (.cells #[.int .u32 (IntKind.u32.wrap X1)] 46)).heap.size = D.heap.size + 1 from by simp] at h
              exact h
            have C6_2 : ((D.alloc (.cells #[.int .u32 (IntKind.u32.wrap X1)] 46)).alloc (.cells #[.int .u32 (IntKind.u32.wrap X2)] 46)).heap[D.heap.size]? = some (.cells #[.int .u32 (IntKind.u32.wrap X1)] 46 (0, 0)) := Whole.alloc C6 _
            go_simp
            refine hK.out _ _ (S1 _ T2.B) (fun hHeld => ?_)
            clear hK K
            try simp only [Act.put, List.getElem_toArray, List.getElem_cons_succ, List.getElem_cons_zero, List.setIfInBounds_toArray, List.set_cons_zero, List.set_cons_succ]
            refine wpAnyH_ready (rs := [7]) (by kernel_rfl) (by simp) ?_
            refine AllReadyH.cons rfl (fun K hK => ?rd19_7) (AllReadyH.nil)
            case rd19_7 =>
              obtain ⟨v903, u903, hr3, t3, k3, z3⟩ := T2.app (Whole.cell C6_2 0) (by omega)
              have T3 := t3
              have C14_3 : u903.heap[(D.heap.size + 1)]? = some (.cells #[.int .u32 (IntKind.u32.wrap X2)] 46 (0, 0)) := (k3 _ (Whole.lt C14) (fun e => absurd (TW.r1.lt _ e).2 (by omega))).trans C14
              refine Lib.wp_append_run _ _ _ _ _ rfl _ _ (by rfl) (by rfl) _ _ hr3 (hK.out _ _ (S1 _ T3.B) (fun hHeld => ?_))
              clear hK K
              try simp only [Act.put, List.getElem_toArray, List.getElem_cons_succ, List.getElem_cons_zero, List.setIfInBounds_toArray, List.set_cons_zero, List.set_cons_succ]
              refine wpAnyH_ready (rs := [15]) (by kernel_rfl) (by simp) ?_
              refine AllReadyH.cons rfl (fun K hK => ?rd20_15) (AllReadyH.nil)
              case rd20_15 =>
                obtain ⟨v904, u904, hr4, t4, k4, z4⟩ := T3.swap.app (Whole.cell C14_3 0) (by omega)
                have T4 := t4.swap
                refine Lib.wp_append_run _ _ _ _ _ rfl _ _ (by rfl) (by rfl) _ _ hr4 (hK.out _ _ (S1 _ T4.B) (fun hHeld => ?_))
                clear hK K
                try simp only [Act.put, List.getElem_toArray, List.getElem_cons_succ, List.getElem_cons_zero, List.setIfInBounds_toArray, List.set_cons_zero, List.set_cons_succ]
                refine wpAnyH_ready (rs := [16]) (by kernel_rfl) (by simp) ?_
                refine AllReadyH.cons rfl (fun K hK => ?rd21_16) (AllReadyH.nil)
                case rd21_16 =>
                  go_simp
                  refine hK.out _ _ (S1 _ T4.B) (fun hHeld => ?_)
                  clear hK K
                  try simp only [Act.put, List.getElem_toArray, List.getElem_cons_succ, List.getElem_cons_zero, List.setIfInBounds_toArray, List.set_cons_zero, List.set_cons_succ]
                  refine wpAnyH_ready (rs := [17]) (by kernel_rfl) (by simp) ?_
                  refine AllReadyH.cons rfl (fun K hK => ?rd22_17) (AllReadyH.nil)
                  case rd22_17 =>
                    go_simp
                    refine hK.out _ _ (S1 _ T4.B) (fun hHeld => ?_)
                    clear hK K
                    try simp only [Act.put, List.getElem_toArray, List.getElem_cons_succ, List.getElem_cons_zero, List.setIfInBounds_toArray, List.set_cons_zero, List.set_cons_succ]
                    refine wpAnyH_done (by kernel_rfl) ?_ _
                    have TE := Lib.hid T4
                    go_wp2_with fail
                    go_roundw
                    case rel => exact ⟨k + 1, _, _, by omega, by go_num, rfl, rfl, by rw [← hsn1.out]; exact TE.out.r1, by rw [← hsn2.out]; exact TE.out.r2, Lib.hid TE.out.ne, TE.out.B⟩
                    case measure => simp [intOf]; omega
        case rd13_14 =>
          have T1 := TW.alloc (.cells #[.int .u32 (IntKind.u32.wrap X2)] 46)
          have C14 : (D.alloc (.cells #[.int .u32 (IntKind.u32.wrap X2)] 46)).heap[D.heap.size]? = some (.cells #[.int .u32 (IntKind.u32.wrap X2)] 46 (0, 0)) := Whole.new D 46 #[.int .u32 (IntKind.u32.wrap X2)]
          go_simp
          refine hK.out _ _ (S1 _ T1.B) (fun hHeld => ?_)
          clear hK K
          try simp only [Act.put, List.getElem_toArray, List.getElem_cons_succ, List.getElem_cons_zero, List.setIfInBounds_toArray, List.set_cons_zero, List.set_cons_succ]
          refine wpAnyH_ready (rs := [6]) (by kernel_rfl) (by simp) ?_
          refine AllReadyH.cons rfl (fun K hK => ?rd23_6) (AllReadyH.nil)
          case rd23_6 =>
            have T2 := T1.alloc (.cells #[.int .u32 (IntKind.u32.wrap X1)] 46)
            have C6 : ((D.alloc (.cells #[.int .u32 (IntKind.u32.wrap X2)] 46)).alloc (.cells #[.int .u32 (IntKind.u32.wrap X1)] 46)).heap[(D.heap.size + 1)]? = some (.cells #[.int .u32 (IntKind.u32.wrap X1)] 46 (0, 0)) := by
              have h : _ = _ := Whole.new (D.alloc (.cells #[.int .u32 (IntKind.u32.wrap X2)] 46)) 46 #[.int .u32 (IntKind.u32.wrap X1)]
              rw [show (D.alloc (.cells #[.int .u32 (IntKind.u32.wrap X2)] 46)).heap.size = D.heap.size + 1 from by simp] at h
              exact h
            have C14_2 : ((D.alloc (.cells #[.int .u32 (IntKind.u32.wrap X2)] 46)).alloc (.cells #[.int .u32 (IntKind.u32.wrap X1)] 46)).heap[D.heap.size]? = some (.cells #[.int .u32 (IntKind.u32.wrap X2)] 46 (0, 0)) := Whole.alloc C14 _
            go_simp
            refine hK.out _ _ (S1 _ T2.B) (fun hHeld => ?_)
            clear hK K
            try simp only [Act.put, List.getElem_toArray, List.getElem_cons_succ, List.getElem_cons_zero, List.setIfInBounds_toArray, List.set_cons_zero, List.set_cons_succ]
            refine wpAnyH_ready (rs := [7]) (by kernel_rfl) (by simp) ?_
            refine AllReadyH.cons rfl (fun K hK => ?rd24_7) (AllReadyH.nil)
            case rd24_7 =>
              obtain ⟨v903, u903, hr3, t3, k3, z3⟩ := T2.app (Whole.cell C6 0) (by omega)
              have T3 := t3
              have C14_3 : u903.heap[D.heap.size]? = some (.cells #[.int .u32 (IntKind.u32.wrap X2)] 46 (0, 0)) := (k3 _ (Whole.lt C14_2) (fun e => absurd (TW.r1.lt _ e).2 (by omega))).trans C14_2
              refine Lib.wp_append_run _ _ _ _ _ rfl _ _ (by rfl) (by rfl) _ _ hr3 (hK.out _ _ (S1 _ T3.B) (fun hHeld => ?_))
              clear hK K
              try simp only [Act.put, List.getElem_toArray, List.getElem_cons_succ, List.getElem_cons_zero, List.setIfInBounds_toArray, List.set_cons_zero, List.set_cons_succ]
              refine wpAnyH_ready (rs := [15]) (by kernel_rfl) (by simp) ?_
              refine AllReadyH.cons rfl (fun K hK => ?rd25_15) (AllReadyH.nil)
              case rd25_15 =>
                obtain ⟨v904, u904, hr4, t4, k4, z4⟩ := T3.swap.app (Whole.cell C14_3 0) (by omega)
                have T4 := t4.swap
                refine Lib.wp_append_run _ _ _ _ _ rfl _ _ (by rfl) (by rfl) _ _ hr4 (hK.out _ _ (S1 _ T4.B) (fun hHeld => ?_))
                clear hK K
                try simp only [Act.put, List.getElem_toArray, List.getElem_cons_succ, List.getElem_cons_zero, List.setIfInBounds_toArray, List.set_cons_zero, List.set_cons_succ]
                refine wpAnyH_ready (rs := [16]) (by kernel_rfl) (by simp) ?_
                refine AllReadyH.cons rfl (fun K hK => ?rd26_16) (AllReadyH.nil)
                case rd26_16 =>
                  go_simp
                  refine hK.out _ _ (S1 _ T4.B) (fun hHeld => ?_)
                  clear hK K
                  try simp only [Act.put, List.getElem_toArray, List.getElem_cons_succ, List.getElem_cons_zero, List.setIfInBounds_toArray, List.set_cons_zero, List.set_cons_succ]
                  refine wpAnyH_ready (rs := [17]) (by kernel_rfl) (by simp) ?_
                  refine AllReadyH.cons rfl (fun K hK => ?rd27_17) (AllReadyH.nil)
                  case rd27_17 =>
                    go_simp
                    refine hK.out _ _ (S1 _ T4.B) (fun hHeld => ?_)
                    clear hK K
                    try simp only [Act.put, List.getElem_toArray, List.getElem_cons_succ, List.getElem_cons_zero, List.setIfInBounds_toArray, List.set_cons_zero, List.set_cons_succ]
                    refine wpAnyH_done (by kernel_rfl) ?_ _
                    have TE := Lib.hid T4
                    go_wp2_with fail
                    go_roundw
                    case rel => exact ⟨k + 1, _, _, by omega, by go_num, rfl, rfl, by rw [← hsn1.out]; exact TE.out.r1, by rw [← hsn2.out]; exact TE.out.r2, Lib.hid TE.out.ne, TE.out.B⟩
                    case measure => simp [intOf]; omega
      · obtain rfl : im = k := by omega
        have hlt' : ¬ (im : Int) < im := by omega
        obtain ⟨ap, ks, rfl⟩ := owns_form hown1
        obtain ⟨aq, kt, rfl⟩ := owns_form hown2
        have HS1 : Hid (Slots wr (.slice ap im ks) (za.take im)) := Lib.hid ⟨reads_lt (Reads.of_owns hown1)⟩
        have HS2 : Hid (Slots wr (.slice aq im kt) (zb.take im)) := Lib.hid ⟨reads_lt (Reads.of_owns hown2)⟩
        have HO1 := Lib.hid hown1
        have HO2 := Lib.hid hown2
        have JJ := Lib.hid (J1.out.belowS hbl)
        clear hown1 hown2 hne hbl hlt HRA HRB
        obtain ⟨c0, c1, c2, c3, c4, c5⟩ := mod_cells JJ.out.X
        have c6 := JJ.out.X.lt
        go_upto_region 10 with (first | (go_at_call 25; (with_reducible refine (CO.out _ JJ.out.B).mono ?_); rintro e w11 ⟨rfl, hb⟩; have JJ := Lib.hid (JJ.out.belowS hb); have HS1 := Lib.hid (HS1.out.below hb); have HS2 := Lib.hid (HS2.out.below hb); have HO1 := Lib.hid (owns_below HO1.out hb); have HO2 := Lib.hid (owns_below HO2.out hb); clear hb) | (go_at_call 24; (with_reducible refine (CT.out _).mono ?_); rintro e w12 ⟨rfl, hb⟩; have JJ := Lib.hid (JJ.out.belowS hb); have HS1 := Lib.hid (HS1.out.below hb); have HS2 := Lib.hid (HS2.out.below hb); have HO1 := Lib.hid (owns_below HO1.out hb); have HO2 := Lib.hid (owns_below HO2.out hb); clear hb))
        clear c0 c1 c2 c3 c4 c5 c6
        have hb := below_new w12 (.cells #[.int .u32 c, .int .u32 d] 48)
        have HPl := Lib.hid (Whole.new w12 48 #[.int .u32 c, .int .u32 d])
        have JJ := Lib.hid (JJ.out.belowS hb)
        have HS1 := Lib.hid (HS1.out.below hb)
        have HS2 := Lib.hid (HS2.out.below hb)
        have HO1 := Lib.hid (owns_below HO1.out hb)
        have HO2 := Lib.hid (owns_below HO2.out hb)
        clear hb
        generalize w12.alloc (.cells #[.int .u32 c, .int .u32 d] 48) = W3 at *
        obtain ⟨c0, c1, c2, c3, c4, c5⟩ := mod_cells JJ.out.X
        have c6 := JJ.out.X.lt
        obtain ⟨p0, p1⟩ := pl_cells HPl.out
        have p6 := HPl.out.lt
        go_upto_region 11 with (go_at_call 20; (with_reducible refine (CI1.out _ JJ.out.B _ HS1.out).mono ?_); rintro e w15 ⟨q, rfl, hi15, hb⟩; have JJ := Lib.hid (JJ.out.belowS hb); have HQ := hi15.yes HI1.out; rw [HNW.out] at HQ; have HQ := Lib.hid HQ; have HS2 := Lib.hid (HS2.out.below hb); have HPl := Lib.hid (HPl.out.belowS hb); have HO1 := Lib.hid (owns_below HO1.out hb); have HO2 := Lib.hid (owns_below HO2.out hb); clear hi15 hb)
        clear c0 c1 c2 c3 c4 c5 c6 p0 p1 p6
        obtain ⟨ax, kx, rfl⟩ := owns_form HQ.out
        obtain ⟨c0, c1, c2, c3, c4, c5⟩ := mod_cells JJ.out.X
        have c6 := JJ.out.X.lt
        obtain ⟨p0, p1⟩ := pl_cells HPl.out
        have p6 := HPl.out.lt
        go_upto_region 12 with (go_at_call 20; (with_reducible refine (CI2.out _ JJ.out.B _ HS2.out).mono ?_); rintro e w16 ⟨q, rfl, hi16, hb⟩; have JJ := Lib.hid (JJ.out.belowS hb); have HQ2 := hi16.yes HI2.out; rw [HNW.out] at HQ2; have HQ2 := Lib.hid HQ2; have HQ := Lib.hid (owns_below HQ.out hb); have HO1 := Lib.hid (owns_below HO1.out hb); have HO2 := Lib.hid (owns_below HO2.out hb); clear hi16 hb)
        clear c0 c1 c2 c3 c4 c5 c6 p0 p1 p6
        obtain ⟨ay, ky, rfl⟩ := owns_form HQ2.out
        go_wp2_with fail
        have JA := JJ
        clear JJ
        go_loopw [17] (fun i wr => ∃ k2 : Nat, k2 ≤ n ∧ i = .int .i64 (k2 : Int) ∧ Below w16.heap.size w16 wr) (fun i _ => n - (intOf i).toNat)
        case atStart => exact ⟨0, by omega, rfl, Below.refl _ _⟩
        case round =>
          obtain ⟨k2, hk2, rfl, hb2⟩ := hrel
          have hJ2 := JA.out.belowS hb2
          obtain ⟨c0, c1, c2, c3, c4, c5⟩ := mod_cells hJ2.X
          have c6 := hJ2.X.lt
          have HJ2 := Lib.hid hJ2
          have HQX := Lib.hid (owns_below HQ.out hb2)
          have HQY := Lib.hid (owns_below HQ2.out hb2)
          have HP1 := Lib.hid (owns_below HO1.out hb2)
          have HP2 := Lib.hid (owns_below HO2.out hb2)
          have HB2' := Lib.hid hb2
          clear hJ2 hb2
          by_cases hlt2 : k2 < n
          · have hlt2' : (k2 : Int) < n := by omega
            obtain ⟨⟨cd, a, ok⟩, hsp⟩ : ∃ q, spV cn dn (k2 : Int) = q := ⟨_, rfl⟩
            have CPk := CP.out _ HJ2.out.B k2 (by omega)
            rw [hsp] at CPk
            simp only at CPk
            have CPk := Lib.hid CPk
            have HSP := Lib.hid (show spV m.code.length m.data.length (k2 : Int) = (cd, a, ok) by rw [HW.out.1, HW.out.2]; exact hsp)
            clear hsp
            go_wp2_with (go_at_call 27; (with_reducible refine CPk.out.mono ?_); rintro e w17 ⟨rfl, hb⟩; have JSP := Lib.hid (HJ2.out.belowS hb); have HQX := Lib.hid (owns_below HQX.out hb); have HQY := Lib.hid (owns_below HQY.out hb); have HP1 := Lib.hid (owns_below HP1.out hb); have HP2 := Lib.hid (owns_below HP2.out hb); have HB3 := Lib.hid (HB2'.out.trans (hb.mono HB2'.out.size)); clear hb)
            clear c0 c1 c2 c3 c4 c5 c6
            go_loopw [21, 22] (fun wn t wr3 => ∃ j : Nat, j ≤ rn ∧ t = .int .i64 (j : Int) ∧ wn = .int .u32 (imV m (k2 : Nat) (za.take im) (zb.take im) j) ∧ Below w17.heap.size w17 wr3) (fun _ t _ => rn - (intOf t).toNat)
            case atStart => exact ⟨0, by omega, rfl, rfl, Below.refl _ _⟩
            case round =>
              obtain ⟨j, hj0, rfl, rfl, hb3⟩ := hrel
              have hJ3 := JSP.out.belowS hb3
              obtain ⟨c0, c1, c2, c3, c4, c5⟩ := mod_cells hJ3.X
              have c6 := hJ3.X.lt
              have HJ3 := Lib.hid hJ3
              have Hb3 := Lib.hid hb3
              by_cases hlt3 : j < rn
              · have hlt3' : (j : Int) < rn := by omega
                obtain ⟨g, off, rfl, q1, e0, e1, e2⟩ := HRL.out.at hJ3.B hlt3
                have hF := HF.out j hlt3
                change (rl m j).kind < 256 ∧ (rl m j).at_ < 65536 ∧ (rl m j).wh < 65536 at hF
                change wr.cell? _ = some (.int .u8 ((rl m j).kind : Int)) at e0
                change wr.cell? _ = some (.int .u16 ((rl m j).at_ : Int)) at e1
                change wr.cell? _ = some (.int .u16 ((rl m j).wh : Int)) at e2
                have hjl : j < m.rels.length := by rw [HLR.out]; exact hlt3
                have HMO := Lib.hid (good_most HG.out hjl)
                have hp1 := owns_below HP1.out hb3
                have hp2 := owns_below HP2.out hb3
                clear hJ3 hb3
                obtain ⟨⟨rk, rt, rw2⟩, hr⟩ : ∃ r, rl m j = r := ⟨_, rfl⟩
                have hA := im_step HG.out (l := za.take im) (l' := zb.take im) hjl hr HSP.out
                rw [hr] at e0 e1 e2 hF HMO
                clear hr hjl
                obtain ⟨hF0, hF1, hF2⟩ := hF
                simp only at e0 e1 e2 hF0 hF1 hF2 HMO
                have hwr : IntKind.i64.wrap (rt : Int) = (rt : Int) := by rw [IntKind.wrap_i64]; omega
                have hwr2 : wrap64 (rt : Int) = (rt : Int) := by unfold wrap64; omega
                have HB5 := Lib.hid (Hb3.out.alloc Hb3.out.size (.cells #[.int .u8 (rk : Int), .int .u16 (rt : Int), .int .u16 (rw2 : Int)] 76))
                have HR1 := Lib.hid (fun hw => word_cell hp1 (k := rw2) hw)
                have HR2 := Lib.hid (fun hw => word_cell hp2 (k := rw2) hw)
                clear hp1 hp2
                rcases (show rk = 4 ∨ rk = 0 ∨ rk = 1 ∨ (rk ≠ 4 ∧ rk ≠ 0 ∧ rk ≠ 1) by omega) with rfl | rfl | rfl | hk3
                · have hdb : dtB 4 = true := by decide
                  have hib : imp ((4 : Nat) : Int) = true := by decide
                  rw [hdb, hib] at hA
                  have hwh : rw2 < im := by have := HMO.out; unfold most at this; rw [if_pos (by omega), HLI.out] at this; exact this
                  go_upto_region 23 with fail
                  cases ok with
                  | false =>
                    rw [Bool.false_and, Bool.false_and, Bool.false_and, if_neg (by decide)] at hA
                    have HA := Lib.hid hA
                    clear hA
                    go_wp2_with fail
                    go_roundw
                    case rel => exact ⟨j + 1, by omega, by go_num, by rw [HA.out], HB5.out⟩
                    case measure => simp [intOf]; omega
                  | true =>
                    by_cases h1 : (rt : Int) = a
                    · subst h1
                      cases cd with
                      | true =>
                        rw [decide_eq_true rfl, if_neg (by decide)] at hA
                        have HA := Lib.hid hA
                        clear hA
                        go_wp2_with fail
                        go_roundw
                        case rel => exact ⟨j + 1, by omega, by go_num, by rw [HA.out], HB5.out⟩
                        case measure => simp [intOf]; omega
                      | false =>
                        rw [decide_eq_true rfl, if_pos (by decide)] at hA
                        obtain ⟨g1, rfl, f1, n1, y1⟩ := HR1.out hwh
                        obtain ⟨g2, rfl, f2, n2, y2'⟩ := HR2.out hwh
                        have hwh1 : (rw2 : Int) < im := by omega
                        have hwh2 : (0 : Int) ≤ (rw2 : Int) := by omega
                        have n1' : (im : Int) ≤ ks := by omega
                        have n2' : (im : Int) ≤ kt := by omega
                        generalize (((za.take im).getD rw2 0 : Nat) : Int) = Z1 at *
                        generalize (((zb.take im).getD rw2 0 : Nat) : Int) = Z2 at *
                        have HA := Lib.hid hA
                        clear hA
                        go_wp2_with fail
                        go_quiet (fail)
                        go_wp2_with fail
                        go_roundw
                        case rel => exact ⟨j + 1, by omega, by go_num, by rw [HA.out], below_drewN HB5.out _⟩
                        case measure => simp [intOf]; omega
                    · have h1t : decide ((rt : Int) = a) = false := decide_eq_false h1
                      rw [h1t, Bool.and_false, Bool.false_and, Bool.false_and, if_neg (by decide)] at hA
                      have h1b : ((rt : Int) == a) = false := by simpa using h1
                      have HA := Lib.hid hA
                      clear hA
                      go_wp2_with fail
                      go_roundw
                      case rel => exact ⟨j + 1, by omega, by go_num, by rw [HA.out], HB5.out⟩
                      case measure => simp [intOf]; omega
                · have hdb : dtB 0 = false := by decide
                  have hib : imp ((0 : Nat) : Int) = true := by decide
                  rw [hdb, hib] at hA
                  have hwh : rw2 < im := by have := HMO.out; unfold most at this; rw [if_pos (by omega), HLI.out] at this; exact this
                  go_upto_region 23 with fail
                  cases ok with
                  | false =>
                    rw [Bool.false_and, Bool.false_and, Bool.false_and, if_neg (by decide)] at hA
                    have HA := Lib.hid hA
                    clear hA
                    go_wp2_with fail
                    go_roundw
                    case rel => exact ⟨j + 1, by omega, by go_num, by rw [HA.out], HB5.out⟩
                    case measure => simp [intOf]; omega
                  | true =>
                    by_cases h1 : (rt : Int) = a
                    · subst h1
                      cases cd with
                      | true =>
                        rw [decide_eq_true rfl, if_pos (by decide)] at hA
                        obtain ⟨g1, rfl, f1, n1, y1⟩ := HR1.out hwh
                        obtain ⟨g2, rfl, f2, n2, y2'⟩ := HR2.out hwh
                        have hwh1 : (rw2 : Int) < im := by omega
                        have hwh2 : (0 : Int) ≤ (rw2 : Int) := by omega
                        have n1' : (im : Int) ≤ ks := by omega
                        have n2' : (im : Int) ≤ kt := by omega
                        generalize (((za.take im).getD rw2 0 : Nat) : Int) = Z1 at *
                        generalize (((zb.take im).getD rw2 0 : Nat) : Int) = Z2 at *
                        have HA := Lib.hid hA
                        clear hA
                        go_wp2_with fail
                        go_quiet (fail)
                        go_wp2_with fail
                        go_roundw
                        case rel => exact ⟨j + 1, by omega, by go_num, by rw [HA.out], below_drewN HB5.out _⟩
                        case measure => simp [intOf]; omega
                      | false =>
                        rw [decide_eq_true rfl, if_neg (by decide)] at hA
                        have HA := Lib.hid hA
                        clear hA
                        go_wp2_with fail
                        go_roundw
                        case rel => exact ⟨j + 1, by omega, by go_num, by rw [HA.out], HB5.out⟩
                        case measure => simp [intOf]; omega
                    · have h1t : decide ((rt : Int) = a) = false := decide_eq_false h1
                      rw [h1t, Bool.and_false, Bool.false_and, Bool.false_and, if_neg (by decide)] at hA
                      have h1b : ((rt : Int) == a) = false := by simpa using h1
                      have HA := Lib.hid hA
                      clear hA
                      go_wp2_with fail
                      go_roundw
                      case rel => exact ⟨j + 1, by omega, by go_num, by rw [HA.out], HB5.out⟩
                      case measure => simp [intOf]; omega
                · have hdb : dtB 1 = false := by decide
                  have hib : imp ((1 : Nat) : Int) = true := by decide
                  rw [hdb, hib] at hA
                  have hwh : rw2 < im := by have := HMO.out; unfold most at this; rw [if_pos (by omega), HLI.out] at this; exact this
                  go_upto_region 23 with fail
                  cases ok with
                  | false =>
                    rw [Bool.false_and, Bool.false_and, Bool.false_and, if_neg (by decide)] at hA
                    have HA := Lib.hid hA
                    clear hA
                    go_wp2_with fail
                    go_roundw
                    case rel => exact ⟨j + 1, by omega, by go_num, by rw [HA.out], HB5.out⟩
                    case measure => simp [intOf]; omega
                  | true =>
                    by_cases h1 : (rt : Int) = a
                    · subst h1
                      cases cd with
                      | true =>
                        rw [decide_eq_true rfl, if_pos (by decide)] at hA
                        obtain ⟨g1, rfl, f1, n1, y1⟩ := HR1.out hwh
                        obtain ⟨g2, rfl, f2, n2, y2'⟩ := HR2.out hwh
                        have hwh1 : (rw2 : Int) < im := by omega
                        have hwh2 : (0 : Int) ≤ (rw2 : Int) := by omega
                        have n1' : (im : Int) ≤ ks := by omega
                        have n2' : (im : Int) ≤ kt := by omega
                        generalize (((za.take im).getD rw2 0 : Nat) : Int) = Z1 at *
                        generalize (((zb.take im).getD rw2 0 : Nat) : Int) = Z2 at *
                        have HA := Lib.hid hA
                        clear hA
                        go_wp2_with fail
                        go_quiet (fail)
                        go_wp2_with fail
                        go_roundw
                        case rel => exact ⟨j + 1, by omega, by go_num, by rw [HA.out], below_drewN HB5.out _⟩
                        case measure => simp [intOf]; omega
                      | false =>
                        rw [decide_eq_true rfl, if_neg (by decide)] at hA
                        have HA := Lib.hid hA
                        clear hA
                        go_wp2_with fail
                        go_roundw
                        case rel => exact ⟨j + 1, by omega, by go_num, by rw [HA.out], HB5.out⟩
                        case measure => simp [intOf]; omega
                    · have h1t : decide ((rt : Int) = a) = false := decide_eq_false h1
                      rw [h1t, Bool.and_false, Bool.false_and, Bool.false_and, if_neg (by decide)] at hA
                      have h1b : ((rt : Int) == a) = false := by simpa using h1
                      have HA := Lib.hid hA
                      clear hA
                      go_wp2_with fail
                      go_roundw
                      case rel => exact ⟨j + 1, by omega, by go_num, by rw [HA.out], HB5.out⟩
                      case measure => simp [intOf]; omega
                · have hib : imp (rk : Int) = false := decide_eq_false (by omega)
                  have k4 : ((rk : Int) == 4) = false := by simp; omega
                  have k1 : ((rk : Int) == 1) = false := by simp; omega
                  have k0 : ((rk : Int) == 0) = false := by simp; omega
                  rw [hib, Bool.and_false, if_neg (by decide)] at hA
                  go_upto_region 23 with fail
                  cases ok with
                  | false =>
                    have HA := Lib.hid hA
                    clear hA
                    go_wp2_with fail
                    go_roundw
                    case rel => exact ⟨j + 1, by omega, by go_num, by rw [HA.out], HB5.out⟩
                    case measure => simp [intOf]; omega
                  | true =>
                    by_cases h1 : (rt : Int) = a
                    · subst h1
                      cases cd with
                      | true =>
                        have HA := Lib.hid hA
                        clear hA
                        go_wp2_with fail
                        go_roundw
                        case rel => exact ⟨j + 1, by omega, by go_num, by rw [HA.out], HB5.out⟩
                        case measure => simp [intOf]; omega
                      | false =>
                        have HA := Lib.hid hA
                        clear hA
                        go_wp2_with fail
                        go_roundw
                        case rel => exact ⟨j + 1, by omega, by go_num, by rw [HA.out], HB5.out⟩
                        case measure => simp [intOf]; omega
                    · have h1t : decide ((rt : Int) = a) = false := decide_eq_false h1
                      have h1b : ((rt : Int) == a) = false := by simpa using h1
                      have HA := Lib.hid hA
                      clear hA
                      go_wp2_with fail
                      go_roundw
                      case rel => exact ⟨j + 1, by omega, by go_num, by rw [HA.out], HB5.out⟩
                      case measure => simp [intOf]; omega
              · obtain rfl : rn = j := by omega
                have hlt3' : ¬ (rn : Int) < rn := by omega
                have hqx := owns_below HQX.out hb3
                have hqy := owns_below HQY.out hb3
                obtain ⟨gx, rfl, ex, hkx, hgx⟩ := row_cell hqx HNW.out HB1.out hlt2
                obtain ⟨gy, rfl, ey, hky, hgy⟩ := row_cell hqy HNW.out HB2.out hlt2
                have hkx' : (n : Int) ≤ kx := by omega
                have hky' : (n : Int) ≤ ky := by omega
                have hm := HM.out k2
                rw [HLR.out] at hm
                clear hJ3 hb3 hlt3 hqx hqy hkx hky
                generalize imV m (k2 : Nat) (za.take im) (zb.take im) rn = WT at *
                generalize wrdW m c d (za.take im) (k2 : Nat) = X at *
                generalize wrdW m c d (zb.take im) (k2 : Nat) = Y at *
                have hne : ((Y - X) % 4294967296 != WT) = false := by simpa using hm
                have hne2 : ((Y - X) % 4294967296 == WT) = true := by simpa using hm
                clear hm
                go_wp2_with fail
                go_quiet (fail)
                go_wp2_with fail
                go_roundw
                case rel => exact ⟨k2 + 1, by omega, by go_num, below_drewN (HB3.out.trans (Hb3.out.mono HB3.out.size)) _⟩
                case measure => simp [intOf]; omega
          · obtain rfl : n = k2 := by omega
            have hlt2' : ¬ (n : Int) < n := by omega
            go_wp2_with (first | (go_at_call 9; (with_reducible refine (AW.out.at _).mono ?_); rintro e w8 ⟨rfl, hb8⟩))
            go_ret
            exact ⟨rfl, HJ2.out.B.trans (hb8.mono HJ2.out.B.size)⟩
  · have hcase : Hid ((2000 : Int) < (szF en [im, cn, dn, rn] : Nat) ∨ ¬ (2000 : Int) < (szF en [im, cn, dn, rn] : Nat) ∧ (VR.chkV m != 0) = true ∨ ¬ (2000 : Int) < (szF en [im, cn, dn, rn] : Nat) ∧ VR.chkV m = 0 ∧ (za.length : Int) < (im : Int) ∨
        ¬ (2000 : Int) < (szF en [im, cn, dn, rn] : Nat) ∧ VR.chkV m = 0 ∧ ¬ (za.length : Int) < (im : Int) ∧ (zb.length : Int) < (im : Int)) := Lib.hid (by
      by_cases h1 : szF en [im, cn, dn, rn] ≤ 2000
      · by_cases h2 : VR.chkV m = 0
        · by_cases h3 : im ≤ za.length
          · exact Or.inr (Or.inr (Or.inr ⟨by omega, h2, by omega, by omega⟩))
          · exact Or.inr (Or.inr (Or.inl ⟨by omega, h2, by omega⟩))
        · exact Or.inr (Or.inl ⟨by omega, by simpa using h2⟩)
      · exact Or.inl (by omega))
    clear h hf l1 l2 l3 l4 l5 hall RA RB hza' hzb'
    generalize ((szF en [im, cn, dn, rn] : Nat) : Int) = S at *
    generalize VR.chkV m = K at *
    generalize za.length = na at *
    generalize zb.length = nb at *
    generalize bs m.name = x at *
    rcases hcase.out with hs | ⟨hs, hk⟩ | ⟨hs, rfl, hk⟩ | ⟨hs, rfl, hk, hk2⟩
    all_goals
      clear hcase
      go_enter Try.func8, Try.ntmps8
      go_upto_region 1 with fail
      generalize w.alloc (.cells (mCs x ea en ec ia im ic ca cn cc da dn dc ra rn rc) 45) = W at *
      have JJ := J0
      clear J0
      obtain ⟨c0, c1, c2, c3, c4, c5⟩ := mod_cells JJ.out.X
      have c6 := JJ.out.X.lt
      go_wp2_with (first | (go_at_call 16; (with_reducible refine (CS.out _ JJ.out.B).mono ?_); rintro e w9 ⟨rfl, hb⟩; have JJ := Lib.hid (JJ.out.belowS hb); obtain ⟨c0, c1, c2, c3, c4, c5⟩ := mod_cells JJ.out.X; have c6 := JJ.out.X.lt; clear hb) | (go_at_call 23; (with_reducible refine (CK.out _ JJ.out.B).mono ?_); rintro e w9 ⟨rfl, hb⟩; have JJ := Lib.hid (JJ.out.belowS hb); obtain ⟨c0, c1, c2, c3, c4, c5⟩ := mod_cells JJ.out.X; have c6 := JJ.out.X.lt; clear hb) | (go_at_call 9; (with_reducible refine (AW.out.at _).mono ?_); rintro e w8 ⟨rfl, hb8⟩))
      go_ret
      exact ⟨rfl, JJ.out.B.trans (hb8.mono JJ.out.B.size)⟩
end
end Go.Proofs.Ytajidaicojekdaa.WK
