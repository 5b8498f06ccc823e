/-
  New memories and forks: the program's. Nothing here is a statement of the seed.
-/
import Derived.Test.YtkmjacpcpchjoaaMemProg
set_option linter.unusedSimpArgs false
set_option linter.unusedVariables false
namespace Go.Proofs.Ytkmjacpcpchjoaa.MF
open Go.RowKit PM PR PF MM MR

theorem infoU32 : (Try.prog.info? 26).map (fun i => (i.zero, i.size, i.bytes)) = some (some (.int .u32 0), 1, 4) := by kernel_rfl
theorem wr_of_owns {w : World} {B n : Nat} {v : Value} {l : List Int} (h : w.ownsRow B 26 1 v n (wcs l)) (hv : v ≠ .slice none 0 0) : ∃ g c, v = .slice (some ⟨g, 0, none⟩) l.length c ∧ n = l.length ∧ B ≤ g ∧ l.length ≤ c ∧ c ≤ maxLen ∧ Wr w g l := by
  have hl := h.1
  rw [wcs_len] at hl
  have hn : l.length = n := by omega
  subst hn
  rcases h.2 with ⟨e, _⟩ | ⟨g, cap, cur, e, hg, hcell, hcap, hcm, hsz, hcur⟩
  · exact absurd e (by intro e'; apply hv; rw [e'] )
  · refine ⟨g, cap, e, rfl, hg, hcap, hcm, cur.toList.drop (wcs l).length, ?_⟩
    have e2 : (wcs l ++ cur.toList.drop (wcs l).length).toArray = cur := by
      have h3 : cur.toList.take (wcs l).length = wcs l := by
        rw [wcs_len]
        have h4 := hcur
        rw [Nat.mul_one] at h4
        exact h4
      conv => lhs; rw [← h3]
      have hle : (wcs l).length ≤ cur.toList.length := by
        have h5 : cur.toList.length = cap * 1 := hsz
        rw [wcs_len, h5]; omega
      rw [List.length_take, Nat.min_eq_left hle, List.take_append_drop]
    rw [e2]
    exact hcell
/-- a copy of words in memory of its own -/
def CopiedW (l : List Int) (w : World) (e : Ending) (w' : World) : Prop := ∃ g c, e = .returned (.slice (some ⟨g, 0, none⟩) l.length c) ∧ Wr w' g l ∧ w.heap.size ≤ g ∧ l.length ≤ c ∧ c ≤ maxLen ∧ Below w.heap.size w w'
theorem ownw_empty (w : World) : (w.alloc (.cells #[] 26)).ownsRow w.heap.size 26 1 (.slice (some ⟨w.heap.size, 0, none⟩) 0 0) 0 [] :=
  ⟨rfl, Or.inr ⟨w.heap.size, 0, #[], rfl, Nat.le_refl _, heap_alloc_new w _, Nat.le_refl _, by simp [maxLen], rfl, rfl⟩⟩
theorem wcs_one (l : List Int) : ∀ u ∈ wcs l, u.oneCell' = true := by
  intro u hu
  simp only [wcs, List.mem_map] at hu
  obtain ⟨x, _, rfl⟩ := hu
  rfl
theorem Wr.news {w : World} {g : Nat} {l : List Int} (h : Wr w g l) : ∀ j u, (wcs l)[j]? = some u → w.cell? ((⟨g, 0, none⟩ : Addr).add j) = some u := by
  intro j u hj
  obtain ⟨r, h⟩ := h
  rw [Addr.add_mid, Nat.zero_add, h.cell, List.getElem?_toArray, List.getElem?_append_left (List.getElem?_eq_some_iff.1 hj).1, hj]
theorem copiedW_of {w w0 w1 : World} {v' : Value} {l : List Int} {v : Value} (hb : Below w.heap.size w w0) (h1 : w1.ownsRow w.heap.size 26 1 v' (0 + l.length) ([] ++ wcs l)) (h2 : w0.grownBy w1 v.ownBlock) (hv : ∀ g, v.ownBlock = some g → w.heap.size ≤ g) (h3 : v' = .slice none 0 0 ↔ v = .slice none 0 0 ∧ l.length = 0) (hv0 : v ≠ .slice none 0 0) : ∃ g c, v' = .slice (some ⟨g, 0, none⟩) l.length c ∧ Wr w1 g l ∧ w.heap.size ≤ g ∧ l.length ≤ c ∧ c ≤ maxLen ∧ Below w.heap.size w w1 := by
  rw [Nat.zero_add, List.nil_append] at h1
  obtain ⟨g, c, e, _, hB, hc, hm, hr⟩ := wr_of_owns h1 (fun e => hv0 (h3.1 e).1)
  exact ⟨g, c, e, hr, hB, hc, hm, hb.grown h2 hb.size hv⟩
set_option maxHeartbeats 1000000 in
theorem cloneW_any {g c : Nat} {l : List Int} {w : World} (hr : Wr w g l) (h4096 : l.length ≤ 4096) : Calls Try.prog 45 #[.slice (some ⟨g, 0, none⟩) l.length c] w (CopiedW l w) := by
  obtain ⟨i0, hi, hz0, hz1, hz2⟩ := info_parts infoU32
  have hq : ∀ u, (binOp .eql 31 (.slice (some ⟨g, 0, none⟩) l.length c) (.slice none 0 0)).run Try.prog u = .ok (.bool false) u := fun u => @Lib.run_eql_slice_nil Try.prog u 31 26 (some ⟨g, 0, none⟩) l.length c 0 0 Try.underlying31
  have hn := Lib.hid (Wr.news (hr.alloc (.cells #[] 26)))
  have hl := Lib.hid (wcs_len l)
  have HO := Lib.hid (ownw_empty w)
  go_enter Try.func45, Try.ntmps45
  go_wp2_with (at_builtin; refine wpList_append_own _ rfl _ _ 31 rfl w.heap.size 26 i0 _ 1 4 Try.underlying31 hi hz0 hz1 hz2 rfl (by decide) (.slice (some ⟨w.heap.size, 0, none⟩) 0 0) 0 [] rfl HO.out ⟨g, 0, none⟩ l.length c (wcs l) rfl (by rw [hl.out]; omega) hn.out (wcs_one l) (by unfold maxLen; omega) (by omega) (by simp) ?_; intro v' w1 hown hgrow hnil; obtain ⟨g', c', rfl, hrow, hg', hc1, hc2, hb⟩ := copiedW_of (below_new w _) hown hgrow (by intro g h; simp [Value.ownBlock] at h; omega) hnil (by simp); have HR := Lib.hid hrow; clear hown hgrow hnil hrow)
  go_ret
  exact ⟨g', c', rfl, HR.out, hg', hc1, hc2, hb⟩
/-- a memory told, all of its blocks new -/
def NewPm (M : Mm) (w : World) (e : Ending) (w' : World) : Prop := ∃ p t g gw, e = .returned (.pointer (some ⟨p, 0, none⟩)) ∧ Pm w' p t g gw M ∧ w.heap.size ≤ p ∧ w.heap.size ≤ t ∧ w.heap.size ≤ g ∧ w.heap.size ≤ gw ∧ Below w.heap.size w w'
abbrev Ten (p : Nat) (M : Mm) (t gw d : Nat) (u : World) : Prop := u.cell? ⟨p, 0, none⟩ = some (.int .u32 (M.gt 0)) ∧ u.cell? ⟨p, 1, none⟩ = some (.int .u32 (M.gt 1)) ∧ u.cell? ⟨p, 2, none⟩ = some (.int .u32 (M.gt 2)) ∧ u.cell? ⟨p, 3, none⟩ = some (.int .u32 (M.gt 3)) ∧ u.cell? ⟨p, 4, none⟩ = some (.int .u32 (M.gt 4)) ∧
  u.cell? ⟨p, 5, none⟩ = some (.int .u32 (M.gt 5)) ∧ u.cell? ⟨p, 6, none⟩ = some (.int .u32 (M.gt 6)) ∧ u.cell? ⟨p, 7, none⟩ = some (.int .u32 (M.gt 7)) ∧ u.cell? ⟨p, 8, none⟩ = some (.pointer (some ⟨t, 0, none⟩)) ∧ u.cell? ⟨p, 9, none⟩ = some (.slice (some ⟨gw, 0, none⟩) M.ws.length d)
theorem ten_go {p t gw d : Nat} {M : Mm} {w u : World} (h : Ten p M t gw d w.drew) (hp : p < w.heap.size) (hb : Below w.heap.size w u) : Ten p M t gw d u := by
  have c := fun i => hb.cell (p := ⟨p, i, none⟩) hp
  obtain ⟨h0, h1, h2, h3, h4, h5, h6, h7, h8, h9⟩ := h
  exact ⟨(c _).trans h0, (c _).trans h1, (c _).trans h2, (c _).trans h3, (c _).trans h4, (c _).trans h5, (c _).trans h6, (c _).trans h7, (c _).trans h8, (c _).trans h9⟩
theorem ten_box {p t gw d : Nat} {M : Mm} {w u : World} (h : Ten p M t gw d w.drew) (hp : p < w.heap.size) (hb : Below w.heap.size w u) (o : Obj) : Ten p M t gw d (u.alloc o) ∧ Below w.heap.size w (u.alloc o) := ⟨ten_go h hp (hb.alloc hb.size o), hb.alloc hb.size o⟩
set_option maxHeartbeats 2000000 in
theorem mfork_any {w : World} {p t g gw : Nat} {M : Mm} (h : Pm w p t g gw M) : Calls Try.prog 21 #[.pointer (some ⟨p, 0, none⟩)] w (NewPm M w) := by
  obtain ⟨d, h4, hd1, hd2, c8, c9, ck, fk⟩ := h.cells
  have hp := h.lt.1
  have k0 := ck 0 (by omega)
  have k1 := ck 1 (by omega)
  have k2 := ck 2 (by omega)
  have k3 := ck 3 (by omega)
  have k4 := ck 4 (by omega)
  have k5 := ck 5 (by omega)
  have k6 := ck 6 (by omega)
  have k7 := ck 7 (by omega)
  have CF := Lib.hid (fun u (hb : Below w.heap.size w u) => fork_tb (h.belowS hb).tb)
  have CC := Lib.hid (fun u (hb : Below w.heap.size w u) => cloneW_any (c := d) (h.belowS hb).wr h4)
  have HOK := Lib.hid h.ok
  clear h ck fk
  have hbd : Below w.heap.size w w.drew := (Below.refl _ _).drew
  go_enter Try.func21, Try.ntmps21
  go_wp2_with fail
  have K0 : Ten p M t gw d w.drew := ⟨k0, k1, k2, k3, k4, k5, k6, k7, c8, c9⟩
  go_region_held3 (fun u => Ten p M t gw d u ∧ Below w.heap.size w u)
    (first | with_reducible exact ⟨K2, hB2⟩ | with_reducible exact ⟨K1, hB1⟩ | with_reducible exact ⟨K0, hbd⟩ | with_reducible exact ten_box K0 hp hB2 _)
    (first | (go_at_call 44; (with_reducible refine (CF.out _ hbd).mono ?_); rintro e w1 ⟨t1, g1, rfl, hT, ht1, hg1, hb1⟩; have hB1 := below_drew_next hb1; have K1 := ten_go K0 hp hB1; have HT := Lib.hid hT; clear hT hb1) | (go_at_call 45; (with_reducible refine (CC.out _ hB1).mono ?_); rintro e w2 ⟨gw1, d1, rfl, hW, hgw1, hd3, hd4, hb2⟩; have hB2 := below_of hB1 hb2; have K2 := ten_go K0 hp hB2; have HW := Lib.hid hW; have HT2 := Lib.hid (HT.out.belowS hb2); clear hW))
  rename_i hHeld
  clear hHeld
  go_wp2_with fail
  go_ret
  exact ⟨w2.heap.size, t1, g1, gw1, rfl, ⟨HOK.out, HT2.out.belowS (below_new _ _), HW.out.alloc _, d1, hd3, hd4, Whole.new _ _ _⟩, hB2.size, ht1, hg1, Nat.le_trans hB1.size hgw1, hB2.alloc hB2.size _⟩
/-! new ones -/
theorem made_words (n : Nat) : (madeCells (Value.int .u32 0).cells (n * 1)).toList = wcs (List.replicate n 0) := by
  apply List.ext_getElem?
  intro i
  by_cases hi : i < n
  · have : i < n * 1 := by omega
    simp [madeCells, this, hi, Value.cells, wcs]
    rw [Nat.mod_one]
    rfl
  · rw [List.getElem?_eq_none (by rw [Array.length_toList, size_madeCells]; omega), List.getElem?_eq_none (by rw [wcs_len, List.length_replicate]; omega)]
theorem made_wr {w : World} {B m g : Nat} (h : w.ownsRow B 26 1 (.slice (some ⟨g, 0, none⟩) m m) m (wcs (List.replicate m 0))) : Wr w g (List.replicate m 0) ∧ B ≤ g := by
  obtain ⟨g', c, e, _, hB, _, _, hr⟩ := wr_of_owns h (by simp)
  simp only [Value.slice.injEq, Option.some.injEq, Addr.mk.injEq] at e
  obtain ⟨⟨rfl, _⟩, _⟩ := e
  exact ⟨hr, hB⟩
theorem newP_end {w w1 w2 : World} {n p g : Nat} (h256 : n ≤ 256) (hT : Tb w1 p g (zeros n)) (hp : w.heap.size ≤ p) (hg : w.heap.size ≤ g) (hb : Below w.heap.size w w1)
    (hown : w2.ownsRow w1.heap.size 26 1 (.slice (some ⟨w1.heap.size, 0, none⟩) (n * 16) (n * 16)) (n * 16) (wcs (List.replicate (n * 16) 0))) (hgrow : w1.grownBy w2 none) :
    NewPm (newM n) w (.returned (.pointer (some ⟨w2.heap.size, 0, none⟩))) (w2.alloc (.cells (pCs (fun _ => 0) p w1.heap.size (n * 16) (n * 16)) 80)) := by
  obtain ⟨hr, _⟩ := made_wr hown
  have hb2 : Below w1.heap.size w1 w2 := (Below.refl _ _).grown hgrow (Nat.le_refl _) (fun k hk => by cases hk)
  have hw := below_of hb hb2
  refine ⟨w2.heap.size, p, g, w1.heap.size, rfl, ⟨newM_ok h256, (hT.belowS hb2).belowS (below_new _ _), hr.alloc _, n * 16, by simp [newM], by unfold maxLen; omega, ?_⟩, hw.size, hp, hg, hb.size, hw.alloc hw.size _⟩
  have : (newM n).ws.length = n * 16 := by simp [newM]
  rw [this]
  exact Whole.new _ _ _
set_option maxHeartbeats 1000000 in
theorem newP_any (k : Int) (w : World) : Calls Try.prog 10 #[.int .i64 k] w (NewPm (newM (min (max k 0) 256).toNat) w) := by
  obtain ⟨i0, hi, hz0, hz1, hz2⟩ := info_parts infoU32
  have CN := Lib.hid (new_any k w)
  have hN : (min (max k 0) 256).toNat ≤ 256 := by omega
  generalize (min (max k 0) 256).toNat = n at *
  have CL := Lib.hid (fun (p g : Nat) (u : World) (h : Tb u p g (zeros n)) => len_tb h)
  rw [zeros_len] at CL
  have hn1 : (n : Int) ≤ 256 := by omega
  have hn0 : (0 : Int) ≤ n := by omega
  go_enter Try.func10, Try.ntmps10
  go_wp2_with (first | (go_at_call 35; (with_reducible refine CN.out.mono ?_); rintro e w1 ⟨p, g, rfl, hT, hp, hg, hb⟩; have HT := Lib.hid hT; clear hT) | (go_at_call 20; (with_reducible refine (CL.out _ _ _ HT.out).mono ?_); rintro e w2 ⟨rfl, rfl⟩) | (at_make; refine wpList_make_full _ rfl _ _ 31 rfl w1.heap.size 26 i0 _ 1 Try.underlying31 hi hz0 hz1 _ _ _ _ (n * 16) rfl rfl (by omega) (by omega) (by rw [hz2]; omega) (by unfold maxLen; omega) (Nat.le_refl _) ?_; intro w2 hown1 hgrow1))
  rw [made_words] at hown1
  go_ret
  exact newP_end hN HT.out hp hg hb hown1 hgrow1
end Go.Proofs.Ytkmjacpcpchjoaa.MF
