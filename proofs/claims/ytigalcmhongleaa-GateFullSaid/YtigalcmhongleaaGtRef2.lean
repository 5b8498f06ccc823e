/-
  The reference of layer 18: Find, Turn, Close, Open. Nothing here is a statement of the seed.
-/
import Derived.Test.YtigalcmhongleaaGtPut
import Derived.BigRegion
set_option linter.unusedSimpArgs false
set_option linter.unusedVariables false
namespace Go.Proofs.Ytigalcmhongleaa.GF
open Go.RowKit WM NR OM OR GA
set_option maxHeartbeats 4000000
set_option maxRecDepth 10000
/-- a bind laid into a box of one -/
def putBd (w : World) (p : Nat) (b : Bd) : World := ((w.setCell ⟨p, 0, none⟩ (.string (bs b.nm))).setCell ⟨p, 1, none⟩ (.int .u16 b.ow)).setCell ⟨p, 2, none⟩ (.int .u32 b.bs)
theorem putBd_eq (w : World) (p : Nat) (x : ByteArray) (o k : Int) (b : Bd) (h : bs b.nm = x) (ho : b.ow = o) (hk : b.bs = k) : ((w.setCell ⟨p, 0, none⟩ (.string x)).setCell ⟨p, 1, none⟩ (.int .u16 o)).setCell ⟨p, 2, none⟩ (.int .u32 k) = putBd w p b := by subst h ho hk; rfl
section
variable {w u : World} {p q : Nat} {t t' : TypeId} {cs ds : Array Value} {b : Bd}
theorem putBd_whole (h : Whole w p t cs) (hs : cs.size = 3) : Whole (putBd w p b) p t (bdC b) := by
  obtain ⟨l⟩ := cs
  match l, hs with
  | [a0, a1, a2], _ => exact ((h.set_ 0 (.string (bs b.nm))).set_ 1 (.int .u16 b.ow)).set_ 2 (.int .u32 b.bs)
theorem putBd_far (h : Whole w q t cs) (hp : q ≠ p) : Whole (putBd w p b) q t cs := ((Whole.far h (p := ⟨p, 0, none⟩) hp _).far (p := ⟨p, 1, none⟩) hp _).far (p := ⟨p, 2, none⟩) hp _
theorem putBd_below {B : Nat} {w0 : World} (h : Below B w0 w) (hp : B ≤ p) : Below B w0 (putBd w p b) := ((h.setCell hp _).setCell hp _).setCell hp _
/-- what a store of a bind asks of its box -/
theorem box3 (h : Whole w p t cs) (hs : cs.size = 3) : ∃ v0 v1 v2, w.cell? ⟨p, 0, none⟩ = some v0 ∧ w.cell? ⟨p, 1, none⟩ = some v1 ∧ w.cell? ⟨p, 2, none⟩ = some v2 := by
  obtain ⟨l⟩ := cs
  match l, hs with
  | [a0, a1, a2], _ => exact ⟨a0, a1, a2, h.cell 0, h.cell 1, h.cell 2⟩
end
section
variable {w : World} {f : Tb}
theorem refFind_any (m : List UInt8) : Calls Try.prog 21 #[tV f, .string (bs m)] w fun e u => e = .returned (.tuple #[.int .i64 (findM f m).g, bdV (findM f m).b, .int .i64 (findM f m).e]) ∧ Below w.heap.size w u := by
  have b1 := below_new w (.cells (tC f) 32)
  have b2 := below_new (w.alloc (.cells (tC f) 32)) (.cells #[.string ⟨#[]⟩, .int .u16 0, .int .u32 0] 29)
  have HX := Lib.hid ((Whole.new w 32 (tC f)).belowS b2)
  have hy := Whole.new (w.alloc (.cells (tC f) 32)) 29 #[.string ⟨#[]⟩, .int .u16 0, .int .u32 0]
  rw [show (w.alloc (.cells (tC f) 32)).heap.size = w.heap.size + 1 by simp] at hy
  have HY := Lib.hid hy
  have HB := Lib.hid (b1.trans (b2.mono b1.size))
  clear hy b1 b2
  have CP := Lib.hid (fun u => refPlace_any (w := u) (f := f) m)
  have hfd : findM f m = if place f m < 0 then ⟨f, 0, b0, 8⟩ else ⟨f, place f m, f (place f m).toNat, 0⟩ := rfl
  obtain ⟨P, hP⟩ : ∃ P, P = place f m := ⟨_, rfl⟩
  have hcs := fst8_cases (hasB f m)
  change (place f m = -1 ∧ _) ∨ (∃ k : Nat, k < 8 ∧ place f m = (k : Int) ∧ _) at hcs
  rw [← hP] at CP hfd hcs
  generalize findM f m = R at *
  clear hP
  generalize bs m = X at *
  rcases hcs with ⟨hm, _⟩ | ⟨k, k8, hm, _, _⟩
  · subst hm
    rw [if_pos (by decide)] at hfd
    subst hfd
    go_enter Try.func21, Try.ntmps21
    go_upto_region 1 with fail
    generalize (w.alloc (.cells (tC f) 32)).alloc (.cells #[.string ⟨#[]⟩, .int .u16 0, .int .u32 0] 29) = W at *
    go_upto_region 2 with (first | (refine wl_T rfl (.tmp 2) rfl rfl HX.out ?_) | (go_at_call 30; (with_reducible refine (CP.out _).mono ?_); rintro e w1 ⟨rfl, hB⟩; have HY1 := Lib.hid (HY.out.belowS hB); have HB1 := Lib.hid (HB.out.trans (hB.mono HB.out.size)); clear hB))
    have z6 := HY1.out.lt
    have f0 := HY1.out.frozen 0
    have f1 := HY1.out.frozen 1
    have f2 := HY1.out.frozen 2
    obtain ⟨v0, v1, v2, c0, c1, c2⟩ := box3 HY1.out rfl
    obtain ⟨r0, r1, r2⟩ := bd_cells (putBd_whole (b := b0) HY1.out rfl)
    go_wp2_with fail
    rw [putBd_eq w1 (w.heap.size + 1) ⟨#[]⟩ 0 0 b0 rfl rfl rfl]
    exact bodyPost_ret (v := .tuple #[.int .i64 0, bdV b0, .int .i64 8]) (by simp [results, Try.results21, go_sem, r0, r1, r2]) rfl ⟨rfl, putBd_below HB1.out (by omega)⟩
  · subst hm
    rw [if_neg (by omega), show ((k : Int)).toNat = k by omega] at hfd
    subst hfd
    have k8' : (k : Int) < 8 := by omega
    have hd1 : decide ((k : Int) < 0) = false := decide_eq_false (by omega)
    go_enter Try.func21, Try.ntmps21
    go_upto_region 1 with fail
    generalize (w.alloc (.cells (tC f) 32)).alloc (.cells #[.string ⟨#[]⟩, .int .u16 0, .int .u32 0] 29) = W at *
    go_upto_region 2 with (first | (refine wl_T rfl (.tmp 2) rfl rfl HX.out ?_) | (go_at_call 30; (with_reducible refine (CP.out _).mono ?_); rintro e w1 ⟨rfl, hB⟩; have HX1 := Lib.hid (HX.out.belowS hB); have HY1 := Lib.hid (HY.out.belowS hB); have HB1 := Lib.hid (HB.out.trans (hB.mono HB.out.size)); clear hB))
    go_upto_region 4 with fail
    have hbd : Below w1.heap.size w1 w1.drew := (Below.refl _ _).drew
    have K0 := HX1.out.belowS hbd
    have hy := HY1.out
    have z6 := hy.lt
    have f0 := hy.frozen 0
    have f1 := hy.frozen 1
    have f2 := hy.frozen 2
    obtain ⟨v0, v1, v2, c0, c1, c2⟩ := box3 hy rfl
    have hw2 := putBd_whole (b := f k) hy rfl
    obtain ⟨r0, r1, r2⟩ := bd_cells hw2
    have hbd2 : Below (putBd w1 (w.heap.size + 1) (f k)).heap.size (putBd w1 (w.heap.size + 1) (f k)) (putBd w1 (w.heap.size + 1) (f k)).drew := (Below.refl _ _).drew
    have K1 : Whole (putBd w1 (w.heap.size + 1) (f k)).drew w.heap.size 32 (tC f) := (putBd_far HX1.out (by omega)).belowS hbd2
    obtain ⟨r3, r4, r5⟩ := bd_cells (hw2.belowS hbd2)
    have HBF := Lib.hid (putBd_below (b := f k) (p := w.heap.size + 1) HB1.out (by omega)).drew
    refine wp_region_held_drew (S := fun u => Whole u w.heap.size 32 (tC f)) (by kernel_rfl) K0 (fun hHeld => ?_)
    refine wpAnyH_take (i := 0) (v := ?evv0) rfl (by kernel_rfl) (by kernel_rfl) (by kernel_rfl) (fun _ _ _ h => h) (Or.inl ⟨by rfl, ?ehy0⟩) (by assumption) ?erest0
    case ehy0 =>
      intro u hSu
      obtain ⟨s0, s1, s2⟩ := box_at hSu k8; have s6 := hSu.lt
      go_simp
      try with_reducible rfl
    try simp only [Act.put, List.getElem_toArray, List.getElem_cons_succ, List.getElem_cons_zero, List.setIfInBounds_toArray, List.set_cons_zero, List.set_cons_succ]
    refine wpAnyH_take (i := 1) (v := ?evv1) rfl (by kernel_rfl) (by kernel_rfl) (by kernel_rfl) (fun _ _ _ h => h) (Or.inl ⟨by rfl, ?ehy1⟩) (by assumption) ?erest1
    case ehy1 =>
      intro u hSu
      obtain ⟨s0, s1, s2⟩ := box_at hSu k8; have s6 := hSu.lt
      go_simp
      try with_reducible rfl
    try simp only [Act.put, List.getElem_toArray, List.getElem_cons_succ, List.getElem_cons_zero, List.setIfInBounds_toArray, List.set_cons_zero, List.set_cons_succ]
    refine wpAnyH_take (i := 2) (v := ?evv2) rfl (by kernel_rfl) (by kernel_rfl) (by kernel_rfl) (fun _ _ _ h => h) (Or.inl ⟨by rfl, ?ehy2⟩) (by assumption) ?erest2
    case ehy2 =>
      intro u hSu
      obtain ⟨s0, s1, s2⟩ := box_at hSu k8; have s6 := hSu.lt
      go_simp
      try with_reducible rfl
    try simp only [Act.put, List.getElem_toArray, List.getElem_cons_succ, List.getElem_cons_zero, List.setIfInBounds_toArray, List.set_cons_zero, List.set_cons_succ]
    refine wpAnyH_take (i := 3) (v := ?evv3) rfl (by kernel_rfl) (by kernel_rfl) (by kernel_rfl) (fun _ _ _ h => h) (Or.inl ⟨by rfl, ?ehy3⟩) (by assumption) ?erest3
    case ehy3 =>
      intro u hSu
      obtain ⟨s0, s1, s2⟩ := box_at hSu k8; have s6 := hSu.lt
      go_simp
      try with_reducible rfl
    try simp only [Act.put, List.getElem_toArray, List.getElem_cons_succ, List.getElem_cons_zero, List.setIfInBounds_toArray, List.set_cons_zero, List.set_cons_succ]
    refine wpAnyH_take (i := 4) (v := ?evv4) rfl (by kernel_rfl) (by kernel_rfl) (by kernel_rfl) (fun _ _ _ h => h) (Or.inl ⟨by rfl, ?ehy4⟩) (by assumption) ?erest4
    case ehy4 =>
      intro u hSu
      obtain ⟨s0, s1, s2⟩ := box_at hSu k8; have s6 := hSu.lt
      go_simp
      try with_reducible rfl
    try simp only [Act.put, List.getElem_toArray, List.getElem_cons_succ, List.getElem_cons_zero, List.setIfInBounds_toArray, List.set_cons_zero, List.set_cons_succ]
    refine wpAnyH_take (i := 5) (v := ?evv5) rfl (by kernel_rfl) (by kernel_rfl) (by kernel_rfl) (fun _ _ _ h => h) (Or.inl ⟨by rfl, ?ehy5⟩) (by assumption) ?erest5
    case ehy5 =>
      intro u hSu
      obtain ⟨s0, s1, s2⟩ := box_at hSu k8; have s6 := hSu.lt
      go_simp
      try with_reducible rfl
    try simp only [Act.put, List.getElem_toArray, List.getElem_cons_succ, List.getElem_cons_zero, List.setIfInBounds_toArray, List.set_cons_zero, List.set_cons_succ]
    refine wpAnyH_ready (rs := [6]) (by kernel_rfl) (by simp) ?_
    refine AllReadyH.cons rfl (fun K hK => ?_) AllReadyH.nil
    go_simp
    refine hK.out _ _ ?ehS6 (fun hHeld => ?erest6)
    case ehS6 => exact K1
    clear hK K
    try simp only [Act.put, List.getElem_toArray, List.getElem_cons_succ, List.getElem_cons_zero, List.setIfInBounds_toArray, List.set_cons_zero, List.set_cons_succ]
    refine wpAnyH_take (i := 7) (v := ?evv7) rfl (by kernel_rfl) (by kernel_rfl) (by kernel_rfl) (fun _ _ _ h => h) (Or.inl ⟨by rfl, ?ehy7⟩) (by assumption) ?erest7
    case ehy7 =>
      intro u hSu
      obtain ⟨s0, s1, s2⟩ := box_at hSu k8; have s6 := hSu.lt
      go_simp
      try with_reducible rfl
    try simp only [Act.put, List.getElem_toArray, List.getElem_cons_succ, List.getElem_cons_zero, List.setIfInBounds_toArray, List.set_cons_zero, List.set_cons_succ]
    refine wpAnyH_done (by kernel_rfl) ?_ _
    clear hHeld K0 K1 hy z6 f0 f1 f2 c0 c1 c2 hbd hbd2 hw2
    go_wp2_with fail
    rw [putBd_eq w1 (w.heap.size + 1) _ _ _ (f k) rfl rfl rfl]
    exact bodyPost_ret (v := .tuple #[.int .i64 (k : Int), bdV (f k), .int .i64 0]) (by simp [results, Try.results21, go_sem, r0, r1, r2, r3, r4, r5]) rfl ⟨rfl, HBF.out⟩
end
end Go.Proofs.Ytigalcmhongleaa.GF
