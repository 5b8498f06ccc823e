/-
  The program's Get and Find. Nothing here is a statement of the seed.
-/
import Derived.Test.YtigalcmhongleaaGtPC
import Derived.Test.YtigalcmhongleaaGtRes
set_option linter.unusedSimpArgs false
set_option linter.unusedVariables false
namespace Go.Proofs.Ytigalcmhongleaa.GK
open Go.RowKit WM NR OM OR GA GF
set_option maxHeartbeats 4000000
set_option maxRecDepth 10000
theorem resP {u : World} {q : Nat} {t : TypeId} {b : Bd} (h : Whole u q t (bdC b)) : (loadVar 35 ⟨q, 0, none⟩).run Try.prog u = .ok (bdV b) u :=
  run_loadVar_mid u q 0 _ (bdC b).toList _ (fun j v hv => by rw [Nat.zero_add, h.cell, ← hv, Array.getElem?_toList]) Try.underlying35 rfl (by kernel_rfl)
theorem res1P {u : World} {q : Nat} {t : TypeId} {b : Bd} {fn : Func} {tm : Array Value} {i : Nat} (hr : fn.results = #[.cell i 35]) (h4 : tm.getD i undef = .pointer (some ⟨q, 0, none⟩)) (hT : Whole u q t (bdC b)) : (results fn tm).run Try.prog u = .ok (bdV b) u := by
  have r1 := resP hT
  unfold results
  rw [hr]
  simp only [Array.mapM_eq_mapM_toList, List.mapM_cons, List.mapM_nil, h4, Sem.run_bind, Sem.run_pure, Result.andThen_ok, asA, r1, map_eq_pure_bind, bind_assoc, pure_bind]
  rfl
theorem res3P {u : World} {q : Nat} {t : TypeId} {b : Bd} {fn : Func} {tm : Array Value} {g e : Int} (hr : fn.results = #[.tmp 4, .cell 5 35, .tmp 6]) (h4 : tm.getD 4 undef = .int .i64 g) (h5 : tm.getD 5 undef = .pointer (some ⟨q, 0, none⟩)) (h6 : tm.getD 6 undef = .int .i64 e) (hT : Whole u q t (bdC b)) : (results fn tm).run Try.prog u = .ok (.tuple #[.int .i64 g, bdV b, .int .i64 e]) u := by
  have r1 := resP hT
  unfold results
  rw [hr]
  simp only [Array.mapM_eq_mapM_toList, List.mapM_cons, List.mapM_nil, h4, h5, h6, Sem.run_bind, Sem.run_pure, Result.andThen_ok, asA, r1, map_eq_pure_bind, bind_assoc, pure_bind]
  rfl
section
variable {w : World} {f : Tb} {p : Nat}
theorem get_any (hW : Whole w p 53 (tC f)) (g : Int) : Calls Try.prog 17 #[.pointer (some ⟨p, 0, none⟩), .int .i64 g] w fun e u => e = .returned (bdV (getM f g)) ∧ Below w.heap.size w u := by
  have b1 := below_new w (.cells #[.string ⟨#[]⟩, .int .u16 0, .int .u32 0] 35)
  have HX := Lib.hid (hW.belowS b1)
  have HY := Lib.hid (Whole.new w 35 #[.string ⟨#[]⟩, .int .u16 0, .int .u32 0])
  have HB := Lib.hid b1
  have hpw := hW.lt
  clear b1 hW
  by_cases hg : 0 ≤ g ∧ g ≤ 7
  · obtain ⟨g1, g2⟩ := hg
    have e1 : getM f g = f g.toNat := if_pos ⟨g1, g2⟩
    rw [e1]
    obtain ⟨k, rfl⟩ : ∃ k : Nat, g = (k : Int) := ⟨g.toNat, by omega⟩
    have k8 : k < 8 := by omega
    have k8' : (k : Int) < 8 := by omega
    have hd1 : decide ((k : Int) < 0) = false := decide_eq_false (by omega)
    have hd2 : decide ((8 : Int) ≤ (k : Int)) = false := decide_eq_false (by omega)
    rw [show ((k : Int)).toNat = k by omega]
    clear e1
    go_enter Try.func17, Try.ntmps17
    go_upto_region 1 with fail
    generalize w.alloc (.cells #[.string ⟨#[]⟩, .int .u16 0, .int .u32 0] 35) = W at *
    obtain ⟨y0, y1, y2⟩ := box_at HX.out k8
    have x6 := HX.out.lt
    have z6 := HY.out.lt
    have f0 := HY.out.frozen 0
    have f1 := HY.out.frozen 1
    have f2 := HY.out.frozen 2
    obtain ⟨v0, v1, v2, c0, c1, c2⟩ := box3 HY.out rfl
    have HR := Lib.hid (putBd_whole (b := f k) HY.out rfl)
    have HBR := Lib.hid (putBd_below (b := f k) HB.out (Nat.le_refl _))
    go_wp2_with fail
    rw [putBd_eq W w.heap.size _ _ _ (f k) rfl rfl rfl]
    exact bodyPost_ret (v := bdV (f k)) (res1P Try.results17 rfl HR.out) rfl ⟨rfl, HBR.out⟩
  · have e1 : getM f g = b0 := if_neg hg
    rw [e1]
    have hd : decide (g < 0) = true ∨ decide (g < 0) = false ∧ decide ((8 : Int) ≤ g) = true := by
      by_cases h : g < 0
      · exact Or.inl (decide_eq_true h)
      · exact Or.inr ⟨decide_eq_false h, decide_eq_true (by omega)⟩
    clear e1
    go_enter Try.func17, Try.ntmps17
    go_upto_region 1 with fail
    generalize w.alloc (.cells #[.string ⟨#[]⟩, .int .u16 0, .int .u32 0] 35) = W at *
    have z6 := HY.out.lt
    have f0 := HY.out.frozen 0
    have f1 := HY.out.frozen 1
    have f2 := HY.out.frozen 2
    obtain ⟨v0, v1, v2, c0, c1, c2⟩ := box3 HY.out rfl
    have HR := Lib.hid (putBd_whole (b := b0) HY.out rfl)
    have HBR := Lib.hid (putBd_below (b := b0) HB.out (Nat.le_refl _))
    rcases hd with hd | ⟨hd, hd'⟩
    · go_wp2_with fail
      rw [putBd_eq W w.heap.size ⟨#[]⟩ 0 0 b0 rfl rfl rfl]
      exact bodyPost_ret (v := bdV b0) (res1P Try.results17 rfl HR.out) rfl ⟨rfl, HBR.out⟩
    · go_wp2_with fail
      rw [putBd_eq W w.heap.size ⟨#[]⟩ 0 0 b0 rfl rfl rfl]
      exact bodyPost_ret (v := bdV b0) (res1P Try.results17 rfl HR.out) rfl ⟨rfl, HBR.out⟩
theorem find_any (hW : Whole w p 53 (tC f)) (hok : Ok f) (m : List UInt8) : Calls Try.prog 16 #[.pointer (some ⟨p, 0, none⟩), .string (bs m)] w fun e u => e = .returned (.tuple #[.int .i64 (findM f m).g, bdV (findM f m).b, .int .i64 (findM f m).e]) ∧ Below w.heap.size w u := by
  have b1 := below_new w (.cells #[.string ⟨#[]⟩, .int .u16 0, .int .u32 0] 35)
  have HX := Lib.hid (hW.belowS b1)
  have HY := Lib.hid (Whole.new w 35 #[.string ⟨#[]⟩, .int .u16 0, .int .u32 0])
  have HB := Lib.hid b1
  have hpw := hW.lt
  have CP := Lib.hid (fun u (h : Whole u p 53 (tC f)) => gateOf_any h hok m)
  clear b1 hW hok
  have hfd : findM f m = if place f m < 0 then ⟨f, 0, b0, 8⟩ else ⟨f, place f m, f (place f m).toNat, 0⟩ := rfl
  obtain ⟨P, hP⟩ : ∃ P, P = place f m := ⟨_, rfl⟩
  have hcs := fst8_cases (hasB f m)
  change (place f m = -1 ∧ _) ∨ (∃ k : Nat, k < 8 ∧ place f m = (k : Int) ∧ _) at hcs
  rw [← hP] at CP hfd hcs
  generalize findM f m = R at *
  clear hP
  generalize bs m = X at *
  rcases hcs with ⟨hm, _⟩ | ⟨k, k8, hm, _, _⟩
  · subst hm
    rw [if_pos (by decide)] at hfd
    subst hfd
    go_enter Try.func16, Try.ntmps16
    go_upto_region 1 with fail
    generalize w.alloc (.cells #[.string ⟨#[]⟩, .int .u16 0, .int .u32 0] 35) = W at *
    go_upto_region 4 with (first | (go_at_call 26; (with_reducible refine (CP.out _ HX.out).mono ?_); rintro e w1 ⟨rfl, hB⟩; have HY1 := Lib.hid (HY.out.belowS hB); have HB1 := Lib.hid (HB.out.trans (hB.mono HB.out.size)); clear hB))
    have z6 := HY1.out.lt
    have f0 := HY1.out.frozen 0
    have f1 := HY1.out.frozen 1
    have f2 := HY1.out.frozen 2
    obtain ⟨v0, v1, v2, c0, c1, c2⟩ := box3 HY1.out rfl
    have HR := Lib.hid (putBd_whole (b := b0) HY1.out rfl)
    have HBR := Lib.hid (putBd_below (b := b0) HB1.out (Nat.le_refl _))
    go_wp2_with fail
    rw [putBd_eq w1 w.heap.size ⟨#[]⟩ 0 0 b0 rfl rfl rfl]
    exact bodyPost_ret (v := .tuple #[.int .i64 0, bdV b0, .int .i64 8]) (res3P Try.results16 rfl rfl rfl HR.out) rfl ⟨rfl, HBR.out⟩
  · subst hm
    rw [if_neg (by omega), show ((k : Int)).toNat = k by omega] at hfd
    subst hfd
    have k8' : (k : Int) < 8 := by omega
    have hd1 : decide ((k : Int) < 0) = false := decide_eq_false (by omega)
    go_enter Try.func16, Try.ntmps16
    go_upto_region 1 with fail
    generalize w.alloc (.cells #[.string ⟨#[]⟩, .int .u16 0, .int .u32 0] 35) = W at *
    go_upto_region 4 with (first | (go_at_call 26; (with_reducible refine (CP.out _ HX.out).mono ?_); rintro e w1 ⟨rfl, hB⟩; have HX1 := Lib.hid (HX.out.belowS hB); have HY1 := Lib.hid (HY.out.belowS hB); have HB1 := Lib.hid (HB.out.trans (hB.mono HB.out.size)); clear hB))
    go_upto_region 6 with fail
    have hbd : Below w1.heap.size w1 w1.drew := (Below.refl _ _).drew
    have K0 := HX1.out.belowS hbd
    have hy := HY1.out
    have z6 := hy.lt
    have f0 := hy.frozen 0
    have f1 := hy.frozen 1
    have f2 := hy.frozen 2
    obtain ⟨v0, v1, v2, c0, c1, c2⟩ := box3 hy rfl
    have hw2 := putBd_whole (b := f k) hy rfl
    have hbd2 : Below (putBd w1 w.heap.size (f k)).heap.size (putBd w1 w.heap.size (f k)) (putBd w1 w.heap.size (f k)).drew := (Below.refl _ _).drew
    have K1 : Whole (putBd w1 w.heap.size (f k)).drew p 53 (tC f) := (putBd_far HX1.out (by omega)).belowS hbd2
    have HR := Lib.hid (hw2.belowS hbd2)
    have HBF := Lib.hid (putBd_below (b := f k) (p := w.heap.size) HB1.out (Nat.le_refl _)).drew
    refine wp_region_held_drew (S := fun u => Whole u p 53 (tC f)) (by kernel_rfl) K0 (fun hHeld => ?_)
    refine wpAnyH_take (i := 0) (v := ?evv0) rfl (by kernel_rfl) (by kernel_rfl) (by kernel_rfl) (fun _ _ _ h => h) (Or.inl ⟨by rfl, ?ehy0⟩) (by assumption) ?erest0
    case ehy0 =>
      intro u hSu
      obtain ⟨s0, s1, s2⟩ := box_at hSu k8; have s6 := hSu.lt
      go_simp
      try with_reducible rfl
    try simp only [Act.put, List.getElem_toArray, List.getElem_cons_succ, List.getElem_cons_zero, List.setIfInBounds_toArray, List.set_cons_zero, List.set_cons_succ]
    refine wpAnyH_take (i := 1) (v := ?evv1) rfl (by kernel_rfl) (by kernel_rfl) (by kernel_rfl) (fun _ _ _ h => h) (Or.inl ⟨by rfl, ?ehy1⟩) (by assumption) ?erest1
    case ehy1 =>
      intro u hSu
      obtain ⟨s0, s1, s2⟩ := box_at hSu k8; have s6 := hSu.lt
      go_simp
      try with_reducible rfl
    try simp only [Act.put, List.getElem_toArray, List.getElem_cons_succ, List.getElem_cons_zero, List.setIfInBounds_toArray, List.set_cons_zero, List.set_cons_succ]
    refine wpAnyH_take (i := 2) (v := ?evv2) rfl (by kernel_rfl) (by kernel_rfl) (by kernel_rfl) (fun _ _ _ h => h) (Or.inl ⟨by rfl, ?ehy2⟩) (by assumption) ?erest2
    case ehy2 =>
      intro u hSu
      obtain ⟨s0, s1, s2⟩ := box_at hSu k8; have s6 := hSu.lt
      go_simp
      try with_reducible rfl
    try simp only [Act.put, List.getElem_toArray, List.getElem_cons_succ, List.getElem_cons_zero, List.setIfInBounds_toArray, List.set_cons_zero, List.set_cons_succ]
    refine wpAnyH_take (i := 3) (v := ?evv3) rfl (by kernel_rfl) (by kernel_rfl) (by kernel_rfl) (fun _ _ _ h => h) (Or.inl ⟨by rfl, ?ehy3⟩) (by assumption) ?erest3
    case ehy3 =>
      intro u hSu
      obtain ⟨s0, s1, s2⟩ := box_at hSu k8; have s6 := hSu.lt
      go_simp
      try with_reducible rfl
    try simp only [Act.put, List.getElem_toArray, List.getElem_cons_succ, List.getElem_cons_zero, List.setIfInBounds_toArray, List.set_cons_zero, List.set_cons_succ]
    refine wpAnyH_take (i := 4) (v := ?evv4) rfl (by kernel_rfl) (by kernel_rfl) (by kernel_rfl) (fun _ _ _ h => h) (Or.inl ⟨by rfl, ?ehy4⟩) (by assumption) ?erest4
    case ehy4 =>
      intro u hSu
      obtain ⟨s0, s1, s2⟩ := box_at hSu k8; have s6 := hSu.lt
      go_simp
      try with_reducible rfl
    try simp only [Act.put, List.getElem_toArray, List.getElem_cons_succ, List.getElem_cons_zero, List.setIfInBounds_toArray, List.set_cons_zero, List.set_cons_succ]
    refine wpAnyH_take (i := 5) (v := ?evv5) rfl (by kernel_rfl) (by kernel_rfl) (by kernel_rfl) (fun _ _ _ h => h) (Or.inl ⟨by rfl, ?ehy5⟩) (by assumption) ?erest5
    case ehy5 =>
      intro u hSu
      obtain ⟨s0, s1, s2⟩ := box_at hSu k8; have s6 := hSu.lt
      go_simp
      try with_reducible rfl
    try simp only [Act.put, List.getElem_toArray, List.getElem_cons_succ, List.getElem_cons_zero, List.setIfInBounds_toArray, List.set_cons_zero, List.set_cons_succ]
    refine wpAnyH_take (i := 6) (v := ?evv6) rfl (by kernel_rfl) (by kernel_rfl) (by kernel_rfl) (fun _ _ _ h => h) (Or.inl ⟨by rfl, ?ehy6⟩) (by assumption) ?erest6
    case ehy6 =>
      intro u hSu
      obtain ⟨s0, s1, s2⟩ := box_at hSu k8; have s6 := hSu.lt
      go_simp
      try with_reducible rfl
    try simp only [Act.put, List.getElem_toArray, List.getElem_cons_succ, List.getElem_cons_zero, List.setIfInBounds_toArray, List.set_cons_zero, List.set_cons_succ]
    refine wpAnyH_take (i := 7) (v := ?evv7) rfl (by kernel_rfl) (by kernel_rfl) (by kernel_rfl) (fun _ _ _ h => h) (Or.inl ⟨by rfl, ?ehy7⟩) (by assumption) ?erest7
    case ehy7 =>
      intro u hSu
      obtain ⟨s0, s1, s2⟩ := box_at hSu k8; have s6 := hSu.lt
      go_simp
      try with_reducible rfl
    try simp only [Act.put, List.getElem_toArray, List.getElem_cons_succ, List.getElem_cons_zero, List.setIfInBounds_toArray, List.set_cons_zero, List.set_cons_succ]
    refine wpAnyH_ready (rs := [8]) (by kernel_rfl) (by simp) ?_
    refine AllReadyH.cons rfl (fun K hK => ?_) AllReadyH.nil
    go_simp
    refine hK.out _ _ ?ehS8 (fun hHeld => ?erest8)
    case ehS8 => exact K1
    clear hK K
    try simp only [Act.put, List.getElem_toArray, List.getElem_cons_succ, List.getElem_cons_zero, List.setIfInBounds_toArray, List.set_cons_zero, List.set_cons_succ]
    refine wpAnyH_take (i := 9) (v := ?evv9) rfl (by kernel_rfl) (by kernel_rfl) (by kernel_rfl) (fun _ _ _ h => h) (Or.inl ⟨by rfl, ?ehy9⟩) (by assumption) ?erest9
    case ehy9 =>
      intro u hSu
      obtain ⟨s0, s1, s2⟩ := box_at hSu k8; have s6 := hSu.lt
      go_simp
      try with_reducible rfl
    try simp only [Act.put, List.getElem_toArray, List.getElem_cons_succ, List.getElem_cons_zero, List.setIfInBounds_toArray, List.set_cons_zero, List.set_cons_succ]
    refine wpAnyH_done (by kernel_rfl) ?_ _
    clear hHeld K0 K1 hy z6 f0 f1 f2 c0 c1 c2 hbd hbd2 hw2
    go_wp2_with fail
    rw [putBd_eq w1 w.heap.size _ _ _ (f k) rfl rfl rfl]
    exact bodyPost_ret (v := .tuple #[.int .i64 (k : Int), bdV (f k), .int .i64 0]) (res3P Try.results16 rfl rfl rfl HR.out) rfl ⟨rfl, HBF.out⟩
end
end Go.Proofs.Ytigalcmhongleaa.GK
