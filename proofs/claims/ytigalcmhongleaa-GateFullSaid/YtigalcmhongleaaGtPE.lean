/-
  The program's Close. Nothing here is a statement of the seed.
-/
import Derived.Test.YtigalcmhongleaaGtPD
set_option linter.unusedSimpArgs false
set_option linter.unusedVariables false
namespace Go.Proofs.Ytigalcmhongleaa.GK
open Go.RowKit WM NR OM OR GA GF
set_option maxHeartbeats 4000000
set_option maxRecDepth 10000
theorem putBd_frb {S : Nat → Prop} {w u : World} {q : Nat} {b : Bd} (h : Fr S w u) (hq : w.heap.size ≤ q) : Fr S w (putBd u q b) := ((h.set (p := ⟨q, 0, none⟩) (Or.inr hq) _).set (p := ⟨q, 1, none⟩) (Or.inr hq) _).set (p := ⟨q, 2, none⟩) (Or.inr hq) _
abbrev zC : Array Value := #[.string ⟨#[]⟩, .int .u16 0, .int .u32 0]
/-- the table behind its pointer, the box of what is told, what has changed -/
structure PC (w : World) (p q : Nat) (f : Tb) (c : Array Value) (u : World) : Prop where
  X : Whole u p 53 (tC f)
  Y : Whole u q 35 c
  F : Fr (fun i => i = p) w u
theorem PC.belowS {w u u' : World} {p q : Nat} {f : Tb} {c : Array Value} (h : PC w p q f c u) (hb : Below u.heap.size u u') : PC w p q f c u' := ⟨h.X.belowS hb, h.Y.belowS hb, h.F.then hb⟩
section
variable {w : World} {f : Tb} {p : Nat}
theorem close_no {X : ByteArray} {E G : Int} {FB : Bd} (hE : (E == 0) = false) (hW : Whole w p 53 (tC f)) (CF : ∀ u, Whole u p 53 (tC f) → Calls Try.prog 16 #[.pointer (some ⟨p, 0, none⟩), .string X] u fun e u2 => e = .returned (.tuple #[.int .i64 G, bdV FB, .int .i64 E]) ∧ Below u.heap.size u u2) :
    Calls Try.prog 15 #[.pointer (some ⟨p, 0, none⟩), .string X] w fun e u => e = .returned (.tuple #[.int .i64 G, bdV FB, .int .i64 E]) ∧ Whole u p 53 (tC f) ∧ Fr (fun i => i = p) w u := by
  have b1 := below_new w (.cells zC 35)
  have J0 : Hid (PC w p w.heap.size f zC (w.alloc (.cells zC 35))) := Lib.hid ⟨hW.belowS b1, Whole.new _ _ _, (Fr.refl _ _).then b1⟩
  have hpw := hW.lt
  have CF := Lib.hid CF
  clear hW b1
  go_enter Try.func15, Try.ntmps15
  go_upto_region 1 with fail
  generalize w.alloc (.cells #[.string ⟨#[]⟩, .int .u16 0, .int .u32 0] 35) = W at *
  go_upto_region 2 with (first | (go_at_call 16; (with_reducible refine (CF.out _ J0.out.X).mono ?_); rintro e w1 ⟨rfl, hB⟩; have J1 := Lib.hid (J0.out.belowS hB); clear hB))
  have b9 := below_new w1 (.cells (bdC FB) 35)
  have J3 := Lib.hid (J1.out.belowS b9)
  have T9 := Lib.hid (Whole.new w1 35 (bdC FB))
  have HP9 := Lib.hid (show w.heap.size < w1.heap.size from J1.out.Y.lt)
  clear b9 J1 J0 CF
  generalize w1.alloc (.cells #[.string (bs FB.nm), .int .u16 FB.ow, .int .u32 FB.bs] 35) = W3 at *
  generalize w1.heap.size = p9 at *
  go_upto_region 4 with fail
  have hbd : Below W3.heap.size W3 W3.drew := (Below.refl _ _).drew
  have K0 := T9.out.belowS hbd
  have J4 := J3
  have hy := J4.out.Y
  have z6 := hy.lt
  have f0 := hy.frozen 0
  have f1 := hy.frozen 1
  have f2 := hy.frozen 2
  obtain ⟨v0, v1, v2, c0, c1, c2⟩ := box3 hy rfl
  have hbd2 : Below (putBd W3 w.heap.size FB).heap.size (putBd W3 w.heap.size FB) (putBd W3 w.heap.size FB).drew := (Below.refl _ _).drew
  have K1 := (putBd_far (b := FB) T9.out (show p9 ≠ w.heap.size by have := HP9.out; omega)).belowS hbd2
  have HR := Lib.hid ((putBd_whole (b := FB) hy rfl).belowS hbd2)
  have HX := Lib.hid ((putBd_far (b := FB) J4.out.X (show p ≠ w.heap.size by omega)).belowS hbd2)
  have HF := Lib.hid (putBd_frb (b := FB) J4.out.F (Nat.le_refl _)).drew
  clear hy J3 J4
  refine wp_region_held_drew (S := fun u => Whole u p9 35 (bdC FB)) (by kernel_rfl) K0 (fun hHeld => ?_)
  refine wpAnyH_take (i := 0) (v := ?evv0) rfl (by kernel_rfl) (by kernel_rfl) (by kernel_rfl) (fun _ _ _ h => h) (Or.inl ⟨by rfl, ?ehy0⟩) (by assumption) ?erest0
  case ehy0 =>
    intro u hSu
    obtain ⟨s0, s1, s2⟩ := bd_cells hSu; have s6 := hSu.lt
    go_simp
    try with_reducible rfl
  try simp only [Act.put, List.getElem_toArray, List.getElem_cons_succ, List.getElem_cons_zero, List.setIfInBounds_toArray, List.set_cons_zero, List.set_cons_succ]
  refine wpAnyH_take (i := 1) (v := ?evv1) rfl (by kernel_rfl) (by kernel_rfl) (by kernel_rfl) (fun _ _ _ h => h) (Or.inl ⟨by rfl, ?ehy1⟩) (by assumption) ?erest1
  case ehy1 =>
    intro u hSu
    obtain ⟨s0, s1, s2⟩ := bd_cells hSu; have s6 := hSu.lt
    go_simp
    try with_reducible rfl
  try simp only [Act.put, List.getElem_toArray, List.getElem_cons_succ, List.getElem_cons_zero, List.setIfInBounds_toArray, List.set_cons_zero, List.set_cons_succ]
  refine wpAnyH_take (i := 2) (v := ?evv2) rfl (by kernel_rfl) (by kernel_rfl) (by kernel_rfl) (fun _ _ _ h => h) (Or.inl ⟨by rfl, ?ehy2⟩) (by assumption) ?erest2
  case ehy2 =>
    intro u hSu
    obtain ⟨s0, s1, s2⟩ := bd_cells hSu; have s6 := hSu.lt
    go_simp
    try with_reducible rfl
  try simp only [Act.put, List.getElem_toArray, List.getElem_cons_succ, List.getElem_cons_zero, List.setIfInBounds_toArray, List.set_cons_zero, List.set_cons_succ]
  refine wpAnyH_take (i := 3) (v := ?evv3) rfl (by kernel_rfl) (by kernel_rfl) (by kernel_rfl) (fun _ _ _ h => h) (Or.inl ⟨by rfl, ?ehy3⟩) (by assumption) ?erest3
  case ehy3 =>
    intro u hSu
    obtain ⟨s0, s1, s2⟩ := bd_cells hSu; have s6 := hSu.lt
    go_simp
    try with_reducible rfl
  try simp only [Act.put, List.getElem_toArray, List.getElem_cons_succ, List.getElem_cons_zero, List.setIfInBounds_toArray, List.set_cons_zero, List.set_cons_succ]
  refine wpAnyH_ready (rs := [4]) (by kernel_rfl) (by simp) ?_
  refine AllReadyH.cons rfl (fun K hK => ?_) AllReadyH.nil
  go_simp
  refine hK.out _ _ ?ehS4 (fun hHeld => ?erest4)
  case ehS4 => exact K1
  clear hK K
  try simp only [Act.put, List.getElem_toArray, List.getElem_cons_succ, List.getElem_cons_zero, List.setIfInBounds_toArray, List.set_cons_zero, List.set_cons_succ]
  refine wpAnyH_take (i := 5) (v := ?evv5) rfl (by kernel_rfl) (by kernel_rfl) (by kernel_rfl) (fun _ _ _ h => h) (Or.inl ⟨by rfl, ?ehy5⟩) (by assumption) ?erest5
  case ehy5 =>
    intro u hSu
    obtain ⟨s0, s1, s2⟩ := bd_cells hSu; have s6 := hSu.lt
    go_simp
    try with_reducible rfl
  try simp only [Act.put, List.getElem_toArray, List.getElem_cons_succ, List.getElem_cons_zero, List.setIfInBounds_toArray, List.set_cons_zero, List.set_cons_succ]
  refine wpAnyH_done (by kernel_rfl) ?_ _
  clear hHeld K0 K1 z6 f0 f1 f2 c0 c1 c2 hbd hbd2
  go_wp2_with fail
  rw [putBd_eq _ w.heap.size _ _ _ FB rfl rfl rfl]
  exact bodyPost_ret (v := .tuple #[.int .i64 G, bdV FB, .int .i64 E]) (res3P Try.results15 rfl rfl rfl HR.out) rfl ⟨rfl, HX.out, HF.out⟩
theorem close_yes {X : ByteArray} {E : Int} {kk : Nat} {FB : Bd} (hkk : kk < 8) (hE : (E == 0) = true) (hW : Whole w p 53 (tC f)) (CF : ∀ u, Whole u p 53 (tC f) → Calls Try.prog 16 #[.pointer (some ⟨p, 0, none⟩), .string X] u fun e u2 => e = .returned (.tuple #[.int .i64 (kk : Int), bdV FB, .int .i64 E]) ∧ Below u.heap.size u u2) :
    Calls Try.prog 15 #[.pointer (some ⟨p, 0, none⟩), .string X] w fun e u => e = .returned (.tuple #[.int .i64 (kk : Int), bdV FB, .int .i64 E]) ∧ Whole u p 53 (tC (setT f kk b0)) ∧ Fr (fun i => i = p) w u := by
  have b1 := below_new w (.cells zC 35)
  have J0 : Hid (PC w p w.heap.size f zC (w.alloc (.cells zC 35))) := Lib.hid ⟨hW.belowS b1, Whole.new _ _ _, (Fr.refl _ _).then b1⟩
  have hpw := hW.lt
  have CF := Lib.hid CF
  clear hW b1
  go_enter Try.func15, Try.ntmps15
  go_upto_region 1 with fail
  generalize w.alloc (.cells #[.string ⟨#[]⟩, .int .u16 0, .int .u32 0] 35) = W at *
  go_upto_region 2 with (first | (go_at_call 16; (with_reducible refine (CF.out _ J0.out.X).mono ?_); rintro e w1 ⟨rfl, hB⟩; have J1 := Lib.hid (J0.out.belowS hB); clear hB))
  have b9 := below_new w1 (.cells (bdC FB) 35)
  have J3 := Lib.hid (J1.out.belowS b9)
  have T9 := Lib.hid (Whole.new w1 35 (bdC FB))
  have HP9 := Lib.hid (show w.heap.size < w1.heap.size from J1.out.Y.lt)
  clear b9 J1 J0 CF
  generalize w1.alloc (.cells #[.string (bs FB.nm), .int .u16 FB.ow, .int .u32 FB.bs] 35) = W3 at *
  generalize w1.heap.size = p9 at *
  have kk8 : (kk : Int) < 8 := by omega
  obtain ⟨y0, y1, y2⟩ := box_at J3.out.X hkk
  have x6 := J3.out.X.lt
  have xf0 := J3.out.X.frozen (kk * 3)
  have xf1 := J3.out.X.frozen (kk * 3 + 1)
  have xf2 := J3.out.X.frozen (kk * 3 + 2)
  have far : ∀ q (t : TypeId) (cs : Array Value), p ≠ q → Whole W3 q t cs → Whole (((W3.setCell ⟨p, kk * 3, none⟩ (.string ⟨#[]⟩)).setCell ⟨p, kk * 3 + 1, none⟩ (.int .u16 0)).setCell ⟨p, kk * 3 + 2, none⟩ (.int .u32 0)) q t cs := fun q t cs hq hw => ((hw.far (p := ⟨p, kk * 3, none⟩) (Ne.symm hq) _).far (p := ⟨p, kk * 3 + 1, none⟩) (Ne.symm hq) _).far (p := ⟨p, kk * 3 + 2, none⟩) (Ne.symm hq) _
  have HX4 : Hid (Whole (((W3.setCell ⟨p, kk * 3, none⟩ (.string ⟨#[]⟩)).setCell ⟨p, kk * 3 + 1, none⟩ (.int .u16 0)).setCell ⟨p, kk * 3 + 2, none⟩ (.int .u32 0)) p 53 (tC (setT f kk b0))) := Lib.hid (box_set J3.out.X hkk b0)
  have HT4 := Lib.hid (far _ _ _ (show p ≠ p9 by have := HP9.out; omega) T9.out)
  have HY4 := Lib.hid (far _ _ _ (show p ≠ w.heap.size by omega) J3.out.Y)
  have HF4 := Lib.hid (((J3.out.F.set (p := ⟨p, kk * 3, none⟩) (Or.inl rfl) (.string ⟨#[]⟩)).set (p := ⟨p, kk * 3 + 1, none⟩) (Or.inl rfl) (.int .u16 0)).set (p := ⟨p, kk * 3 + 2, none⟩) (Or.inl rfl) (.int .u32 0))
  clear far T9 J3
  go_upto_region 4 with fail
  clear y0 y1 y2 x6 xf0 xf1 xf2
  generalize ((W3.setCell ⟨p, kk * 3, none⟩ (.string ⟨#[]⟩)).setCell ⟨p, kk * 3 + 1, none⟩ (.int .u16 0)).setCell ⟨p, kk * 3 + 2, none⟩ (.int .u32 0) = W4 at *
  have hbd : Below W4.heap.size W4 W4.drew := (Below.refl _ _).drew
  have K0 := HT4.out.belowS hbd
  have J4 : Hid (PC w p w.heap.size (setT f kk b0) zC W4) := Lib.hid ⟨HX4.out, HY4.out, HF4.out⟩
  have hy := J4.out.Y
  have z6 := hy.lt
  have f0 := hy.frozen 0
  have f1 := hy.frozen 1
  have f2 := hy.frozen 2
  obtain ⟨v0, v1, v2, c0, c1, c2⟩ := box3 hy rfl
  have hbd2 : Below (putBd W4 w.heap.size FB).heap.size (putBd W4 w.heap.size FB) (putBd W4 w.heap.size FB).drew := (Below.refl _ _).drew
  have K1 := (putBd_far (b := FB) HT4.out (show p9 ≠ w.heap.size by have := HP9.out; omega)).belowS hbd2
  have HR := Lib.hid ((putBd_whole (b := FB) hy rfl).belowS hbd2)
  have HX := Lib.hid ((putBd_far (b := FB) J4.out.X (show p ≠ w.heap.size by omega)).belowS hbd2)
  have HF := Lib.hid (putBd_frb (b := FB) J4.out.F (Nat.le_refl _)).drew
  clear hy J4 HX4 HT4 HY4 HF4
  refine wp_region_held_drew (S := fun u => Whole u p9 35 (bdC FB)) (by kernel_rfl) K0 (fun hHeld => ?_)
  refine wpAnyH_take (i := 0) (v := ?evv0) rfl (by kernel_rfl) (by kernel_rfl) (by kernel_rfl) (fun _ _ _ h => h) (Or.inl ⟨by rfl, ?ehy0⟩) (by assumption) ?erest0
  case ehy0 =>
    intro u hSu
    obtain ⟨s0, s1, s2⟩ := bd_cells hSu; have s6 := hSu.lt
    go_simp
    try with_reducible rfl
  try simp only [Act.put, List.getElem_toArray, List.getElem_cons_succ, List.getElem_cons_zero, List.setIfInBounds_toArray, List.set_cons_zero, List.set_cons_succ]
  refine wpAnyH_take (i := 1) (v := ?evv1) rfl (by kernel_rfl) (by kernel_rfl) (by kernel_rfl) (fun _ _ _ h => h) (Or.inl ⟨by rfl, ?ehy1⟩) (by assumption) ?erest1
  case ehy1 =>
    intro u hSu
    obtain ⟨s0, s1, s2⟩ := bd_cells hSu; have s6 := hSu.lt
    go_simp
    try with_reducible rfl
  try simp only [Act.put, List.getElem_toArray, List.getElem_cons_succ, List.getElem_cons_zero, List.setIfInBounds_toArray, List.set_cons_zero, List.set_cons_succ]
  refine wpAnyH_take (i := 2) (v := ?evv2) rfl (by kernel_rfl) (by kernel_rfl) (by kernel_rfl) (fun _ _ _ h => h) (Or.inl ⟨by rfl, ?ehy2⟩) (by assumption) ?erest2
  case ehy2 =>
    intro u hSu
    obtain ⟨s0, s1, s2⟩ := bd_cells hSu; have s6 := hSu.lt
    go_simp
    try with_reducible rfl
  try simp only [Act.put, List.getElem_toArray, List.getElem_cons_succ, List.getElem_cons_zero, List.setIfInBounds_toArray, List.set_cons_zero, List.set_cons_succ]
  refine wpAnyH_take (i := 3) (v := ?evv3) rfl (by kernel_rfl) (by kernel_rfl) (by kernel_rfl) (fun _ _ _ h => h) (Or.inl ⟨by rfl, ?ehy3⟩) (by assumption) ?erest3
  case ehy3 =>
    intro u hSu
    obtain ⟨s0, s1, s2⟩ := bd_cells hSu; have s6 := hSu.lt
    go_simp
    try with_reducible rfl
  try simp only [Act.put, List.getElem_toArray, List.getElem_cons_succ, List.getElem_cons_zero, List.setIfInBounds_toArray, List.set_cons_zero, List.set_cons_succ]
  refine wpAnyH_ready (rs := [4]) (by kernel_rfl) (by simp) ?_
  refine AllReadyH.cons rfl (fun K hK => ?_) AllReadyH.nil
  go_simp
  refine hK.out _ _ ?ehS4 (fun hHeld => ?erest4)
  case ehS4 => exact K1
  clear hK K
  try simp only [Act.put, List.getElem_toArray, List.getElem_cons_succ, List.getElem_cons_zero, List.setIfInBounds_toArray, List.set_cons_zero, List.set_cons_succ]
  refine wpAnyH_take (i := 5) (v := ?evv5) rfl (by kernel_rfl) (by kernel_rfl) (by kernel_rfl) (fun _ _ _ h => h) (Or.inl ⟨by rfl, ?ehy5⟩) (by assumption) ?erest5
  case ehy5 =>
    intro u hSu
    obtain ⟨s0, s1, s2⟩ := bd_cells hSu; have s6 := hSu.lt
    go_simp
    try with_reducible rfl
  try simp only [Act.put, List.getElem_toArray, List.getElem_cons_succ, List.getElem_cons_zero, List.setIfInBounds_toArray, List.set_cons_zero, List.set_cons_succ]
  refine wpAnyH_done (by kernel_rfl) ?_ _
  clear hHeld K0 K1 z6 f0 f1 f2 c0 c1 c2 hbd hbd2
  go_wp2_with fail
  rw [putBd_eq _ w.heap.size _ _ _ FB rfl rfl rfl]
  exact bodyPost_ret (v := .tuple #[.int .i64 (kk : Int), bdV FB, .int .i64 E]) (res3P Try.results15 rfl rfl rfl HR.out) rfl ⟨rfl, HX.out, HF.out⟩
theorem close_any (hW : Whole w p 53 (tC f)) (hok : Ok f) (m : List UInt8) : Calls Try.prog 15 #[.pointer (some ⟨p, 0, none⟩), .string (bs m)] w fun e u => e = .returned (.tuple #[.int .i64 (closeM f m).g, bdV (closeM f m).b, .int .i64 (closeM f m).e]) ∧ Whole u p 53 (tC (closeM f m).t) ∧ Fr (fun i => i = p) w u := by
  have CF := fun u (h : Whole u p 53 (tC f)) => find_any h hok m
  rcases fst8_cases (hasB f m) with ⟨hp, -⟩ | ⟨kk, hkk, hp, -, -⟩
  · have hpl : place f m = -1 := hp
    rw [show findM f m = ⟨f, 0, b0, 8⟩ by simp only [findM, hpl]; rfl] at CF
    rw [show closeM f m = ⟨f, 0, b0, 8⟩ by simp only [closeM, hpl]; rfl]
    exact close_no rfl hW CF
  · have hpl : place f m = (kk : Int) := hp
    have hn : ¬ ((kk : Int) < 0) := by omega
    rw [show findM f m = ⟨f, (kk : Int), f kk, 0⟩ by simp only [findM, hpl, if_neg hn, Int.toNat_natCast]] at CF
    rw [show closeM f m = ⟨setT f kk b0, (kk : Int), f kk, 0⟩ by simp only [closeM, hpl, if_neg hn, Int.toNat_natCast]]
    exact close_yes hkk rfl hW CF
end
end Go.Proofs.Ytigalcmhongleaa.GK
