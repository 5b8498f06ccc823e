/-
  The program's table at the interface; all calls at a table that is not there. Nothing here is a statement of the seed.
-/
import Derived.Test.YtigalcmhongleaaGtPG
import Derived.Test.YtigalcmhongleaaGtWForks
set_option linter.unusedSimpArgs false
set_option linter.unusedVariables false
namespace Go.Proofs.Ytigalcmhongleaa.GK
open Go.RowKit WM NR OM OR GA GF GL
set_option maxHeartbeats 4000000
set_option maxRecDepth 10000
theorem ok_open {f : Tb} {b : Bd} (h : Ok f) (hb : BdOk b) : Ok (openM f b).t := by
  unfold openM
  by_cases h1 : NM.chk b.nm ≠ 0
  · rw [if_pos h1]; exact h
  rw [if_neg h1]
  by_cases h2 : b.ow = 0 ∨ b.bs = 0
  · rw [if_pos h2]; exact h
  rw [if_neg h2]
  by_cases h3 : 0 ≤ place f b.nm ∨ ownB f b.ow = true
  · rw [if_pos h3]; exact h
  rw [if_neg h3]
  by_cases h4 : 0 ≤ firstB f
  · rw [if_pos h4]; exact h.set hb (fun e => absurd (Or.inl e) h2)
  · rw [if_neg h4]; exact h
theorem ok_turn {f : Tb} {b : Bd} (h : Ok f) (hb : BdOk b) : Ok (turnM f b).t := by
  unfold turnM
  by_cases h2 : b.ow = 0 ∨ b.bs = 0
  · rw [if_pos h2]; exact h
  rw [if_neg h2]
  by_cases h3 : place f b.nm < 0
  · rw [if_pos h3]; exact h
  rw [if_neg h3]
  by_cases h4 : ownB f b.ow = true
  · rw [if_pos h4]; exact h
  · rw [if_neg h4]; exact h.set hb (fun e => absurd (Or.inl e) h2)
theorem ok_close {f : Tb} {m : List UInt8} (h : Ok f) : Ok (closeM f m).t := by
  unfold closeM
  by_cases h3 : place f m < 0
  · rw [if_pos h3]; exact h
  · rw [if_neg h3]; exact h.set (Ok.zero.b 0 (by decide)) (fun _ => rfl)
theorem chg_of {S : Nat → Prop} {w u : World} {p : Nat} {g : Tb} (hp : S p) (hS : ∀ i, S i → i = p) (hW : Whole u p 53 (tC g)) (hF : Fr (fun i => i = p) w u) (hok : Ok g) : Chg PT S w (.pointer (some ⟨p, 0, none⟩)) g u :=
  ⟨S, ⟨p, rfl, hp, hS, hW, hok⟩, fun _ h => Or.inl h, hF.mono (fun i hi => Or.inl (hi ▸ hp))⟩
theorem gp : GP PT where
  lt := fun h => h.lt
  keep := fun h _ hk => h.keep hk
  opn := fun b ⟨p, hv, hp, hS, hW, hok⟩ hb hl => by
    subst hv
    exact (open_any hW hok b hl).mono fun e u ⟨h1, h2, h3⟩ => ⟨h1, chg_of hp hS h2 h3 (ok_open hok hb)⟩
  trn := fun b ⟨p, hv, hp, hS, hW, hok⟩ hb _ => by
    subst hv
    exact (turn_any hW hok b).mono fun e u ⟨h1, h2, h3⟩ => ⟨h1, chg_of hp hS h2 h3 (ok_turn hok hb)⟩
  cls := fun m ⟨p, hv, hp, hS, hW, hok⟩ _ => by
    subst hv
    exact (close_any hW hok m).mono fun e u ⟨h1, h2, h3⟩ => ⟨h1, chg_of hp hS h2 h3 (ok_close hok)⟩
  fnd := fun m ⟨p, hv, hp, hS, hW, hok⟩ _ => by
    subst hv
    exact find_any hW hok m
  get := fun g ⟨p, hv, hp, hS, hW, hok⟩ => by
    subst hv
    exact get_any hW g
  fre := fun ⟨p, hv, hp, hS, hW, hok⟩ => by
    subst hv
    exact free_any hW hok
  new := new_any
section
variable {w : World}
theorem open_nil (X : ByteArray) (o k : Int) : Calls Try.prog 13 #[.pointer none, .agg #[.string X, .int .u16 o, .int .u32 k]] w fun e u => e = .returned (.tuple #[.int .i64 0, .int .i64 1]) ∧ Below w.heap.size w u := by
  have HB := Lib.hid (below_new w (.cells #[.string X, .int .u16 o, .int .u32 k] 35))
  go_enter Try.func13, Try.ntmps13
  go_wp2_with fail
  exact bodyPost_ret (v := .tuple #[.int .i64 0, .int .i64 1]) (by simp [results, Try.results13, go_sem]) rfl ⟨rfl, HB.out⟩
theorem free_nil : Calls Try.prog 18 #[.pointer none] w fun e u => e = .returned (.int .i64 0) ∧ Below w.heap.size w u := by
  go_enter Try.func18, Try.ntmps18
  go_wp2_with fail
  go_ret
  exact ⟨rfl, Below.refl _ _⟩
theorem fork_nil : Calls Try.prog 12 #[.pointer none] w fun e u => e = .returned (.pointer none) ∧ Below w.heap.size w u := by
  go_enter Try.func12, Try.ntmps12
  go_wp2_with fail
  go_ret
  exact ⟨rfl, Below.refl _ _⟩
theorem get_nil (g : Int) : Calls Try.prog 17 #[.pointer none, .int .i64 g] w fun e u => e = .returned (.agg #[.string ⟨#[]⟩, .int .u16 0, .int .u32 0]) ∧ Below w.heap.size w u := by
  have b1 := below_new w (.cells zC 35)
  have HB := Lib.hid b1
  have HY := Lib.hid (Whole.new w 35 zC)
  clear b1
  go_enter Try.func17, Try.ntmps17
  go_upto_region 1 with fail
  generalize w.alloc (.cells #[.string ⟨#[]⟩, .int .u16 0, .int .u32 0] 35) = W at *
  have z6 := HY.out.lt
  have f0 := HY.out.frozen 0
  have f1 := HY.out.frozen 1
  have f2 := HY.out.frozen 2
  obtain ⟨v0, v1, v2, c0, c1, c2⟩ := box3 HY.out rfl
  have HR := Lib.hid (putBd_whole (b := b0) HY.out rfl)
  have HBR := Lib.hid (putBd_below (b := b0) HB.out (Nat.le_refl _))
  go_wp2_with fail
  rw [putBd_eq W w.heap.size ⟨#[]⟩ 0 0 b0 rfl rfl rfl]
  exact bodyPost_ret (v := bdV b0) (res1P Try.results17 rfl HR.out) rfl ⟨rfl, HBR.out⟩
theorem find_nil (X : ByteArray) : Calls Try.prog 16 #[.pointer none, .string X] w fun e u => e = .returned (.tuple #[.int .i64 0, bdV b0, .int .i64 1]) ∧ Below w.heap.size w u := by
  have b1 := below_new w (.cells zC 35)
  have HB := Lib.hid b1
  have HY := Lib.hid (Whole.new w 35 zC)
  clear b1
  go_enter Try.func16, Try.ntmps16
  go_upto_region 1 with fail
  generalize w.alloc (.cells #[.string ⟨#[]⟩, .int .u16 0, .int .u32 0] 35) = W at *
  have z6 := HY.out.lt
  have f0 := HY.out.frozen 0
  have f1 := HY.out.frozen 1
  have f2 := HY.out.frozen 2
  obtain ⟨v0, v1, v2, c0, c1, c2⟩ := box3 HY.out rfl
  have HR := Lib.hid (putBd_whole (b := b0) HY.out rfl)
  have HBR := Lib.hid (putBd_below (b := b0) HB.out (Nat.le_refl _))
  go_wp2_with fail
  rw [putBd_eq W w.heap.size ⟨#[]⟩ 0 0 b0 rfl rfl rfl]
  exact bodyPost_ret (v := .tuple #[.int .i64 0, bdV b0, .int .i64 1]) (res3P Try.results16 rfl rfl rfl HR.out) rfl ⟨rfl, HBR.out⟩
theorem turn_nil (X : ByteArray) (o k : Int) : Calls Try.prog 14 #[.pointer none, .agg #[.string X, .int .u16 o, .int .u32 k]] w fun e u => e = .returned (.tuple #[.int .i64 0, bdV b0, .int .i64 1]) ∧ Below w.heap.size w u := by
  have b1 := below_new w (.cells (nC X o k) 35)
  have HB := Lib.hid ((below_new w (.cells (nC X o k) 35)).alloc b1.size (.cells zC 35))
  have hy := Whole.new (w.alloc (.cells (nC X o k) 35)) 35 zC
  rw [show (w.alloc (.cells (nC X o k) 35)).heap.size = w.heap.size + 1 by simp] at hy
  have HY := Lib.hid hy
  clear b1 hy
  go_enter Try.func14, Try.ntmps14
  go_upto_region 1 with fail
  generalize (w.alloc (.cells #[.string X, .int .u16 o, .int .u32 k] 35)).alloc (.cells #[.string ⟨#[]⟩, .int .u16 0, .int .u32 0] 35) = W at *
  have z6 := HY.out.lt
  have f0 := HY.out.frozen 0
  have f1 := HY.out.frozen 1
  have f2 := HY.out.frozen 2
  obtain ⟨v0, v1, v2, c0, c1, c2⟩ := box3 HY.out rfl
  have HR := Lib.hid (putBd_whole (b := b0) HY.out rfl)
  have HBR := Lib.hid (putBd_below (b := b0) HB.out (show w.heap.size ≤ w.heap.size + 1 by omega))
  go_wp2_with fail
  rw [putBd_eq W (w.heap.size + 1) ⟨#[]⟩ 0 0 b0 rfl rfl rfl]
  exact bodyPost_ret (v := .tuple #[.int .i64 0, bdV b0, .int .i64 1]) (res3P Try.results14 rfl rfl rfl HR.out) rfl ⟨rfl, HBR.out⟩
theorem close_nil (X : ByteArray) : Calls Try.prog 15 #[.pointer none, .string X] w fun e u => e = .returned (.tuple #[.int .i64 0, bdV b0, .int .i64 1]) ∧ Below w.heap.size w u := by
  have b1 := below_new w (.cells zC 35)
  have HB := Lib.hid b1
  have HY := Lib.hid (Whole.new w 35 zC)
  have CF := Lib.hid (fun u => find_nil (w := u) X)
  clear b1
  obtain ⟨FB, hFB⟩ : ∃ q, q = b0 := ⟨_, rfl⟩
  rw [← hFB] at CF ⊢
  clear hFB
  go_enter Try.func15, Try.ntmps15
  go_upto_region 1 with fail
  generalize w.alloc (.cells #[.string ⟨#[]⟩, .int .u16 0, .int .u32 0] 35) = W at *
  go_upto_region 2 with (first | (go_at_call 16; (with_reducible refine (CF.out _).mono ?_); rintro e w1 ⟨rfl, hB⟩; have J1 := Lib.hid (HY.out.belowS hB); have B1 := Lib.hid (below_of HB.out hB); clear hB))
  have b9 := below_new w1 (.cells (bdC FB) 35)
  have J3 := Lib.hid (J1.out.belowS b9)
  have B3 := Lib.hid (below_of B1.out b9)
  have T9 := Lib.hid (Whole.new w1 35 (bdC FB))
  have HP9 := Lib.hid (show w.heap.size < w1.heap.size from J1.out.lt)
  clear b9 J1 B1 CF
  generalize w1.alloc (.cells #[.string (bs FB.nm), .int .u16 FB.ow, .int .u32 FB.bs] 35) = W3 at *
  generalize w1.heap.size = p9 at *
  go_upto_region 4 with fail
  have hbd : Below W3.heap.size W3 W3.drew := (Below.refl _ _).drew
  have K0 := T9.out.belowS hbd
  have hy := J3.out
  have z6 := hy.lt
  have f0 := hy.frozen 0
  have f1 := hy.frozen 1
  have f2 := hy.frozen 2
  obtain ⟨v0, v1, v2, c0, c1, c2⟩ := box3 hy rfl
  have hbd2 : Below (putBd W3 w.heap.size FB).heap.size (putBd W3 w.heap.size FB) (putBd W3 w.heap.size FB).drew := (Below.refl _ _).drew
  have K1 := (putBd_far (b := FB) T9.out (show p9 ≠ w.heap.size by have := HP9.out; omega)).belowS hbd2
  have HR := Lib.hid ((putBd_whole (b := FB) hy rfl).belowS hbd2)
  have HF := Lib.hid (putBd_below (b := FB) B3.out (Nat.le_refl _)).drew
  clear hy J3
  refine wp_region_held_drew (S := fun u => Whole u p9 35 (bdC FB)) (by kernel_rfl) K0 (fun hHeld => ?_)
  refine wpAnyH_take (i := 0) (v := ?evv0) rfl (by kernel_rfl) (by kernel_rfl) (by kernel_rfl) (fun _ _ _ h => h) (Or.inl ⟨by rfl, ?ehy0⟩) (by assumption) ?erest0
  case ehy0 =>
    intro u hSu
    obtain ⟨s0, s1, s2⟩ := bd_cells hSu; have s6 := hSu.lt
    go_simp
    try with_reducible rfl
  try simp only [Act.put, List.getElem_toArray, List.getElem_cons_succ, List.getElem_cons_zero, List.setIfInBounds_toArray, List.set_cons_zero, List.set_cons_succ]
  refine wpAnyH_take (i := 1) (v := ?evv1) rfl (by kernel_rfl) (by kernel_rfl) (by kernel_rfl) (fun _ _ _ h => h) (Or.inl ⟨by rfl, ?ehy1⟩) (by assumption) ?erest1
  case ehy1 =>
    intro u hSu
    obtain ⟨s0, s1, s2⟩ := bd_cells hSu; have s6 := hSu.lt
    go_simp
    try with_reducible rfl
  try simp only [Act.put, List.getElem_toArray, List.getElem_cons_succ, List.getElem_cons_zero, List.setIfInBounds_toArray, List.set_cons_zero, List.set_cons_succ]
  refine wpAnyH_take (i := 2) (v := ?evv2) rfl (by kernel_rfl) (by kernel_rfl) (by kernel_rfl) (fun _ _ _ h => h) (Or.inl ⟨by rfl, ?ehy2⟩) (by assumption) ?erest2
  case ehy2 =>
    intro u hSu
    obtain ⟨s0, s1, s2⟩ := bd_cells hSu; have s6 := hSu.lt
    go_simp
    try with_reducible rfl
  try simp only [Act.put, List.getElem_toArray, List.getElem_cons_succ, List.getElem_cons_zero, List.setIfInBounds_toArray, List.set_cons_zero, List.set_cons_succ]
  refine wpAnyH_take (i := 3) (v := ?evv3) rfl (by kernel_rfl) (by kernel_rfl) (by kernel_rfl) (fun _ _ _ h => h) (Or.inl ⟨by rfl, ?ehy3⟩) (by assumption) ?erest3
  case ehy3 =>
    intro u hSu
    obtain ⟨s0, s1, s2⟩ := bd_cells hSu; have s6 := hSu.lt
    go_simp
    try with_reducible rfl
  try simp only [Act.put, List.getElem_toArray, List.getElem_cons_succ, List.getElem_cons_zero, List.setIfInBounds_toArray, List.set_cons_zero, List.set_cons_succ]
  refine wpAnyH_ready (rs := [4]) (by kernel_rfl) (by simp) ?_
  refine AllReadyH.cons rfl (fun K hK => ?_) AllReadyH.nil
  go_simp
  refine hK.out _ _ ?ehS4 (fun hHeld => ?erest4)
  case ehS4 => exact K1
  clear hK K
  try simp only [Act.put, List.getElem_toArray, List.getElem_cons_succ, List.getElem_cons_zero, List.setIfInBounds_toArray, List.set_cons_zero, List.set_cons_succ]
  refine wpAnyH_take (i := 5) (v := ?evv5) rfl (by kernel_rfl) (by kernel_rfl) (by kernel_rfl) (fun _ _ _ h => h) (Or.inl ⟨by rfl, ?ehy5⟩) (by assumption) ?erest5
  case ehy5 =>
    intro u hSu
    obtain ⟨s0, s1, s2⟩ := bd_cells hSu; have s6 := hSu.lt
    go_simp
    try with_reducible rfl
  try simp only [Act.put, List.getElem_toArray, List.getElem_cons_succ, List.getElem_cons_zero, List.setIfInBounds_toArray, List.set_cons_zero, List.set_cons_succ]
  refine wpAnyH_done (by kernel_rfl) ?_ _
  clear hHeld K0 K1 z6 f0 f1 f2 c0 c1 c2 hbd hbd2
  go_wp2_with fail
  rw [putBd_eq _ w.heap.size _ _ _ FB rfl rfl rfl]
  exact bodyPost_ret (v := .tuple #[.int .i64 0, bdV FB, .int .i64 1]) (res3P Try.results15 rfl rfl rfl HR.out) rfl ⟨rfl, HF.out⟩
end
theorem gp2 : GP2 PT where
  frk := fun ⟨p, hv, hp, hS, hW, hok⟩ => by
    subst hv
    exact fork_any hW hok
  opnN := fun w => (open_nil _ _ _).mono fun e u h => ⟨0, h⟩
  trnN := fun w => (turn_nil _ _ _).mono fun e u h => ⟨0, _, _, _, h⟩
  clsN := fun w => (close_nil _).mono fun e u h => ⟨0, _, _, _, h⟩
  fndN := fun w => (find_nil _).mono fun e u h => ⟨0, _, _, _, h⟩
  getN := fun w => get_nil 0
  freN := fun w => free_nil
  frkN := fun w => fork_nil
end Go.Proofs.Ytigalcmhongleaa.GK
