/-
  What is wrong with a module, as the program tells it. Nothing here is a statement of the seed.
-/
import Derived.Test.YtajidaicojekdaaValWhe
set_option linter.unusedSimpArgs false
set_option linter.unusedVariables false
namespace Go.Proofs.Ytajidaicojekdaa.VR
open Go.RowKit WM NR OM OR VM
set_option maxHeartbeats 4000000
set_option maxRecDepth 10000
theorem ite_step {c d : Prop} [Decidable c] [Decidable d] {x y r s : Int × Int} (h : c ↔ d) (hx : c → x = y) (hr : r = s) : (if c then x else r) = (if d then y else s) := by
  by_cases hc : c
  · rw [if_pos hc, if_pos (h.1 hc), hx hc]
  · rw [if_neg hc, if_neg (fun hd => hc (h.2 hd)), hr]
theorem nameF_bd (m : Md) : -1 ≤ nameF m := by
  unfold nameF
  have := ff_bd (badN m.exps) m.exps.length
  have := ff_bd (badN m.imps) m.imps.length
  split
  · omega
  · split
    · omega
    · split <;> omega
theorem twiceF_bd (m : Md) : -1 ≤ twiceF m := by
  unfold twiceF
  have := ff_bd (dupB m.exps) m.exps.length
  have := ff_bd (dupB m.imps) m.imps.length
  split
  · omega
  · split <;> omega
theorem vld_wv (m : Md) : vld m = if wv m 1 ≠ -1 then (1, wv m 1) else if wv m 2 ≠ -1 then (2, wv m 2) else if wv m 3 ≠ -1 then (3, wv m 3) else if wv m 4 ≠ -1 then (4, wv m 4) else if wv m 5 ≠ -1 then (5, wv m 5) else if wv m 6 ≠ -1 then (6, wv m 6) else if wv m 7 ≠ -1 then (7, wv m 7) else if wv m 8 ≠ -1 then (8, wv m 8) else if wv m 9 ≠ -1 then (9, wv m 9) else (0, 0) := by
  have n1 := nameF_bd m
  have n2 := twiceF_bd m
  have n5 := ff_bd (wordB m) m.code.length
  have n6 := ff_bd (placeB m) m.rels.length
  have n7 := ff_bd (kindB m) m.rels.length
  have n8 := ff_bd (whichB m) m.rels.length
  have n9 := ff_bd (looseB m) m.code.length
  unfold vld
  refine ite_step ?_ ?_ (ite_step ?_ ?_ (ite_step ?_ ?_ (ite_step ?_ ?_ (ite_step ?_ ?_ (ite_step ?_ ?_ (ite_step ?_ ?_ (ite_step ?_ ?_ (ite_step ?_ ?_ rfl))))))))
  · show _ ↔ (if chkM m ≠ 0 then (0 : Int) else -1) ≠ -1
    split <;> omega
  · intro hh
    show _ = ((1 : Int), (if chkM m ≠ 0 then (0 : Int) else -1))
    rw [if_pos hh]
  · show _ ↔ nameF m ≠ -1
    omega
  · intro _; rfl
  · show _ ↔ twiceF m ≠ -1
    omega
  · intro _; rfl
  · show _ ↔ (if m.code.length = 0 ∨ m.code.length < m.exps.length then (0 : Int) else -1) ≠ -1
    split <;> omega
  · intro hh
    show _ = ((4 : Int), (if m.code.length = 0 ∨ m.code.length < m.exps.length then (0 : Int) else -1))
    rw [if_pos hh]
  · show _ ↔ ff (wordB m) m.code.length ≠ -1
    omega
  · intro _; rfl
  · show _ ↔ ff (placeB m) m.rels.length ≠ -1
    omega
  · intro _; rfl
  · show _ ↔ ff (kindB m) m.rels.length ≠ -1
    omega
  · intro _; rfl
  · show _ ↔ ff (whichB m) m.rels.length ≠ -1
    omega
  · intro _; rfl
  · show _ ↔ ff (looseB m) m.code.length ≠ -1
    omega
  · intro _; rfl
theorem vld_hit {m : Md} {f : Nat} (h1 : 1 ≤ f) (h9 : f ≤ 9) (hp : ∀ g, 1 ≤ g → g < f → wv m g = -1) (hf : wv m f ≠ -1) : vld m = ((f : Int), wv m f) := by
  rw [vld_wv]
  rcases (show f = 1 ∨ f = 2 ∨ f = 3 ∨ f = 4 ∨ f = 5 ∨ f = 6 ∨ f = 7 ∨ f = 8 ∨ f = 9 by omega) with rfl | rfl | rfl | rfl | rfl | rfl | rfl | rfl | rfl
  all_goals
    have p1 := hp 1
    have p2 := hp 2
    have p3 := hp 3
    have p4 := hp 4
    have p5 := hp 5
    have p6 := hp 6
    have p7 := hp 7
    have p8 := hp 8
    simp at p1 p2 p3 p4 p5 p6 p7 p8
    simp [*]
theorem vld_none {m : Md} (hp : ∀ g, 1 ≤ g → g < 10 → wv m g = -1) : vld m = (0, 0) := by
  rw [vld_wv]
  simp [hp 1, hp 2, hp 3, hp 4, hp 5, hp 6, hp 7, hp 8, hp 9]
section
variable {w : World} {ea : Option Addr} {en ec : Nat} {ia : Option Addr} {im ic : Nat} {ca : Option Addr} {cn cc : Nat} {da : Option Addr} {dn dc : Nat} {ra : Option Addr} {rn rc : Nat} {m : Md}
theorem where_any (h : RdM (· < w.heap.size) w ea en ec ia im ic ca cn cc da dn dc ra rn rc m) (hf : FineM m) {f : Nat} (h1 : 1 ≤ f) (h9 : f ≤ 9) (hp : ∀ g, 1 ≤ g → g < f → wv m g = -1) :
    Calls Try.prog 84 #[.int .u8 (f : Int), mV (bs m.name) ea en ec ia im ic ca cn cc da dn dc ra rn rc] w fun e w' => e = .returned (.int .i64 (wv m f)) ∧ Below w.heap.size w w' := by
  have hc : f ≠ 1 → chkM m = 0 := fun hne => by
    have : (if chkM m ≠ 0 then (0 : Int) else -1) = -1 := hp 1 (Nat.le_refl _) (by omega)
    by_cases e : chkM m = 0
    · exact e
    · rw [if_pos e] at this
      omega
  rcases (show f = 1 ∨ f = 2 ∨ f = 3 ∨ f = 4 ∨ f = 5 ∨ f = 6 ∨ f = 7 ∨ f = 8 ∨ f = 9 by omega) with rfl | rfl | rfl | rfl | rfl | rfl | rfl | rfl | rfl
  · exact where_1 h
  · exact where_2 h (hc (by omega))
  · exact where_3 h (hc (by omega))
  · exact where_4 h
  · exact where_5 h hf
  · exact where_6 h (hc (by omega)) hf
  · exact where_7 h (hc (by omega)) hf (hp 6 (by omega) (by omega))
  · exact where_8 h hf
  · exact where_9 h (hc (by omega)) hf
theorem module_any (h : RdM (· < w.heap.size) w ea en ec ia im ic ca cn cc da dn dc ra rn rc m) (hf : FineM m) :
    Calls Try.prog 55 #[mV (bs m.name) ea en ec ia im ic ca cn cc da dn dc ra rn rc] w fun e w' => e = .returned (.tuple #[.int .u8 (vld m).1, .int .i64 (vld m).2]) ∧ Below w.heap.size w w' := by
  have b0 := below_new w (.cells (mCs (bs m.name) ea en ec ia im ic ca cn cc da dn dc ra rn rc) 45)
  have HB := Lib.hid b0
  have HX := Lib.hid (Whole.new w 45 (mCs (bs m.name) ea en ec ia im ic ca cn cc da dn dc ra rn rc))
  have CW := Lib.hid (fun (k : Nat) (h1 : 1 ≤ k) (h9 : k ≤ 9) (hp : ∀ g, 1 ≤ g → g < k → wv m g = -1) (u : World) (hu : Below w.heap.size w u) => where_any (h.go hu hu.size) hf h1 h9 hp)
  have HV := Lib.hid (fun (k : Nat) (h1 : 1 ≤ k) (h9 : k ≤ 9) (hp : ∀ g, 1 ≤ g → g < k → wv m g = -1) (hk : wv m k ≠ -1) => vld_hit h1 h9 hp hk)
  have HN := Lib.hid (fun (hp : ∀ g, 1 ≤ g → g < 10 → wv m g = -1) => vld_none hp)
  clear h b0 hf
  generalize vld m = V at *
  obtain ⟨V1, V2⟩ := V
  generalize wv m = v at *
  generalize bs m.name = x at *
  go_enter Try.func55, Try.ntmps55
  go_wp2_with fail
  generalize w.alloc (.cells (mCs x ea en ec ia im ic ca cn cc da dn dc ra rn rc) 45) = W at *
  go_loopw [4] (fun i wr => ∃ k : Nat, 1 ≤ k ∧ k ≤ 10 ∧ i = .int .u8 (k : Int) ∧ Hid (∀ g, 1 ≤ g → g < k → v g = -1) ∧ Below W.heap.size W wr) (fun i _ => 10 - (intOf i).toNat)
  case atStart => exact ⟨1, by omega, by omega, rfl, Lib.hid (fun g h1 h2 => by omega), Below.refl _ _⟩
  case round =>
    obtain ⟨k, hk1, hk, rfl, hp, hbl⟩ := hrel
    obtain ⟨c0, c1, c2, c3, c4, c5⟩ := mod_cells (HX.out.belowS hbl)
    have hbw := Lib.hid (HB.out.trans (hbl.mono HB.out.size))
    have hlt0 := (HX.out.belowS hbl).lt
    by_cases hlt : k ≤ 9
    · have hlt' : (k : Int) ≤ 9 := by omega
      have C := Lib.hid (CW.out k hk1 hlt hp.out wr hbw.out)
      by_cases hv : v k = -1
      · rw [hv] at C
        have hp2 := Lib.hid (fun g (h1 : 1 ≤ g) (h2 : g < k + 1) => if h : g < k then hp.out g h1 h else by rw [show g = k by omega]; exact hv)
        have hwr : IntKind.u8.wrap ((k : Int) + 1) = ((k + 1 : Nat) : Int) := by rw [show IntKind.u8.wrap ((k : Int) + 1) = ((k : Int) + 1) % 256 from rfl]; omega
        clear hv hp
        go_wp2_with (go_at_call 84; (with_reducible refine C.out.mono ?_); rintro e w1 ⟨rfl, hb1⟩)
        go_roundw
        case rel => exact ⟨k + 1, by omega, by omega, by first | rfl | go_num | simp [hwr], hp2, below_of hbl hb1⟩
        case measure => simp [intOf]; omega
      · have hh := Lib.hid (HV.out k hk1 hlt hp.out hv)
        generalize v k = y at *
        clear hp
        go_wp2_with (go_at_call 84; (with_reducible refine C.out.mono ?_); rintro e w1 ⟨rfl, hb1⟩)
        obtain ⟨e1, e2⟩ := Prod.mk.inj hh.out
        exact bodyPost_ret (v := .tuple #[.int .u8 V1, .int .i64 V2]) (by simp [results, Try.results55, go_sem, e1, e2]) rfl ⟨rfl, HB.out.trans ((below_of hbl hb1).mono HB.out.size)⟩
    · obtain rfl : k = 10 := by omega
      obtain ⟨e1, e2⟩ := Prod.mk.inj (HN.out hp.out)
      subst e1 e2
      go_wp2_with fail
      exact bodyPost_ret (v := .tuple #[.int .u8 0, .int .i64 0]) (by simp [results, Try.results55, go_sem]) rfl ⟨rfl, HB.out.trans (hbl.mono HB.out.size)⟩
/-- what Check tells -/
def chkV (m : Md) : Int := if (vld m).1 = 0 then 0 else 20
theorem vcheck_any (h : RdM (· < w.heap.size) w ea en ec ia im ic ca cn cc da dn dc ra rn rc m) (hf : FineM m) :
    Calls Try.prog 23 #[mV (bs m.name) ea en ec ia im ic ca cn cc da dn dc ra rn rc] w fun e w' => e = .returned (.int .i64 (chkV m)) ∧ Below w.heap.size w w' := by
  have b0 := below_new w (.cells (mCs (bs m.name) ea en ec ia im ic ca cn cc da dn dc ra rn rc) 45)
  have HB := Lib.hid b0
  have HX := Lib.hid (Whole.new w 45 (mCs (bs m.name) ea en ec ia im ic ca cn cc da dn dc ra rn rc))
  have C := Lib.hid (module_any (h.go b0 b0.size) hf)
  clear h b0 hf
  unfold chkV
  generalize (vld m).1 = p at *
  generalize (vld m).2 = q at *
  generalize bs m.name = x at *
  by_cases hp : p = 0
  · subst hp
    go_enter Try.func23, Try.ntmps23
    obtain ⟨c0, c1, c2, c3, c4, c5⟩ := mod_cells HX.out
    go_wp2_with (go_at_call 55; (with_reducible refine C.out.mono ?_); rintro e w1 ⟨rfl, hb1⟩)
    go_ret
    exact ⟨rfl, HB.out.trans (hb1.mono HB.out.size)⟩
  · rw [if_neg hp]
    go_enter Try.func23, Try.ntmps23
    obtain ⟨c0, c1, c2, c3, c4, c5⟩ := mod_cells HX.out
    go_wp2_with (go_at_call 55; (with_reducible refine C.out.mono ?_); rintro e w1 ⟨rfl, hb1⟩)
    go_ret
    exact ⟨rfl, HB.out.trans (hb1.mono HB.out.size)⟩
end
end Go.Proofs.Ytajidaicojekdaa.VR
