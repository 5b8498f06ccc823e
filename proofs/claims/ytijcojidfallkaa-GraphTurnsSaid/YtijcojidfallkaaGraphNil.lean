/-
  The program's functions at a graph that is not there. Nothing here is a statement of the seed.
-/
import Derived.Test.YtijcojidfallkaaGraphPO
import Derived.Test.YtijcojidfallkaaGraphPI
import Derived.Laws.EntriesVeiled
set_option linter.unusedSimpArgs false
set_option linter.unusedVariables false
namespace Go.Proofs.Ytijcojidfallkaa.GP
open Go.RowKit WM NR OM OR GM GR MV GF
set_option maxHeartbeats 4000000
set_option maxRecDepth 10000
theorem look_none (u : World) (x : ByteArray) : (Instr.lookup 50 (.map none) (.string x) true).run Try.prog u = .ok (.tuple #[.map none, .bool false]) u := by kernel_rfl
theorem look_none1 (u : World) (x : ByteArray) : (Instr.lookup 50 (.map none) (.string x) false).run Try.prog u = .ok (.map none) u := by kernel_rfl
theorem all_nil (w : World) : Calls Try.prog 41 #[.pointer none] w fun e u => e = .returned (.map none) ∧ u = w := by
  go_enter Try.func41, Try.ntmps41
  go_wp2_with fail
  go_ret
  exact ⟨rfl, rfl⟩
theorem add_nil (w : World) (y : ByteArray) (v : Value) : Calls Try.prog 14 #[.pointer none, .string y, v] w fun e u => e = .returned (.int .i64 1) ∧ Below w.heap.size w u := by
  go_enter Try.func14, Try.ntmps14
  go_wp2_with fail
  go_ret
  exact ⟨rfl, Below.refl _ _⟩
theorem turn_nil (w : World) (y : ByteArray) (v : Value) : Calls Try.prog 16 #[.pointer none, .string y, v] w fun e u => e = .returned (.int .i64 1) ∧ Below w.heap.size w u := by
  go_enter Try.func16, Try.ntmps16
  go_wp2_with fail
  go_ret
  exact ⟨rfl, Below.refl _ _⟩
theorem remove_nil (w : World) (y : ByteArray) : Calls Try.prog 15 #[.pointer none, .string y] w fun e u => e = .returned (.int .i64 1) ∧ Below w.heap.size w u := by
  go_enter Try.func15, Try.ntmps15
  go_wp2_with fail
  go_ret
  exact ⟨rfl, Below.refl _ _⟩
theorem lacks_nil (w : World) (y : ByteArray) : Calls Try.prog 35 #[.pointer none, .string y] w fun e u => e = .returned (.bool true) ∧ Below w.heap.size w u := by
  have hl := fun u => look_none u y
  have C := Lib.hid (all_nil w)
  go_enter Try.func35, Try.ntmps35
  go_wp2_with (go_at_call 41; (with_reducible refine C.out.mono ?_); rintro e w1 ⟨rfl, rfl⟩)
  go_ret
  exact ⟨rfl, Below.refl _ _⟩
theorem has_nil (w : World) (y : ByteArray) : Calls Try.prog 17 #[.pointer none, .string y] w fun e u => e = .returned (.bool false) ∧ Below w.heap.size w u := by
  have C := Lib.hid (lacks_nil w y)
  go_enter Try.func17, Try.ntmps17
  go_wp2_with (go_at_call 35; (with_reducible refine C.out.mono ?_); rintro e w1 ⟨rfl, hb⟩)
  go_ret
  exact ⟨rfl, hb⟩
theorem deps_nil (w : World) (y : ByteArray) : Calls Try.prog 18 #[.pointer none, .string y] w (IsL w []) := by
  have hl := fun u => look_none1 u y
  have C1 := Lib.hid (all_nil w)
  have C2 := Lib.hid (Try.keys_any none w)
  have C3 := Lib.hid ((Try.sorted_nil w).mono (R' := IsL w []) (by
    rintro e u ⟨v, ss, rfl, rfl, ho, _, hb1⟩
    have ho' : u.ownsRow (w.heap.size + 1) 9 1 v 0 (strs []) := by simpa [strs] using ho
    exact isL_own (n := 0) ho' rfl (below_of ((Below.refl _ _).alloc (Nat.le_refl _) _) hb1)))
  go_enter Try.func18, Try.ntmps18
  go_wp2_with (first
    | (go_at_call 41; (with_reducible refine C1.out.mono ?_); rintro e w1 ⟨rfl, rfl⟩)
    | (go_at_call 40; (with_reducible refine C2.out.mono ?_); rintro e w2 ⟨rfl, rfl⟩)
    | (go_at_call 39; (with_reducible refine C3.out.mono ?_); rintro e w3 ⟨sa, sc, rfl, hR, hB⟩; have HR := Lib.hid hR; clear hR))
  go_ret
  exact ⟨sa, sc, rfl, HR.out, hB⟩
theorem dpt_nil' (w : World) (y : ByteArray) : Calls Try.prog 19 #[.pointer none, .string y] w (IsL w []) := by
  have C1 := Lib.hid (all_nil w)
  have hr := fun u => run_range_nilMap (P := Try.prog) u 50 _ _ Try.underlying50
  have hn := fun u => run_next_nilMap (P := Try.prog) u
  have C2 := Lib.hid (fun u => Try.slices_Sort_string_none none 0 u)
  go_enter Try.func19, Try.ntmps19
  go_wp2_with (go_at_call 41; (with_reducible refine C1.out.mono ?_); rintro e w1 ⟨rfl, rfl⟩)
  go_loopw [5] (fun v5 wr => v5 = .slice none 0 0 ∧ wr = w1.alloc (.mapIter none 0 #[] 0)) (fun _ _ => 0)
  case atStart => exact ⟨rfl, rfl⟩
  case round =>
    obtain ⟨rfl, rfl⟩ := hrel
    go_wp2_with (go_at_call 42; (with_reducible refine (C2.out _).mono ?_); rintro e w2 ⟨rfl, rfl⟩)
    go_ret
    exact ⟨none, 0, rfl, Reads.nil _ _, (Below.refl _ _).alloc (Nat.le_refl _) _⟩
theorem order_nil (w : World) : Calls Try.prog 21 #[.pointer none] w (IsL w []) := by
  have hmm := @run_makeMap Try.prog
  have hr := fun u => run_range_nilMap (P := Try.prog) u 50 _ _ Try.underlying50
  have hn := fun u => run_next_nilMap (P := Try.prog) u
  go_enter Try.func21, Try.ntmps21
  go_upto_region 4 with fail
  have hx := Whole.new ((w.alloc (.map #[] 0)).alloc (.map #[] 0)) 71 #[.slice none 0 0]
  have e3 : ((w.alloc (.map #[] 0)).alloc (.map #[] 0)).heap.size = w.heap.size + 1 + 1 := by simp
  rw [e3] at hx
  have hb : Below w.heap.size w (((w.alloc (.map #[] 0)).alloc (.map #[] 0)).alloc (.cells #[.slice none 0 0] 71)) := (((Below.refl _ _).alloc (Nat.le_refl _) _).alloc (by simp) _).alloc (by simp; omega) _
  generalize ((w.alloc (.map #[] 0)).alloc (.map #[] 0)).alloc (.cells #[.slice none 0 0] 71) = W0 at *
  clear e3
  have C1 := Lib.hid (all_nil W0)
  have hx1 := hx.alloc (.mapIter none 0 #[] 0)
  have c0 := hx1.cell 0
  have HB := Lib.hid (hb.alloc hb.size (.mapIter none 0 #[] 0))
  clear hx hx1 hb
  go_wp2_with (go_at_call 41; (with_reducible refine C1.out.mono ?_); rintro e w1 ⟨rfl, rfl⟩)
  go_loopw [6] (fun _ wr => wr = w1.alloc (.mapIter none 0 #[] 0)) (fun _ _ => 0)
  case atStart => exact rfl
  case round =>
    obtain rfl := hrel
    go_wp2_with fail
    go_loopw [9] (fun v9 wr => v9 = .slice none 0 0 ∧ wr = w1.alloc (.mapIter none 0 #[] 0)) (fun _ _ => 0)
    case atStart => exact ⟨rfl, rfl⟩
    case round =>
      obtain ⟨rfl, rfl⟩ := hrel
      go_wp2_with fail
      go_ret
      exact ⟨none, 0, rfl, Reads.nil _ _, HB.out⟩
theorem fork_nil (w : World) : Calls Try.prog 13 #[.pointer none] w fun e u => e = .returned (.pointer none) ∧ Below w.heap.size w u := by
  go_enter Try.func13, Try.ntmps13
  go_wp2_with fail
  go_ret
  exact ⟨rfl, Below.refl _ _⟩
theorem reached_nil {w : World} {na : Option Addr} {nc : Nat} (hx : Reads (· < w.heap.size) w (.slice na 0 nc) (strs [])) : Calls Try.prog 38 #[.pointer none, .slice na 0 nc] w fun e u => ∃ m, e = .returned (.map (some m)) ∧ ME u m (memF []) ∧ Below w.heap.size w u := by
  have hmm := @run_makeMap Try.prog
  have CC := Lib.hid (fun (u : World) (hu : Below w.heap.size w u) => sclone_any (hx.keep (w' := u) fun g hg _ => hu.block g hg) (by decide))
  have hn0 : ∀ u : World, (zeroValue 86).run Try.prog u = .ok .nilFunc u := fun u => by kernel_rfl
  clear hx
  go_enter Try.func38, Try.ntmps38
  go_upto_region 2 with fail
  have x1 : ME ((w.alloc (.cells #[.pointer none] 25)).alloc (.map #[] 0)) (w.heap.size + 1) (memF []) := by
    have := (MapV.made (P := Try.prog) (K := 9) (ok := any) (w.alloc (.cells #[.pointer none] 25))).as (g := memF []) (fun s _ => rfl)
    simpa using this
  have x2 := Whole.new ((w.alloc (.cells #[.pointer none] 25)).alloc (.map #[] 0)) 57 #[.map (some (w.heap.size + 1))]
  have hb2 : Below w.heap.size w (((w.alloc (.cells #[.pointer none] 25)).alloc (.map #[] 0)).alloc (.cells #[.map (some (w.heap.size + 1))] 57)) := (((Below.refl _ w).alloc (Nat.le_refl _) _).alloc (by simp) _).alloc (by simp; omega) _
  have HM0 := Lib.hid (x1.belowS ((Below.refl _ _).alloc (Nat.le_refl _) (.cells #[.map (some (w.heap.size + 1))] 57)))
  simp only [World.size_alloc] at x2
  have HX2 := Lib.hid x2
  have HB2 := Lib.hid hb2
  clear x1 x2 hb2
  generalize ((w.alloc (.cells #[.pointer none] 25)).alloc (.map #[] 0)).alloc (.cells #[.map (some (w.heap.size + 1))] 57) = W2 at *
  go_upto_region 3 with (go_at_call 54; (with_reducible refine (CC.out _ HB2.out).mono ?_); rintro e w3 ⟨v', rfl, ho3, hb3⟩; obtain ⟨qa, qc, hv⟩ := own_form' ho3; subst hv; have HB3 := Lib.hid hb3; clear ho3 hb3)
  have HX3 := Lib.hid ((HX2.out.belowS HB3.out).alloc (.cells #[.slice qa 0 qc] 32))
  have HY3 := Lib.hid (Whole.new w3 32 #[.slice qa 0 qc])
  have hal := (Below.refl w3.heap.size w3).alloc (Nat.le_refl _) (.cells #[.slice qa 0 qc] 32)
  have HM3 := Lib.hid ((HM0.out.belowS HB3.out).belowS hal)
  have HB4 := Lib.hid (below_of (HB2.out.trans (HB3.out.mono HB2.out.size)) hal)
  clear hal
  change Code.wp _ _ _ _ (w3.alloc (.cells #[.slice qa 0 qc] 32))
  generalize w3.alloc (.cells #[.slice qa 0 qc] 32) = W3 at *
  go_upto_region 5 with fail
  have hb4 := (Below.refl W3.heap.size W3).alloc (Nat.le_refl _) (.cells #[fv (w.heap.size + 1 + 1) w3.heap.size w.heap.size W3.heap.size] 86)
  have c5 := (HX3.out.belowS hb4).cell 0
  have c6 := (HY3.out.belowS hb4).cell 0
  have HME := Lib.hid (HM3.out.belowS hb4)
  have HB5 := Lib.hid (below_of HB4.out hb4)
  clear hb4 hn0 hmm
  generalize W3.alloc (.cells #[fv (w.heap.size + 1 + 1) w3.heap.size w.heap.size W3.heap.size] 86) = W4 at *
  go_loopw [9] (fun _ wr => wr = W4) (fun _ _ => 0)
  case atStart => exact rfl
  case round =>
    obtain rfl := hrel
    go_wp2_with fail
    go_ret
    exact ⟨_, rfl, HME.out, HB5.out⟩
theorem reaches_nil (w : World) (x : ByteArray) (y : List UInt8) (hy : y.length ≤ 9223372036854775807) : Calls Try.prog 20 #[.pointer none, .string x, .string (bs y)] w fun e u => e = .returned (.bool false) ∧ Below w.heap.size w u := by
  have C1 := Lib.hid (deps_nil w x)
  have C2 := Lib.hid (fun (u : World) (hu : Below w.heap.size w u) (na : Option Addr) (nc : Nat) (hr : Reads (fun c => w.heap.size ≤ c ∧ c < u.heap.size) u (.slice na 0 nc) (strs [])) => reached_nil (hr.mono fun c hc => hc.2))
  have C3 : Hid (∀ (u : World) (c : Nat), ME u c (memF []) → Calls Try.prog 37 #[.map (some c), .string (bs y)] u fun e w' => e = .returned (.bool false) ∧ Below u.heap.size u w') := Lib.hid (fun u c hl => by
    have := sethas_any hl y hy
    simpa using this)
  clear hy
  generalize bs y = y' at *
  go_enter Try.func20, Try.ntmps20
  go_wp2_with (first
    | (go_at_call 18; (with_reducible refine C1.out.mono ?_); rintro e w1 ⟨sa, sc, rfl, hR, hb1⟩; have C4 := Lib.hid (C2.out w1 hb1 sa sc hR); clear hR)
    | (go_at_call 38; (with_reducible refine C4.out.mono ?_); rintro e w3 ⟨c, rfl, hl3, hb3⟩; have C6 := Lib.hid (C3.out _ c hl3); have hB3 := below_of hb1 hb3; clear hl3)
    | (go_at_call 37; (with_reducible refine C6.out.mono ?_); rintro e w4 ⟨rfl, hb4⟩))
  go_ret
  exact ⟨rfl, below_of hB3 hb4⟩
end Go.Proofs.Ytijcojidfallkaa.GP
