/-
  The program's New, Fork, Free, Get. Nothing here is a statement of the seed.
-/
import Derived.Test.YtigalcmhongleaaGtPB
import Derived.Deep.RegionHeld3
set_option linter.unusedSimpArgs false
set_option linter.unusedVariables false
namespace Go.Proofs.Ytigalcmhongleaa.GK
open Go.RowKit WM NR OM OR GA
set_option maxHeartbeats 4000000
set_option maxRecDepth 10000
theorem infoA : (Try.prog.info? 51).map (·.size) = some 24 := by kernel_rfl
theorem idx_T (f : Tb) {k : Nat} (hk : k < 8) (u : World) : (Instr.index 51 (tV f) (.int .i64 (k : Int))).run Try.prog u = .ok (bdV (f k)) u := by
  rcases below8 hk with rfl | rfl | rfl | rfl | rfl | rfl | rfl | rfl <;> kernel_rfl
theorem fold_T (f : Tb) : Array.foldl (fun cs (x : Value × Nat) => cs.setIfInBounds x.snd x.fst) tZ (tC f).zipIdx 0 (tC f).size = tC f := by kernel_rfl
section
variable {w : World} {f : Tb} {p b : Nat} {t : TypeId}
theorem range_P (h : Whole w b t (tC f)) : w.rangeAt b 0 (tC f).toList := fun j v hv => by rw [Nat.zero_add, h.cell, ← hv, Array.getElem?_toList]
/-- a load of all gates, at the list of a plain region's operations -/
theorem wl_A {ops : Array Oper} {rest : List Oper} {op : Oper} {a : Act} {Q : Exit → Act → World → Prop} (hgd : op.guard = none) (x : Operand) (ho : op.op = .load 51 x) (hx : a.eval x = .pointer (some ⟨b, 0, none⟩)) (hW : Whole w b t (tC f)) (h : wpList Try.prog ops Q rest (a.put op.dst (tV f)) w) : wpList Try.prog ops Q (op :: rest) a w :=
  wpList_load_mid hgd _ x ho b 0 hx (tC f).toList _ (range_P hW) Try.underlying51 rfl infoA h
theorem new_any (w : World) : Calls Try.prog 9 #[] w fun e u => ∃ S a, e = .returned (.pointer (some a)) ∧ PT S u (.pointer (some a)) zeroT ∧ (∀ g, S g → w.heap.size ≤ g) ∧ Below w.heap.size w u := by
  have HB := Lib.hid (below_new w (.cells tZ 53))
  have HZ := Lib.hid (Whole.new w 53 tZ)
  go_enter Try.func9, Try.ntmps9
  go_wp2_with fail
  go_ret
  exact ⟨fun g => g = w.heap.size, _, rfl, ⟨_, rfl, rfl, fun _ h => h, HZ.out, Ok.zero⟩, fun g hg => by omega, HB.out⟩
theorem fork_any (hW : Whole w p 53 (tC f)) (hok : Ok f) : Calls Try.prog 12 #[.pointer (some ⟨p, 0, none⟩)] w fun e u => ∃ S2 a, e = .returned (.pointer (some a)) ∧ PT S2 u (.pointer (some a)) f ∧ (∀ g, S2 g → w.heap.size ≤ g) ∧ Below w.heap.size w u := by
  have HB := Lib.hid (below_new w (.cells (tC f) 53))
  have HZ := Lib.hid (Whole.new w 53 (tC f))
  have HW := Lib.hid hW
  have HO := Lib.hid hok
  have z6 := hW.lt
  clear hW hok
  go_enter Try.func12, Try.ntmps12
  go_wp2_with (refine wl_A rfl (.tmp 7) rfl rfl HW.out ?_)
  · rename_i h
    exact absurd h (show ¬ ((decide ¬(24 : Nat) = 24) = true ∨ 24 < 24) by decide)
  have hF := fold_T f
  have HZ2 : Hid (∀ c : Array Value, c = tC f → Whole (w.alloc (.cells c 53)) w.heap.size 53 (tC f) ∧ Below w.heap.size w (w.alloc (.cells c 53))) := Lib.hid (fun c hc => by rw [hc]; exact ⟨HZ.out, HB.out⟩)
  go_ret
  exact ⟨fun g => g = w.heap.size, _, rfl, ⟨_, rfl, rfl, fun _ h => h, (HZ2.out _ hF).1, HO.out⟩, fun g hg => by omega, (HZ2.out _ hF).2⟩
theorem free_any (hW : Whole w p 53 (tC f)) (hok : Ok f) : Calls Try.prog 18 #[.pointer (some ⟨p, 0, none⟩)] w fun e u => e = .returned (.int .i64 (freeM f)) ∧ Below w.heap.size w u := by
  have HW := Lib.hid hW
  have HO := Lib.hid hok
  have z6 := hW.lt
  clear hW hok
  obtain ⟨R, hR⟩ : ∃ R, R = freeM f := ⟨_, rfl⟩
  rw [← hR]
  have HR := Lib.hid hR
  clear hR
  go_enter Try.func18, Try.ntmps18
  go_wp2_with (refine wl_A rfl (.tmp 10) rfl rfl HW.out ?_)
  go_loopw [3, 12] (fun v3 i wr => ∃ (k : Nat) (n : Int), k ≤ 8 ∧ i = .int .i64 (k : Int) ∧ v3 = .int .i64 n ∧ Hid (n = freeF f k) ∧ Below w.heap.size w wr) (fun _ i _ => 8 - (intOf i).toNat)
  case atStart => exact ⟨0, 0, by omega, rfl, rfl, Lib.hid rfl, Below.refl _ _⟩
  case round =>
    obtain ⟨k, n, hk, rfl, rfl, hp, hbl⟩ := hrel
    by_cases hlt : k < 8
    · have hlt' : (k : Int) < 8 := by omega
      have eI := idx_T f hlt wr
      have eN := eql_z (bs (f k).nm) (f k).ow (f k).bs
      rw [zero_iff HO.out hlt] at eN
      have hbd := free_bd f k
      rw [← hp.out] at hbd
      obtain ⟨n0, n1⟩ := hbd
      have hs := free_succ f k
      rw [← hp.out] at hs
      clear hp HR
      have HS : Hid (∃ n2 : Int, n2 = freeF f (k + 1) ∧ n2 = if decide ((f k).ow = 0) = true then n + 1 else n) := Lib.hid ⟨_, rfl, by rw [hs]; simp⟩
      clear hs
      obtain ⟨N2, hN2⟩ : ∃ q, q = freeF f (k + 1) := ⟨_, rfl⟩
      rw [← hN2] at HS
      have HN2 := Lib.hid hN2
      clear hN2
      generalize decide ((f k).ow = 0) = D at *
      have eI' : (Instr.index 51 (tV f) (.int .i64 (k : Int))).run Try.prog wr = .ok (.agg #[.string (bs (f k).nm), .int .u16 (f k).ow, .int .u32 (f k).bs]) wr := eI
      clear eI
      generalize bs (f k).nm = X at *
      generalize (f k).ow = O at *
      generalize (f k).bs = K at *
      cases D
      · go_wp2_with fail
        go_roundw
        case rel => exact ⟨k + 1, n, by omega, by go_num, rfl, Lib.hid (by obtain ⟨n2, h1, h2⟩ := HS.out; rw [← HN2.out, ← h1, h2]; rfl), hbl.alloc hbl.size _⟩
        case measure => simp [intOf]; omega
      · go_wp2_with fail
        go_roundw
        case rel => exact ⟨k + 1, n + 1, by omega, by go_num, by go_num, Lib.hid (by obtain ⟨n2, h1, h2⟩ := HS.out; rw [← HN2.out, ← h1, h2]; rfl), hbl.alloc hbl.size _⟩
        case measure => simp [intOf]; omega
    · obtain rfl : k = 8 := by omega
      have hh := Lib.hid (show R = n by rw [HR.out, hp.out]; rfl)
      clear hp HR
      go_wp2_with fail
      go_ret
      exact ⟨ret_int hh.out.symm, hbl⟩
end
end Go.Proofs.Ytigalcmhongleaa.GK
