/-
  How many parts a module has, as the reference counts them. Nothing here is a statement of the seed.
-/
import Derived.Test.YtajidaicojekdaaObjK
set_option linter.unusedSimpArgs false
set_option linter.unusedVariables false
namespace Go.Proofs.Ytajidaicojekdaa.OR
open Go.RowKit WM NR OM
set_option maxHeartbeats 4000000
set_option maxRecDepth 10000
section
variable {w : World} {ea : Option Addr} {en ec : Nat} {ia : Option Addr} {im ic : Nat} {ca : Option Addr} {cn cc : Nat} {da : Option Addr} {dn dc : Nat} {ra : Option Addr} {rn rc : Nat} {m : Md}
def lv (im cn dn rn : Nat) : Nat → Nat
  | 0 => im
  | 1 => cn
  | 2 => dn
  | _ => rn
/-- how many parts, no more than a bound -/
def szF : Nat → List Nat → Nat
  | n, [] => n
  | n, x :: xs => if n ≤ 65536 then szF (n + min x 65536) xs else n
theorem szF_ge : ∀ (xs : List Nat) (n : Nat), n ≤ szF n xs
  | [], n => Nat.le_refl _
  | x :: xs, n => by
    rw [szF]
    split
    · have := szF_ge xs (n + min x 65536); omega
    · exact Nat.le_refl _
theorem szF_all {xs : List Nat} : ∀ {n : Nat}, szF n xs ≤ 2000 → n ≤ 2000 ∧ ∀ x ∈ xs, x ≤ 2000 := by
  induction xs with
  | nil => intro n h; exact ⟨h, fun x hx => by cases hx⟩
  | cons x xs ih =>
    intro n h
    rw [szF] at h
    split at h
    · obtain ⟨h1, h2⟩ := ih h
      refine ⟨by omega, fun y hy => ?_⟩
      rcases List.mem_cons.1 hy with rfl | hy
      · omega
      · exact h2 y hy
    · omega
theorem szF_five {en im cn dn rn : Nat} (h : szF en [im, cn, dn, rn] ≤ 2000) : en ≤ 2000 ∧ im ≤ 2000 ∧ cn ≤ 2000 ∧ dn ≤ 2000 ∧ rn ≤ 2000 := by
  obtain ⟨h1, h2⟩ := szF_all h
  exact ⟨h1, h2 im (by simp), h2 cn (by simp), h2 dn (by simp), h2 rn (by simp)⟩
theorem size_any (h : RdM (· < w.heap.size) w ea en ec ia im ic ca cn cc da dn dc ra rn rc m) :
    Calls Try.prog 16 #[mV (bs m.name) ea en ec ia im ic ca cn cc da dn dc ra rn rc] w fun e w' => e = .returned (.int .i64 (szF en [im, cn, dn, rn] : Nat)) ∧ Below w.heap.size w w' := by
  obtain ⟨_, b1, d1⟩ := reads_len h.ex
  obtain ⟨_, b2, d2⟩ := reads_len h.im
  obtain ⟨_, b3, d3⟩ := reads_len h.cd
  obtain ⟨_, b4, d4⟩ := reads_len h.dt
  obtain ⟨_, b5, d5⟩ := h.rl.len
  unfold maxLen at d1 d2 d3 d4 d5
  have m1 : (en : Int) ≤ 9223372036854775807 := by omega
  have m2 : (im : Int) ≤ 9223372036854775807 := by omega
  have m3 : (cn : Int) ≤ 9223372036854775807 := by omega
  have m4 : (dn : Int) ≤ 9223372036854775807 := by omega
  have m5 : (rn : Int) ≤ 9223372036854775807 := by omega
  have X0 := Lib.hid (Whole.new w 45 (mCs (bs m.name) ea en ec ia im ic ca cn cc da dn dc ra rn rc))
  have HB0 := Lib.hid (below_new w (.cells (mCs (bs m.name) ea en ec ia im ic ca cn cc da dn dc ra rn rc) 45))
  clear h b1 b2 b3 b4 b5 d1 d2 d3 d4 d5
  generalize bs m.name = x at *
  obtain ⟨Z, hZ⟩ : ∃ Z, Z = szF en [im, cn, dn, rn] := ⟨_, rfl⟩
  rw [← hZ]
  have HZ := Lib.hid hZ
  clear hZ
  go_enter Try.func16, Try.ntmps16
  go_upto_region 1 with fail
  obtain ⟨c0, c1, c2, c3, c4, c5⟩ := mod_cells X0.out
  have q0 := X0.out.lt
  generalize w.alloc (.cells (mCs x ea en ec ia im ic ca cn cc da dn dc ra rn rc) 45) = W0 at *
  have hs0 := HB0.out.size
  go_upto_region 3 with fail
  have X1 := Whole.new W0 3 #[.int .i64 (im : Int), .int .i64 (cn : Int), .int .i64 (dn : Int), .int .i64 (rn : Int)]
  have HB1 := Lib.hid (HB0.out.alloc HB0.out.size (.cells #[.int .i64 (im : Int), .int .i64 (cn : Int), .int .i64 (dn : Int), .int .i64 (rn : Int)] 3))
  have hl0 : Hid (∀ k, k < 4 → (W0.alloc (.cells #[.int .i64 (im : Int), .int .i64 (cn : Int), .int .i64 (dn : Int), .int .i64 (rn : Int)] 3)).cell? ⟨W0.heap.size, k, none⟩ = some (.int .i64 (lv im cn dn rn k : Nat))) := fun k hk => by
    rw [X1.cell k]
    rcases (show k = 0 ∨ k = 1 ∨ k = 2 ∨ k = 3 by omega) with rfl | rfl | rfl | rfl <;> rfl
  have hm : Hid (∀ k, ((lv im cn dn rn k : Nat) : Int) ≤ 9223372036854775807) := fun k => by
    unfold lv
    split <;> omega
  have hdr : Hid (∀ k, k < 4 → [im, cn, dn, rn].drop k = lv im cn dn rn k :: [im, cn, dn, rn].drop (k + 1)) := fun k hk => by
    rcases (show k = 0 ∨ k = 1 ∨ k = 2 ∨ k = 3 by omega) with rfl | rfl | rfl | rfl <;> rfl
  clear X1 X0 c0 c1 c2 c3 c4 c5
  generalize W0.alloc (.cells #[.int .i64 (im : Int), .int .i64 (cn : Int), .int .i64 (dn : Int), .int .i64 (rn : Int)] 3) = W1 at *
  generalize W0.heap.size = b1 at *
  have en0 : (0 : Int) ≤ en := by omega
  go_wp2_with fail
  go_loop [3, 5] (fun s i => ∃ (k n : Nat), k ≤ 4 ∧ i = .int .i64 (k : Int) ∧ s = .int .i64 (n : Int) ∧ (n : Int) ≤ 9223372036854775807 ∧ Hid (Z = szF n ([im, cn, dn, rn].drop k))) (fun _ i => 4 - (intOf i).toNat)
  case atStart => exact ⟨0, en, by omega, rfl, rfl, by omega, HZ⟩
  case round =>
    obtain ⟨k, n, hk, rfl, rfl, hn1, hp⟩ := hrel
    by_cases hlt : k < 4
    · have hlt' : (k : Int) < 4 := by omega
      by_cases hle : n ≤ 65536
      · have hc := hl0.out k hlt
        have hmk := hm.out k
        have hp2 : Hid (Z = szF (n + min (lv im cn dn rn k) 65536) ([im, cn, dn, rn].drop (k + 1))) := by
          have e := hp.out
          rw [hdr.out k hlt, szF, if_pos hle] at e
          exact e
        have hl1 : (0 : Int) ≤ ((lv im cn dn rn k : Nat) : Int) := by omega
        have hle' : (n : Int) ≤ 65536 := by omega
        have hsum : Hid ((n : Int) + min ((lv im cn dn rn k : Nat) : Int) 65536 = ((n + min (lv im cn dn rn k) 65536 : Nat) : Int)) := by
          show _ = _
          omega
        have hb2 : ((n + min (lv im cn dn rn k) 65536 : Nat) : Int) ≤ 9223372036854775807 := by omega
        generalize hY : ((lv im cn dn rn k : Nat) : Int) = y at *
        have hn0 : (0 : Int) ≤ (n : Int) := by omega
        generalize hNN : (n : Int) = ni at *
        have hmin0 : 0 ≤ min y 65536 := by omega
        have hmin1 : min y 65536 ≤ 65536 := by omega
        clear hY hNN hp hle
        go_wp2_with fail
        go_roundw
        case rel => exact ⟨k + 1, _, by omega, by go_num, by rw [← hsum.out], hb2, hp2⟩
        case measure => simp [intOf]; omega
      · have hgt : (65536 : Int) < n := by omega
        have hz : Hid (Z = n) := by
          have e := hp.out
          rw [hdr.out k hlt, szF, if_neg hle] at e
          exact e
        have hnn : Hid ((n : Int) = (Z : Int)) := by rw [hz.out]; rfl
        clear hp hle hz
        generalize (n : Int) = ni at *
        go_wp2_with fail
        go_ret
        exact ⟨by rw [hnn.out]; rfl, HB1.out⟩
    · obtain rfl : k = 4 := by omega
      have hnn : Hid ((n : Int) = (Z : Int)) := by
        have e : Z = n := hp.out
        rw [e]; rfl
      clear hp
      generalize (n : Int) = ni at *
      go_wp2_with fail
      go_ret
      exact ⟨by rw [hnn.out]; rfl, HB1.out⟩
end
end Go.Proofs.Ytajidaicojekdaa.OR
