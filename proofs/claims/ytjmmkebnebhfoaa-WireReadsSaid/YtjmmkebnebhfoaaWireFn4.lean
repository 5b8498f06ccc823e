/-
  Words of bytes; bounds.
-/
import Derived.Test.YtjmmkebnebhfoaaWireFn3
set_option linter.unusedSimpArgs false
set_option linter.unusedVariables false
namespace Go.Proofs.Ytjmmkebnebhfoaa.NR
open Go.RowKit WM

def joinW : List UInt8 → Nat
  | [] => 0
  | c :: t => c.toNat + 256 * joinW t
theorem joinW_lt : ∀ l : List UInt8, joinW l < 256 ^ l.length
  | [] => by simp [joinW]
  | c :: t => by
    have := joinW_lt t
    have := lt256 c
    rw [joinW, List.length_cons, Nat.pow_succ]
    omega
theorem joinW_snoc : ∀ (l : List UInt8) (c : UInt8), joinW (l ++ [c]) = joinW l + c.toNat * 256 ^ l.length
  | [], c => by simp [joinW]
  | d :: t, c => by
    have e := joinW_snoc t c
    rw [List.cons_append, joinW, e, joinW, List.length_cons, Nat.pow_succ, Nat.mul_add]
    have : c.toNat * (256 ^ t.length * 256) = 256 * (c.toNat * 256 ^ t.length) := by
      rw [← Nat.mul_assoc, Nat.mul_comm]
    omega
theorem joinW_four (l : List UInt8) (h : l.length = 4) : joinW l = word4 l := by
  match l, h with
  | [a, b, c, d], _ => simp only [joinW, word4]; omega
theorem wrap32_small (x : Int) (h0 : 0 ≤ x) (h : x < 4294967296) : IntKind.u32.wrap x = x := by
  rw [IntKind.wrap_u32]; omega
theorem pow8 (k : Nat) : 2 ^ (8 * k) = 256 ^ k := by rw [Nat.pow_mul]
theorem word_step (J k : Nat) (y : UInt8) (hJ : J < 256 ^ k) (hk : k ≤ 3) :
    bits .or .u32 (J : Int) ((y.toNat : Int) % 4294967296 * 2 ^ (8 * k) % 4294967296) = ((J + y.toNat * 256 ^ k : Nat) : Int) := by
  have hy := lt256 y
  have hp : 256 ^ k ≤ 256 ^ 3 := Nat.pow_le_pow_right (by omega) hk
  have hm : y.toNat * 256 ^ k < 256 * 256 ^ 3 := by
    have h1 : y.toNat * 256 ^ k ≤ 255 * 256 ^ k := Nat.mul_le_mul_right _ (by omega)
    have h2 : 255 * 256 ^ k ≤ 255 * 256 ^ 3 := Nat.mul_le_mul_left _ hp
    omega
  have e1 : (y.toNat : Int) * 2 ^ (8 * k) = ((y.toNat * 256 ^ k : Nat) : Int) := by
    rw [← pow8, Int.natCast_mul, Int.natCast_pow]
    rfl
  rw [Int.emod_eq_of_lt (a := (y.toNat : Int)) (by omega) (by omega), e1, Int.emod_eq_of_lt (by omega) (by omega), u32_or_nat _ _ (by omega) (by omega), ← pow8, or_add _ _ _ (by rw [pow8]; exact hJ)]
theorem toWord_none (G : Nat → Prop) (v : Value) (w : World) (hr : Reads G w v (u8s [])) :
    Calls Try.prog 40 #[v] w fun e w' => e = .returned (.int .u32 0) ∧ w = w' := by
  obtain ⟨a, cap, rfl, h1, h2⟩ := hr.shape
  go_enter Try.func40, Try.ntmps40
  go_wp2_with fail
  refine wp_loop_rounds 1 ?_
  rw [rounds_succ]
  go_wp2
  go_ret
  exact ⟨rfl, rfl⟩
theorem toWord_four (G : Nat → Prop) (l : List UInt8) (v : Value) (w : World) (hr : Reads G w v (u8s l)) (hl : l.length = 4) :
    Calls Try.prog 40 #[v] w fun e w' => e = .returned (.int .u32 (word4 l : Nat)) ∧ w = w' := by
  obtain ⟨g, off, cap, rfl, hg, h1, h2, hcell⟩ := hr.cells (by intro h; have := congrArg List.length h; simp [u8s] at this; subst this; simp at hl)
  rw [u8s_len] at *
  have HC0 : ∀ k, k < l.length → ∃ y : UInt8, l[k]? = some y ∧ w.cell? ⟨g, off + k, none⟩ = some (.int .u8 (y.toNat : Int)) := fun k hk =>
    ⟨l[k], by simp, (hcell k (by omega)).trans (u8s_get _ l[k] k (by simp))⟩
  have HC := Lib.hid HC0
  have HW := Lib.hid (joinW_four l hl)
  clear hcell hr h1 HC0 h2
  have HL := Lib.hid hl
  rw [hl]
  clear hl
  go_enter Try.func40, Try.ntmps40
  go_wp2_with fail
  go_loop [3, 8] (fun a i => ∃ k : Nat, k ≤ 4 ∧ i = .int .i64 (k : Int) ∧ a = .int .u32 (joinW (l.take k) : Nat)) (fun _ i => 4 - (intOf i).toNat)
  case atStart => exact ⟨0, by omega, rfl, rfl⟩
  case round =>
    obtain ⟨k, hk, rfl, rfl⟩ := hrel
    by_cases hlt : k < 4
    · have hlt' : (k : Int) < 4 := by omega
      obtain ⟨y, hly, hck⟩ := HC.out k (by rw [HL.out]; exact hlt)
      have HY := Lib.hid hly
      clear hly
      have hj := joinW_lt (l.take k)
      rw [List.length_take, HL.out, Nat.min_eq_left hk] at hj
      generalize hJJ : joinW (l.take k) = J at *
      have HJ := Lib.hid hJJ
      clear hJJ
      go_wp2_with fail
      go_roundw
      case rel =>
        refine ⟨k + 1, by omega, by go_num, ?_⟩
        rw [word_step J k y hj (by omega), List.take_add_one, HY.out]
        simp only [Option.toList]
        rw [joinW_snoc, List.length_take, HL.out, Nat.min_eq_left hk, HJ.out]
      case measure => simp [intOf]; omega
    · have hn : ¬ (k : Int) < 4 := by omega
      go_wp2_with fail
      go_ret
      rw [List.take_of_length_le (by rw [HL.out]; omega), HW.out]
      exact ⟨rfl, rfl⟩
theorem bound_any (m : Int) (w : World) (h : -9223372036854775808 ≤ m ∧ m ≤ 9223372036854775807) :
    Calls Try.prog 52 #[.int .i64 m] w fun e w' => e = .returned (.int .u32 (min (max m 0) 4294967295)) ∧ w = w' := by
  obtain ⟨h1, h2⟩ := h
  go_enter Try.func52, Try.ntmps52
  go_wp2
  go_ret
  exact ⟨rfl, rfl⟩
theorem endless_any (G : Nat → Prop) (l : List UInt8) (v : Value) (w : World) (hr : Reads G w v (u8s l)) (k : Int) (hk : k = if l.length = 5 then 4 else 3) :
    Calls Try.prog 50 #[v] w fun e w' => e = .returned (.int .i64 k) ∧ w = w' := by
  obtain ⟨a, cap, rfl, h1, h2⟩ := hr.shape
  rw [u8s_len]
  clear hr h1 h2
  by_cases h5 : l.length = 5
  · rw [if_pos h5] at hk
    subst hk
    have h5' : ((l.length : Int) == 5) = true := by simp [h5]
    clear h5
    go_enter Try.func50, Try.ntmps50
    go_wp2
    go_ret
    exact ⟨rfl, rfl⟩
  · rw [if_neg h5] at hk
    subst hk
    have h5' : ((l.length : Int) == 5) = false := by simp; omega
    clear h5
    go_enter Try.func50, Try.ntmps50
    go_wp2
    go_ret
    exact ⟨rfl, rfl⟩
theorem takeW_at : ∀ (n k : Nat) (l : List UInt8), k < n → (takeW n l)[k]? = some (word4 ((l.drop (4 * k)).take 4))
  | 0, k, l, h => by omega
  | n + 1, 0, l, h => by simp [takeW]
  | n + 1, k + 1, l, h => by
    rw [takeW, List.getElem?_cons_succ, takeW_at n k (l.drop 4) (by omega), List.drop_drop, show 4 + 4 * k = 4 * (k + 1) by omega]
/-- the words so far, and noughts -/
def halfW (n k : Nat) (l : List UInt8) : List Value := u32s ((takeW n l).take k) ++ List.replicate (n - k) (.int .u32 0)
theorem halfW_end (n : Nat) (l : List UInt8) : halfW n n l = u32s (takeW n l) := by
  unfold halfW
  rw [List.take_of_length_le (by rw [takeW_length]; omega), Nat.sub_self]
  simp
theorem halfW_len (n k : Nat) (l : List UInt8) (h : k ≤ n) : (halfW n k l).length = n := by
  simp [halfW, u32s, takeW_length]; omega
theorem halfW_step (n k : Nat) (l : List UInt8) (h : k < n) : (halfW n k l).set k (.int .u32 (word4 ((l.drop (4 * k)).take 4) : Nat)) = halfW n (k + 1) l := by
  have e := takeW_at n k l h
  have hl : (u32s ((takeW n l).take k)).length = k := by simp [u32s, takeW_length]; omega
  unfold halfW
  generalize word4 ((l.drop (4 * k)).take 4) = x at *
  rw [List.set_append_right _ _ (by omega), hl, Nat.sub_self, List.take_add_one, e, show n - k = (n - (k + 1)) + 1 by omega, List.replicate_succ]
  simp [u32s]
theorem toWords_any (G : Nat → Prop) (l : List UInt8) (n : Nat) (v : Value) (w : World) (hr : Reads G w v (u8s l)) (hl : l.length = 4 * n) (hn : l.length ≤ 140737488351232) (hG : ∀ g, G g → g < w.heap.size) :
    Calls Try.prog 44 #[v] w fun e w' => ∃ v', e = .returned v' ∧ w'.ownsRow w.heap.size 22 1 v' n (u32s (takeW n l)) ∧ Below w.heap.size w w' := by
  obtain ⟨i0, hi, hz0, hz1, hz2⟩ := info_parts infoWord
  obtain ⟨a, cap, rfl, h1, h2⟩ := hr.shape
  rw [u8s_len] at *
  have hl4 : (l.length : Int) / 4 = (n : Int) := by omega
  have hnm : n ≤ maxLen := by unfold maxLen; omega
  have hnb : 4 * n ≤ 281474976710656 := by omega
  have HR := Lib.hid hr
  have HL := Lib.hid hl
  have hn' : (n : Int) ≤ 140737488351232 := by omega
  clear hr hl h2 hn
  generalize hm : l.length = m at *
  have HM := Lib.hid hm
  clear hm h1
  go_enter Try.func44, Try.ntmps44
  go_wp2_with (at_make; refine wpList_make_full _ rfl _ _ 23 rfl w.heap.size 22 i0 (.int .u32 0) 1 Try.underlying23 hi hz0 hz1 _ _ _ _ n rfl rfl (by omega) (by omega) (by rw [hz2]; exact hnb) hnm (Nat.le_refl _) ?_)
  intro w1 hown1 hgrow1
  have hb1 : Below w.heap.size w w1 := (Below.refl _ _).grown hgrow1 (Nat.le_refl _) (fun k hk => by cases hk)
  have hown2 : w1.ownsRow w.heap.size 22 1 (.slice (some ⟨w.heap.size, 0, none⟩) n n) n (halfW n 0 l) := by
    have e : halfW n 0 l = (madeCells #[Value.int IntKind.u32 0] n).toList := (toList_madeCells_one (Value.int IntKind.u32 0) n).symm
    rw [e]
    exact hown1
  clear hown1 hgrow1
  go_wp2_with fail
  go_loopw [12] (fun i wr => ∃ k : Nat, k ≤ n ∧ i = .int .i64 (k : Int) ∧ wr.ownsRow w.heap.size 22 1 (.slice (some ⟨w.heap.size, 0, none⟩) n n) n (halfW n k l) ∧ Below w.heap.size w wr) (fun i _ => n - (intOf i).toNat)
  case atStart => exact ⟨0, by omega, rfl, hown2, hb1⟩
  case round =>
    obtain ⟨k, hk, rfl, hown, hb⟩ := hrel
    have hs := hb.size
    by_cases hlt : k < n
    · have hlt' : (k : Int) < n := by omega
      have HRw : Reads G wr (.slice a m cap) (u8s l) := HR.out.keep (fun g hg _ => hb.block g (hG g hg))
      obtain ⟨v', hrun, hread⟩ := HRw.cut (P := Try.prog) elemBytes sizeBytes (4 * k) (4 * k + 4) (by omega) (by rw [u8s_len, HM.out, HL.out]; omega)
      rw [← u8s_take, ← u8s_drop] at hread
      have e4 : (l.take (4 * k + 4)).drop (4 * k) = (l.drop (4 * k)).take 4 := by
        rw [List.drop_take, show 4 * k + 4 - 4 * k = 4 by omega]
      rw [e4] at hread
      have hl4' : ((l.drop (4 * k)).take 4).length = 4 := by
        rw [List.length_take, List.length_drop, HM.out, HL.out]; omega
      have C := Lib.hid (toWord_four G _ v' wr hread hl4')
      have hsl : ∀ u, (Instr.slice 24 (.slice a m cap) (some (.int .i64 (4 * (k : Int)))) (some (.int .i64 (4 * (k : Int) + 4))) none).run Try.prog u = .ok v' u := fun u => hrun .i64 .i64 u
      have HST := Lib.hid (halfW_step n k l hlt)
      have hcell := hown.cellAt k (by omega)
      rw [List.getElem?_eq_getElem (by rw [halfW_len n k l hk]; exact hlt)] at hcell
      have hfr := hown.frozenAt k
      clear hrun hread e4 hl4' HRw
      generalize word4 ((l.drop (4 * k)).take 4) = x at *
      have HSTO := Lib.hid (hown.stored k (.int .u32 (x : Int)))
      clear hown
      generalize (halfW n k l)[k]'(by rw [halfW_len n k l hk]; exact hlt) = old at *
      go_wp2_with (go_at_call 40; refine C.out.mono ?_; rintro e w' ⟨rfl, rfl⟩)
      go_roundw
      case rel =>
        refine ⟨k + 1, by omega, by go_num, ?_, hb.setCell (by simp) _⟩
        rw [← HST.out]
        exact HSTO.out.1
      case measure => simp [intOf]; omega
    · have hkn : ¬ (k : Int) < n := by omega
      have : k = n := by omega
      subst this
      rw [halfW_end] at hown
      go_wp2_with fail
      go_ret
      exact ⟨_, rfl, hown, hb⟩
end Go.Proofs.Ytjmmkebnebhfoaa.NR
