/-
  Texts as words: what digit and Parse tell, of package word and of the reference.
-/
import Derived.Test.YtoohfmkhjhcopaaGreatDoorWordHex
set_option linter.unusedSimpArgs false
set_option linter.unusedVariables false
namespace Go.Proofs.YtoohfmkhjhcopaaGreatDoor.WF
open Go.RowKit WM

/-- a digit's number; 16, if it is none -/
def dv (c : Int) : Int := if 48 ≤ c ∧ c ≤ 57 then c - 48 else if 97 ≤ c ∧ c ≤ 102 then c - 87 else 16
theorem dv_bd (c : Int) : 0 ≤ dv c ∧ dv c ≤ 16 := by unfold dv; split <;> (try split) <;> omega
theorem dv_hexd (d : Nat) (h : d < 16) : dv (hexd d) = d := by unfold dv hexd; split <;> split <;> (try split) <;> omega
theorem hexd_dv (c : Int) (h : dv c < 16) : hexd (dv c).toNat = c := by
  revert h
  unfold dv hexd
  split
  · intro h; split <;> omega
  · split
    · intro h; split <;> omega
    · intro h; omega
def notYet (c : Int) (k : Nat) : Prop := ¬ dv c < k
/-- the byte at a place -/
def bt (s : ByteArray) (k : Nat) : Int := ((s.data.toList.getD k 0).toNat : Int)
theorem bt_at (s : ByteArray) (k : Nat) (h : k < s.size) : ((s[k]'h).toNat : Int) = bt s k := by
  unfold bt
  have : s.data.toList.getD k 0 = s[k]'h := by
    rw [List.getD_eq_getElem?_getD, List.getElem?_eq_getElem (by simpa using h)]
    rfl
  rw [this]
theorem bt_bd (s : ByteArray) (k : Nat) : 0 ≤ bt s k ∧ bt s k ≤ 255 := by
  unfold bt
  have := (s.data.toList.getD k 0).toNat_lt
  omega

theorem digit_yes (c : Int) (w : World) (hc : 0 ≤ c ∧ c ≤ 255) (h : dv c < 16) :
    Calls Tryz.prog 106 #[.int .u8 c] w fun e w' => e = .returned (.tuple #[.int .u32 (dv c), .bool true]) ∧ w = w' := by
  obtain ⟨hc1, hc2⟩ := hc
  obtain ⟨hv, _⟩ := dv_bd c
  go_enter Tryz.func106, Tryz.ntmps106
  go_wp2_with fail
  go_loop [4, 5] (fun _ i => ∃ k : Nat, (k : Int) ≤ dv c ∧ i = .int .i64 k) (fun _ i => 16 - (intOf i).toNat)
  case atStart => exact ⟨0, hv, rfl⟩
  case round =>
    obtain ⟨k, hk, rfl⟩ := hrel
    have hlt : k < 16 := by omega
    have hlt' : (k : Int) < 16 := by omega
    have HD := hexd_at k hlt
    by_cases e : hexd k = c
    · have ht : (((({ data := #[48, 49, 50, 51, 52, 53, 54, 55, 56, 57, 97, 98, 99, 100, 101, 102] } : ByteArray)[k]'hlt).toNat : Int) == c) = true := by rw [HD, e]; simp
      have E := Lib.hid (show dv c = k by rw [← e, dv_hexd k hlt])
      clear HD
      have e' := Lib.hid e
      clear e
      go_wp2
      go_ret2
      exact ⟨by rw [E.out]; rfl, rfl⟩
    · have ht : (((({ data := #[48, 49, 50, 51, 52, 53, 54, 55, 56, 57, 97, 98, 99, 100, 101, 102] } : ByteArray)[k]'hlt).toNat : Int) == c) = false := by rw [HD]; simpa using e
      have hk2 : (k : Int) < dv c := by
        rcases Int.lt_or_eq_of_le hk with hk | hk
        · exact hk
        · exact absurd (by rw [← hexd_dv c h, ← hk]; simp) e
      clear HD e
      go_wp2
      go_roundw
      case rel => exact ⟨k + 1, by omega, by go_num⟩
      case measure => simp [intOf]; omega
theorem digit_no (c : Int) (w : World) (hc : 0 ≤ c ∧ c ≤ 255) (h : ¬ dv c < 16) :
    Calls Tryz.prog 106 #[.int .u8 c] w fun e w' => e = .returned (.tuple #[.int .u32 0, .bool false]) ∧ w = w' := by
  obtain ⟨hc1, hc2⟩ := hc
  go_enter Tryz.func106, Tryz.ntmps106
  go_wp2_with fail
  go_loop [4, 5] (fun _ i => ∃ k : Nat, k ≤ 16 ∧ i = .int .i64 k) (fun _ i => 16 - (intOf i).toNat)
  case atStart => exact ⟨0, by omega, rfl⟩
  case round =>
    obtain ⟨k, hk, rfl⟩ := hrel
    by_cases hlt : k < 16
    · have hlt' : (k : Int) < 16 := by omega
      have HD := hexd_at k hlt
      have e : hexd k ≠ c := fun e => by have := dv_hexd k hlt; rw [e] at this; omega
      have ht : (((({ data := #[48, 49, 50, 51, 52, 53, 54, 55, 56, 57, 97, 98, 99, 100, 101, 102] } : ByteArray)[k]'hlt).toNat : Int) == c) = false := by rw [HD]; simpa using e
      clear HD e
      go_wp2
      go_roundw
      case rel => exact ⟨k + 1, by omega, by go_num⟩
      case measure => simp [intOf]; omega
    · go_wp2
      go_ret2
      exact ⟨rfl, rfl⟩
/-- the word of the first k digits -/
def pv (s : ByteArray) : Nat → Nat
  | 0 => 0
  | k + 1 => pv s k * 16 + (dv (bt s k)).toNat
def okN (s : ByteArray) (k : Nat) : Prop := ∀ j, j < k → dv (bt s j) < 16
theorem okN_succ {s : ByteArray} {k : Nat} (h : okN s k) (hd : dv (bt s k) < 16) : okN s (k + 1) := fun j hj => by
  by_cases e : j = k
  · subst e; exact hd
  · exact h j (by omega)
theorem pv_lt (s : ByteArray) : ∀ k, okN s k → pv s k < 16 ^ k
  | 0, _ => by simp [pv]
  | k + 1, h => by
    have h1 := pv_lt s k (fun j hj => h j (by omega))
    have h2 := h k (by omega)
    have h3 := dv_bd (bt s k)
    rw [pv, Nat.pow_succ]
    omega
theorem pv_bd (s : ByteArray) (k : Nat) (hk : k ≤ 7) (h : okN s k) : pv s k * 16 < 4294967296 := by
  have h1 := pv_lt s k h
  have h2 : 16 ^ k ≤ 16 ^ 7 := Nat.pow_le_pow_right (by omega) hk
  omega
theorem pv_step (s : ByteArray) (k : Nat) (hk : k ≤ 7) (h : okN s k) (hd : dv (bt s k) < 16) :
    bits .or .u32 ((pv s k : Int) * 16 % 4294967296) (dv (bt s k)) = ((pv s (k + 1) : Nat) : Int) := by
  have h1 := pv_bd s k hk h
  have h2 := dv_bd (bt s k)
  obtain ⟨d, hd'⟩ := Int.eq_ofNat_of_zero_le h2.1
  have e : ((pv s k : Nat) : Int) * 16 % 4294967296 = ((pv s k * 16 : Nat) : Int) := by omega
  rw [e, pv, hd', u32_or_nat _ _ h1 (by omega), nat_join 4 _ _ (by omega) (by omega)]
  simp

theorem wordParse_long (s : ByteArray) (w : World) (h : s.size ≠ 8) :
    Calls Tryz.prog 85 #[.string s] w fun e w' => e = .returned (.tuple #[.int .u32 0, .int .i64 4]) ∧ w' = w := by
  have ht : ((s.size : Int) != 8) = true := by rw [bne_iff_ne]; omega
  clear h
  go_enter Tryz.func85, Tryz.ntmps85
  go_wp2
  go_ret2
  exact ⟨rfl, rfl⟩
theorem wordParse_8 (s : ByteArray) (w : World) (h : s.size = 8) :
    Calls Tryz.prog 85 #[.string s] w fun e w' => (okN s 8 ∧ e = .returned (.tuple #[.int .u32 (pv s 8 : Int), .int .i64 0]) ∨ ¬ okN s 8 ∧ e = .returned (.tuple #[.int .u32 0, .int .i64 4])) ∧ w' = w := by
  have ht : ((s.size : Int) != 8) = false := by rw [h]; rfl
  have H := Lib.hid h
  clear h
  go_enter Tryz.func85, Tryz.ntmps85
  go_wp2_with fail
  go_loop [4, 5, 6, 7, 11] (fun x _ _ _ i => ∃ k : Nat, k ≤ 8 ∧ i = .int .i64 k ∧ okN s k ∧ x = .int .u32 (pv s k : Int)) (fun _ _ _ _ i => 8 - (intOf i).toNat)
  case atStart => exact ⟨0, by omega, rfl, fun j hj => by omega, rfl⟩
  case round =>
    obtain ⟨k, hk, rfl, hok, rfl⟩ := hrel
    have Hok := Lib.hid hok
    clear hok
    by_cases hlt : k < 8
    · have hlt' : (k : Int) < 8 := by omega
      have hks : k < s.size := by rw [H.out]; exact hlt
      have hks' : (k : Int) < s.size := by omega
      have hbt := bt_at s k hks
      have hbd := bt_bd s k
      by_cases hd : dv (bt s k) < 16
      · have S := Lib.hid (pv_step s k (by omega) Hok.out hd)
        have C := Lib.hid (digit_yes (bt s k) w hbd hd)
        go_wp2_with (first | (go_at_call 106; refine C.out.mono ?_; rintro e w' ⟨rfl, rfl⟩))
        go_roundw
        case rel => exact ⟨k + 1, by omega, by go_num, okN_succ Hok.out hd, congrArg (Value.int .u32) S.out⟩
        case measure => simp [intOf]; omega
      · have C := Lib.hid (digit_no (bt s k) w hbd hd)
        have No := Lib.hid (fun h : okN s 8 => hd (h k hlt))
        go_wp2_with (first | (go_at_call 106; refine C.out.mono ?_; rintro e w' ⟨rfl, rfl⟩))
        go_ret2
        exact ⟨.inr ⟨No.out, rfl⟩, rfl⟩
    · obtain rfl : k = 8 := by omega
      go_wp2
      go_ret2
      exact ⟨.inl ⟨Hok.out, rfl⟩, rfl⟩

def okW (s : ByteArray) : Prop := s.size = 8 ∧ okN s 8
theorem wordParse_yes (s : ByteArray) (w : World) (h : okW s) :
    Calls Tryz.prog 85 #[.string s] w fun e w' => e = .returned (.tuple #[.int .u32 (pv s 8 : Int), .int .i64 0]) ∧ w' = w :=
  (wordParse_8 s w h.1).mono fun _ _ ⟨he, hw⟩ => ⟨he.elim (fun h => h.2) (fun h' => absurd h.2 h'.1), hw⟩
theorem wordParse_no (s : ByteArray) (w : World) (h : ¬ okW s) :
    Calls Tryz.prog 85 #[.string s] w fun e w' => e = .returned (.tuple #[.int .u32 0, .int .i64 4]) ∧ w' = w := by
  by_cases h8 : s.size = 8
  · exact (wordParse_8 s w h8).mono fun _ _ ⟨he, hw⟩ => ⟨he.elim (fun h' => absurd ⟨h8, h'.1⟩ h) (fun h => h.2), hw⟩
  · exact wordParse_long s w h8

/-- the reference's inner loop: the digit's number, if it is below k -/
def seen (c : Int) (k : Nat) : Int := if dv c < k then dv c else 16
theorem seen_zero (c : Int) : seen c 0 = 16 := by
  have := dv_bd c
  unfold seen
  rw [if_neg (by omega)]
theorem seen_end (c : Int) : seen c 16 = dv c := by
  have := dv_bd c
  unfold seen
  split <;> omega
theorem seen_hit (c : Int) (k : Nat) (hk : k < 16) (e : hexd k = c) : seen c (k + 1) = k := by
  have h := dv_hexd k hk
  rw [e] at h
  unfold seen
  rw [if_pos (by omega), h]
theorem seen_miss (c : Int) (k : Nat) (e : hexd k ≠ c) : seen c (k + 1) = seen c k := by
  have hb := dv_bd c
  have h : dv c = k → k < 16 → False := fun h1 h2 => by
    apply e
    have := hexd_dv c (by omega)
    rw [h1] at this
    simpa using this
  unfold seen
  by_cases h1 : dv c < k
  · rw [if_pos h1, if_pos (by omega)]
  · by_cases h2 : dv c = k
    · by_cases h3 : k < 16
      · exact (h h2 h3).elim
      · rw [if_neg h1]; split <;> omega
    · rw [if_neg h1, if_neg (by omega)]

end Go.Proofs.YtoohfmkhjhcopaaGreatDoor.WF
