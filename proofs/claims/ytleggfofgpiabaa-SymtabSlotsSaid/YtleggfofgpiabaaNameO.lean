/-
  Joined texts: NameOwn, NameOwn2. Nothing here is a statement of the seed.
-/
import Derived.Test.YtleggfofgpiabaaNameRef2
import Derived.WalkSpells
import Derived.Deep.LoopGhost
import Derived.Test.YtleggfofgpiabaaShelf
set_option linter.unusedSimpArgs false
set_option linter.unusedVariables false
/-
  Package name, call by call: runes, stems, versions.
-/
namespace Go.Proofs.Ytleggfofgpiabaa.NF
open Go.RowKit NM

theorem iterPos_of {w : World} {k : Nat} {s : ByteArray} {p : Nat} (h : w.heap[k]? = some (.stringIter s p)) : w.iterPos k = p := by simp [World.iterPos, h]
/-- what a range tells of the rune at a place -/
theorem next_at {P : Program} (w : World) (k : Nat) (s : ByteArray) (p : Nat) (hit : w.heap[k]? = some (.stringIter s p)) (hp : p < s.size) : ∀ ty, (Instr.next (.pointer (some ⟨k, 0, none⟩)) true ty).run P w =
    .ok (.tuple #[.bool true, .int .i64 p, .int .i32 (told (dec (s.data.toList.drop p)).1)]) (w.iterAt k s (p + (dec (s.data.toList.drop p)).2)) := fun ty => by
  rw [Lib.run_next_any_at w k s p ty hit hp, (decode_dec s p).1, (decode_dec s p).2]
theorem told_bd (l : List UInt8) : 0 ≤ told (dec l).1 ∧ told (dec l).1 ≤ 1114111 := by
  have hb := bt_lt l 0
  rcases dec_kind l with ⟨h1, h2⟩ | ⟨h1, ⟨h2, _⟩ | ⟨h2, h3⟩⟩
  · rw [h2]; unfold told; split <;> simp at * <;> omega
  · rw [h2]; unfold told; simp
  · unfold told; split <;> omega
theorem nameRunes_any (s : ByteArray) (w : World) (hs : s.size ≤ 9223372036854775807) :
    Calls Try.prog 34 #[.string s] w fun e w' => e = .returned (.int .i64 ((runes s.data.toList).length : Nat)) ∧ Below w.heap.size w w' := by
  go_enter Try.func34, Try.ntmps34
  go_wp2_with fail
  go_loopw [3] (fun a wr => ∃ p n : Nat, a = .int .i64 n ∧ wr.heap[w.heap.size]? = some (.stringIter s p) ∧ Below w.heap.size w wr ∧ n ≤ p ∧ p ≤ s.size ∧ Hid (n + (runes (s.data.toList.drop p)).length = (runes s.data.toList).length)) (fun _ wr => s.size - wr.iterPos w.heap.size)
  case atStart => exact ⟨0, 0, rfl, World.iter_heap w s 0, (Below.refl _ _).alloc (Nat.le_refl _) _, by omega, by omega, by show _ = _; simp⟩
  case round =>
    obtain ⟨p, n, rfl, hit, hbw, hnp, hps, HR⟩ := hrel
    have hpos0 := iterPos_of hit
    by_cases hp : p < s.size
    · have hnx := next_at (P := Try.prog) wr w.heap.size s p hit hp
      have hwd := width_at s.data.toList p (by rw [size_list]; exact hp)
      rw [size_list] at hwd
      have RS := runes_at s.data.toList p (by rw [size_list]; exact hp)
      generalize (dec (s.data.toList.drop p)).2 = k at *
      generalize (dec (s.data.toList.drop p)).1 = r at *
      have HR2 : Hid (n + 1 + (runes (s.data.toList.drop (p + k))).length = (runes s.data.toList).length) := by
        show _ = _
        rw [← HR.out, RS]
        simp
        omega
      clear RS HR
      have hit2 := Lib.iterAt_heap wr w.heap.size s p (p + k) hit
      have hbw2 := Lib.below_iterAt hbw (k := w.heap.size) (Nat.le_refl _) s (p + k)
      obtain ⟨W1, hW1⟩ : ∃ W1, W1 = wr.iterAt w.heap.size s (p + k) := ⟨_, rfl⟩
      rw [← hW1] at hnx hit2 hbw2
      clear hW1 hit hbw
      obtain ⟨hwd1, hwd2, hwd3⟩ := hwd
      go_wp2_with fail
      go_roundw
      case rel => exact ⟨p + k, n + 1, by go_num, hit2, hbw2, by omega, by omega, HR2⟩
      case measure => rw [iterPos_of hit2, hpos0]; omega
    · have hnx := fun ty => Lib.run_next_end_at (P := Try.prog) wr w.heap.size s p ty hit hp
      have HE := Lib.hid (runes_end s.data.toList p (by rw [size_list]; exact hp))
      clear hit
      go_wp2_with fail
      go_ret
      exact ⟨ret_int (by rw [← HR.out, HE.out]; simp), hbw⟩

/-- how far a stem has been gone over -/
def stemAt (l : List UInt8) (p : Nat) : Prop := p = 0 ∨ 0 < p ∧ stemL (runes l) = (runes (l.drop p)).all bodyB
def okAt (p : Nat) (d : Int) : Bool := if p = 0 then letterB d else bodyB d
theorem stemAt_yes (l : List UInt8) (p k : Nat) (d : Int) (h : stemAt l p) (hr : runes (l.drop p) = d :: runes (l.drop (p + k))) (hk : 1 ≤ k) (ho : okAt p d = true) : stemAt l (p + k) := by
  refine .inr ⟨by omega, ?_⟩
  unfold okAt at ho
  rcases h with rfl | ⟨hp, he⟩
  · rw [List.drop_zero] at hr
    rw [hr, if_pos rfl] at *
    simp only [stemL]
    rw [ho, Bool.true_and]
  · rw [if_neg (by omega)] at ho
    rw [he, hr, List.all_cons, ho, Bool.true_and]
theorem stemAt_no (l : List UInt8) (p k : Nat) (d : Int) (h : stemAt l p) (hr : runes (l.drop p) = d :: runes (l.drop (p + k))) (ho : okAt p d = false) : stemL (runes l) = false := by
  unfold okAt at ho
  rcases h with rfl | ⟨hp, he⟩
  · rw [List.drop_zero] at hr
    rw [hr, if_pos rfl] at *
    simp only [stemL]
    rw [ho, Bool.false_and]
  · rw [if_neg (by omega)] at ho
    rw [he, hr, List.all_cons, ho, Bool.false_and]
theorem stemAt_end (l : List UInt8) (p : Nat) (h : stemAt l p) (hq : p ≤ l.length) (hp : ¬ p < l.length) : stemL (runes l) = decide (0 < l.length) := by
  rcases h with rfl | ⟨h0, he⟩
  · have : l = [] := List.length_eq_zero_iff.1 (by omega)
    subst this
    rfl
  · rw [he, runes_end l p hp]
    cases l with
    | nil => simp at hq; omega
    | cons c t => simp
theorem wrong_yes (s : ByteArray) (p : Nat) (h : (dec (s.data.toList.drop p)).1 = -1) : ((told (dec (s.data.toList.drop p)).1 == 65533) && !(badText.isPrefixOf (s.extract p s.size).data.toList)) = true := by
  have ht : told (dec (s.data.toList.drop p)).1 = 65533 := by rw [h]; rfl
  rw [ht, bs_step, (bad_iff _ ht).2 h]
  rfl
theorem wrong_no (s : ByteArray) (p : Nat) (h : (dec (s.data.toList.drop p)).1 ≠ -1) : ((told (dec (s.data.toList.drop p)).1 == 65533) && !(badText.isPrefixOf (s.extract p s.size).data.toList)) = false := by
  by_cases ht : told (dec (s.data.toList.drop p)).1 = 65533
  · have : badText.isPrefixOf (s.data.toList.drop p) = true := by
      cases hb : badText.isPrefixOf (s.data.toList.drop p) with
      | true => rfl
      | false => exact absurd ((bad_iff _ ht).1 hb) h
    rw [bs_step, this]
    simp
  · have : (told (dec (s.data.toList.drop p)).1 == 65533) = false := by simpa using ht
    rw [this, Bool.false_and]
theorem told_right (l : List UInt8) (h : (dec l).1 ≠ -1) : told (dec l).1 = (dec l).1 := by
  rcases dec_kind l with ⟨h1, h2⟩ | ⟨h1, ⟨h2, _⟩ | ⟨h2, h3⟩⟩
  · rw [h2]; unfold told; rw [if_neg (by simp)]
  · exact absurd h2 h
  · unfold told; rw [if_neg (by omega)]
theorem isStem_any (s : ByteArray) (w : World) (hs : s.size ≤ 9223372036854775807) :
    Calls Try.prog 58 #[.string s] w fun e w' => e = .returned (.bool (stemL (runes s.data.toList))) ∧ Below w.heap.size w w' := by
  go_enter Try.func58, Try.ntmps58
  go_wp2_with fail
  go_loopw [3, 4] (fun _ _ wr => ∃ p : Nat, wr.heap[w.heap.size]? = some (.stringIter s p) ∧ Below w.heap.size w wr ∧ p ≤ s.size ∧ Hid (stemAt s.data.toList p)) (fun _ _ wr => s.size - wr.iterPos w.heap.size)
  case atStart => exact ⟨0, World.iter_heap w s 0, (Below.refl _ _).alloc (Nat.le_refl _) _, by omega, .inl rfl⟩
  case round =>
    obtain ⟨p, hit, hbw, hps, HR⟩ := hrel
    have hpos0 := iterPos_of hit
    by_cases hp : p < s.size
    · have hnx := next_at (P := Try.prog) wr w.heap.size s p hit hp
      have hwd := width_at s.data.toList p (by rw [size_list]; exact hp)
      rw [size_list] at hwd
      have RS := runes_at s.data.toList p (by rw [size_list]; exact hp)
      have hbd := told_bd (s.data.toList.drop p)
      have k0 : (0 : Int) ≤ p := by omega
      have k1 : (p : Int) ≤ s.size := by omega
      have hit2 := Lib.iterAt_heap wr w.heap.size s p (p + (dec (s.data.toList.drop p)).2) hit
      have hbw2 := Lib.below_iterAt hbw (k := w.heap.size) (Nat.le_refl _) s (p + (dec (s.data.toList.drop p)).2)
      obtain ⟨W1, hW1⟩ : ∃ W1, W1 = wr.iterAt w.heap.size s (p + (dec (s.data.toList.drop p)).2) := ⟨_, rfl⟩
      rw [← hW1] at hnx hit2 hbw2
      clear hW1 hit hbw
      have CW := Lib.hid (isWrong_any (s.extract p s.size) (told (dec (s.data.toList.drop p)).1) W1 (by omega))
      obtain ⟨hwd1, hwd2, hwd3⟩ := hwd
      by_cases hd : (dec (s.data.toList.drop p)).1 = -1
      · rw [wrong_yes s p hd] at CW
        have N : Hid (stemL (runes s.data.toList) = false) := stemAt_no _ p _ _ HR.out RS (by rw [hd]; unfold okAt; split <;> rfl)
        clear RS hd
        generalize (dec (s.data.toList.drop p)).2 = k at *
        generalize told (dec (s.data.toList.drop p)).1 = r at *
        go_wp2_with (first | (go_at_call 66; refine CW.out.mono ?_; rintro e w' ⟨rfl, rfl⟩))
        go_ret
        exact ⟨ret_bool N.out.symm, hbw2⟩
      · rw [wrong_no s p hd] at CW
        rw [told_right _ hd] at *
        have Yes := Lib.hid (fun ho => stemAt_yes _ p _ _ HR.out RS hwd1 ho)
        have No := Lib.hid (fun ho => stemAt_no _ p _ _ HR.out RS ho)
        clear RS hd
        generalize (dec (s.data.toList.drop p)).2 = k at *
        generalize (dec (s.data.toList.drop p)).1 = r at *
        have L := Lib.hid (isLetter_any r W1 (by omega))
        have D := Lib.hid (isDigit_any r W1 (by omega))
        cases hl : letterB r with
        | true =>
          rw [hl] at L
          have K := Lib.hid (Yes.out (by unfold okAt; split <;> simp [hl, bodyB]))
          clear hl
          go_wp2_with (first | (go_at_call 66; refine CW.out.mono ?_; rintro e w' ⟨rfl, rfl⟩) | (go_at_call 67; refine L.out.mono ?_; rintro e w' ⟨rfl, rfl⟩))
          go_roundw
          case rel => exact ⟨p + k, hit2, hbw2, by omega, K.out⟩
          case measure => rw [iterPos_of hit2, hpos0]; omega
        | false =>
          rw [hl] at L
          by_cases h0 : p = 0
          · have K := Lib.hid (No.out (by unfold okAt; rw [if_pos h0, hl]))
            have h0' : ((p : Int) == 0) = true := by simp [h0]
            clear hl h0
            go_wp2_with (first | (go_at_call 66; refine CW.out.mono ?_; rintro e w' ⟨rfl, rfl⟩) | (go_at_call 67; refine L.out.mono ?_; rintro e w' ⟨rfl, rfl⟩))
            go_ret
            exact ⟨ret_bool K.out.symm, hbw2⟩
          · have h0' : ((p : Int) == 0) = false := by simp; omega
            cases hdg : digitB r with
            | true =>
              rw [hdg] at D
              have K := Lib.hid (Yes.out (by unfold okAt; rw [if_neg h0]; simp [hdg, bodyB]))
              clear hl h0 hdg
              go_wp2_with (first | (go_at_call 66; refine CW.out.mono ?_; rintro e w' ⟨rfl, rfl⟩) | (go_at_call 67; refine L.out.mono ?_; rintro e w' ⟨rfl, rfl⟩) | (go_at_call 68; refine D.out.mono ?_; rintro e w' ⟨rfl, rfl⟩))
              go_roundw
              case rel => exact ⟨p + k, hit2, hbw2, by omega, K.out⟩
              case measure => rw [iterPos_of hit2, hpos0]; omega
            | false =>
              rw [hdg] at D
              by_cases h95 : r = 95
              · have h95' : (r != 95) = false := by simp [h95]
                have K := Lib.hid (Yes.out (by unfold okAt; rw [if_neg h0]; simp [h95, bodyB]))
                clear hl h0 hdg h95
                go_wp2_with (first | (go_at_call 66; refine CW.out.mono ?_; rintro e w' ⟨rfl, rfl⟩) | (go_at_call 67; refine L.out.mono ?_; rintro e w' ⟨rfl, rfl⟩) | (go_at_call 68; refine D.out.mono ?_; rintro e w' ⟨rfl, rfl⟩))
                go_roundw
                case rel => exact ⟨p + k, hit2, hbw2, by omega, K.out⟩
                case measure => rw [iterPos_of hit2, hpos0]; omega
              · have h95' : (r != 95) = true := by simpa using h95
                have K := Lib.hid (No.out (by unfold okAt; rw [if_neg h0]; simp [hl, hdg, h95, bodyB]))
                clear hl h0 hdg h95
                go_wp2_with (first | (go_at_call 66; refine CW.out.mono ?_; rintro e w' ⟨rfl, rfl⟩) | (go_at_call 67; refine L.out.mono ?_; rintro e w' ⟨rfl, rfl⟩) | (go_at_call 68; refine D.out.mono ?_; rintro e w' ⟨rfl, rfl⟩))
                go_ret
                exact ⟨ret_bool K.out.symm, hbw2⟩
    · have hnx := fun ty => Lib.run_next_end_at (P := Try.prog) wr w.heap.size s p ty hit hp
      have HE := Lib.hid (stemAt_end s.data.toList p HR.out (by rw [size_list]; exact hps) (by rw [size_list]; exact hp))
      clear hit
      go_wp2_with fail
      go_ret
      refine ⟨ret_bool ?_, hbw⟩
      rw [HE.out, Lib.toList_data]
      cases s.data.toList <;> simp

theorem verF_at (l : List UInt8) (k v : Nat) (h : k < l.length) : verF v (l.drop k) = if 48 ≤ bt l k ∧ bt l k ≤ 57 then (if 10 * v + (bt l k - 48) = 0 ∨ 999 < 10 * v + (bt l k - 48) then 0 else verF (10 * v + (bt l k - 48)) (l.drop (k + 1))) else 0 := by
  obtain ⟨c, e, hc⟩ := drop_bt l k h
  rw [e, ← hc]
  rfl
theorem verF_end (l : List UInt8) (k v : Nat) (h : ¬ k < l.length) : verF v (l.drop k) = v := by
  rw [List.drop_eq_nil_of_le (by omega)]; rfl
/-- a digit's rune is its byte -/
theorem digit_rune (l : List UInt8) (p : Nat) : digitB (told (dec (l.drop p)).1) = decide (48 ≤ bt l p ∧ bt l p ≤ 57) ∧ (48 ≤ bt l p ∧ bt l p ≤ 57 → told (dec (l.drop p)).1 = (bt l p : Nat) ∧ (dec (l.drop p)).2 = 1) := by
  have e : bt (l.drop p) 0 = bt l p := by rw [bt_drop]; rfl
  rcases dec_kind (l.drop p) with ⟨h1, h2⟩ | ⟨h1, h2⟩
  · rw [h2, e]
    rw [e] at h1
    have ht : told ((bt l p : Nat) : Int) = (bt l p : Nat) := by unfold told; rw [if_neg (by omega)]
    simp only []
    rw [ht]
    refine ⟨?_, fun _ => ⟨rfl, by trivial⟩⟩
    unfold digitB
    rw [Bool.eq_iff_iff]
    simp only [decide_eq_true_eq]
    omega
  · rw [e] at h1
    refine ⟨?_, fun h => by omega⟩
    have ht : 128 ≤ told (dec (l.drop p)).1 := by
      rcases h2 with ⟨h2, _⟩ | ⟨h2, _⟩
      · rw [h2]; unfold told; simp
      · unfold told; rw [if_neg (by omega)]; exact h2
    unfold digitB
    rw [Bool.eq_iff_iff]
    simp only [decide_eq_true_eq]
    omega
/-- what parseVersion tells -/
theorem parseVersion_any (s : ByteArray) (w : World) (hs : s.size ≤ 9223372036854775807) :
    Calls Try.prog 59 #[.string s] w fun e w' => e = .returned (.tuple #[.int .i64 (ver s.data.toList : Nat), .bool (decide (ver s.data.toList ≠ 0))]) ∧ Below w.heap.size w w' := by
  go_enter Try.func59, Try.ntmps59
  go_wp2_with fail
  go_loopw [4, 6] (fun a _ wr => ∃ p v : Nat, a = .int .i64 v ∧ wr.heap[w.heap.size]? = some (.stringIter s p) ∧ Below w.heap.size w wr ∧ p ≤ s.size ∧ v ≤ 999 ∧ Hid (verF v (s.data.toList.drop p) = ver s.data.toList)) (fun _ _ wr => s.size - wr.iterPos w.heap.size)
  case atStart => exact ⟨0, 0, rfl, World.iter_heap w s 0, (Below.refl _ _).alloc (Nat.le_refl _) _, by omega, by omega, by show _ = _; rfl⟩
  case round =>
    obtain ⟨p, v, rfl, hit, hbw, hps, hv, HR⟩ := hrel
    have hpos0 := iterPos_of hit
    by_cases hp : p < s.size
    · have hnx := next_at (P := Try.prog) wr w.heap.size s p hit hp
      have RS := verF_at s.data.toList p v (by rw [size_list]; exact hp)
      have hbd := told_bd (s.data.toList.drop p)
      have hdr := digit_rune s.data.toList p
      have hit2 := Lib.iterAt_heap wr w.heap.size s p (p + (dec (s.data.toList.drop p)).2) hit
      have hbw2 := Lib.below_iterAt hbw (k := w.heap.size) (Nat.le_refl _) s (p + (dec (s.data.toList.drop p)).2)
      obtain ⟨W1, hW1⟩ : ∃ W1, W1 = wr.iterAt w.heap.size s (p + (dec (s.data.toList.drop p)).2) := ⟨_, rfl⟩
      rw [← hW1] at hnx hit2 hbw2
      clear hW1 hit hbw
      have D := Lib.hid (isDigit_any (told (dec (s.data.toList.drop p)).1) W1 (by omega))
      by_cases hd : 48 ≤ bt s.data.toList p ∧ bt s.data.toList p ≤ 57
      · rw [if_pos hd] at RS
        obtain ⟨e1, e2⟩ := hdr.2 hd
        rw [hdr.1, decide_eq_true hd] at D
        rw [e1] at D hnx
        rw [e2] at hit2
        clear hdr hbd e1 e2
        generalize (dec (s.data.toList.drop p)).2 = k at *
        generalize bt s.data.toList p = b at *
        obtain ⟨hd1, hd2⟩ := hd
        have b1 : (48 : Int) ≤ b := by omega
        have b2 : (b : Int) ≤ 57 := by omega
        have HRS := Lib.hid RS
        clear RS
        by_cases hz : 10 * v + (b - 48) = 0 ∨ 999 < 10 * v + (b - 48)
        · have E : Hid (ver s.data.toList = 0) := by have := HRS.out; rw [if_pos hz] at this; exact HR.out.symm.trans this
          rcases hz with hz | hz
          · have v0 : v = 0 := by omega
            have b0 : b = 48 := by omega
            subst v0 b0
            clear hz
            go_wp2_with (first | (go_at_call 68; refine D.out.mono ?_; rintro e w' ⟨rfl, rfl⟩))
            go_ret2
            exact ⟨by rw [E.out]; rfl, hbw2⟩
          · have z1 : 999 < 10 * (v : Int) + ((b : Int) - 48) := by omega
            have z2 : (10 * (v : Int) + ((b : Int) - 48) == 0) = false := by simp; omega
            clear hz
            go_wp2_with (first | (go_at_call 68; refine D.out.mono ?_; rintro e w' ⟨rfl, rfl⟩))
            go_ret2
            exact ⟨by rw [E.out]; rfl, hbw2⟩
        · have E : Hid (verF (10 * v + (b - 48)) (s.data.toList.drop (p + 1)) = ver s.data.toList) := by have := HRS.out; rw [if_neg hz] at this; exact this.symm.trans HR.out
          have z1 : ¬ 999 < 10 * (v : Int) + ((b : Int) - 48) := by omega
          have z2 : (10 * (v : Int) + ((b : Int) - 48) == 0) = false := by simp; omega
          have z3 : 10 * v + (b - 48) ≤ 999 := by omega
          clear hz
          go_wp2_with (first | (go_at_call 68; refine D.out.mono ?_; rintro e w' ⟨rfl, rfl⟩))
          go_roundw
          case rel => exact ⟨p + 1, 10 * v + (b - 48), by go_num, hit2, hbw2, by omega, z3, E⟩
          case measure => rw [iterPos_of hit2, hpos0]; omega
      · rw [if_neg hd] at RS
        rw [hdr.1, decide_eq_false hd] at D
        have E : Hid (ver s.data.toList = 0) := HR.out.symm.trans RS
        clear hdr RS
        generalize (dec (s.data.toList.drop p)).2 = k at *
        generalize told (dec (s.data.toList.drop p)).1 = r at *
        clear hd
        go_wp2_with (first | (go_at_call 68; refine D.out.mono ?_; rintro e w' ⟨rfl, rfl⟩))
        go_ret2
        exact ⟨by rw [E.out]; rfl, hbw2⟩
    · have hnx := fun ty => Lib.run_next_end_at (P := Try.prog) wr w.heap.size s p ty hit hp
      have HE := Lib.hid (verF_end s.data.toList p v (by rw [size_list]; exact hp))
      have E : Hid (ver s.data.toList = v) := HR.out.symm.trans HE.out
      clear hit
      by_cases hv0 : 0 < v
      · have hv1 : 0 < (v : Int) := by omega
        go_wp2_with fail
        go_ret2
        exact ⟨by rw [E.out, decide_eq_true (by omega)]; rfl, hbw⟩
      · have hv1 : v = 0 := by omega
        subst hv1
        go_wp2_with fail
        go_ret2
        exact ⟨by rw [E.out]; rfl, hbw⟩
end Go.Proofs.Ytleggfofgpiabaa.NF

/-
  Package name, call by call: what stands about the @, names, stems and versions, order. And the reference's.
-/
namespace Go.Proofs.Ytleggfofgpiabaa.NF
open Go.RowKit NM

theorem clone_any (s : ByteArray) (w : World) (hs : s.size ≤ 281474976710656) :
    Calls Try.prog 24 #[.string s] w fun e w' => e = .returned (.string s) ∧ Below w.heap.size w w' := by
  have C := Lib.hid (Try.stringslite_Clone s w hs)
  go_enter Try.func24, Try.ntmps24
  go_wp2_with (go_at_call 36; refine C.out.mono ?_; rintro e w' ⟨rfl, hb⟩)
  go_ret
  exact ⟨rfl, hb⟩
/-- the text of one @ -/
def atText : ByteArray := ⟨#[64]⟩
theorem index_yes (s : ByteArray) (w : World) (h : hasAt s.data.toList = true) :
    Calls Try.prog 70 #[.string s, .string ⟨#[64]⟩] w fun e w' => e = .returned (.int .i64 ((pre s.data.toList).length : Nat)) ∧ w = w' := by
  have C := Try.stringslite_Index_one s 64 w
  rw [index_some _ h] at C
  exact C.mono fun e w' ⟨he, hw⟩ => ⟨he, hw.symm⟩
theorem index_no (s : ByteArray) (w : World) (h : hasAt s.data.toList = false) :
    Calls Try.prog 70 #[.string s, .string ⟨#[64]⟩] w fun e w' => e = .returned (.int .i64 (-1)) ∧ w = w' := by
  have C := Try.stringslite_Index_one s 64 w
  rw [index_none _ h] at C
  exact C.mono fun e w' ⟨he, hw⟩ => ⟨he, hw.symm⟩
theorem slCut_yes (s : ByteArray) (w : World) (hs : s.size ≤ 9223372036854775807) (h : hasAt s.data.toList = true) :
    Calls Try.prog 65 #[.string s, .string ⟨#[64]⟩] w fun e w' => e = .returned (.tuple #[.string (bs (pre s.data.toList)), .string (bs (post s.data.toList)), .bool true]) ∧ ∃ n, w' = w.drewN n := by
  have C := Lib.hid (index_yes s w h)
  have E1 := Lib.hid (extract_pre s)
  have E2 := Lib.hid (extract_post s h)
  have hl := pre_len _ h
  rw [size_list] at hl
  clear h
  generalize (pre s.data.toList).length = k at C E1 E2 hl
  have k0 : (0 : Int) ≤ k := by omega
  have k1 : (k : Int) ≤ s.size := by omega
  have q1 : IntKind.i64.wrap ((k : Int) + 1) = (k : Int) + 1 := IntWalk.i64_in _ (by omega)
  have q2 : (0 : Int) ≤ (k : Int) + 1 := by omega
  have q3 : (k : Int) + 1 ≤ s.size := by omega
  have q4 : ((k : Int) + 1).toNat = k + 1 := by omega
  go_enter Try.func65, Try.ntmps65
  go_wp2_with (go_at_call 70; refine C.out.mono ?_; rintro e w' ⟨rfl, rfl⟩)
  go_quiet (fail)
  clear q1 q2 q3 q4
  go_wp2
  exact bodyPost_ret (v := .tuple #[.string (s.extract 0 k), .string (s.extract (k + 1) s.size), .bool true]) (by simp [results, Try.results65, go_sem]) rfl ⟨by rw [E1.out, E2.out], _, rfl⟩
theorem slCut_no (s : ByteArray) (w : World) (hs : s.size ≤ 9223372036854775807) (h : hasAt s.data.toList = false) :
    Calls Try.prog 65 #[.string s, .string ⟨#[64]⟩] w fun e w' => e = .returned (.tuple #[.string s, .string (bs []), .bool false]) ∧ ∃ n, w' = w.drewN n := by
  have C := Lib.hid (index_no s w h)
  clear h
  go_enter Try.func65, Try.ntmps65
  go_wp2_with (go_at_call 70; refine C.out.mono ?_; rintro e w' ⟨rfl, rfl⟩)
  exact bodyPost_ret (v := .tuple #[.string s, .string (bs []), .bool false]) (by simp [results, Try.results65, go_sem, bs]) rfl ⟨rfl, 0, rfl⟩
/-- what both ways through Cut share -/
def cutL (l : List UInt8) : Value := if hasAt l then .tuple #[.string (bs (pre l)), .string (bs (post l)), .bool true] else .tuple #[.string (bs (pre l)), .string (bs []), .bool false]
theorem cut_yes (s : ByteArray) (w : World) (hs : s.size ≤ 9223372036854775807) (h : hasAt s.data.toList = true) :
    Calls Try.prog 57 #[.string s, .string ⟨#[64]⟩] w fun e w' => e = .returned (.tuple #[.string (bs (pre s.data.toList)), .string (bs (post s.data.toList)), .bool true]) ∧ ∃ n, w' = w.drewN n := by
  have C := Lib.hid (slCut_yes s w hs h)
  clear h
  go_enter Try.func57, Try.ntmps57
  go_wp2_with (go_at_call 65; refine C.out.mono ?_; rintro e w' ⟨rfl, hb⟩)
  exact bodyPost_ret (v := .tuple #[.string (bs (pre s.data.toList)), .string (bs (post s.data.toList)), .bool true]) (by simp [results, Try.results57, go_sem]) rfl ⟨rfl, hb⟩
theorem cut_no (s : ByteArray) (w : World) (hs : s.size ≤ 9223372036854775807) (h : hasAt s.data.toList = false) :
    Calls Try.prog 57 #[.string s, .string ⟨#[64]⟩] w fun e w' => e = .returned (.tuple #[.string s, .string (bs []), .bool false]) ∧ ∃ n, w' = w.drewN n := by
  have C := Lib.hid (slCut_no s w hs h)
  clear h
  go_enter Try.func57, Try.ntmps57
  go_wp2_with (go_at_call 65; refine C.out.mono ?_; rintro e w' ⟨rfl, hb⟩)
  exact bodyPost_ret (v := .tuple #[.string s, .string (bs []), .bool false]) (by simp [results, Try.results57, go_sem]) rfl ⟨rfl, hb⟩
end Go.Proofs.Ytleggfofgpiabaa.NF
