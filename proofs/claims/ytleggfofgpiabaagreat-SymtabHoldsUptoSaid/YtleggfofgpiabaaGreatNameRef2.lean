/-
  The reference for layer 2: versions, what stands about the @, names.
-/
import Derived.Test.YtleggfofgpiabaaGreatNameRef
set_option linter.unusedSimpArgs false
set_option linter.unusedVariables false
namespace Go.Proofs.YtleggfofgpiabaaGreat.NF
open Go.RowKit NM

theorem drop_bt (l : List UInt8) (k : Nat) (h : k < l.length) : ∃ c : UInt8, l.drop k = c :: l.drop (k + 1) ∧ c.toNat = bt l k := by
  refine ⟨l[k], List.drop_eq_getElem_cons h, ?_⟩
  unfold bt
  rw [List.getD_eq_getElem?_getD, List.getElem?_eq_getElem h]
  rfl
theorem verG_at (l : List UInt8) (k v : Nat) (h : k < l.length) : verG v (l.drop k) = if 48 ≤ bt l k ∧ bt l k ≤ 57 then verG (10 * v + (bt l k - 48)) (l.drop (k + 1)) else 0 := by
  obtain ⟨c, e, hc⟩ := drop_bt l k h
  rw [e, ← hc]
  rfl
theorem verG_end (l : List UInt8) (k v : Nat) (h : ¬ k < l.length) : verG v (l.drop k) = v := by
  rw [List.drop_eq_nil_of_le (by omega)]; rfl
theorem refVersion_any (s : ByteArray) (w : World) (hs : s.size ≤ 9223372036854775807) :
    Calls Tryz.prog 58 #[.string s] w fun e w' => e = .returned (.int .i64 (ver s.data.toList : Nat)) ∧ w = w' := by
  have HV := Lib.hid (ver_ref s.data.toList)
  by_cases h1 : s.size = 0
  · have E : Hid (ver s.data.toList = 0) := by
      show _ = _
      rw [ver_ref]
      unfold verR
      rw [if_pos (by rw [size_list]; omega)]
    have h1' : (s.size : Int) < 1 := by omega
    clear h1
    go_enter Tryz.func58, Tryz.ntmps58
    go_wp2_with fail
    go_ret
    exact ⟨ret_int (by rw [E.out]; rfl), rfl⟩
  · by_cases h3 : 3 < s.size
    · have E : Hid (ver s.data.toList = 0) := by
        show _ = _
        rw [ver_ref]
        unfold verR
        rw [if_pos (by rw [size_list]; omega)]
      have h1' : 1 ≤ (s.size : Int) := by omega
      have h3' : 3 < (s.size : Int) := by omega
      clear h1 h3
      go_enter Tryz.func58, Tryz.ntmps58
      go_wp2_with fail
      go_ret
      exact ⟨ret_int (by rw [E.out]; rfl), rfl⟩
    · have h1' : 1 ≤ (s.size : Int) := by omega
      have h3' : (s.size : Int) ≤ 3 := by omega
      have hz : 0 < s.size := by omega
      have hz' : (0 : Int) < s.size := by omega
      have hb := byte_at s 0 hz
      by_cases h48 : bt s.data.toList 0 = 48
      · have E : Hid (ver s.data.toList = 0) := by
          show _ = _
          rw [ver_ref]
          unfold verR
          rw [if_pos (by omega)]
        have h48' : (((bt s.data.toList 0 : Nat) : Int) == 48) = true := by simp [h48]
        clear h1 h3 h48
        go_enter Tryz.func58, Tryz.ntmps58
        go_wp2_with fail
        go_ret
        exact ⟨ret_int (by rw [E.out]; rfl), rfl⟩
      · have E : Hid (ver s.data.toList = verG 0 s.data.toList) := by
          show _ = _
          rw [ver_ref]
          unfold verR
          rw [if_neg (by rw [size_list]; omega)]
        have h48' : (((bt s.data.toList 0 : Nat) : Int) == 48) = false := by simp; omega
        clear h1 h48
        go_enter Tryz.func58, Tryz.ntmps58
        go_wp2_with fail
        clear hb h48'
        go_loop [3, 4] (fun a i => ∃ k v : Nat, k ≤ s.size ∧ i = .int .i64 k ∧ a = .int .i64 v ∧ Hid (v < 10 ^ k) ∧ Hid (verG v (s.data.toList.drop k) = verG 0 s.data.toList)) (fun _ i => s.size - (intOf i).toNat)
        case atStart => exact ⟨0, 0, by omega, rfl, rfl, by show _ < _; simp, by show _ = _; rfl⟩
        case round =>
          obtain ⟨k, v, hk, rfl, rfl, HB, HG⟩ := hrel
          by_cases hlt : k < s.size
          · have hlt' : (k : Int) < s.size := by omega
            have hb := byte_at s k hlt
            have hb256 := bt_lt s.data.toList k
            have hv : v ≤ 99 := by
              have h2 := HB.out
              have : 10 ^ k ≤ 10 ^ 2 := Nat.pow_le_pow_right (by omega) (by omega)
              omega
            have S := HG.out
            rw [verG_at _ _ _ (by rw [size_list]; exact hlt)] at S
            have HB2 : Hid (bt s.data.toList k ≤ 57 → 10 * v + (bt s.data.toList k - 48) < 10 ^ (k + 1)) := fun h => by have := HB.out; rw [Nat.pow_succ]; omega
            generalize bt s.data.toList k = b at *
            have HS := Lib.hid S
            clear S HG
            have D := Lib.hid (refDigit_any b w)
            by_cases hd : 48 ≤ b ∧ b ≤ 57
            · have hdb : digitB b = true := by unfold digitB; simp; omega
              rw [hdb] at D
              clear hdb
              obtain ⟨hd1, hd2⟩ := hd
              have K : Hid (verG (10 * v + (b - 48)) (s.data.toList.drop (k + 1)) = verG 0 s.data.toList) := by have := HS.out; rwa [if_pos ⟨hd1, hd2⟩] at this
              have hd1' : (48 : Int) ≤ b := by omega
              have hd2' : (b : Int) ≤ 57 := by omega
              go_wp2_with (first | (go_at_call 86; refine D.out.mono ?_; rintro e w' ⟨rfl, rfl⟩))
              go_roundw
              case rel => exact ⟨k + 1, 10 * v + (b - 48), by omega, by go_num, by go_num, HB2.out hd2, K⟩
              case measure => simp [intOf]; omega
            · have hdb : digitB b = false := by unfold digitB; simp; omega
              rw [hdb] at D
              clear hdb
              have K : Hid (0 = verG 0 s.data.toList) := by have := HS.out; rwa [if_neg hd] at this
              clear hd
              go_wp2_with (first | (go_at_call 86; refine D.out.mono ?_; rintro e w' ⟨rfl, rfl⟩))
              go_ret
              exact ⟨ret_int (by rw [E.out, ← K.out]; rfl), rfl⟩
          · have hn : ¬ (k : Int) < s.size := by omega
            have K := HG.out
            rw [verG_end _ _ _ (by rw [size_list]; exact hlt)] at K
            have HK := Lib.hid K
            clear K
            go_wp2_with fail
            go_ret
            exact ⟨ret_int (by rw [E.out, ← HK.out]), rfl⟩
theorem pre_here (l : List UInt8) (k : Nat) (h : k < l.length) (hp : k ≤ (pre l).length) (hb : bt l k = 64) : (pre l).length = k ∧ hasAt l = true := by
  have ha : hasAt l = true := by
    cases ha : hasAt l with
    | true => rfl
    | false =>
      exfalso
      obtain ⟨c, e, hc⟩ := drop_bt l k h
      have hm : c ∈ l := List.mem_of_mem_drop (i := k) (by rw [e]; exact List.mem_cons_self)
      have e64 : c = 64 := UInt8.toNat_inj.1 (by rw [hc, hb]; rfl)
      unfold hasAt at ha
      subst e64
      have : l.contains 64 = true := List.contains_iff_mem.2 hm
      rw [ha] at this
      cases this
  refine ⟨?_, ha⟩
  rcases Nat.lt_or_ge k (pre l).length with h' | h'
  · exfalso
    have e := take_pre l
    have h1 : bt (pre l) k = bt l k := by
      have e3 : (l.take (pre l).length)[k]? = l[k]? := by rw [List.getElem?_take, if_pos h']
      rw [e] at e3
      unfold bt
      rw [List.getD_eq_getElem?_getD, List.getD_eq_getElem?_getD, e3]
    obtain ⟨c, e2, hc⟩ := drop_bt (pre l) k h'
    have hm : c ∈ pre l := List.mem_of_mem_drop (i := k) (by rw [e2]; exact List.mem_cons_self)
    have e64 : c = 64 := UInt8.toNat_inj.1 (by rw [hc, h1, hb]; rfl)
    have h3 := pre_hasAt l
    unfold hasAt at h3
    subst e64
    have : (pre l).contains 64 = true := List.contains_iff_mem.2 hm
    rw [h3] at this
    cases this
  · omega
theorem pre_next (l : List UInt8) (k : Nat) (h : k < l.length) (hp : k ≤ (pre l).length) (hb : bt l k ≠ 64) : k + 1 ≤ (pre l).length := by
  rcases Nat.lt_or_ge k (pre l).length with h' | h'
  · exact h'
  · exfalso
    have ek : (pre l).length = k := by omega
    have e := pre_eq l
    cases ha : hasAt l with
    | true =>
      rw [if_pos ha] at e
      apply hb
      have : bt (pre l ++ 64 :: post l) (pre l).length = 64 := by
        unfold bt
        rw [List.getD_eq_getElem?_getD, List.getElem?_append_right (Nat.le_refl _)]
        simp
      rwa [← e, ek] at this
    | false =>
      rw [(pre_none l ha).1] at ek
      omega
theorem pre_all (l : List UInt8) (hp : l.length ≤ (pre l).length) : hasAt l = false := by
  cases ha : hasAt l with
  | true => have := pre_len l ha; omega
  | false => rfl
theorem refParts_yes (s : ByteArray) (w : World) (hs : s.size ≤ 9223372036854775807) (h : hasAt s.data.toList = true) :
    Calls Tryz.prog 56 #[.string s] w fun e w' => e = .returned (.tuple #[.string (bs (pre s.data.toList)), .string (bs (post s.data.toList)), .bool true]) ∧ ∃ n, w' = w.drewN n := by
  have H := Lib.hid h
  clear h
  go_enter Tryz.func56, Tryz.ntmps56
  go_wp2_with fail
  go_loop [5] (fun i => ∃ k : Nat, k ≤ s.size ∧ i = .int .i64 k ∧ Hid (k ≤ (pre s.data.toList).length)) (fun i => s.size - (intOf i).toNat)
  case atStart => exact ⟨0, by omega, rfl, Nat.zero_le _⟩
  case round =>
    obtain ⟨k, hk, rfl, HP⟩ := hrel
    by_cases hlt : k < s.size
    · have hlt' : (k : Int) < s.size := by omega
      have hb := byte_at s k hlt
      have k0 : (0 : Int) ≤ k := by omega
      have k1 : (k : Int) ≤ s.size := by omega
      by_cases h64 : bt s.data.toList k = 64
      · have h64' : (((bt s.data.toList k : Nat) : Int) == 64) = true := by simp [h64]
        have P := pre_here _ k (by rw [size_list]; exact hlt) HP.out h64
        have E1 := extract_pre s
        have E2 := extract_post s H.out
        rw [P.1] at E1 E2
        have HE1 := Lib.hid E1
        have HE2 := Lib.hid E2
        have q1 : IntKind.i64.wrap ((k : Int) + 1) = (k : Int) + 1 := IntWalk.i64_in _ (by omega)
        have q2 : (0 : Int) ≤ (k : Int) + 1 := by omega
        have q3 : (k : Int) + 1 ≤ s.size := by omega
        have q4 : ((k : Int) + 1).toNat = k + 1 := by omega
        clear E1 E2 h64 P
        go_wp2_with fail
        go_quiet (fail)
        clear q1 q2 q3 q4
        go_wp2
        exact bodyPost_ret (v := .tuple #[.string (s.extract 0 k), .string (s.extract (k + 1) s.size), .bool true]) (by simp [results, Tryz.results56, go_sem]) rfl ⟨by rw [HE1.out, HE2.out], _, rfl⟩
      · have h64' : (((bt s.data.toList k : Nat) : Int) == 64) = false := by simp; omega
        have P := Lib.hid (pre_next _ k (by rw [size_list]; exact hlt) HP.out h64)
        clear h64
        go_wp2_with fail
        go_roundw
        case rel => exact ⟨k + 1, by omega, by go_num, P.out⟩
        case measure => simp [intOf]; omega
    · exfalso
      have := pre_all s.data.toList (by rw [size_list]; have := HP.out; omega)
      rw [H.out] at this
      cases this
theorem refParts_no (s : ByteArray) (w : World) (hs : s.size ≤ 9223372036854775807) (h : hasAt s.data.toList = false) :
    Calls Tryz.prog 56 #[.string s] w fun e w' => e = .returned (.tuple #[.string s, .string (bs []), .bool false]) ∧ ∃ n, w' = w.drewN n := by
  have H := Lib.hid h
  clear h
  go_enter Tryz.func56, Tryz.ntmps56
  go_wp2_with fail
  go_loop [5] (fun i => ∃ k : Nat, k ≤ s.size ∧ i = .int .i64 k ∧ Hid (k ≤ (pre s.data.toList).length)) (fun i => s.size - (intOf i).toNat)
  case atStart => exact ⟨0, by omega, rfl, Nat.zero_le _⟩
  case round =>
    obtain ⟨k, hk, rfl, HP⟩ := hrel
    by_cases hlt : k < s.size
    · have hlt' : (k : Int) < s.size := by omega
      have hb := byte_at s k hlt
      by_cases h64 : bt s.data.toList k = 64
      · exfalso
        have P := pre_here _ k (by rw [size_list]; exact hlt) HP.out h64
        rw [H.out] at P
        cases P.2
      · have h64' : (((bt s.data.toList k : Nat) : Int) == 64) = false := by simp; omega
        have P := Lib.hid (pre_next _ k (by rw [size_list]; exact hlt) HP.out h64)
        clear h64
        go_wp2_with fail
        go_roundw
        case rel => exact ⟨k + 1, by omega, by go_num, P.out⟩
        case measure => simp [intOf]; omega
    · have hn : ¬ (k : Int) < s.size := by omega
      go_wp2_with fail
      exact bodyPost_ret (v := .tuple #[.string s, .string (bs []), .bool false]) (by simp [results, Tryz.results56, go_sem, bs]) rfl ⟨rfl, 0, rfl⟩
end Go.Proofs.YtleggfofgpiabaaGreat.NF
