/-
  The law AsmIdle, walked.
-/
import Derived.Test.YtoohfmkhjhcopaaGreatDoorAsmWAgain
set_option linter.unusedSimpArgs false
set_option linter.unusedVariables false
namespace Go.Proofs.YtoohfmkhjhcopaaGreatDoor.WK
open Go.RowKit WM IM WF IF AM AF NR

theorem idle_far (n cap : Nat) (a : Option Addr) (R : ByteArray) (hcap : n ≤ cap) (hcm : cap ≤ 2 ^ 63 - 1) (hR : R.size ≤ 140737488355328) (hn : 100 < n ∨ 100 < R.size) (w : World) (T : Tab w) :
    Calls Tryz.prog 7 #[.slice a n cap, .string R] w fun e w' => e = .returned (.bool true) ∧ Below w.heap.size w w' := by
  have HA := Lib.hid aA
  have HT := Lib.hid T
  clear T
  by_cases h : 100 < n
  · clear hn
    go_enter Tryz.func7, Tryz.ntmps7
    go_wp2_with (go_at_call 12; refine (HA.out _ HT.out).mono ?_; rintro e w3 ⟨rfl, hb3⟩)
    go_ret
    exact ⟨rfl, hb3⟩
  · have h2 : 100 < R.size := by omega
    clear hn
    go_enter Tryz.func7, Tryz.ntmps7
    go_wp2_with (go_at_call 12; refine (HA.out _ HT.out).mono ?_; rintro e w3 ⟨rfl, hb3⟩)
    go_ret
    exact ⟨rfl, hb3⟩
theorem bt_list {R : ByteArray} {k : Nat} (h : k < R.data.toList.length) : bt R k = ((R.data.toList[k]'h).toNat : Int) := by
  unfold bt
  rw [List.getD_eq_getElem?_getD, List.getElem?_eq_getElem h]
  rfl
theorem ten_step {l : List UInt8} {k : Nat} (h : 10 ∉ l.take k) (hk : k < l.length) (h2 : ((l[k]'hk).toNat : Int) ≠ 10) : 10 ∉ l.take (k + 1) := by
  rw [List.take_succ_eq_append_getElem hk]
  simp only [List.mem_append, List.mem_singleton, not_or]
  exact ⟨h, fun e => h2 (by rw [← e]; rfl)⟩
/-- the text as far as the lines of words have been gone over: A where the line begins, q the byte -/
def Mid (L : List Int) (r : List UInt8) (A q : Nat) (X : ByteArray) : Prop := ∃ n p, n ≤ L.length ∧ A = (wls (L.take n)).length ∧ q = A + p ∧ p ≤ (wls (L.drop n)).length ∧ 10 ∉ (wls (L.drop n)).take p ∧ X = bs (iT r (L.take n))
section
variable {L : List Int} {r : List UInt8} {A q : Nat} {X : ByteArray}
theorem mid_start : Mid L r 0 0 ⟨#[]⟩ := ⟨0, 0, by omega, rfl, rfl, by omega, by simp, rfl⟩
theorem mid_bd (hb : ∀ x ∈ L, 0 ≤ x ∧ x ≤ 4294967295) (hl : L.length ≤ 100) (hr : r.length ≤ 100) (h : Mid L r A q X) : A ≤ q ∧ q ≤ (bs (wls L)).size ∧ X.size ≤ 13200 := by
  obtain ⟨n, p, h1, rfl, rfl, h4, h5, rfl⟩ := h
  have hsl := congrArg List.length (wls_split L n)
  rw [List.length_append] at hsl
  rw [bs_size, bs_size]
  refine ⟨by omega, by omega, ?_⟩
  have h1 := iT_len r (L.take n) (fun x hx => hb x (List.mem_of_mem_take hx))
  have h2 : (L.take n).length ≤ 100 := by rw [List.length_take]; omega
  exact Nat.le_trans h1 (Nat.le_trans (Nat.mul_le_mul (by omega : 32 + r.length ≤ 132) h2) (by omega))
theorem mid_at {n p : Nat} (hlt : p < (wls (L.drop n)).length) : bt (bs (wls L)) ((wls (L.take n)).length + p) = (((wls (L.drop n))[p]'hlt).toNat : Int) := by
  unfold bt
  rw [bs_list, List.getD_eq_getElem?_getD, wls_split L n, List.getElem?_append_right (by omega), Nat.add_sub_cancel_left, List.getElem?_eq_getElem hlt]
  rfl
theorem mid_no (h : Mid L r A q X) (hq : q < (bs (wls L)).size) (h10 : bt (bs (wls L)) q ≠ 10) : Mid L r A (q + 1) X := by
  obtain ⟨n, p, h1, rfl, rfl, h4, h5, rfl⟩ := h
  have hsl := congrArg List.length (wls_split L n)
  rw [List.length_append] at hsl
  rw [bs_size] at hq
  have hlt : p < (wls (L.drop n)).length := by omega
  refine ⟨n, p + 1, h1, rfl, by omega, by omega, ?_, rfl⟩
  rw [mid_at hlt] at h10
  exact ten_step h5 hlt h10
theorem mid_yes (hb : ∀ x ∈ L, 0 ≤ x ∧ x ≤ 4294967295) (h : Mid L r A q X) (hq : q < (bs (wls L)).size) (h10 : bt (bs (wls L)) q = 10) :
    ∃ W : ByteArray, (bs (wls L)).extract A q = W ∧ W.size ≤ 24 ∧ Mid L r (q + 1) (q + 1) (((((X ++ (⟨#[32, 32]⟩ : ByteArray)) ++ W) ++ (⟨#[32, 10, 10, 32, 59]⟩ : ByteArray)) ++ bs r) ++ (⟨#[10]⟩ : ByteArray)) := by
  obtain ⟨n, p, h1, rfl, rfl, h4, h5, rfl⟩ := h
  have hsl := congrArg List.length (wls_split L n)
  rw [List.length_append] at hsl
  rw [bs_size] at hq
  have hlt : p < (wls (L.drop n)).length := by omega
  rw [mid_at hlt] at h10
  have e : (wls (L.drop n))[p]'hlt = 10 := by rw [← UInt8.toNat_inj]; exact Int.ofNat.inj h10
  obtain ⟨hn, e1, e2⟩ := cut_line hb h5 hlt e
  have hx := hb L[n] (List.getElem_mem hn)
  have hex := cut_part (wls (L.take n)) (wls (L.drop n)) p
  rw [← wls_split, e1] at hex
  refine ⟨_, hex, by rw [bs_size]; exact wl_len hx, n + 1, 0, by omega, e2, rfl, by omega, by simp, ?_⟩
  rw [show (⟨#[32, 32]⟩ : ByteArray) = bs [32, 32] from rfl, show (⟨#[32, 10, 10, 32, 59]⟩ : ByteArray) = bs [32, 10, 10, 32, 59] from rfl, show (⟨#[10]⟩ : ByteArray) = bs [10] from rfl, app_bs, app_bs, app_bs, app_bs, app_bs,
    List.take_succ_eq_append_getElem hn, iT_snoc]
  unfold iL
  simp only [List.append_assoc]
theorem mid_end (h : Mid L r A q X) (hq : q = (bs (wls L)).size) : X = bs (iT r L) := by
  obtain ⟨n, p, h1, rfl, rfl, h4, h5, rfl⟩ := h
  have hsl := congrArg List.length (wls_split L n)
  rw [List.length_append] at hsl
  rw [bs_size] at hq
  rw [List.take_of_length_le (by omega)] at h5
  rw [cut_end h1 h5]
end
theorem idle_near (l : List Nat) (cap : Nat) (a : Option Addr) (R : ByteArray) (hcap : l.length ≤ cap) (hcm : cap ≤ 2 ^ 63 - 1) (hn : l.length ≤ 100) (hR : R.size ≤ 100) (w : World) (T : Tab w)
    (C1 : ∀ u, Below w.heap.size w u → Calls Tryz.prog 15 #[.slice a l.length cap] u fun e w' => e = .returned (.string (bs (wls (LI l)))) ∧ Below w.heap.size w w')
    (P : World → Value → Prop) (hbd : ∀ x ∈ LI l, 0 ≤ x ∧ x ≤ 4294967295)
    (C2 : 10 ∉ R.data.toList → ∀ u, Below w.heap.size w u → Calls Tryz.prog 17 #[.string (bs (iT R.data.toList (LI l)))] u fun e w' => ∃ v, e = .returned (.tuple #[v, .int .i64 0, .int .i64 0]) ∧ P w' v ∧ Below w.heap.size w w')
    (C3 : ∀ u v, P u v → Calls Tryz.prog 18 #[.slice a l.length cap, v] u fun e w' => e = .returned (.bool true) ∧ Below u.heap.size u w') :
    Calls Tryz.prog 7 #[.slice a l.length cap, .string R] w fun e w' => e = .returned (.bool true) ∧ Below w.heap.size w w' := by
  have HA := Lib.hid aA
  have HT : Hid (∀ u, Below w.heap.size w u → Tab u) := fun u hb => T.below hb
  have H1 := Lib.hid C1
  have H2 := Lib.hid C2
  have H3 := Lib.hid C3
  have HB := Lib.hid hbd
  clear T C1 C2 C3 hbd
  have hn' : (l.length : Int) ≤ 100 := by omega
  have hR' : (R.size : Int) ≤ 100 := by omega
  have hb0 := Below.refl w.heap.size w
  go_enter Tryz.func7, Tryz.ntmps7
  go_wp2_with fail
  go_loopw [5] (fun i wr => ∃ k : Nat, k ≤ R.size ∧ i = .int .i64 (k : Int) ∧ w = wr ∧ 10 ∉ R.data.toList.take k) (fun i _ => R.size - (intOf i).toNat)
  case atStart => exact ⟨0, by omega, rfl, rfl, by simp⟩
  case round =>
    obtain ⟨k, hk, rfl, rfl, hten⟩ := hrel
    by_cases hlt : k < R.size
    · have hlt' : (k : Int) < R.size := by omega
      have hls : k < R.data.toList.length := by rw [size_list]; exact hlt
      by_cases e : bt R k = 10
      · have ht : (((R[k]'hlt).toNat : Int) == 10) = true := by rw [bt_at, e]; rfl
        clear hten e
        go_wp2_with (go_at_call 12; refine (HA.out _ (HT.out _ hb0)).mono ?_; rintro e w3 ⟨rfl, hb3⟩)
        go_ret
        exact ⟨rfl, hb3⟩
      · have ht : (((R[k]'hlt).toNat : Int) == 10) = false := by rw [bt_at]; simpa using e
        have hten2 := Lib.hid (ten_step hten hls (by rw [← bt_list hls]; exact e))
        clear hten e
        go_wp2_with fail
        exact ⟨⟨k + 1, by omega, by go_num, trivial, hten2.out⟩, by simp [intOf]; omega⟩
    · obtain rfl : k = R.size := by omega
      have hten2 := Lib.hid (show 10 ∉ R.data.toList by rw [List.take_of_length_le (by rw [size_list]; omega)] at hten; exact hten)
      clear hten
      go_wp2_with (first | (go_at_call 15; refine (H1.out _ hb0).mono ?_; rintro e w1 ⟨rfl, hb1⟩))
      have hb2 := Lib.hid hb1
      have HBB := HB.out
      have hLl : (LI l).length ≤ 100 := by rw [LI_len]; exact hn
      have hrl : R.data.toList.length ≤ 100 := by rw [size_list]; exact hR
      have hwb := wls_len (LI l) HB.out
      have hS0 : (bs (wls (LI l))).size ≤ 2500 := by rw [bs_size]; omega
      have M1 : Hid (∀ A q X, Mid (LI l) R.data.toList A q X → A ≤ q ∧ q ≤ (bs (wls (LI l))).size ∧ X.size ≤ 13200) := fun A q X h => mid_bd HBB hLl hrl h
      have M2 : Hid (∀ A q X, Mid (LI l) R.data.toList A q X → q < (bs (wls (LI l))).size → bt (bs (wls (LI l))) q ≠ 10 → Mid (LI l) R.data.toList A (q + 1) X) := fun A q X h => mid_no h
      have M3 : Hid (∀ A q X, Mid (LI l) R.data.toList A q X → q < (bs (wls (LI l))).size → bt (bs (wls (LI l))) q = 10 → ∃ W : ByteArray, (bs (wls (LI l))).extract A q = W ∧ W.size ≤ 24 ∧ Mid (LI l) R.data.toList (q + 1) (q + 1) (((((X ++ (⟨#[32, 32]⟩ : ByteArray)) ++ W) ++ (⟨#[32, 10, 10, 32, 59]⟩ : ByteArray)) ++ R) ++ (⟨#[10]⟩ : ByteArray))) := fun A q X h h1 h2 => by
        have := mid_yes HBB h h1 h2
        rwa [bs_of] at this
      have M4 : Hid (∀ A q X, Mid (LI l) R.data.toList A q X → q = (bs (wls (LI l))).size → X = bs (iT R.data.toList (LI l))) := fun A q X h => mid_end h
      have M0 : Mid (LI l) R.data.toList 0 0 ⟨#[]⟩ := mid_start
      have H2' := Lib.hid (H2.out hten2.out)
      clear hwb HBB H1 H2 hten2
      generalize hM : Mid (LI l) R.data.toList = M at *
      generalize bs (iT R.data.toList (LI l)) = Z at *
      generalize bs (wls (LI l)) = S at *
      clear hM HB hLl hrl
      generalize l.length = N at *
      go_loopw [6, 7, 9] (fun x f i wr => ∃ (A q : Nat) (X : ByteArray), f = .int .i64 (A : Int) ∧ i = .int .i64 (q : Int) ∧ x = .string X ∧ M A q X ∧ w1 = wr) (fun x f i _ => S.size - (intOf i).toNat)
      case atStart => exact ⟨0, 0, ⟨#[]⟩, rfl, rfl, rfl, M0, rfl⟩
      case round =>
        obtain ⟨A, q, X, rfl, rfl, rfl, hmid, rfl⟩ := hrel
        obtain ⟨b1, b2, b3⟩ := M1.out _ _ _ hmid
        have hM := Lib.hid hmid
        clear hmid
        by_cases hlt : q < S.size
        · have hlt' : (q : Int) < S.size := by omega
          by_cases e : bt S q = 10
          · have ht : (((S[q]'hlt).toNat : Int) == 10) = true := by rw [bt_at, e]; rfl
            obtain ⟨W, hW, hW2, hM2⟩ := M3.out _ _ _ hM.out hlt e
            have HM2 := Lib.hid hM2
            clear hM2 e
            go_wp2_with fail
            exact ⟨⟨q + 1, q + 1, _, by go_num, by go_num, rfl, HM2.out, trivial⟩, by simp [intOf]; omega⟩
          · have ht : (((S[q]'hlt).toNat : Int) == 10) = false := by rw [bt_at]; simpa using e
            have HM2 := Lib.hid (M2.out _ _ _ hM.out hlt e)
            clear e
            go_wp2_with fail
            exact ⟨⟨A, q + 1, _, rfl, by go_num, rfl, HM2.out, trivial⟩, by simp [intOf]; omega⟩
        · obtain rfl : q = S.size := by omega
          have hX := M4.out _ _ _ hM.out rfl
          subst hX
          go_wp2_with (first | (go_at_call 17; refine (H2'.out _ hb2.out).mono ?_; rintro e w2 ⟨v, rfl, hp, hb3⟩; have HP := Lib.hid hp; clear hp) | (go_at_call 18; refine (H3.out _ _ HP.out).mono ?_; rintro e w3 ⟨rfl, hb4⟩; have hb5 := btr hb3 hb4) | (go_at_call 12; refine (HA.out _ (HT.out _ hb5)).mono ?_; rintro e w4 ⟨rfl, hb6⟩))
          go_ret
          exact ⟨rfl, btr hb5 hb6⟩
theorem AsmIdle_walk (l : List Nat) (v : Value) (R : ByteArray) (w : World) (hr : Reads (· < w.heap.size) w v (u32s l)) (hw : ∀ x ∈ l, x < 4294967296) (hR : R.size ≤ 140737488355328) (T : Tab w) :
    Calls Tryz.prog 7 #[v, .string R] w fun e w' => e = .returned (.bool true) ∧ Below w.heap.size w w' := by
  obtain ⟨a, cap, rfl, hcap, hcm⟩ := hr.shape
  rw [u32s_len] at *
  unfold maxLen at hcm
  by_cases h1 : l.length ≤ 100 ∧ R.size ≤ 100
  · have bd := LI_bd hw
    have hrl : R.data.toList.length ≤ 100 := by rw [size_list]; exact h1.2
    have hLl : (LI l).length ≤ 100 := by rw [LI_len]; exact h1.1
    have hz : (iT R.data.toList (LI l)).length ≤ 13200 := Nat.le_trans (iT_len _ _ bd) (Nat.le_trans (Nat.mul_le_mul (by omega : 32 + R.data.toList.length ≤ 132) hLl) (by omega))
    have hv : ∀ u, Below w.heap.size w u → Reads (· < u.heap.size) u (.slice a l.length cap) (u32s l) := fun u hb => (hr.below hb).mono fun g hg => Nat.lt_of_lt_of_le hg hb.size
    refine idle_near l cap a R hcap hcm h1.1 h1.2 w T ?_ (fun u v => Reads (· < u.heap.size) u v (u32s l) ∧ Reads (· < u.heap.size) u (.slice a l.length cap) (u32s l)) bd ?_ ?_
    · intro u hb
      exact (list_any l _ u (T.below hb) (hv u hb) (by omega) hw).mono fun e w' ⟨he, h2⟩ => ⟨he, btr hb h2⟩
    · intro hten u hb
      refine (assemble_good (iT R.data.toList (LI l)) (by omega) (idle_fine hten hrl _ _ bd) (by rw [idle_wds hten hrl _ _ bd]; omega) u (T.below hb)).mono ?_
      rintro e w' ⟨v, he, hrow, hb2⟩
      rw [idle_wds hten hrl _ _ bd, li_vals, LI_len] at hrow
      have hb3 := btr hb hb2
      exact ⟨v, he, ⟨(Reads.of_owns hrow).there.mono fun g hg => hg.2, hv _ hb3⟩, hb3⟩
    · rintro u v ⟨r1, r2⟩
      exact same_any l _ _ u r2 r1
  · exact idle_far l.length cap a R hcap hcm hR (by omega) w T
end Go.Proofs.YtoohfmkhjhcopaaGreatDoor.WK
