/-
  The laws of layer 1, walked: each answers true.
-/
import Derived.Test.YtpeligkebolckaaWordAwake
import Derived.Test.YtpeligkebolckaaWordMath2
import Derived.Deep.RegionHeld3
set_option linter.unusedSimpArgs false
set_option linter.unusedVariables false
namespace Go.Proofs.Ytpeligkebolckaa.WK
open Go.RowKit WM WF

theorem below_drew_iff {B : Nat} {a w : World} : Below B a w.drew ↔ Below B a w := ⟨fun h => ⟨h.os, h.tape, h.output, h.size, h.block⟩, fun h => h.drew⟩
theorem below_drewN_iff {B : Nat} {a w : World} {n : Nat} : Below B a (w.drewN n) ↔ Below B a w := ⟨fun h => ⟨h.os, h.tape, h.output, h.size, h.block⟩, fun h => below_drewN h n⟩
theorem below_new (w : World) (o : Obj) : Below w.heap.size w (w.alloc o) := (Below.refl _ _).alloc (Nat.le_refl _) o
/-- awake, told of what was there when the law began -/
theorem awake_in (W0 u : World) (h : Below W0.heap.size W0 u) :
    Calls Try.prog 14 #[] u fun e w' => e = .returned (.bool true) ∧ Below W0.heap.size W0 w' ∧ (∀ p : Addr, p.block < u.heap.size → w'.cell? p = u.cell? p) ∧ u.heap.size ≤ w'.heap.size :=
  (awake_any u).mono fun _ _ ⟨he, hb⟩ => ⟨he, h.trans (hb.mono h.size), fun _ hp => hb.cell hp, hb.size⟩
/-- the closing of a walk whose last call may have laid new blocks -/
theorem end_drew {w w' : World} {m : Nat} (h : Below (w.drewN m).heap.size (w.drewN m) w') : Below w.heap.size w w' := (below_drewN (Below.refl _ _) m).trans h
theorem end_alloc {w w' : World} {o : Obj} (h : Below (w.alloc o).heap.size (w.alloc o) w') : Below w.heap.size w w' := ((Below.refl _ _).alloc (Nat.le_refl _) o).trans (h.mono (by simp))
theorem end_alloc_drew {w w' : World} {o : Obj} {m : Nat} (h : Below ((w.alloc o).drewN m).heap.size ((w.alloc o).drewN m) w') : Below w.heap.size w w' := end_alloc (end_drew h)

theorem WordBits_walk (x a n : Int) (hx : 0 ≤ x ∧ x ≤ 4294967295) (ha : -9223372036854775808 ≤ a ∧ a ≤ 9223372036854775807) (hn : -9223372036854775808 ≤ n ∧ n ≤ 9223372036854775807) (w : World) :
    Calls Try.prog 3 #[.int .u32 x, .int .i64 a, .int .i64 n] w fun e w' => e = .returned (.bool true) ∧ Below w.heap.size w w' := by
  obtain ⟨x, rfl⟩ := Int.eq_ofNat_of_zero_le hx.1
  have hx' : x < 4294967296 := by omega
  by_cases h : 0 ≤ a ∧ 0 ≤ n ∧ a + n ≤ 32
  · have H := Lib.hid h
    clear h
    go_enter Try.func3, Try.ntmps3
    go_wp2_with (first | (go_at_call 12; refine (wordBits_yes _ _ _ _ hx' H.out).mono ?_; rintro e w' ⟨rfl, m, rfl⟩) | (go_at_call 13; refine (refBits_yes _ _ _ _ hx' H.out).mono ?_; rintro e w' ⟨rfl, rfl⟩) | (go_at_call 14; refine (awake_any _).mono ?_; rintro e w' ⟨rfl, hb⟩))
    go_ret
    exact ⟨rfl, end_drew hb⟩
  · have C1 := Lib.hid (fun w => wordBits_no x a n w ha hn h)
    have C2 := Lib.hid (fun w => refBits_no x a n w ha hn h)
    clear h
    go_enter Try.func3, Try.ntmps3
    go_wp2_with (first | (go_at_call 12; refine (C1.out _).mono ?_; rintro e w' ⟨rfl, rfl⟩) | (go_at_call 13; refine (C2.out _).mono ?_; rintro e w' ⟨rfl, rfl⟩) | (go_at_call 14; refine (awake_any _).mono ?_; rintro e w' ⟨rfl, hb⟩))
    go_ret
    exact ⟨rfl, hb⟩
theorem WordPuts_walk (x a n v : Int) (hx : 0 ≤ x ∧ x ≤ 4294967295) (ha : -9223372036854775808 ≤ a ∧ a ≤ 9223372036854775807) (hn : -9223372036854775808 ≤ n ∧ n ≤ 9223372036854775807) (hv : 0 ≤ v ∧ v ≤ 4294967295) (w : World) :
    Calls Try.prog 4 #[.int .u32 x, .agg #[.int .i64 a, .int .i64 n], .int .u32 v] w fun e w' => e = .returned (.bool true) ∧ Below w.heap.size w w' := by
  obtain ⟨x, rfl⟩ := Int.eq_ofNat_of_zero_le hx.1
  obtain ⟨v, rfl⟩ := Int.eq_ofNat_of_zero_le hv.1
  have hx' : x < 4294967296 := by omega
  have hv' : v < 4294967296 := by omega
  by_cases h : 0 ≤ a ∧ 0 ≤ n ∧ a + n ≤ 32
  · have H := Lib.hid h
    clear h
    go_enter Try.func4, Try.ntmps4
    go_wp2
    go_region_held3 (fun w' => w'.cell? ⟨w.heap.size, 0, none⟩ = some (.int .i64 a) ∧ w'.cell? ⟨w.heap.size, 1, none⟩ = some (.int .i64 n) ∧ w.heap.size < w'.heap.size ∧ Below w.heap.size w w') (first | (simp [*, World.cell?_alloc_some, below_drew_iff, below_drewN_iff, below_new]; done) | (simp [*, World.cell?_alloc_some, below_drew_iff, below_drewN_iff, below_new]; omega)) (first | (go_at_call 15; refine (wordWith_yes _ _ _ _ _ hx' H.out).mono ?_; rintro e w' ⟨rfl, rfl⟩) | (go_at_call 16; refine (refWith_yes _ _ _ _ _ hx' hv' H.out).mono ?_; rintro e w' ⟨rfl, rfl⟩) | (go_at_call 14; refine (awake_in w _ (by simp [*, below_drew_iff, below_drewN_iff, below_new])).mono ?_; rintro e w' ⟨rfl, hb, hcell, hsz⟩))
    go_wp2
    go_ret
    exact ⟨rfl, hb⟩
  · have C1 := Lib.hid (fun w => wordWith_no x a n v w ha hn h)
    have C2 := Lib.hid (fun w => refWith_no x a n v w ha hn h)
    clear h
    go_enter Try.func4, Try.ntmps4
    go_wp2
    go_region_held3 (fun w' => w'.cell? ⟨w.heap.size, 0, none⟩ = some (.int .i64 a) ∧ w'.cell? ⟨w.heap.size, 1, none⟩ = some (.int .i64 n) ∧ w.heap.size < w'.heap.size ∧ Below w.heap.size w w') (first | (simp [*, World.cell?_alloc_some, below_drew_iff, below_drewN_iff, below_new]; done) | (simp [*, World.cell?_alloc_some, below_drew_iff, below_drewN_iff, below_new]; omega)) (first | (go_at_call 15; refine (C1.out _).mono ?_; rintro e w' ⟨rfl, rfl⟩) | (go_at_call 16; refine (C2.out _).mono ?_; rintro e w' ⟨rfl, rfl⟩) | (go_at_call 14; refine (awake_in w _ (by simp [*, below_drew_iff, below_drewN_iff, below_new])).mono ?_; rintro e w' ⟨rfl, hb, hcell, hsz⟩))
    go_wp2
    go_ret
    exact ⟨rfl, hb⟩
theorem WordSigns_walk (x n : Int) (hx : 0 ≤ x ∧ x ≤ 4294967295) (hn : -9223372036854775808 ≤ n ∧ n ≤ 9223372036854775807) (w : World) :
    Calls Try.prog 5 #[.int .u32 x, .int .i64 n] w fun e w' => e = .returned (.bool true) ∧ Below w.heap.size w w' := by
  obtain ⟨x, rfl⟩ := Int.eq_ofNat_of_zero_le hx.1
  have hx' : x < 4294967296 := by omega
  by_cases h : 1 ≤ n ∧ n ≤ 32
  · have H := Lib.hid h
    clear h
    go_enter Try.func5, Try.ntmps5
    go_wp2_with (first | (go_at_call 17; refine (wordSigned_yes _ _ _ hx' H.out).mono ?_; rintro e w' ⟨rfl, rfl⟩) | (go_at_call 18; refine (refSigned_yes _ _ _ hx' H.out).mono ?_; rintro e w' ⟨rfl, rfl⟩) | (go_at_call 14; refine (awake_any _).mono ?_; rintro e w' ⟨rfl, hb⟩))
    go_ret
    exact ⟨rfl, hb⟩
  · have C1 := Lib.hid (fun w => wordSigned_no x n w hn h)
    have C2 := Lib.hid (fun w => refSigned_no x n w hn h)
    clear h
    go_enter Try.func5, Try.ntmps5
    go_wp2_with (first | (go_at_call 17; refine (C1.out _).mono ?_; rintro e w' ⟨rfl, rfl⟩) | (go_at_call 18; refine (C2.out _).mono ?_; rintro e w' ⟨rfl, rfl⟩) | (go_at_call 14; refine (awake_any _).mono ?_; rintro e w' ⟨rfl, hb⟩))
    go_ret
    exact ⟨rfl, hb⟩
theorem WordFits_walk (x v n : Int) (hx : -9223372036854775808 ≤ x ∧ x ≤ 9223372036854775807) (hv : -2147483648 ≤ v ∧ v ≤ 2147483647) (hn : -9223372036854775808 ≤ n ∧ n ≤ 9223372036854775807) (w : World) :
    Calls Try.prog 6 #[.int .i64 x, .int .i32 v, .int .i64 n] w fun e w' => e = .returned (.bool true) ∧ Below w.heap.size w w' := by
  have HX := Lib.hid hx
  have HV := Lib.hid hv
  have HN := Lib.hid hn
  by_cases h : 1 ≤ n ∧ n ≤ 32
  · have H := Lib.hid h
    clear h
    go_enter Try.func6, Try.ntmps6
    go_wp2_with (first | (go_at_call 19; refine (wordFits_yes _ _ _ HX.out H.out).mono ?_; rintro e w' ⟨rfl, rfl⟩) | (go_at_call 20; refine (refFits_yes _ _ _ HX.out H.out).mono ?_; rintro e w' ⟨rfl, rfl⟩) | (go_at_call 21; refine (wordCut_any _ _ _ HV.out HN.out).mono ?_; rintro e w' ⟨rfl, m, rfl⟩) | (go_at_call 22; refine (refCut_any _ _ _ HV.out HN.out).mono ?_; rintro e w' ⟨rfl, rfl⟩) | (go_at_call 14; refine (awake_any _).mono ?_; rintro e w' ⟨rfl, hb⟩))
    go_ret
    exact ⟨rfl, end_drew hb⟩
  · have C1 := Lib.hid (fun w => wordFits_no x n w hn h)
    have C2 := Lib.hid (fun w => refFits_no x n w hn h)
    clear h
    go_enter Try.func6, Try.ntmps6
    go_wp2_with (first | (go_at_call 19; refine (C1.out _).mono ?_; rintro e w' ⟨rfl, rfl⟩) | (go_at_call 20; refine (C2.out _).mono ?_; rintro e w' ⟨rfl, rfl⟩) | (go_at_call 21; refine (wordCut_any _ _ _ HV.out HN.out).mono ?_; rintro e w' ⟨rfl, m, rfl⟩) | (go_at_call 22; refine (refCut_any _ _ _ HV.out HN.out).mono ?_; rintro e w' ⟨rfl, rfl⟩) | (go_at_call 14; refine (awake_any _).mono ?_; rintro e w' ⟨rfl, hb⟩))
    go_ret
    exact ⟨rfl, end_drew hb⟩
theorem chain3 {w w1 w2 w3 : World} (h1 : Below w.heap.size w w1) (h2 : Below w1.heap.size w1 w2) (h3 : Below w2.heap.size w2 w3) : Below w.heap.size w w3 :=
  h1.trans ((h2.mono h1.size).trans (h3.mono (Nat.le_trans h1.size h2.size)))
theorem chain2 {w w1 w2 : World} (h1 : Below w.heap.size w w1) (h2 : Below w1.heap.size w1 w2) : Below w.heap.size w w2 :=
  h1.trans (h2.mono h1.size)
theorem WordHexes_walk (x : Int) (s : ByteArray) (hx : 0 ≤ x ∧ x ≤ 4294967295) (_hs : s.size ≤ maxLen) (w : World) :
    Calls Try.prog 7 #[.int .u32 x, .string s] w fun e w' => e = .returned (.bool true) ∧ Below w.heap.size w w' := by
  obtain ⟨x, rfl⟩ := Int.eq_ofNat_of_zero_le hx.1
  have hx' : x < 4294967296 := by omega
  by_cases h : okW s
  · have C1 := Lib.hid (fun w => wordParse_yes s w h)
    have C2 := Lib.hid (fun w => refParse_yes s w h)
    clear h
    go_enter Try.func7, Try.ntmps7
    go_wp2_with (first | (go_at_call 23; refine (C1.out _).mono ?_; rintro e w' ⟨rfl, rfl⟩) | (go_at_call 24; refine (C2.out _).mono ?_; rintro e w' ⟨rfl, m, rfl⟩) | (go_at_call 25; refine (wordHex_any _ _ hx').mono ?_; rintro e w1 ⟨rfl, hb1⟩) | (go_at_call 26; refine (refHex_any _ _ hx').mono ?_; rintro e w2 ⟨rfl, hb2⟩) | (go_at_call 14; refine (awake_any _).mono ?_; rintro e w3 ⟨rfl, hb3⟩))
    go_ret
    exact ⟨rfl, end_drew (chain3 hb1 hb2 hb3)⟩
  · have C1 := Lib.hid (fun w => wordParse_no s w h)
    have C2 := Lib.hid (fun w => refParse_no s w h)
    clear h
    go_enter Try.func7, Try.ntmps7
    go_wp2_with (first | (go_at_call 23; refine (C1.out _).mono ?_; rintro e w' ⟨rfl, rfl⟩) | (go_at_call 24; refine (C2.out _).mono ?_; rintro e w' ⟨rfl, m, rfl⟩) | (go_at_call 25; refine (wordHex_any _ _ hx').mono ?_; rintro e w1 ⟨rfl, hb1⟩) | (go_at_call 26; refine (refHex_any _ _ hx').mono ?_; rintro e w2 ⟨rfl, hb2⟩) | (go_at_call 14; refine (awake_any _).mono ?_; rintro e w3 ⟨rfl, hb3⟩))
    go_ret
    exact ⟨rfl, end_drew (chain3 hb1 hb2 hb3)⟩
theorem WordSigned_walk (v n : Int) (hv : -2147483648 ≤ v ∧ v ≤ 2147483647) (hn : 0 ≤ n ∧ n ≤ 255) (w : World) :
    Calls Try.prog 9 #[.int .i32 v, .int .u8 n] w fun e w' => e = .returned (.bool true) ∧ Below w.heap.size w w' := by
  have hk : 1 ≤ 1 + n % 32 ∧ 1 + n % 32 ≤ 32 := by omega
  have H := Lib.hid hk
  have HV := Lib.hid hv
  have hu : 0 ≤ v % 4294967296 ∧ v % 4294967296 < 4294967296 := by omega
  have C1 := Lib.hid (fun w => wordSigned_int (v % 4294967296) (1 + n % 32) w hu hk)
  have hs := sgn_ref (v % 4294967296).toNat (1 + n % 32) hk
  have C2 := Lib.hid (fun w => by have h := wordFits_yes (sgnI (v % 4294967296).toNat (1 + n % 32).toNat) (1 + n % 32) w (by omega) hk; rw [fit_sgn _ _ hk] at h; exact h)
  have C3 := Lib.hid (fun w => by have h := wordCut_any (sgnI (v % 4294967296).toNat (1 + n % 32).toNat) (1 + n % 32) w hs (by omega); rw [cut_sgn _ _ hk] at h; exact h)
  have C4 := Lib.hid (fun w => wordCut_any v (1 + n % 32) w hv (by omega))
  have C5 := Lib.hid (fun w => wordFits_yes v (1 + n % 32) w (by omega) hk)
  have E : (fitB v (1 + n % 32).toNat == (sgnI (v % 4294967296).toNat (1 + n % 32).toNat == v)) = true := by
    have h := fit_same v (1 + n % 32) hk hv
    rw [beq_iff_eq, Bool.eq_iff_iff, h, beq_iff_eq]
  obtain ⟨hn1, hn2⟩ := hn
  obtain ⟨hs1, hs2⟩ := hs
  clear hk hu
  go_enter Try.func9, Try.ntmps9
  go_wp2_with (first | (go_at_call 17; refine (C1.out _).mono ?_; rintro e w' ⟨rfl, rfl⟩) | (go_at_call 19; (first | (with_reducible refine (C2.out _).mono ?_) | (with_reducible refine (C5.out _).mono ?_)); rintro e w' ⟨rfl, rfl⟩) | (go_at_call 14; refine (awake_any _).mono ?_; rintro e w3 ⟨rfl, hb3⟩) | (go_at_call 21; (first | (with_reducible refine (C3.out _).mono ?_) | (with_reducible refine (C4.out _).mono ?_)); rintro e w' ⟨rfl, m, rfl⟩))
  go_ret
  exact ⟨rfl, end_drew hb3⟩
theorem WordTexts_walk (x : Int) (s : ByteArray) (hx : 0 ≤ x ∧ x ≤ 4294967295) (_hs : s.size ≤ maxLen) (w : World) :
    Calls Try.prog 10 #[.int .u32 x, .string s] w fun e w' => e = .returned (.bool true) ∧ Below w.heap.size w w' := by
  obtain ⟨x, rfl⟩ := Int.eq_ofNat_of_zero_le hx.1
  have hx' : x < 4294967296 := by omega
  have C0 := Lib.hid (fun w => by have h := wordParse_yes (strOfNums (hexL x)) w (hex_ok x); rw [hex_pv x hx' 8 (by omega), show x / 2 ^ (4 * (8 - 8)) = x by simp] at h; exact h)
  by_cases h : okW s
  · have C1 := Lib.hid (fun w => wordParse_yes s w h)
    have C2 := Lib.hid (fun w => by have h' := wordHex_any (pv s 8) w (by have := pv_lt s 8 h.2; omega); rw [hex_of_pv s h] at h'; exact h')
    clear h
    go_enter Try.func10, Try.ntmps10
    go_wp2_with (first | (go_at_call 23; (first | (with_reducible refine (C0.out _).mono ?_) | (with_reducible refine (C1.out _).mono ?_)); rintro e w' ⟨rfl, rfl⟩) | (go_at_call 25; first | (with_reducible refine (C2.out _).mono ?_; rintro e w2 ⟨rfl, hb2⟩) | (with_reducible refine (wordHex_any _ _ hx').mono ?_; rintro e w1 ⟨rfl, hb1⟩)) | (go_at_call 14; refine (awake_any _).mono ?_; rintro e w3 ⟨rfl, hb3⟩))
    go_ret
    exact ⟨rfl, chain3 hb1 hb2 hb3⟩
  · have C1 := Lib.hid (fun w => wordParse_no s w h)
    clear h
    go_enter Try.func10, Try.ntmps10
    go_wp2_with (first | (go_at_call 23; (first | (with_reducible refine (C0.out _).mono ?_) | (with_reducible refine (C1.out _).mono ?_)); rintro e w' ⟨rfl, rfl⟩) | (go_at_call 25; refine (wordHex_any _ _ hx').mono ?_; rintro e w1 ⟨rfl, hb1⟩) | (go_at_call 14; refine (awake_any _).mono ?_; rintro e w3 ⟨rfl, hb3⟩))
    go_ret
    exact ⟨rfl, chain2 hb1 hb3⟩
theorem WordHalves_walk (x a : Int) (hx : 0 ≤ x ∧ x ≤ 4294967295) (ha : 0 ≤ a ∧ a ≤ 255) (w : World) :
    Calls Try.prog 11 #[.int .u32 x, .int .u8 a] w fun e w' => e = .returned (.bool true) ∧ Below w.heap.size w w' := by
  obtain ⟨x, rfl⟩ := Int.eq_ofNat_of_zero_le hx.1
  have hx' : x < 4294967296 := by omega
  obtain ⟨ha1, ha2⟩ := ha
  have C1 := Lib.hid (fun w => by have h := wordBits_yes x 0 (a % 33) w hx' (by omega); rw [show (0 : Int).toNat = 0 from rfl] at h; exact h)
  have C2 := Lib.hid (fun w => wordBits_yes x (a % 33) (32 - a % 33) w hx' (by omega))
  have l1 := cutN_le x 0 (a % 33).toNat hx'
  have l2 := cutN_le x (a % 33).toNat (32 - a % 33).toNat hx'
  have l3 := putN_lt 0 0 (a % 33).toNat (cutN x 0 (a % 33).toNat) (by omega)
  have C3 := Lib.hid (fun w => by have h := wordWith_int 0 0 (a % 33) ((cutN x 0 (a % 33).toNat : Nat) : Int) w (by omega) (by omega) (by omega); rw [Int.toNat_natCast, show (0 : Int).toNat = 0 from rfl] at h; exact h)
  have C4 := Lib.hid (fun w => by
    have h := wordWith_yes (putN 0 0 (a % 33).toNat (cutN x 0 (a % 33).toNat)) (a % 33) (32 - a % 33) (cutN x (a % 33).toNat (32 - a % 33).toNat) w l3 (by omega)
    rw [show (32 - a % 33).toNat = 32 - (a % 33).toNat by omega, put_put x (a % 33).toNat hx' (by omega)] at h
    rw [show 32 - (a % 33).toNat = (32 - a % 33).toNat by omega] at h
    exact h)
  clear l1 l2 l3
  go_enter Try.func11, Try.ntmps11
  go_wp2_with (first | (go_at_call 12; (first | (with_reducible refine (C1.out _).mono ?_) | (with_reducible refine (C2.out _).mono ?_)); rintro e w' ⟨rfl, m, rfl⟩) | (go_at_call 15; (first | (with_reducible refine (C3.out _).mono ?_) | (with_reducible refine (C4.out _).mono ?_)); rintro e w' ⟨rfl, rfl⟩) | (go_at_call 14; refine (awake_any _).mono ?_; rintro e w3 ⟨rfl, hb3⟩))
  go_ret
  exact ⟨rfl, end_drew hb3⟩
theorem WordBack_walk (x p q v : Int) (hx : 0 ≤ x ∧ x ≤ 4294967295) (hp : 0 ≤ p ∧ p ≤ 255) (hq : 0 ≤ q ∧ q ≤ 255) (hv : 0 ≤ v ∧ v ≤ 4294967295) (w : World) :
    Calls Try.prog 8 #[.int .u32 x, .agg #[.int .u8 p, .int .u8 q], .int .u32 v] w fun e w' => e = .returned (.bool true) ∧ Below w.heap.size w w' := by
  obtain ⟨x, rfl⟩ := Int.eq_ofNat_of_zero_le hx.1
  obtain ⟨v, rfl⟩ := Int.eq_ofNat_of_zero_le hv.1
  have hx' : x < 4294967296 := by omega
  have hv' : v < 4294967296 := by omega
  obtain ⟨hp1, hp2⟩ := hp
  obtain ⟨hq1, hq2⟩ := hq
  go_enter Try.func8, Try.ntmps8
  go_wp2_with fail
  have ha : 0 ≤ p % 33 ∧ p % 33 ≤ 32 := by omega
  have hn : 0 ≤ q % (33 - p % 33) ∧ q % (33 - p % 33) < 33 - p % 33 := ⟨Int.emod_nonneg _ (by omega), Int.emod_lt_of_pos _ (by omega)⟩
  generalize p % 33 = a at *
  generalize q % (33 - a) = n at *
  obtain ⟨ha1, ha2⟩ := ha
  obtain ⟨hn1, hn2⟩ := hn
  refine (wordWith_yes _ _ _ _ _ hx' ⟨by omega, by omega, by omega⟩).mono ?_
  rintro e w' ⟨rfl, rfl⟩
  have hput := putN_lt x a.toNat n.toNat v hx'
  by_cases h32 : n = 32
  · subst h32
    simp only [show (32 : Int).toNat = 32 from rfl] at hput ⊢
    have C3 := Lib.hid (fun w => by have h := wordBits_yes (putN x a.toNat 32 v) a (32 : Int) w hput (by omega); simp only [show (32 : Int).toNat = 32 from rfl] at h; rw [cut_put x a.toNat 32 v hx' (by omega)] at h; exact h)
    have C5 := Lib.hid (fun w => by have h := wordBits_yes x a (32 : Int) w hx' (by omega); simp only [show (32 : Int).toNat = 32 from rfl] at h; exact h)
    have C4 := Lib.hid (fun w => by have h := wordWith_yes (putN x a.toNat 32 v) a (32 : Int) (cutN x a.toNat 32) w hput (by omega); simp only [show (32 : Int).toNat = 32 from rfl] at h; rw [put_cut x a.toNat 32 v hx' (by omega)] at h; exact h)
    go_wp2_with fail
    rw [show (4294967296 : Int) % 4294967296 = 0 from rfl, show (-1 : Int) % 4294967296 = 4294967295 from rfl]
    go_loopw [11] (fun i wr => ∃ k : Nat, k ≤ 32 ∧ i = .int .i64 k ∧ ∃ m, wr = (w.alloc (.cells #[.int .u8 p, .int .u8 q] 41)).drewN m) (fun i _ => 32 - (intOf i).toNat)
    case atStart => exact ⟨0, by omega, rfl, 0, rfl⟩
    case round =>
      obtain ⟨k, hk, rfl, m, rfl⟩ := hrel
      by_cases hlt : k < 32
      · have hlt' : (k : Int) < 32 := by omega
        by_cases hi : a ≤ k ∧ k < a + (32 : Int)
        · obtain ⟨hi1, hi2⟩ := hi
          go_wp2
          go_roundw
          case rel => exact ⟨k + 1, by omega, by go_num, m, rfl⟩
          case measure => simp [intOf]; omega
        · exact absurd (by omega) hi
      · obtain rfl : k = 32 := by omega
        have EA := mask_all v hv'
        go_wp2_with (first | (go_at_call 12; (first | (with_reducible refine (C3.out _).mono ?_) | (with_reducible refine (C5.out _).mono ?_)); rintro e w' ⟨rfl, m, rfl⟩) | (go_at_call 15; refine (C4.out _).mono ?_; rintro e w' ⟨rfl, rfl⟩) | (go_at_call 14; refine (awake_any _).mono ?_; rintro e w3 ⟨rfl, hb3⟩))
        go_ret
        exact ⟨rfl, end_alloc (end_drew hb3)⟩
  · have ht : (n == 32) = false := by simpa using h32
    clear h32
    have HM := mask_eq v n hv' ⟨hn1, by omega⟩
    have C3 := Lib.hid (fun w => by have h := wordBits_yes (putN x a.toNat n.toNat v) a n w hput (by omega); rw [cut_put x a.toNat n.toNat v hx' (by omega)] at h; exact h)
    have C5 := Lib.hid (fun w => by have h := wordBits_yes x a n w hx' (by omega); exact h)
    have C4 := Lib.hid (fun w => by have h := wordWith_yes (putN x a.toNat n.toNat v) a n (cutN x a.toNat n.toNat) w hput (by omega); rw [put_cut x a.toNat n.toNat v hx' (by omega)] at h; exact h)
    go_wp2_with fail
    generalize ((2 : Int) ^ n.toNat % 4294967296 - 1) % 4294967296 = M at HM ⊢
    go_loopw [11] (fun i wr => ∃ k : Nat, k ≤ 32 ∧ i = .int .i64 k ∧ ∃ m, wr = (w.alloc (.cells #[.int .u8 p, .int .u8 q] 41)).drewN m) (fun i _ => 32 - (intOf i).toNat)
    case atStart => exact ⟨0, by omega, rfl, 0, rfl⟩
    case round =>
      obtain ⟨k, hk, rfl, m, rfl⟩ := hrel
      by_cases hlt : k < 32
      · have hlt' : (k : Int) < 32 := by omega
        by_cases hi : a ≤ k ∧ k < a + n
        · obtain ⟨hi1, hi2⟩ := hi
          go_wp2
          go_roundw
          case rel => exact ⟨k + 1, by omega, by go_num, m, rfl⟩
          case measure => simp [intOf]; omega
        · have D1 := Lib.hid (fun w => by have h := wordBits_yes (putN x a.toNat n.toNat v) k 1 w hput (by omega); rw [Int.toNat_natCast, show (1 : Int).toNat = 1 from rfl, cut_put_out x a.toNat n.toNat v k hx' (by omega) (by omega)] at h; exact h)
          have D2 := Lib.hid (fun w => by have h := wordBits_yes x k 1 w hx' (by omega); rw [Int.toNat_natCast, show (1 : Int).toNat = 1 from rfl] at h; exact h)
          have hor : (k : Int) < a ∨ a + n ≤ k := by omega
          rcases hor with hor | hor
          all_goals
            clear hi
            go_wp2_with (first | (go_at_call 12; (first | (with_reducible refine (D1.out _).mono ?_) | (with_reducible refine (D2.out _).mono ?_)); rintro e w' ⟨rfl, m, rfl⟩))
            go_roundw
            case rel => exact ⟨k + 1, by omega, by go_num, _, rfl⟩
            case measure => simp [intOf]; omega
      · obtain rfl : k = 32 := by omega
        go_wp2_with (first | (go_at_call 12; (first | (with_reducible refine (C3.out _).mono ?_) | (with_reducible refine (C5.out _).mono ?_)); rintro e w' ⟨rfl, m, rfl⟩) | (go_at_call 15; refine (C4.out _).mono ?_; rintro e w' ⟨rfl, rfl⟩) | (go_at_call 14; refine (awake_any _).mono ?_; rintro e w3 ⟨rfl, hb3⟩))
        go_ret
        exact ⟨rfl, end_alloc (end_drew hb3)⟩
end Go.Proofs.Ytpeligkebolckaa.WK
