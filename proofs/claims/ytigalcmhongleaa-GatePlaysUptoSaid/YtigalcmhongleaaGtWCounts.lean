/-
  The walk of GateCounts, over the interface and over what awake tells. Nothing here is a statement of the seed.
-/
import Derived.Test.YtigalcmhongleaaGtWPlays
import Derived.Test.YtigalcmhongleaaGtCnt
set_option linter.unusedSimpArgs false
set_option linter.unusedVariables false
namespace Go.Proofs.Ytigalcmhongleaa.GL
open Go.RowKit WM NR OM OR GA GF
set_option maxHeartbeats 4000000
set_option maxRecDepth 10000
section
variable {PT : Rep} {w : World} {a : Option Addr} {n c : Nat} {l : List Ac}
theorem find_e (f : Tb) (m : List UInt8) : (findM f m).e = if place f m < 0 then 8 else 0 := by unfold findM; split <;> rfl
/-- what the law asks, told by both answers of Find -/
theorem counts_e {f : Tb} (h : Inv f) (x : Ac) (hk : 0 ≤ x.kind) : (freeM (actM f x) = freeM f ∧ (findM f x.b.nm).e = 0 ∧ (findM (actM f x) x.b.nm).e = 0) ∨ (freeM (actM f x) = freeM f ∧ (findM f x.b.nm).e = 8 ∧ (findM (actM f x) x.b.nm).e = 8) ∨ (freeM (actM f x) = freeM f + 1 ∧ (findM f x.b.nm).e = 0 ∧ (findM (actM f x) x.b.nm).e = 8 ∧ x.kind % 5 = 3) ∨ (freeM (actM f x) = freeM f - 1 ∧ (findM f x.b.nm).e = 8 ∧ (findM (actM f x) x.b.nm).e = 0 ∧ x.kind % 5 ≤ 1) := by
  rw [find_e, find_e]
  rcases counts h x hk with ⟨e, hp⟩ | ⟨e, p, q, k⟩ | ⟨e, p, q, k⟩
  · by_cases h1 : place f x.b.nm < 0
    · right; left; rw [if_pos h1, if_pos (hp.1 h1)]; exact ⟨e, rfl, rfl⟩
    · left; rw [if_neg h1, if_neg (fun h2 => h1 (hp.2 h2))]; exact ⟨e, rfl, rfl⟩
  · right; right; left; rw [if_neg (by omega), if_pos q]; exact ⟨e, rfl, rfl, k⟩
  · right; right; right; rw [if_pos p, if_neg (by omega)]; exact ⟨e, rfl, rfl, k⟩
theorem GateCounts_walk (hP : GP PT) (AW : ∀ w, Calls Try.prog 8 #[] w fun e u => e = .returned (.bool true) ∧ Below w.heap.size w u) (h : ReadsA (· < w.heap.size) w (.slice a n c) l) :
    Calls Try.prog 7 #[.slice a n c] w fun e w' => e = .returned (.bool true) ∧ Below w.heap.size w w' := by
  obtain ⟨n1, m1, m2⟩ := h.len
  unfold maxLen at m2
  have hn : (n : Int) ≤ 9223372036854775807 := by omega
  have AW := Lib.hid AW
  by_cases h100 : n ≤ 100
  case neg =>
    have h100' : (100 : Int) < n := by omega
    clear h n1 m1 m2
    go_enter Try.func7, Try.ntmps7
    go_wp2_with (first | (go_at_call 8; (with_reducible refine (AW.out _).mono ?_); rintro e w2 ⟨rfl, hb2⟩))
    go_ret
    exact ⟨rfl, hb2⟩
  have h100' : ¬ (100 : Int) < n := by omega
  have HA := Lib.hid h
  have HL := Lib.hid n1
  have HP := Lib.hid hP
  clear h n1 m2 hP
  have q2 : (n : Int) ≤ c := by omega
  go_enter Try.func7, Try.ntmps7
  go_upto_region 4 with (first | (go_at_call 9; (with_reducible refine (HP.out.new _).mono ?_); rintro e w2 ⟨S, va, rfl, hp, hS, hb2⟩; have J0 := Lib.hid (PJ.start HP.out hp hS hb2); clear hp hS hb2) | (refine wst_T (f := zeroT) rfl (.tmp 4) (.tmp 19) rfl rfl rfl rfl J0.out.1 rfl ?_; have J0 := Lib.hid J0.out.2; generalize putT (w2.alloc (.cells tZ 32)) w2.heap.size zeroT = W3 at *))
  generalize w2.heap.size = p at *
  go_wp2_with fail
  go_loopw [5] (fun i wr => ∃ k : Nat, k ≤ n ∧ i = .int .i64 (k : Int) ∧ ∃ S, Hid (PJ PT w p S wr (.pointer (some va)) (runM zeroT (l.take k)))) (fun i _ => n - (intOf i).toNat)
  case atStart => exact ⟨0, by omega, rfl, _, J0⟩
  case round =>
    obtain ⟨k, hk, rfl, S, J⟩ := hrel
    clear J0
    by_cases hlt : k < n
    · have hlt' : (k : Int) < n := by omega
      obtain ⟨g, off, rfl, q1, hglt, hok, hat⟩ := HA.out.at hlt
      have hrt := run_take zeroT l k (by rw [HL.out]; exact hlt)
      have hinv := inv_run inv_zero (l.take k)
      obtain ⟨T, hT⟩ : ∃ T, T = runM zeroT (l.take (k + 1)) := ⟨_, rfl⟩
      have HT := Lib.hid hT
      rw [← hT] at hrt
      obtain ⟨T0, hT0⟩ : ∃ T, T = runM zeroT (l.take k) := ⟨_, rfl⟩
      rw [← hT0] at hrt hinv J
      clear hT hT0
      obtain ⟨x, hx⟩ : ∃ X, X = l.getD k ac0 := ⟨_, rfl⟩
      rw [← hx] at hrt hat hok
      clear hx
      have hcnt := counts_e hinv x hok.kd.1
      have hbd := free_bd T0 8
      change 0 ≤ freeM T0 ∧ freeM T0 ≤ 8 at hbd
      have CF0 := Lib.hid (fun (u : World) (S : Nat → Prop) (h : PJ PT w p S u (.pointer (some va)) T0) => HP.out.fre h.P)
      have CF1 := Lib.hid (fun (u : World) (S : Nat → Prop) (h : PJ PT w p S u (.pointer (some va)) T) => HP.out.fre h.P)
      have CN0 := Lib.hid (fun (u : World) (S : Nat → Prop) (h : PJ PT w p S u (.pointer (some va)) T0) => HP.out.fnd x.b.nm h.P hok.ln)
      have CN1 := Lib.hid (fun (u : World) (S : Nat → Prop) (h : PJ PT w p S u (.pointer (some va)) T) => HP.out.fnd x.b.nm h.P hok.ln)
      have CD := Lib.hid (fun (u : World) (S : Nat → Prop) (h : PJ PT w p S u (.pointer (some va)) T0) => h.do_ HP.out x hok)
      rw [← hrt] at CD hcnt
      have hkd := hok.kd
      clear hrt hinv hok
      generalize freeM T0 = FR0 at *
      generalize freeM T = FR1 at *
      generalize findM T0 x.b.nm = R0 at *
      generalize findM T x.b.nm = R1 at *
      obtain ⟨xk, nm, o, bk⟩ := x
      obtain ⟨rt0, G0, B0, E0⟩ := R0
      obtain ⟨rt1, G1, B1, E1⟩ := R1
      simp only at CN0 CN1 hcnt hkd
      have KB : Hid (∀ u : World, Below w.heap.size w u → u.cell? ⟨g, off + k * 4, none⟩ = some (.int .u8 xk) ∧ u.cell? ⟨g, off + k * 4 + 1, none⟩ = some (.string (bs nm)) ∧ u.cell? ⟨g, off + k * 4 + 2, none⟩ = some (.int .u16 o) ∧ u.cell? ⟨g, off + k * 4 + 3, none⟩ = some (.int .u32 bk)) := Lib.hid hat
      change Hid (∀ (u : World) (S : Nat → Prop), _ → Calls _ _ #[_, _, .agg #[.int .u8 xk, .string (bs nm), .int .u16 o, .int .u32 bk]] _ _) at CD
      clear hat
      generalize bs nm = X at *
      obtain ⟨hf1, hf2⟩ := hbd
      obtain ⟨hk1, hk2⟩ := hkd
      go_upto_region 8 with (go_at_call 18; (with_reducible refine (CF0.out _ _ J.out).mono ?_); rintro e w5 ⟨rfl, hB⟩; have J5 := Lib.hid (J.out.belowS HP.out hB); clear hB)
      obtain ⟨a0, a1, a2, a3⟩ := KB.out _ J5.out.B
      have hg5 : g < w5.heap.size := by have := J5.out.B.size; omega
      go_upto_region 9 with (go_at_call 16; (with_reducible refine (CN0.out _ _ J5.out).mono ?_); rintro e w6 ⟨rfl, hB⟩; have J6 := Lib.hid (J5.out.belowS HP.out hB); clear hB)
      have J7 := Lib.hid (J6.out.belowS HP.out (below_new w6 (.cells (bdC B0) 35)))
      clear a0 a1 a2 a3 hg5 J5 J6 CF0 CN0 J
      generalize w6.alloc (.cells #[.string (bs B0.nm), .int .u16 B0.ow, .int .u32 B0.bs] 35) = W7 at *
      have hb0 : Below W7.heap.size W7 W7.drew := (Below.refl _ _).drew
      have J1 := Lib.hid (J7.out.belowS HP.out hb0)
      have K0 := KB.out _ J1.out.B
      clear hb0 J7
      refine wp_region_held_drew (S := fun u => u.cell? ⟨g, off + k * 4, none⟩ = some (.int .u8 xk) ∧ u.cell? ⟨g, off + k * 4 + 1, none⟩ = some (.string X) ∧ u.cell? ⟨g, off + k * 4 + 2, none⟩ = some (.int .u16 o) ∧ u.cell? ⟨g, off + k * 4 + 3, none⟩ = some (.int .u32 bk)) (by kernel_rfl) K0 (fun hHeld => ?_)
      refine wpAnyH_take (i := 0) (v := ?avv0) rfl (by kernel_rfl) (by kernel_rfl) (by kernel_rfl) (fun _ _ _ h => h) (Or.inl ⟨by rfl, ?ahy0⟩) (by assumption) ?arest0
      case ahy0 =>
        intro u hSu
        obtain ⟨s0, s1, s2, s3⟩ := hSu
        go_simp
        try with_reducible rfl
      try simp only [Act.put, List.getElem_toArray, List.getElem_cons_succ, List.getElem_cons_zero, List.setIfInBounds_toArray, List.set_cons_zero, List.set_cons_succ]
      refine wpAnyH_take (i := 2) (v := ?avv2) rfl (by kernel_rfl) (by kernel_rfl) (by kernel_rfl) (fun _ _ _ h => h) (Or.inl ⟨by rfl, ?ahy2⟩) (by assumption) ?arest2
      case ahy2 =>
        intro u hSu
        obtain ⟨s0, s1, s2, s3⟩ := hSu
        go_simp
        try with_reducible rfl
      try simp only [Act.put, List.getElem_toArray, List.getElem_cons_succ, List.getElem_cons_zero, List.setIfInBounds_toArray, List.set_cons_zero, List.set_cons_succ]
      refine wpAnyH_take (i := 3) (v := ?avv3) rfl (by kernel_rfl) (by kernel_rfl) (by kernel_rfl) (fun _ _ _ h => h) (Or.inl ⟨by rfl, ?ahy3⟩) (by assumption) ?arest3
      case ahy3 =>
        intro u hSu
        obtain ⟨s0, s1, s2, s3⟩ := hSu
        go_simp
        try with_reducible rfl
      try simp only [Act.put, List.getElem_toArray, List.getElem_cons_succ, List.getElem_cons_zero, List.setIfInBounds_toArray, List.set_cons_zero, List.set_cons_succ]
      refine wpAnyH_take (i := 4) (v := ?avv4) rfl (by kernel_rfl) (by kernel_rfl) (by kernel_rfl) (fun _ _ _ h => h) (Or.inl ⟨by rfl, ?ahy4⟩) (by assumption) ?arest4
      case ahy4 =>
        intro u hSu
        obtain ⟨s0, s1, s2, s3⟩ := hSu
        go_simp
        try with_reducible rfl
      try simp only [Act.put, List.getElem_toArray, List.getElem_cons_succ, List.getElem_cons_zero, List.setIfInBounds_toArray, List.set_cons_zero, List.set_cons_succ]
      refine wpAnyH_take (i := 5) (v := ?avv5) rfl (by kernel_rfl) (by kernel_rfl) (by kernel_rfl) (fun _ _ _ h => h) (Or.inl ⟨by rfl, ?ahy5⟩) (by assumption) ?arest5
      case ahy5 =>
        intro u hSu
        obtain ⟨s0, s1, s2, s3⟩ := hSu
        go_simp
        try with_reducible rfl
      try simp only [Act.put, List.getElem_toArray, List.getElem_cons_succ, List.getElem_cons_zero, List.setIfInBounds_toArray, List.set_cons_zero, List.set_cons_succ]
      refine wpAnyH_ready (rs := [1]) (by kernel_rfl) (by simp) ?_
      refine AllReadyH.cons rfl (fun K hK => ?_) AllReadyH.nil
      (refine wl1_T rfl rfl J1.out.Z ?_)
      refine hK.out _ _ ?ahS1 (fun hHeld => ?arest1)
      case ahS1 => exact K0
      clear hK K
      try simp only [Act.put, List.getElem_toArray, List.getElem_cons_succ, List.getElem_cons_zero, List.setIfInBounds_toArray, List.set_cons_zero, List.set_cons_succ]
      refine wpAnyH_ready (rs := [6]) (by kernel_rfl) (by simp) ?_
      refine AllReadyH.cons rfl (fun K hK => ?_) AllReadyH.nil
      (go_simp; go_at_call 10; (with_reducible refine (CD.out _ _ J1.out).mono ?_); rintro e w8 ⟨rfl, S', hB5, zz, J5⟩; have K5 := KB.out _ hB5; have K6 := KB.out _ J5.B; have J8 := Lib.hid J5; have ZZ := Lib.hid zz; clear hB5 J5 zz)
      refine hK.out _ _ ?bhS6 (fun hHeld => ?brest6)
      case bhS6 => exact K5
      clear hK K
      try simp only [Act.put, List.getElem_toArray, List.getElem_cons_succ, List.getElem_cons_zero, List.setIfInBounds_toArray, List.set_cons_zero, List.set_cons_succ]
      refine wpAnyH_take (i := 7) (v := ?bvv7) rfl (by kernel_rfl) (by kernel_rfl) (by kernel_rfl) (fun _ _ _ h => h) (Or.inl ⟨by rfl, ?bhy7⟩) (by assumption) ?brest7
      case bhy7 =>
        intro u hSu
        obtain ⟨s0, s1, s2, s3⟩ := hSu
        go_simp
        try with_reducible rfl
      try simp only [Act.put, List.getElem_toArray, List.getElem_cons_succ, List.getElem_cons_zero, List.setIfInBounds_toArray, List.set_cons_zero, List.set_cons_succ]
      refine wpAnyH_take (i := 8) (v := ?bvv8) rfl (by kernel_rfl) (by kernel_rfl) (by kernel_rfl) (fun _ _ _ h => h) (Or.inl ⟨by rfl, ?bhy8⟩) (by assumption) ?brest8
      case bhy8 =>
        intro u hSu
        obtain ⟨s0, s1, s2, s3⟩ := hSu
        go_simp
        try with_reducible rfl
      try simp only [Act.put, List.getElem_toArray, List.getElem_cons_succ, List.getElem_cons_zero, List.setIfInBounds_toArray, List.set_cons_zero, List.set_cons_succ]
      refine wpAnyH_take (i := 9) (v := ?bvv9) rfl (by kernel_rfl) (by kernel_rfl) (by kernel_rfl) (fun _ _ _ h => h) (Or.inl ⟨by rfl, ?bhy9⟩) (by assumption) ?brest9
      case bhy9 =>
        intro u hSu
        obtain ⟨s0, s1, s2, s3⟩ := hSu
        go_simp
        try with_reducible rfl
      try simp only [Act.put, List.getElem_toArray, List.getElem_cons_succ, List.getElem_cons_zero, List.setIfInBounds_toArray, List.set_cons_zero, List.set_cons_succ]
      refine wpAnyH_ready (rs := [10]) (by kernel_rfl) (by simp) ?_
      refine AllReadyH.cons rfl (fun K hK => ?_) AllReadyH.nil
      (refine ws_T rfl rfl ZZ.out rfl rfl rfl ?_; generalize putT w8 p T = W8 at *)
      refine hK.out _ _ ?dhS10 (fun hHeld => ?drest10)
      case dhS10 => exact K6
      clear hK K
      try simp only [Act.put, List.getElem_toArray, List.getElem_cons_succ, List.getElem_cons_zero, List.setIfInBounds_toArray, List.set_cons_zero, List.set_cons_succ]
      refine wpAnyH_done (by kernel_rfl) ?_ _
      clear K0 K5 K6 J1 CD ZZ
      obtain ⟨a0, a1, a2, a3⟩ := KB.out _ J8.out.B
      have hg5 : g < W8.heap.size := by have := J8.out.B.size; omega
      go_upto_region 11 with (go_at_call 16; (with_reducible refine (CN1.out _ _ J8.out).mono ?_); rintro e w9 ⟨rfl, hB⟩; have J9 := Lib.hid (J8.out.belowS HP.out hB); clear hB)
      have JA := Lib.hid (J9.out.belowS HP.out (below_new w9 (.cells (bdC B1) 35)))
      clear a0 a1 a2 a3 hg5 J8 J9 CN1
      generalize w9.alloc (.cells #[.string (bs B1.nm), .int .u16 B1.ow, .int .u32 B1.bs] 35) = WA at *
      have KC : Hid (∀ u : World, Below WA.heap.size WA u → u.cell? ⟨g, off + k * 4, none⟩ = some (.int .u8 xk)) := Lib.hid (fun u hu => (KB.out _ (JA.out.B.trans (hu.mono JA.out.B.size))).1)
      have hgA : g < WA.heap.size := by have := JA.out.B.size; omega
      have hkt : xk.tmod 5 = xk % 5 := by rw [Int.tmod_eq_emod_of_nonneg (by omega)]
      have hkm : 0 ≤ xk % 5 ∧ xk % 5 < 5 := by omega
      obtain ⟨hkm1, hkm2⟩ := hkm
      rw [HT.out] at JA CF1
      have JB := Lib.hid JA.out
      generalize xk % 5 = kk at *
      rcases hcnt with ⟨e1, e2, e3⟩ | ⟨e1, e2, e3⟩ | ⟨e1, e2, e3, e4⟩ | ⟨e1, e2, e3, e4⟩
      · subst e1 e2 e3
        go_wp2_with (go_at_call 18; (with_reducible refine (CF1.out _ _ JA.out).mono ?_); rintro e wB ⟨rfl, hB⟩; have a0 := KC.out _ hB; have hgB : g < wB.heap.size := (by have := hB.size; omega); have JZ := Lib.hid (JA.out.belowS HP.out hB); clear hB)
        go_roundw
        case rel => exact ⟨k + 1, by omega, by go_num, _, JZ⟩
        case measure => simp [intOf]; omega
      · subst e1 e2 e3
        go_wp2_with (go_at_call 18; (with_reducible refine (CF1.out _ _ JA.out).mono ?_); rintro e wB ⟨rfl, hB⟩; have a0 := KC.out _ hB; have hgB : g < wB.heap.size := (by have := hB.size; omega); have JZ := Lib.hid (JA.out.belowS HP.out hB); clear hB)
        go_roundw
        case rel => exact ⟨k + 1, by omega, by go_num, _, JZ⟩
        case measure => simp [intOf]; omega
      · subst e1 e2 e3
        have f3 : (kk != 3) = false := by simpa using e4
        go_wp2_with (go_at_call 18; (with_reducible refine (CF1.out _ _ JA.out).mono ?_); rintro e wB ⟨rfl, hB⟩; have a0 := KC.out _ hB; have hgB : g < wB.heap.size := (by have := hB.size; omega); have JZ := Lib.hid (JA.out.belowS HP.out hB); clear hB)
        go_roundw
        case rel => exact ⟨k + 1, by omega, by go_num, _, JZ⟩
        case measure => simp [intOf]; omega
      · subst e1 e2 e3
        have f1 : ¬ (1 : Int) < kk := by omega
        go_wp2_with (go_at_call 18; (with_reducible refine (CF1.out _ _ JA.out).mono ?_); rintro e wB ⟨rfl, hB⟩; have a0 := KC.out _ hB; have hgB : g < wB.heap.size := (by have := hB.size; omega); have JZ := Lib.hid (JA.out.belowS HP.out hB); clear hB)
        go_roundw
        case rel => exact ⟨k + 1, by omega, by go_num, _, JZ⟩
        case measure => simp [intOf]; omega
    · obtain rfl : k = n := by omega
      clear HA
      go_wp2_with (go_at_call 8; (with_reducible refine (AW.out _).mono ?_); rintro e w9 ⟨rfl, hb9⟩)
      go_ret
      exact ⟨rfl, J.out.B.trans (hb9.mono J.out.B.size)⟩
end
end Go.Proofs.Ytigalcmhongleaa.GL
