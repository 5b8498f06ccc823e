/-
  The walk of GateKeeps, over the interface and over what awake tells. Nothing here is a statement of the seed.
-/
import Derived.Test.YtigalcmhongleaaGtWCounts
set_option linter.unusedSimpArgs false
set_option linter.unusedVariables false
namespace Go.Proofs.Ytigalcmhongleaa.GL
open Go.RowKit WM NR OM OR GA GF
set_option maxHeartbeats 4000000
set_option maxRecDepth 10000
section
variable {PT : Rep} {w : World} {a : Option Addr} {n c : Nat} {l : List Ac}
/-- what the law asks, told by both answers of Find -/
theorem keeps_e {f : Tb} (h : Inv f) (x : Ac) : ((findM f x.b.nm).e = 0 ∧ (findM (actM f x) x.b.nm).e = 0 ∧ (findM f x.b.nm).g = (findM (actM f x) x.b.nm).g ∧ bs (findM (actM f x) x.b.nm).b.nm = bs x.b.nm) ∨ ((findM f x.b.nm).e = 0 ∧ (findM (actM f x) x.b.nm).e = 8) ∨ ((findM f x.b.nm).e = 8) := by
  by_cases h1 : place f x.b.nm < 0
  · right; right; rw [find_e, if_pos h1]
  · by_cases h2 : place (actM f x) x.b.nm < 0
    · right; left; rw [find_e, find_e, if_neg h1, if_pos h2]; exact ⟨rfl, rfl⟩
    · left
      have hk := keeps h x (by omega) (by omega)
      rw [find_e, find_e, if_neg h1, if_neg h2]
      refine ⟨rfl, rfl, ?_, ?_⟩
      · simp only [findM, if_neg h1, if_neg h2]; exact hk.1
      · simp only [findM, if_neg h2]; rw [hk.2]
theorem get_at (f : Tb) {k : Nat} (hk : k < 8) : getM f (k : Int) = f k := by
  unfold getM
  rw [if_pos ⟨by omega, by omega⟩, Int.toNat_natCast]
theorem GateKeeps_walk (hP : GP PT) (AW : ∀ w, Calls Try.prog 8 #[] w fun e u => e = .returned (.bool true) ∧ Below w.heap.size w u) (h : ReadsA (· < w.heap.size) w (.slice a n c) l) :
    Calls Try.prog 5 #[.slice a n c] w fun e w' => e = .returned (.bool true) ∧ Below w.heap.size w w' := by
  obtain ⟨n1, m1, m2⟩ := h.len
  unfold maxLen at m2
  have hn : (n : Int) ≤ 9223372036854775807 := by omega
  have AW := Lib.hid AW
  by_cases h100 : n ≤ 100
  case neg =>
    have h100' : (100 : Int) < n := by omega
    clear h n1 m1 m2
    go_enter Try.func5, Try.ntmps5
    go_wp2_with (first | (go_at_call 8; (with_reducible refine (AW.out _).mono ?_); rintro e w2 ⟨rfl, hb2⟩))
    go_ret
    exact ⟨rfl, hb2⟩
  have h100' : ¬ (100 : Int) < n := by omega
  have HA := Lib.hid h
  have HL := Lib.hid n1
  have HP := Lib.hid hP
  clear h n1 m2 hP
  have q2 : (n : Int) ≤ c := by omega
  go_enter Try.func5, Try.ntmps5
  go_upto_region 4 with (first | (go_at_call 9; (with_reducible refine (HP.out.new _).mono ?_); rintro e w2 ⟨S, va, rfl, hp, hS, hb2⟩; have J0 := Lib.hid (PJ.start HP.out hp hS hb2); clear hp hS hb2) | (refine wst_T (f := zeroT) rfl (.tmp 4) (.tmp 21) rfl rfl rfl rfl J0.out.1 rfl ?_; have J0 := Lib.hid J0.out.2; generalize putT (w2.alloc (.cells tZ 32)) w2.heap.size zeroT = W3 at *))
  generalize w2.heap.size = p at *
  go_wp2_with fail
  go_loopw [5] (fun i wr => ∃ k : Nat, k ≤ n ∧ i = .int .i64 (k : Int) ∧ ∃ S, Hid (PJ PT w p S wr (.pointer (some va)) (runM zeroT (l.take k)))) (fun i _ => n - (intOf i).toNat)
  case atStart => exact ⟨0, by omega, rfl, _, J0⟩
  case round =>
    obtain ⟨k, hk, rfl, S, J⟩ := hrel
    clear J0
    by_cases hlt : k < n
    · have hlt' : (k : Int) < n := by omega
      obtain ⟨g, off, rfl, q1, hglt, hok, hat⟩ := HA.out.at hlt
      have hrt := run_take zeroT l k (by rw [HL.out]; exact hlt)
      have hinv := inv_run inv_zero (l.take k)
      obtain ⟨T, hT⟩ : ∃ T, T = runM zeroT (l.take (k + 1)) := ⟨_, rfl⟩
      have HT := Lib.hid hT
      rw [← hT] at hrt
      obtain ⟨T0, hT0⟩ : ∃ T, T = runM zeroT (l.take k) := ⟨_, rfl⟩
      rw [← hT0] at hrt hinv J
      clear hT hT0
      obtain ⟨x, hx⟩ : ∃ X, X = l.getD k ac0 := ⟨_, rfl⟩
      rw [← hx] at hrt hat hok
      clear hx
      have hcnt := keeps_e hinv x
      have CN0 := Lib.hid (fun (u : World) (S : Nat → Prop) (h : PJ PT w p S u (.pointer (some va)) T0) => HP.out.fnd x.b.nm h.P hok.ln)
      have CN1 := Lib.hid (fun (u : World) (S : Nat → Prop) (h : PJ PT w p S u (.pointer (some va)) T) => HP.out.fnd x.b.nm h.P hok.ln)
      have CD := Lib.hid (fun (u : World) (S : Nat → Prop) (h : PJ PT w p S u (.pointer (some va)) T0) => h.do_ HP.out x hok)
      rw [← hrt] at CD hcnt
      have hkd := hok.kd
      clear hrt hinv hok
      generalize findM T0 x.b.nm = R0 at *
      generalize findM T x.b.nm = R1 at *
      obtain ⟨xk, nm, o, bk⟩ := x
      obtain ⟨rt0, G0, B0, E0⟩ := R0
      obtain ⟨rt1, G1, B1, E1⟩ := R1
      simp only at CN0 CN1 hcnt hkd
      have KB : Hid (∀ u : World, Below w.heap.size w u → u.cell? ⟨g, off + k * 4, none⟩ = some (.int .u8 xk) ∧ u.cell? ⟨g, off + k * 4 + 1, none⟩ = some (.string (bs nm)) ∧ u.cell? ⟨g, off + k * 4 + 2, none⟩ = some (.int .u16 o) ∧ u.cell? ⟨g, off + k * 4 + 3, none⟩ = some (.int .u32 bk)) := Lib.hid hat
      change Hid (∀ (u : World) (S : Nat → Prop), _ → Calls _ _ #[_, _, .agg #[.int .u8 xk, .string (bs nm), .int .u16 o, .int .u32 bk]] _ _) at CD
      clear hat
      generalize bs nm = X at *
      obtain ⟨hk1, hk2⟩ := hkd
      have J5 := J
      obtain ⟨a0, a1, a2, a3⟩ := KB.out _ J5.out.B
      have hg5 : g < wr.heap.size := by have := J5.out.B.size; omega
      go_upto_region 8 with (go_at_call 16; (with_reducible refine (CN0.out _ _ J5.out).mono ?_); rintro e w6 ⟨rfl, hB⟩; have J6 := Lib.hid (J5.out.belowS HP.out hB); clear hB)
      have J7 := Lib.hid (J6.out.belowS HP.out (below_new w6 (.cells (bdC B0) 35)))
      clear a0 a1 a2 a3 hg5 J5 J6 CN0 J
      generalize w6.alloc (.cells #[.string (bs B0.nm), .int .u16 B0.ow, .int .u32 B0.bs] 35) = W7 at *
      have hb0 : Below W7.heap.size W7 W7.drew := (Below.refl _ _).drew
      have J1 := Lib.hid (J7.out.belowS HP.out hb0)
      have K0 := KB.out _ J1.out.B
      clear hb0 J7
      refine wp_region_held_drew (S := fun u => u.cell? ⟨g, off + k * 4, none⟩ = some (.int .u8 xk) ∧ u.cell? ⟨g, off + k * 4 + 1, none⟩ = some (.string X) ∧ u.cell? ⟨g, off + k * 4 + 2, none⟩ = some (.int .u16 o) ∧ u.cell? ⟨g, off + k * 4 + 3, none⟩ = some (.int .u32 bk)) (by kernel_rfl) K0 (fun hHeld => ?_)
      refine wpAnyH_take (i := 0) (v := ?avv0) rfl (by kernel_rfl) (by kernel_rfl) (by kernel_rfl) (fun _ _ _ h => h) (Or.inl ⟨by rfl, ?ahy0⟩) (by assumption) ?arest0
      case ahy0 =>
        intro u hSu
        obtain ⟨s0, s1, s2, s3⟩ := hSu
        go_simp
        try with_reducible rfl
      try simp only [Act.put, List.getElem_toArray, List.getElem_cons_succ, List.getElem_cons_zero, List.setIfInBounds_toArray, List.set_cons_zero, List.set_cons_succ]
      refine wpAnyH_take (i := 2) (v := ?avv2) rfl (by kernel_rfl) (by kernel_rfl) (by kernel_rfl) (fun _ _ _ h => h) (Or.inl ⟨by rfl, ?ahy2⟩) (by assumption) ?arest2
      case ahy2 =>
        intro u hSu
        obtain ⟨s0, s1, s2, s3⟩ := hSu
        go_simp
        try with_reducible rfl
      try simp only [Act.put, List.getElem_toArray, List.getElem_cons_succ, List.getElem_cons_zero, List.setIfInBounds_toArray, List.set_cons_zero, List.set_cons_succ]
      refine wpAnyH_take (i := 3) (v := ?avv3) rfl (by kernel_rfl) (by kernel_rfl) (by kernel_rfl) (fun _ _ _ h => h) (Or.inl ⟨by rfl, ?ahy3⟩) (by assumption) ?arest3
      case ahy3 =>
        intro u hSu
        obtain ⟨s0, s1, s2, s3⟩ := hSu
        go_simp
        try with_reducible rfl
      try simp only [Act.put, List.getElem_toArray, List.getElem_cons_succ, List.getElem_cons_zero, List.setIfInBounds_toArray, List.set_cons_zero, List.set_cons_succ]
      refine wpAnyH_take (i := 4) (v := ?avv4) rfl (by kernel_rfl) (by kernel_rfl) (by kernel_rfl) (fun _ _ _ h => h) (Or.inl ⟨by rfl, ?ahy4⟩) (by assumption) ?arest4
      case ahy4 =>
        intro u hSu
        obtain ⟨s0, s1, s2, s3⟩ := hSu
        go_simp
        try with_reducible rfl
      try simp only [Act.put, List.getElem_toArray, List.getElem_cons_succ, List.getElem_cons_zero, List.setIfInBounds_toArray, List.set_cons_zero, List.set_cons_succ]
      refine wpAnyH_take (i := 5) (v := ?avv5) rfl (by kernel_rfl) (by kernel_rfl) (by kernel_rfl) (fun _ _ _ h => h) (Or.inl ⟨by rfl, ?ahy5⟩) (by assumption) ?arest5
      case ahy5 =>
        intro u hSu
        obtain ⟨s0, s1, s2, s3⟩ := hSu
        go_simp
        try with_reducible rfl
      try simp only [Act.put, List.getElem_toArray, List.getElem_cons_succ, List.getElem_cons_zero, List.setIfInBounds_toArray, List.set_cons_zero, List.set_cons_succ]
      refine wpAnyH_ready (rs := [1]) (by kernel_rfl) (by simp) ?_
      refine AllReadyH.cons rfl (fun K hK => ?_) AllReadyH.nil
      (refine wl1_T rfl rfl J1.out.Z ?_)
      refine hK.out _ _ ?ahS1 (fun hHeld => ?arest1)
      case ahS1 => exact K0
      clear hK K
      try simp only [Act.put, List.getElem_toArray, List.getElem_cons_succ, List.getElem_cons_zero, List.setIfInBounds_toArray, List.set_cons_zero, List.set_cons_succ]
      refine wpAnyH_ready (rs := [6]) (by kernel_rfl) (by simp) ?_
      refine AllReadyH.cons rfl (fun K hK => ?_) AllReadyH.nil
      (go_simp; go_at_call 10; (with_reducible refine (CD.out _ _ J1.out).mono ?_); rintro e w8 ⟨rfl, S', hB5, zz, J5⟩; have K5 := KB.out _ hB5; have K6 := KB.out _ J5.B; have J8 := Lib.hid J5; have ZZ := Lib.hid zz; clear hB5 J5 zz)
      refine hK.out _ _ ?bhS6 (fun hHeld => ?brest6)
      case bhS6 => exact K5
      clear hK K
      try simp only [Act.put, List.getElem_toArray, List.getElem_cons_succ, List.getElem_cons_zero, List.setIfInBounds_toArray, List.set_cons_zero, List.set_cons_succ]
      refine wpAnyH_take (i := 7) (v := ?bvv7) rfl (by kernel_rfl) (by kernel_rfl) (by kernel_rfl) (fun _ _ _ h => h) (Or.inl ⟨by rfl, ?bhy7⟩) (by assumption) ?brest7
      case bhy7 =>
        intro u hSu
        obtain ⟨s0, s1, s2, s3⟩ := hSu
        go_simp
        try with_reducible rfl
      try simp only [Act.put, List.getElem_toArray, List.getElem_cons_succ, List.getElem_cons_zero, List.setIfInBounds_toArray, List.set_cons_zero, List.set_cons_succ]
      refine wpAnyH_take (i := 8) (v := ?bvv8) rfl (by kernel_rfl) (by kernel_rfl) (by kernel_rfl) (fun _ _ _ h => h) (Or.inl ⟨by rfl, ?bhy8⟩) (by assumption) ?brest8
      case bhy8 =>
        intro u hSu
        obtain ⟨s0, s1, s2, s3⟩ := hSu
        go_simp
        try with_reducible rfl
      try simp only [Act.put, List.getElem_toArray, List.getElem_cons_succ, List.getElem_cons_zero, List.setIfInBounds_toArray, List.set_cons_zero, List.set_cons_succ]
      refine wpAnyH_take (i := 9) (v := ?bvv9) rfl (by kernel_rfl) (by kernel_rfl) (by kernel_rfl) (fun _ _ _ h => h) (Or.inl ⟨by rfl, ?bhy9⟩) (by assumption) ?brest9
      case bhy9 =>
        intro u hSu
        obtain ⟨s0, s1, s2, s3⟩ := hSu
        go_simp
        try with_reducible rfl
      try simp only [Act.put, List.getElem_toArray, List.getElem_cons_succ, List.getElem_cons_zero, List.setIfInBounds_toArray, List.set_cons_zero, List.set_cons_succ]
      refine wpAnyH_ready (rs := [10]) (by kernel_rfl) (by simp) ?_
      refine AllReadyH.cons rfl (fun K hK => ?_) AllReadyH.nil
      (refine ws_T rfl rfl ZZ.out rfl rfl rfl ?_; generalize putT w8 p T = W8 at *)
      refine hK.out _ _ ?dhS10 (fun hHeld => ?drest10)
      case dhS10 => exact K6
      clear hK K
      try simp only [Act.put, List.getElem_toArray, List.getElem_cons_succ, List.getElem_cons_zero, List.setIfInBounds_toArray, List.set_cons_zero, List.set_cons_succ]
      refine wpAnyH_done (by kernel_rfl) ?_ _
      clear K0 K5 K6 J1 CD ZZ
      obtain ⟨a0, a1, a2, a3⟩ := KB.out _ J8.out.B
      have hg5 : g < W8.heap.size := by have := J8.out.B.size; omega
      go_upto_region 10 with (go_at_call 16; (with_reducible refine (CN1.out _ _ J8.out).mono ?_); rintro e w9 ⟨rfl, hB⟩; have J9 := Lib.hid (J8.out.belowS HP.out hB); clear hB)
      have JA := Lib.hid (J9.out.belowS HP.out (below_new w9 (.cells (bdC B1) 35)))
      have HBX := Lib.hid (Whole.new w9 35 (bdC B1))
      clear a0 a1 a2 a3 hg5 J8 J9 CN1
      generalize w9.alloc (.cells #[.string (bs B1.nm), .int .u16 B1.ow, .int .u32 B1.bs] 35) = WA at *
      rw [HT.out] at JA
      generalize w9.heap.size = px at *
      have hbA : Below WA.heap.size WA WA.drew := (Below.refl _ _).drew
      have JB := Lib.hid (JA.out.belowS HP.out hbA)
      have hbx := HBX.out.belowS hbA
      have K0 : WA.drew.cell? ⟨px, 0, none⟩ = some (.string (bs B1.nm)) ∧ WA.drew.cell? ⟨g, off + k * 4 + 1, none⟩ = some (.string X) := And.intro (hbx.cell 0) (KB.out _ JB.out.B).2.1
      generalize bs B1.nm = XB at *
      clear hbx HBX hbA JA KB
      rcases hcnt with ⟨e1, e2, e3, e4⟩ | ⟨e1, e2⟩ | e1
      · subst e1 e2 e3 e4
        go_upto_region 10 with fail
        refine wp_region_held_drew (S := fun u => u.cell? ⟨px, 0, none⟩ = some (.string XB) ∧ u.cell? ⟨g, off + k * 4 + 1, none⟩ = some (.string XB)) (by kernel_rfl) K0 (fun hHeld => ?_)
        refine wpAnyH_take (i := 0) (v := ?kavv0) rfl (by kernel_rfl) (by kernel_rfl) (by kernel_rfl) (fun _ _ _ h => h) (Or.inl ⟨by rfl, ?kahy0⟩) (by assumption) ?karest0
        case kahy0 =>
          intro u hSu
          obtain ⟨s0, s1⟩ := hSu
          go_simp
          try with_reducible rfl
        try simp only [Act.put, List.getElem_toArray, List.getElem_cons_succ, List.getElem_cons_zero, List.setIfInBounds_toArray, List.set_cons_zero, List.set_cons_succ]
        refine wpAnyH_take (i := 1) (v := ?kavv1) rfl (by kernel_rfl) (by kernel_rfl) (by kernel_rfl) (fun _ _ _ h => h) (Or.inl ⟨by rfl, ?kahy1⟩) (by assumption) ?karest1
        case kahy1 =>
          intro u hSu
          obtain ⟨s0, s1⟩ := hSu
          go_simp
          try with_reducible rfl
        try simp only [Act.put, List.getElem_toArray, List.getElem_cons_succ, List.getElem_cons_zero, List.setIfInBounds_toArray, List.set_cons_zero, List.set_cons_succ]
        refine wpAnyH_take (i := 2) (v := ?kavv2) rfl (by kernel_rfl) (by kernel_rfl) (by kernel_rfl) (fun _ _ _ h => h) (Or.inl ⟨by rfl, ?kahy2⟩) (by assumption) ?karest2
        case kahy2 =>
          intro u hSu
          obtain ⟨s0, s1⟩ := hSu
          go_simp
          try with_reducible rfl
        try simp only [Act.put, List.getElem_toArray, List.getElem_cons_succ, List.getElem_cons_zero, List.setIfInBounds_toArray, List.set_cons_zero, List.set_cons_succ]
        refine wpAnyH_take (i := 3) (v := ?kavv3) rfl (by kernel_rfl) (by kernel_rfl) (by kernel_rfl) (fun _ _ _ h => h) (Or.inl ⟨by rfl, ?kahy3⟩) (by assumption) ?karest3
        case kahy3 =>
          intro u hSu
          obtain ⟨s0, s1⟩ := hSu
          go_simp
          try with_reducible rfl
        try simp only [Act.put, List.getElem_toArray, List.getElem_cons_succ, List.getElem_cons_zero, List.setIfInBounds_toArray, List.set_cons_zero, List.set_cons_succ]
        refine wpAnyH_take (i := 4) (v := ?kavv4) rfl (by kernel_rfl) (by kernel_rfl) (by kernel_rfl) (fun _ _ _ h => h) (Or.inl ⟨by rfl, ?kahy4⟩) (by assumption) ?karest4
        case kahy4 =>
          intro u hSu
          obtain ⟨s0, s1⟩ := hSu
          go_simp
          try with_reducible rfl
        try simp only [Act.put, List.getElem_toArray, List.getElem_cons_succ, List.getElem_cons_zero, List.setIfInBounds_toArray, List.set_cons_zero, List.set_cons_succ]
        refine wpAnyH_take (i := 5) (v := ?kavv5) rfl (by kernel_rfl) (by kernel_rfl) (by kernel_rfl) (fun _ _ _ h => h) (Or.inl ⟨by rfl, ?kahy5⟩) (by assumption) ?karest5
        case kahy5 =>
          intro u hSu
          obtain ⟨s0, s1⟩ := hSu
          go_simp
          try with_reducible rfl
        try simp only [Act.put, List.getElem_toArray, List.getElem_cons_succ, List.getElem_cons_zero, List.setIfInBounds_toArray, List.set_cons_zero, List.set_cons_succ]
        refine wpAnyH_take (i := 6) (v := ?kavv6) rfl (by kernel_rfl) (by kernel_rfl) (by kernel_rfl) (fun _ _ _ h => h) (Or.inl ⟨by rfl, ?kahy6⟩) (by assumption) ?karest6
        case kahy6 =>
          intro u hSu
          obtain ⟨s0, s1⟩ := hSu
          go_simp
          try with_reducible rfl
        try simp only [Act.put, List.getElem_toArray, List.getElem_cons_succ, List.getElem_cons_zero, List.setIfInBounds_toArray, List.set_cons_zero, List.set_cons_succ]
        refine wpAnyH_take (i := 7) (v := ?kavv7) rfl (by kernel_rfl) (by kernel_rfl) (by kernel_rfl) (fun _ _ _ h => h) (Or.inl ⟨by rfl, ?kahy7⟩) (by assumption) ?karest7
        case kahy7 =>
          intro u hSu
          obtain ⟨s0, s1⟩ := hSu
          go_simp
          try with_reducible rfl
        try simp only [Act.put, List.getElem_toArray, List.getElem_cons_succ, List.getElem_cons_zero, List.setIfInBounds_toArray, List.set_cons_zero, List.set_cons_succ]
        refine wpAnyH_take (i := 8) (v := ?kavv8) rfl (by kernel_rfl) (by kernel_rfl) (by kernel_rfl) (fun _ _ _ h => h) (Or.inl ⟨by rfl, ?kahy8⟩) (by assumption) ?karest8
        case kahy8 =>
          intro u hSu
          obtain ⟨s0, s1⟩ := hSu
          go_simp
          try with_reducible rfl
        try simp only [Act.put, List.getElem_toArray, List.getElem_cons_succ, List.getElem_cons_zero, List.setIfInBounds_toArray, List.set_cons_zero, List.set_cons_succ]
        refine wpAnyH_take (i := 9) (v := ?kavv9) rfl (by kernel_rfl) (by kernel_rfl) (by kernel_rfl) (fun _ _ _ h => h) (Or.inl ⟨by rfl, ?kahy9⟩) (by assumption) ?karest9
        case kahy9 =>
          intro u hSu
          obtain ⟨s0, s1⟩ := hSu
          go_simp
          try with_reducible rfl
        try simp only [Act.put, List.getElem_toArray, List.getElem_cons_succ, List.getElem_cons_zero, List.setIfInBounds_toArray, List.set_cons_zero, List.set_cons_succ]
        refine wpAnyH_take (i := 10) (v := ?kavv10) rfl (by kernel_rfl) (by kernel_rfl) (by kernel_rfl) (fun _ _ _ h => h) (Or.inl ⟨by rfl, ?kahy10⟩) (by assumption) ?karest10
        case kahy10 =>
          intro u hSu
          obtain ⟨s0, s1⟩ := hSu
          go_simp
          try with_reducible rfl
        try simp only [Act.put, List.getElem_toArray, List.getElem_cons_succ, List.getElem_cons_zero, List.setIfInBounds_toArray, List.set_cons_zero, List.set_cons_succ]
        refine wpAnyH_take (i := 11) (v := ?kavv11) rfl (by kernel_rfl) (by kernel_rfl) (by kernel_rfl) (fun _ _ _ h => h) (Or.inl ⟨by rfl, ?kahy11⟩) (by assumption) ?karest11
        case kahy11 =>
          intro u hSu
          obtain ⟨s0, s1⟩ := hSu
          go_simp
          try with_reducible rfl
        try simp only [Act.put, List.getElem_toArray, List.getElem_cons_succ, List.getElem_cons_zero, List.setIfInBounds_toArray, List.set_cons_zero, List.set_cons_succ]
        refine wpAnyH_take (i := 12) (v := ?kavv12) rfl (by kernel_rfl) (by kernel_rfl) (by kernel_rfl) (fun _ _ _ h => h) (Or.inl ⟨by rfl, ?kahy12⟩) (by assumption) ?karest12
        case kahy12 =>
          intro u hSu
          obtain ⟨s0, s1⟩ := hSu
          go_simp
          try with_reducible rfl
        try simp only [Act.put, List.getElem_toArray, List.getElem_cons_succ, List.getElem_cons_zero, List.setIfInBounds_toArray, List.set_cons_zero, List.set_cons_succ]
        refine wpAnyH_take (i := 13) (v := ?kavv13) rfl (by kernel_rfl) (by kernel_rfl) (by kernel_rfl) (fun _ _ _ h => h) (Or.inl ⟨by rfl, ?kahy13⟩) (by assumption) ?karest13
        case kahy13 =>
          intro u hSu
          obtain ⟨s0, s1⟩ := hSu
          go_simp
          try with_reducible rfl
        try simp only [Act.put, List.getElem_toArray, List.getElem_cons_succ, List.getElem_cons_zero, List.setIfInBounds_toArray, List.set_cons_zero, List.set_cons_succ]
        refine wpAnyH_take (i := 14) (v := ?kavv14) rfl (by kernel_rfl) (by kernel_rfl) (by kernel_rfl) (fun _ _ _ h => h) (Or.inl ⟨by rfl, ?kahy14⟩) (by assumption) ?karest14
        case kahy14 =>
          intro u hSu
          obtain ⟨s0, s1⟩ := hSu
          go_simp
          try with_reducible rfl
        try simp only [Act.put, List.getElem_toArray, List.getElem_cons_succ, List.getElem_cons_zero, List.setIfInBounds_toArray, List.set_cons_zero, List.set_cons_succ]
        refine wpAnyH_take (i := 15) (v := ?kavv15) rfl (by kernel_rfl) (by kernel_rfl) (by kernel_rfl) (fun _ _ _ h => h) (Or.inl ⟨by rfl, ?kahy15⟩) (by assumption) ?karest15
        case kahy15 =>
          intro u hSu
          obtain ⟨s0, s1⟩ := hSu
          go_simp
          try with_reducible rfl
        try simp only [Act.put, List.getElem_toArray, List.getElem_cons_succ, List.getElem_cons_zero, List.setIfInBounds_toArray, List.set_cons_zero, List.set_cons_succ]
        refine wpAnyH_take (i := 16) (v := ?kavv16) rfl (by kernel_rfl) (by kernel_rfl) (by kernel_rfl) (fun _ _ _ h => h) (Or.inl ⟨by rfl, ?kahy16⟩) (by assumption) ?karest16
        case kahy16 =>
          intro u hSu
          obtain ⟨s0, s1⟩ := hSu
          go_simp
          try with_reducible rfl
        try simp only [Act.put, List.getElem_toArray, List.getElem_cons_succ, List.getElem_cons_zero, List.setIfInBounds_toArray, List.set_cons_zero, List.set_cons_succ]
        refine wpAnyH_take (i := 17) (v := ?kavv17) rfl (by kernel_rfl) (by kernel_rfl) (by kernel_rfl) (fun _ _ _ h => h) (Or.inl ⟨by rfl, ?kahy17⟩) (by assumption) ?karest17
        case kahy17 =>
          intro u hSu
          obtain ⟨s0, s1⟩ := hSu
          go_simp
          try with_reducible rfl
        try simp only [Act.put, List.getElem_toArray, List.getElem_cons_succ, List.getElem_cons_zero, List.setIfInBounds_toArray, List.set_cons_zero, List.set_cons_succ]
        refine wpAnyH_take (i := 18) (v := ?kavv18) rfl (by kernel_rfl) (by kernel_rfl) (by kernel_rfl) (fun _ _ _ h => h) (Or.inl ⟨by rfl, ?kahy18⟩) (by assumption) ?karest18
        case kahy18 =>
          intro u hSu
          obtain ⟨s0, s1⟩ := hSu
          go_simp
          try with_reducible rfl
        try simp only [Act.put, List.getElem_toArray, List.getElem_cons_succ, List.getElem_cons_zero, List.setIfInBounds_toArray, List.set_cons_zero, List.set_cons_succ]
        refine wpAnyH_take (i := 19) (v := ?kavv19) rfl (by kernel_rfl) (by kernel_rfl) (by kernel_rfl) (fun _ _ _ h => h) (Or.inl ⟨by rfl, ?kahy19⟩) (by assumption) ?karest19
        case kahy19 =>
          intro u hSu
          obtain ⟨s0, s1⟩ := hSu
          go_simp
          try with_reducible rfl
        try simp only [Act.put, List.getElem_toArray, List.getElem_cons_succ, List.getElem_cons_zero, List.setIfInBounds_toArray, List.set_cons_zero, List.set_cons_succ]
        refine wpAnyH_take (i := 20) (v := ?kavv20) rfl (by kernel_rfl) (by kernel_rfl) (by kernel_rfl) (fun _ _ _ h => h) (Or.inl ⟨by rfl, ?kahy20⟩) (by assumption) ?karest20
        case kahy20 =>
          intro u hSu
          obtain ⟨s0, s1⟩ := hSu
          go_simp
          try with_reducible rfl
        try simp only [Act.put, List.getElem_toArray, List.getElem_cons_succ, List.getElem_cons_zero, List.setIfInBounds_toArray, List.set_cons_zero, List.set_cons_succ]
        refine wpAnyH_take (i := 21) (v := ?kavv21) rfl (by kernel_rfl) (by kernel_rfl) (by kernel_rfl) (fun _ _ _ h => h) (Or.inl ⟨by rfl, ?kahy21⟩) (by assumption) ?karest21
        case kahy21 =>
          intro u hSu
          obtain ⟨s0, s1⟩ := hSu
          go_simp
          try with_reducible rfl
        try simp only [Act.put, List.getElem_toArray, List.getElem_cons_succ, List.getElem_cons_zero, List.setIfInBounds_toArray, List.set_cons_zero, List.set_cons_succ]
        refine wpAnyH_done (by kernel_rfl) ?_ _
        clear K0 hHeld
        go_wp2_with fail
        go_roundw
        case rel => exact ⟨k + 1, by omega, by go_num, _, JB⟩
        case measure => simp [intOf]; omega
      · subst e1 e2
        go_upto_region 10 with fail
        refine wp_region_held_drew (S := fun u => u.cell? ⟨px, 0, none⟩ = some (.string XB) ∧ u.cell? ⟨g, off + k * 4 + 1, none⟩ = some (.string X)) (by kernel_rfl) K0 (fun hHeld => ?_)
        refine wpAnyH_take (i := 0) (v := ?kbvv0) rfl (by kernel_rfl) (by kernel_rfl) (by kernel_rfl) (fun _ _ _ h => h) (Or.inl ⟨by rfl, ?kbhy0⟩) (by assumption) ?kbrest0
        case kbhy0 =>
          intro u hSu
          obtain ⟨s0, s1⟩ := hSu
          go_simp
          try with_reducible rfl
        try simp only [Act.put, List.getElem_toArray, List.getElem_cons_succ, List.getElem_cons_zero, List.setIfInBounds_toArray, List.set_cons_zero, List.set_cons_succ]
        refine wpAnyH_take (i := 1) (v := ?kbvv1) rfl (by kernel_rfl) (by kernel_rfl) (by kernel_rfl) (fun _ _ _ h => h) (Or.inl ⟨by rfl, ?kbhy1⟩) (by assumption) ?kbrest1
        case kbhy1 =>
          intro u hSu
          obtain ⟨s0, s1⟩ := hSu
          go_simp
          try with_reducible rfl
        try simp only [Act.put, List.getElem_toArray, List.getElem_cons_succ, List.getElem_cons_zero, List.setIfInBounds_toArray, List.set_cons_zero, List.set_cons_succ]
        refine wpAnyH_take (i := 2) (v := ?kbvv2) rfl (by kernel_rfl) (by kernel_rfl) (by kernel_rfl) (fun _ _ _ h => h) (Or.inl ⟨by rfl, ?kbhy2⟩) (by assumption) ?kbrest2
        case kbhy2 =>
          intro u hSu
          obtain ⟨s0, s1⟩ := hSu
          go_simp
          try with_reducible rfl
        try simp only [Act.put, List.getElem_toArray, List.getElem_cons_succ, List.getElem_cons_zero, List.setIfInBounds_toArray, List.set_cons_zero, List.set_cons_succ]
        refine wpAnyH_take (i := 3) (v := ?kbvv3) rfl (by kernel_rfl) (by kernel_rfl) (by kernel_rfl) (fun _ _ _ h => h) (Or.inl ⟨by rfl, ?kbhy3⟩) (by assumption) ?kbrest3
        case kbhy3 =>
          intro u hSu
          obtain ⟨s0, s1⟩ := hSu
          go_simp
          try with_reducible rfl
        try simp only [Act.put, List.getElem_toArray, List.getElem_cons_succ, List.getElem_cons_zero, List.setIfInBounds_toArray, List.set_cons_zero, List.set_cons_succ]
        refine wpAnyH_take (i := 4) (v := ?kbvv4) rfl (by kernel_rfl) (by kernel_rfl) (by kernel_rfl) (fun _ _ _ h => h) (Or.inl ⟨by rfl, ?kbhy4⟩) (by assumption) ?kbrest4
        case kbhy4 =>
          intro u hSu
          obtain ⟨s0, s1⟩ := hSu
          go_simp
          try with_reducible rfl
        try simp only [Act.put, List.getElem_toArray, List.getElem_cons_succ, List.getElem_cons_zero, List.setIfInBounds_toArray, List.set_cons_zero, List.set_cons_succ]
        refine wpAnyH_take (i := 5) (v := ?kbvv5) rfl (by kernel_rfl) (by kernel_rfl) (by kernel_rfl) (fun _ _ _ h => h) (Or.inl ⟨by rfl, ?kbhy5⟩) (by assumption) ?kbrest5
        case kbhy5 =>
          intro u hSu
          obtain ⟨s0, s1⟩ := hSu
          go_simp
          try with_reducible rfl
        try simp only [Act.put, List.getElem_toArray, List.getElem_cons_succ, List.getElem_cons_zero, List.setIfInBounds_toArray, List.set_cons_zero, List.set_cons_succ]
        refine wpAnyH_take (i := 6) (v := ?kbvv6) rfl (by kernel_rfl) (by kernel_rfl) (by kernel_rfl) (fun _ _ _ h => h) (Or.inl ⟨by rfl, ?kbhy6⟩) (by assumption) ?kbrest6
        case kbhy6 =>
          intro u hSu
          obtain ⟨s0, s1⟩ := hSu
          go_simp
          try with_reducible rfl
        try simp only [Act.put, List.getElem_toArray, List.getElem_cons_succ, List.getElem_cons_zero, List.setIfInBounds_toArray, List.set_cons_zero, List.set_cons_succ]
        refine wpAnyH_take (i := 7) (v := undef) rfl (by kernel_rfl) (by kernel_rfl) (by kernel_rfl) (fun _ _ _ h => h) (Or.inr ⟨by rfl, rfl⟩) (by assumption) ?kbrest7
        try simp only [Act.put, List.getElem_toArray, List.getElem_cons_succ, List.getElem_cons_zero, List.setIfInBounds_toArray, List.set_cons_zero, List.set_cons_succ]
        refine wpAnyH_take (i := 8) (v := undef) rfl (by kernel_rfl) (by kernel_rfl) (by kernel_rfl) (fun _ _ _ h => h) (Or.inr ⟨by rfl, rfl⟩) (by assumption) ?kbrest8
        try simp only [Act.put, List.getElem_toArray, List.getElem_cons_succ, List.getElem_cons_zero, List.setIfInBounds_toArray, List.set_cons_zero, List.set_cons_succ]
        refine wpAnyH_take (i := 9) (v := undef) rfl (by kernel_rfl) (by kernel_rfl) (by kernel_rfl) (fun _ _ _ h => h) (Or.inr ⟨by rfl, rfl⟩) (by assumption) ?kbrest9
        try simp only [Act.put, List.getElem_toArray, List.getElem_cons_succ, List.getElem_cons_zero, List.setIfInBounds_toArray, List.set_cons_zero, List.set_cons_succ]
        refine wpAnyH_take (i := 10) (v := undef) rfl (by kernel_rfl) (by kernel_rfl) (by kernel_rfl) (fun _ _ _ h => h) (Or.inr ⟨by rfl, rfl⟩) (by assumption) ?kbrest10
        try simp only [Act.put, List.getElem_toArray, List.getElem_cons_succ, List.getElem_cons_zero, List.setIfInBounds_toArray, List.set_cons_zero, List.set_cons_succ]
        refine wpAnyH_take (i := 11) (v := undef) rfl (by kernel_rfl) (by kernel_rfl) (by kernel_rfl) (fun _ _ _ h => h) (Or.inr ⟨by rfl, rfl⟩) (by assumption) ?kbrest11
        try simp only [Act.put, List.getElem_toArray, List.getElem_cons_succ, List.getElem_cons_zero, List.setIfInBounds_toArray, List.set_cons_zero, List.set_cons_succ]
        refine wpAnyH_take (i := 12) (v := undef) rfl (by kernel_rfl) (by kernel_rfl) (by kernel_rfl) (fun _ _ _ h => h) (Or.inr ⟨by rfl, rfl⟩) (by assumption) ?kbrest12
        try simp only [Act.put, List.getElem_toArray, List.getElem_cons_succ, List.getElem_cons_zero, List.setIfInBounds_toArray, List.set_cons_zero, List.set_cons_succ]
        refine wpAnyH_take (i := 13) (v := undef) rfl (by kernel_rfl) (by kernel_rfl) (by kernel_rfl) (fun _ _ _ h => h) (Or.inr ⟨by rfl, rfl⟩) (by assumption) ?kbrest13
        try simp only [Act.put, List.getElem_toArray, List.getElem_cons_succ, List.getElem_cons_zero, List.setIfInBounds_toArray, List.set_cons_zero, List.set_cons_succ]
        refine wpAnyH_take (i := 14) (v := undef) rfl (by kernel_rfl) (by kernel_rfl) (by kernel_rfl) (fun _ _ _ h => h) (Or.inr ⟨by rfl, rfl⟩) (by assumption) ?kbrest14
        try simp only [Act.put, List.getElem_toArray, List.getElem_cons_succ, List.getElem_cons_zero, List.setIfInBounds_toArray, List.set_cons_zero, List.set_cons_succ]
        refine wpAnyH_take (i := 15) (v := undef) rfl (by kernel_rfl) (by kernel_rfl) (by kernel_rfl) (fun _ _ _ h => h) (Or.inr ⟨by rfl, rfl⟩) (by assumption) ?kbrest15
        try simp only [Act.put, List.getElem_toArray, List.getElem_cons_succ, List.getElem_cons_zero, List.setIfInBounds_toArray, List.set_cons_zero, List.set_cons_succ]
        refine wpAnyH_take (i := 16) (v := undef) rfl (by kernel_rfl) (by kernel_rfl) (by kernel_rfl) (fun _ _ _ h => h) (Or.inr ⟨by rfl, rfl⟩) (by assumption) ?kbrest16
        try simp only [Act.put, List.getElem_toArray, List.getElem_cons_succ, List.getElem_cons_zero, List.setIfInBounds_toArray, List.set_cons_zero, List.set_cons_succ]
        refine wpAnyH_take (i := 17) (v := undef) rfl (by kernel_rfl) (by kernel_rfl) (by kernel_rfl) (fun _ _ _ h => h) (Or.inr ⟨by rfl, rfl⟩) (by assumption) ?kbrest17
        try simp only [Act.put, List.getElem_toArray, List.getElem_cons_succ, List.getElem_cons_zero, List.setIfInBounds_toArray, List.set_cons_zero, List.set_cons_succ]
        refine wpAnyH_take (i := 18) (v := undef) rfl (by kernel_rfl) (by kernel_rfl) (by kernel_rfl) (fun _ _ _ h => h) (Or.inr ⟨by rfl, rfl⟩) (by assumption) ?kbrest18
        try simp only [Act.put, List.getElem_toArray, List.getElem_cons_succ, List.getElem_cons_zero, List.setIfInBounds_toArray, List.set_cons_zero, List.set_cons_succ]
        refine wpAnyH_take (i := 19) (v := undef) rfl (by kernel_rfl) (by kernel_rfl) (by kernel_rfl) (fun _ _ _ h => h) (Or.inr ⟨by rfl, rfl⟩) (by assumption) ?kbrest19
        try simp only [Act.put, List.getElem_toArray, List.getElem_cons_succ, List.getElem_cons_zero, List.setIfInBounds_toArray, List.set_cons_zero, List.set_cons_succ]
        refine wpAnyH_take (i := 20) (v := undef) rfl (by kernel_rfl) (by kernel_rfl) (by kernel_rfl) (fun _ _ _ h => h) (Or.inr ⟨by rfl, rfl⟩) (by assumption) ?kbrest20
        try simp only [Act.put, List.getElem_toArray, List.getElem_cons_succ, List.getElem_cons_zero, List.setIfInBounds_toArray, List.set_cons_zero, List.set_cons_succ]
        refine wpAnyH_take (i := 21) (v := ?kbvv21) rfl (by kernel_rfl) (by kernel_rfl) (by kernel_rfl) (fun _ _ _ h => h) (Or.inl ⟨by rfl, ?kbhy21⟩) (by assumption) ?kbrest21
        case kbhy21 =>
          intro u hSu
          obtain ⟨s0, s1⟩ := hSu
          go_simp
          try with_reducible rfl
        try simp only [Act.put, List.getElem_toArray, List.getElem_cons_succ, List.getElem_cons_zero, List.setIfInBounds_toArray, List.set_cons_zero, List.set_cons_succ]
        refine wpAnyH_done (by kernel_rfl) ?_ _
        clear K0 hHeld
        go_wp2_with fail
        go_roundw
        case rel => exact ⟨k + 1, by omega, by go_num, _, JB⟩
        case measure => simp [intOf]; omega
      · subst e1
        go_upto_region 10 with fail
        refine wp_region_held_drew (S := fun u => u.cell? ⟨px, 0, none⟩ = some (.string XB) ∧ u.cell? ⟨g, off + k * 4 + 1, none⟩ = some (.string X)) (by kernel_rfl) K0 (fun hHeld => ?_)
        refine wpAnyH_take (i := 0) (v := ?kcvv0) rfl (by kernel_rfl) (by kernel_rfl) (by kernel_rfl) (fun _ _ _ h => h) (Or.inl ⟨by rfl, ?kchy0⟩) (by assumption) ?kcrest0
        case kchy0 =>
          intro u hSu
          obtain ⟨s0, s1⟩ := hSu
          go_simp
          try with_reducible rfl
        try simp only [Act.put, List.getElem_toArray, List.getElem_cons_succ, List.getElem_cons_zero, List.setIfInBounds_toArray, List.set_cons_zero, List.set_cons_succ]
        refine wpAnyH_take (i := 1) (v := ?kcvv1) rfl (by kernel_rfl) (by kernel_rfl) (by kernel_rfl) (fun _ _ _ h => h) (Or.inl ⟨by rfl, ?kchy1⟩) (by assumption) ?kcrest1
        case kchy1 =>
          intro u hSu
          obtain ⟨s0, s1⟩ := hSu
          go_simp
          try with_reducible rfl
        try simp only [Act.put, List.getElem_toArray, List.getElem_cons_succ, List.getElem_cons_zero, List.setIfInBounds_toArray, List.set_cons_zero, List.set_cons_succ]
        refine wpAnyH_take (i := 2) (v := ?kcvv2) rfl (by kernel_rfl) (by kernel_rfl) (by kernel_rfl) (fun _ _ _ h => h) (Or.inl ⟨by rfl, ?kchy2⟩) (by assumption) ?kcrest2
        case kchy2 =>
          intro u hSu
          obtain ⟨s0, s1⟩ := hSu
          go_simp
          try with_reducible rfl
        try simp only [Act.put, List.getElem_toArray, List.getElem_cons_succ, List.getElem_cons_zero, List.setIfInBounds_toArray, List.set_cons_zero, List.set_cons_succ]
        refine wpAnyH_take (i := 3) (v := undef) rfl (by kernel_rfl) (by kernel_rfl) (by kernel_rfl) (fun _ _ _ h => h) (Or.inr ⟨by rfl, rfl⟩) (by assumption) ?kcrest3
        try simp only [Act.put, List.getElem_toArray, List.getElem_cons_succ, List.getElem_cons_zero, List.setIfInBounds_toArray, List.set_cons_zero, List.set_cons_succ]
        refine wpAnyH_take (i := 4) (v := undef) rfl (by kernel_rfl) (by kernel_rfl) (by kernel_rfl) (fun _ _ _ h => h) (Or.inr ⟨by rfl, rfl⟩) (by assumption) ?kcrest4
        try simp only [Act.put, List.getElem_toArray, List.getElem_cons_succ, List.getElem_cons_zero, List.setIfInBounds_toArray, List.set_cons_zero, List.set_cons_succ]
        refine wpAnyH_take (i := 5) (v := ?kcvv5) rfl (by kernel_rfl) (by kernel_rfl) (by kernel_rfl) (fun _ _ _ h => h) (Or.inl ⟨by rfl, ?kchy5⟩) (by assumption) ?kcrest5
        case kchy5 =>
          intro u hSu
          obtain ⟨s0, s1⟩ := hSu
          go_simp
          try with_reducible rfl
        try simp only [Act.put, List.getElem_toArray, List.getElem_cons_succ, List.getElem_cons_zero, List.setIfInBounds_toArray, List.set_cons_zero, List.set_cons_succ]
        refine wpAnyH_take (i := 6) (v := ?kcvv6) rfl (by kernel_rfl) (by kernel_rfl) (by kernel_rfl) (fun _ _ _ h => h) (Or.inl ⟨by rfl, ?kchy6⟩) (by assumption) ?kcrest6
        case kchy6 =>
          intro u hSu
          obtain ⟨s0, s1⟩ := hSu
          go_simp
          try with_reducible rfl
        try simp only [Act.put, List.getElem_toArray, List.getElem_cons_succ, List.getElem_cons_zero, List.setIfInBounds_toArray, List.set_cons_zero, List.set_cons_succ]
        refine wpAnyH_take (i := 7) (v := undef) rfl (by kernel_rfl) (by kernel_rfl) (by kernel_rfl) (fun _ _ _ h => h) (Or.inr ⟨by rfl, rfl⟩) (by assumption) ?kcrest7
        try simp only [Act.put, List.getElem_toArray, List.getElem_cons_succ, List.getElem_cons_zero, List.setIfInBounds_toArray, List.set_cons_zero, List.set_cons_succ]
        refine wpAnyH_take (i := 8) (v := undef) rfl (by kernel_rfl) (by kernel_rfl) (by kernel_rfl) (fun _ _ _ h => h) (Or.inr ⟨by rfl, rfl⟩) (by assumption) ?kcrest8
        try simp only [Act.put, List.getElem_toArray, List.getElem_cons_succ, List.getElem_cons_zero, List.setIfInBounds_toArray, List.set_cons_zero, List.set_cons_succ]
        refine wpAnyH_take (i := 9) (v := undef) rfl (by kernel_rfl) (by kernel_rfl) (by kernel_rfl) (fun _ _ _ h => h) (Or.inr ⟨by rfl, rfl⟩) (by assumption) ?kcrest9
        try simp only [Act.put, List.getElem_toArray, List.getElem_cons_succ, List.getElem_cons_zero, List.setIfInBounds_toArray, List.set_cons_zero, List.set_cons_succ]
        refine wpAnyH_take (i := 10) (v := undef) rfl (by kernel_rfl) (by kernel_rfl) (by kernel_rfl) (fun _ _ _ h => h) (Or.inr ⟨by rfl, rfl⟩) (by assumption) ?kcrest10
        try simp only [Act.put, List.getElem_toArray, List.getElem_cons_succ, List.getElem_cons_zero, List.setIfInBounds_toArray, List.set_cons_zero, List.set_cons_succ]
        refine wpAnyH_take (i := 11) (v := undef) rfl (by kernel_rfl) (by kernel_rfl) (by kernel_rfl) (fun _ _ _ h => h) (Or.inr ⟨by rfl, rfl⟩) (by assumption) ?kcrest11
        try simp only [Act.put, List.getElem_toArray, List.getElem_cons_succ, List.getElem_cons_zero, List.setIfInBounds_toArray, List.set_cons_zero, List.set_cons_succ]
        refine wpAnyH_take (i := 12) (v := undef) rfl (by kernel_rfl) (by kernel_rfl) (by kernel_rfl) (fun _ _ _ h => h) (Or.inr ⟨by rfl, rfl⟩) (by assumption) ?kcrest12
        try simp only [Act.put, List.getElem_toArray, List.getElem_cons_succ, List.getElem_cons_zero, List.setIfInBounds_toArray, List.set_cons_zero, List.set_cons_succ]
        refine wpAnyH_take (i := 13) (v := undef) rfl (by kernel_rfl) (by kernel_rfl) (by kernel_rfl) (fun _ _ _ h => h) (Or.inr ⟨by rfl, rfl⟩) (by assumption) ?kcrest13
        try simp only [Act.put, List.getElem_toArray, List.getElem_cons_succ, List.getElem_cons_zero, List.setIfInBounds_toArray, List.set_cons_zero, List.set_cons_succ]
        refine wpAnyH_take (i := 14) (v := undef) rfl (by kernel_rfl) (by kernel_rfl) (by kernel_rfl) (fun _ _ _ h => h) (Or.inr ⟨by rfl, rfl⟩) (by assumption) ?kcrest14
        try simp only [Act.put, List.getElem_toArray, List.getElem_cons_succ, List.getElem_cons_zero, List.setIfInBounds_toArray, List.set_cons_zero, List.set_cons_succ]
        refine wpAnyH_take (i := 15) (v := undef) rfl (by kernel_rfl) (by kernel_rfl) (by kernel_rfl) (fun _ _ _ h => h) (Or.inr ⟨by rfl, rfl⟩) (by assumption) ?kcrest15
        try simp only [Act.put, List.getElem_toArray, List.getElem_cons_succ, List.getElem_cons_zero, List.setIfInBounds_toArray, List.set_cons_zero, List.set_cons_succ]
        refine wpAnyH_take (i := 16) (v := undef) rfl (by kernel_rfl) (by kernel_rfl) (by kernel_rfl) (fun _ _ _ h => h) (Or.inr ⟨by rfl, rfl⟩) (by assumption) ?kcrest16
        try simp only [Act.put, List.getElem_toArray, List.getElem_cons_succ, List.getElem_cons_zero, List.setIfInBounds_toArray, List.set_cons_zero, List.set_cons_succ]
        refine wpAnyH_take (i := 17) (v := undef) rfl (by kernel_rfl) (by kernel_rfl) (by kernel_rfl) (fun _ _ _ h => h) (Or.inr ⟨by rfl, rfl⟩) (by assumption) ?kcrest17
        try simp only [Act.put, List.getElem_toArray, List.getElem_cons_succ, List.getElem_cons_zero, List.setIfInBounds_toArray, List.set_cons_zero, List.set_cons_succ]
        refine wpAnyH_take (i := 18) (v := undef) rfl (by kernel_rfl) (by kernel_rfl) (by kernel_rfl) (fun _ _ _ h => h) (Or.inr ⟨by rfl, rfl⟩) (by assumption) ?kcrest18
        try simp only [Act.put, List.getElem_toArray, List.getElem_cons_succ, List.getElem_cons_zero, List.setIfInBounds_toArray, List.set_cons_zero, List.set_cons_succ]
        refine wpAnyH_take (i := 19) (v := undef) rfl (by kernel_rfl) (by kernel_rfl) (by kernel_rfl) (fun _ _ _ h => h) (Or.inr ⟨by rfl, rfl⟩) (by assumption) ?kcrest19
        try simp only [Act.put, List.getElem_toArray, List.getElem_cons_succ, List.getElem_cons_zero, List.setIfInBounds_toArray, List.set_cons_zero, List.set_cons_succ]
        refine wpAnyH_take (i := 20) (v := undef) rfl (by kernel_rfl) (by kernel_rfl) (by kernel_rfl) (fun _ _ _ h => h) (Or.inr ⟨by rfl, rfl⟩) (by assumption) ?kcrest20
        try simp only [Act.put, List.getElem_toArray, List.getElem_cons_succ, List.getElem_cons_zero, List.setIfInBounds_toArray, List.set_cons_zero, List.set_cons_succ]
        refine wpAnyH_take (i := 21) (v := ?kcvv21) rfl (by kernel_rfl) (by kernel_rfl) (by kernel_rfl) (fun _ _ _ h => h) (Or.inl ⟨by rfl, ?kchy21⟩) (by assumption) ?kcrest21
        case kchy21 =>
          intro u hSu
          obtain ⟨s0, s1⟩ := hSu
          go_simp
          try with_reducible rfl
        try simp only [Act.put, List.getElem_toArray, List.getElem_cons_succ, List.getElem_cons_zero, List.setIfInBounds_toArray, List.set_cons_zero, List.set_cons_succ]
        refine wpAnyH_done (by kernel_rfl) ?_ _
        clear K0 hHeld
        go_wp2_with fail
        go_roundw
        case rel => exact ⟨k + 1, by omega, by go_num, _, JB⟩
        case measure => simp [intOf]; omega
    · obtain rfl : k = n := by omega
      clear HA
      have hinv := inv_run inv_zero (l.take k)
      obtain ⟨T, hT⟩ : ∃ T, T = runM zeroT (l.take k) := ⟨_, rfl⟩
      rw [← hT] at hinv J
      clear hT
      have HI := Lib.hid hinv
      clear hinv
      have CG : Hid (∀ (u : World), PJ PT w p S u (.pointer (some va)) T → ∀ i : Nat, i < 8 → Calls Try.prog 17 #[.pointer (some va), .int .i64 (i : Int)] u fun e u2 => e = .returned (bdV (T i)) ∧ Below u.heap.size u u2) := Lib.hid (fun u h i hi => by
        have := HP.out.get (i : Int) h.P
        rw [get_at T hi] at this
        exact this)
      go_wp2_with fail
      go_loopw [12] (fun i wr => ∃ m : Nat, m ≤ 8 ∧ i = .int .i64 (m : Int) ∧ Hid (PJ PT w p S wr (.pointer (some va)) T)) (fun i _ => 8 - (intOf i).toNat)
      case atStart => exact ⟨0, by omega, rfl, J⟩
      case round =>
        obtain ⟨m, hm, rfl, JR⟩ := hrel
        clear J
        by_cases hlt8 : m < 8
        · have hlt8' : (m : Int) < 8 := by omega
          have C1 := Lib.hid (CG.out _ JR.out m hlt8)
          have HM := Lib.hid (show ∀ j, j < m → (T m).ow ≠ 0 → (T j).ow ≠ 0 → (T m).ow ≠ (T j).ow ∧ (T m).nm ≠ (T j).nm from fun j hj h1 h2 => HI.out.one m j hlt8 (by omega) (by omega) h1 h2)
          have HZ0 := Lib.hid (HI.out.zero m hlt8)
          obtain ⟨B, hB⟩ : ∃ q, q = T m := ⟨_, rfl⟩
          rw [← hB] at C1 HM HZ0
          clear hB
          go_upto_region 16 with (go_at_call 17; (with_reducible refine C1.out.mono ?_); rintro e w5 ⟨rfl, hB⟩; have J5 := Lib.hid (JR.out.belowS HP.out hB); clear hB)
          have HX := Lib.hid (Whole.new w5 35 (bdC B))
          have J6 := Lib.hid (J5.out.belowS HP.out (below_new w5 (.cells (bdC B) 35)))
          clear C1 J5 JR
          generalize w5.alloc (.cells #[.string (bs B.nm), .int .u16 B.ow, .int .u32 B.bs] 35) = W6 at *
          generalize w5.heap.size = px at *
          have hbd : Below W6.heap.size W6 W6.drew := (Below.refl _ _).drew
          have J7 := Lib.hid (J6.out.belowS HP.out hbd)
          have HX7 := Lib.hid (HX.out.belowS hbd)
          clear J6 HX hbd
          by_cases hz : B.ow = 0
          · obtain rfl : B = b0 := HZ0.out hz
            clear HM HZ0 hz
            have K0 : W6.drew.cell? ⟨px, 0, none⟩ = some (.string ⟨#[]⟩) ∧ W6.drew.cell? ⟨px, 1, none⟩ = some (.int .u16 0) ∧ W6.drew.cell? ⟨px, 2, none⟩ = some (.int .u32 0) := bd_cells HX7.out
            refine wp_region_held_drew (S := fun u => u.cell? ⟨px, 0, none⟩ = some (.string ⟨#[]⟩) ∧ u.cell? ⟨px, 1, none⟩ = some (.int .u16 0) ∧ u.cell? ⟨px, 2, none⟩ = some (.int .u32 0)) (by kernel_rfl) K0 (fun hHeld => ?_)
            refine wpAnyH_take (i := 0) (v := ?kdvv0) rfl (by kernel_rfl) (by kernel_rfl) (by kernel_rfl) (fun _ _ _ h => h) (Or.inl ⟨by rfl, ?kdhy0⟩) (by assumption) ?kdrest0
            case kdhy0 =>
              intro u hSu
              obtain ⟨s0, s1, s2⟩ := hSu
              go_simp
              try with_reducible rfl
            try simp only [Act.put, List.getElem_toArray, List.getElem_cons_succ, List.getElem_cons_zero, List.setIfInBounds_toArray, List.set_cons_zero, List.set_cons_succ]
            refine wpAnyH_take (i := 1) (v := ?kdvv1) rfl (by kernel_rfl) (by kernel_rfl) (by kernel_rfl) (fun _ _ _ h => h) (Or.inl ⟨by rfl, ?kdhy1⟩) (by assumption) ?kdrest1
            case kdhy1 =>
              intro u hSu
              obtain ⟨s0, s1, s2⟩ := hSu
              go_simp
              try with_reducible rfl
            try simp only [Act.put, List.getElem_toArray, List.getElem_cons_succ, List.getElem_cons_zero, List.setIfInBounds_toArray, List.set_cons_zero, List.set_cons_succ]
            refine wpAnyH_take (i := 2) (v := ?kdvv2) rfl (by kernel_rfl) (by kernel_rfl) (by kernel_rfl) (fun _ _ _ h => h) (Or.inl ⟨by rfl, ?kdhy2⟩) (by assumption) ?kdrest2
            case kdhy2 =>
              intro u hSu
              obtain ⟨s0, s1, s2⟩ := hSu
              go_simp
              try with_reducible rfl
            try simp only [Act.put, List.getElem_toArray, List.getElem_cons_succ, List.getElem_cons_zero, List.setIfInBounds_toArray, List.set_cons_zero, List.set_cons_succ]
            refine wpAnyH_take (i := 3) (v := ?kdvv3) rfl (by kernel_rfl) (by kernel_rfl) (by kernel_rfl) (fun _ _ _ h => h) (Or.inl ⟨by rfl, ?kdhy3⟩) (by assumption) ?kdrest3
            case kdhy3 =>
              intro u hSu
              obtain ⟨s0, s1, s2⟩ := hSu
              go_simp
              try with_reducible rfl
            try simp only [Act.put, List.getElem_toArray, List.getElem_cons_succ, List.getElem_cons_zero, List.setIfInBounds_toArray, List.set_cons_zero, List.set_cons_succ]
            refine wpAnyH_take (i := 4) (v := ?kdvv4) rfl (by kernel_rfl) (by kernel_rfl) (by kernel_rfl) (fun _ _ _ h => h) (Or.inl ⟨by rfl, ?kdhy4⟩) (by assumption) ?kdrest4
            case kdhy4 =>
              intro u hSu
              obtain ⟨s0, s1, s2⟩ := hSu
              go_simp
              try with_reducible rfl
            try simp only [Act.put, List.getElem_toArray, List.getElem_cons_succ, List.getElem_cons_zero, List.setIfInBounds_toArray, List.set_cons_zero, List.set_cons_succ]
            refine wpAnyH_take (i := 5) (v := ?kdvv5) rfl (by kernel_rfl) (by kernel_rfl) (by kernel_rfl) (fun _ _ _ h => h) (Or.inl ⟨by rfl, ?kdhy5⟩) (by assumption) ?kdrest5
            case kdhy5 =>
              intro u hSu
              obtain ⟨s0, s1, s2⟩ := hSu
              go_simp
              try with_reducible rfl
            try simp only [Act.put, List.getElem_toArray, List.getElem_cons_succ, List.getElem_cons_zero, List.setIfInBounds_toArray, List.set_cons_zero, List.set_cons_succ]
            refine wpAnyH_take (i := 6) (v := ?kdvv6) rfl (by kernel_rfl) (by kernel_rfl) (by kernel_rfl) (fun _ _ _ h => h) (Or.inl ⟨by rfl, ?kdhy6⟩) (by assumption) ?kdrest6
            case kdhy6 =>
              intro u hSu
              obtain ⟨s0, s1, s2⟩ := hSu
              go_simp
              try with_reducible rfl
            try simp only [Act.put, List.getElem_toArray, List.getElem_cons_succ, List.getElem_cons_zero, List.setIfInBounds_toArray, List.set_cons_zero, List.set_cons_succ]
            refine wpAnyH_done (by kernel_rfl) ?_ _
            clear K0 hHeld
            go_wp2_with fail
            go_loopw [14] (fun i wr => ∃ q : Nat, q ≤ m ∧ i = .int .i64 (q : Int) ∧ Hid (PJ PT w p S wr (.pointer (some va)) T ∧ Whole wr px 35 (bdC b0))) (fun i _ => m - (intOf i).toNat)
            case atStart => exact ⟨0, by omega, rfl, Lib.hid ⟨J7.out, HX7.out⟩⟩
            case round =>
              obtain ⟨q, hq, rfl, JQ⟩ := hrel
              clear J7 HX7
              by_cases hlq : q < m
              · have hlq' : (q : Int) < m := by omega
                have C2 := Lib.hid (CG.out _ JQ.out.1 q (by omega))
                obtain ⟨D, hD⟩ : ∃ z, z = T q := ⟨_, rfl⟩
                rw [← hD] at C2
                clear hD
                go_upto_region 22 with (go_at_call 17; (with_reducible refine C2.out.mono ?_); rintro e w8 ⟨rfl, hB⟩; have J8 := Lib.hid (And.intro (JQ.out.1.belowS HP.out hB) (JQ.out.2.belowS hB)); clear hB)
                have HY := Lib.hid (Whole.new w8 35 (bdC D))
                have bn := below_new w8 (.cells (bdC D) 35)
                have J9 := Lib.hid (And.intro (J8.out.1.belowS HP.out bn) (J8.out.2.belowS bn))
                clear C2 J8 JQ bn
                generalize w8.alloc (.cells #[.string (bs D.nm), .int .u16 D.ow, .int .u32 D.bs] 35) = W9 at *
                generalize w8.heap.size = py at *
                obtain ⟨x0, x1, x2⟩ : W9.cell? ⟨px, 0, none⟩ = some (.string ⟨#[]⟩) ∧ W9.cell? ⟨px, 1, none⟩ = some (.int .u16 0) ∧ W9.cell? ⟨px, 2, none⟩ = some (.int .u32 0) := bd_cells J9.out.2
                obtain ⟨y0, y1, y2⟩ := bd_cells HY.out
                have x6 := J9.out.2.lt
                have y6 := HY.out.lt
                go_wp2_with fail
                go_roundw
                case rel => exact ⟨q + 1, by omega, by go_num, J9⟩
                case measure => simp [intOf]; omega
              · obtain rfl : q = m := by omega
                go_wp2_with fail
                go_roundw
                case rel => exact ⟨q + 1, by omega, by go_num, Lib.hid JQ.out.1⟩
                case measure => simp [intOf]; omega
          · have hz1 : (B.ow == 0) = false := by simpa using hz
            have hz2 : (B.ow != 0) = true := by simpa using hz
            clear HZ0
            have K0 : W6.drew.cell? ⟨px, 0, none⟩ = some (.string (bs B.nm)) ∧ W6.drew.cell? ⟨px, 1, none⟩ = some (.int .u16 B.ow) ∧ W6.drew.cell? ⟨px, 2, none⟩ = some (.int .u32 B.bs) := bd_cells HX7.out
            refine wp_region_held_drew (S := fun u => u.cell? ⟨px, 0, none⟩ = some (.string (bs B.nm)) ∧ u.cell? ⟨px, 1, none⟩ = some (.int .u16 B.ow) ∧ u.cell? ⟨px, 2, none⟩ = some (.int .u32 B.bs)) (by kernel_rfl) K0 (fun hHeld => ?_)
            refine wpAnyH_take (i := 0) (v := ?kevv0) rfl (by kernel_rfl) (by kernel_rfl) (by kernel_rfl) (fun _ _ _ h => h) (Or.inl ⟨by rfl, ?kehy0⟩) (by assumption) ?kerest0
            case kehy0 =>
              intro u hSu
              obtain ⟨s0, s1, s2⟩ := hSu
              go_simp
              try with_reducible rfl
            try simp only [Act.put, List.getElem_toArray, List.getElem_cons_succ, List.getElem_cons_zero, List.setIfInBounds_toArray, List.set_cons_zero, List.set_cons_succ]
            refine wpAnyH_take (i := 1) (v := ?kevv1) rfl (by kernel_rfl) (by kernel_rfl) (by kernel_rfl) (fun _ _ _ h => h) (Or.inl ⟨by rfl, ?kehy1⟩) (by assumption) ?kerest1
            case kehy1 =>
              intro u hSu
              obtain ⟨s0, s1, s2⟩ := hSu
              go_simp
              try with_reducible rfl
            try simp only [Act.put, List.getElem_toArray, List.getElem_cons_succ, List.getElem_cons_zero, List.setIfInBounds_toArray, List.set_cons_zero, List.set_cons_succ]
            refine wpAnyH_take (i := 2) (v := ?kevv2) rfl (by kernel_rfl) (by kernel_rfl) (by kernel_rfl) (fun _ _ _ h => h) (Or.inl ⟨by rfl, ?kehy2⟩) (by assumption) ?kerest2
            case kehy2 =>
              intro u hSu
              obtain ⟨s0, s1, s2⟩ := hSu
              go_simp
              try with_reducible rfl
            try simp only [Act.put, List.getElem_toArray, List.getElem_cons_succ, List.getElem_cons_zero, List.setIfInBounds_toArray, List.set_cons_zero, List.set_cons_succ]
            refine wpAnyH_take (i := 3) (v := ?kevv3) rfl (by kernel_rfl) (by kernel_rfl) (by kernel_rfl) (fun _ _ _ h => h) (Or.inl ⟨by rfl, ?kehy3⟩) (by assumption) ?kerest3
            case kehy3 =>
              intro u hSu
              obtain ⟨s0, s1, s2⟩ := hSu
              go_simp
              try with_reducible rfl
            try simp only [Act.put, List.getElem_toArray, List.getElem_cons_succ, List.getElem_cons_zero, List.setIfInBounds_toArray, List.set_cons_zero, List.set_cons_succ]
            refine wpAnyH_take (i := 4) (v := ?kevv4) rfl (by kernel_rfl) (by kernel_rfl) (by kernel_rfl) (fun _ _ _ h => h) (Or.inl ⟨by rfl, ?kehy4⟩) (by assumption) ?kerest4
            case kehy4 =>
              intro u hSu
              obtain ⟨s0, s1, s2⟩ := hSu
              go_simp
              try with_reducible rfl
            try simp only [Act.put, List.getElem_toArray, List.getElem_cons_succ, List.getElem_cons_zero, List.setIfInBounds_toArray, List.set_cons_zero, List.set_cons_succ]
            refine wpAnyH_take (i := 5) (v := ?kevv5) rfl (by kernel_rfl) (by kernel_rfl) (by kernel_rfl) (fun _ _ _ h => h) (Or.inl ⟨by rfl, ?kehy5⟩) (by assumption) ?kerest5
            case kehy5 =>
              intro u hSu
              obtain ⟨s0, s1, s2⟩ := hSu
              go_simp
              try with_reducible rfl
            try simp only [Act.put, List.getElem_toArray, List.getElem_cons_succ, List.getElem_cons_zero, List.setIfInBounds_toArray, List.set_cons_zero, List.set_cons_succ]
            refine wpAnyH_take (i := 6) (v := ?kevv6) rfl (by kernel_rfl) (by kernel_rfl) (by kernel_rfl) (fun _ _ _ h => h) (Or.inl ⟨by rfl, ?kehy6⟩) (by assumption) ?kerest6
            case kehy6 =>
              intro u hSu
              obtain ⟨s0, s1, s2⟩ := hSu
              go_simp
              try with_reducible rfl
            try simp only [Act.put, List.getElem_toArray, List.getElem_cons_succ, List.getElem_cons_zero, List.setIfInBounds_toArray, List.set_cons_zero, List.set_cons_succ]
            refine wpAnyH_done (by kernel_rfl) ?_ _
            clear K0 hHeld
            go_wp2_with fail
            go_loopw [14] (fun i wr => ∃ q : Nat, q ≤ m ∧ i = .int .i64 (q : Int) ∧ Hid (PJ PT w p S wr (.pointer (some va)) T ∧ Whole wr px 35 (bdC B))) (fun i _ => m - (intOf i).toNat)
            case atStart => exact ⟨0, by omega, rfl, Lib.hid ⟨J7.out, HX7.out⟩⟩
            case round =>
              obtain ⟨q, hq, rfl, JQ⟩ := hrel
              clear J7 HX7
              by_cases hlq : q < m
              · have hlq' : (q : Int) < m := by omega
                have C2 := Lib.hid (CG.out _ JQ.out.1 q (by omega))
                have HN := Lib.hid (HM.out q hlq)
                obtain ⟨D, hD⟩ : ∃ z, z = T q := ⟨_, rfl⟩
                rw [← hD] at C2 HN
                clear hD
                go_upto_region 22 with (go_at_call 17; (with_reducible refine C2.out.mono ?_); rintro e w8 ⟨rfl, hB⟩; have J8 := Lib.hid (And.intro (JQ.out.1.belowS HP.out hB) (JQ.out.2.belowS hB)); clear hB)
                have HY := Lib.hid (Whole.new w8 35 (bdC D))
                have bn := below_new w8 (.cells (bdC D) 35)
                have J9 := Lib.hid (And.intro (J8.out.1.belowS HP.out bn) (J8.out.2.belowS bn))
                clear C2 J8 JQ bn
                generalize w8.alloc (.cells #[.string (bs D.nm), .int .u16 D.ow, .int .u32 D.bs] 35) = W9 at *
                generalize w8.heap.size = py at *
                obtain ⟨x0, x1, x2⟩ : W9.cell? ⟨px, 0, none⟩ = some (.string (bs B.nm)) ∧ W9.cell? ⟨px, 1, none⟩ = some (.int .u16 B.ow) ∧ W9.cell? ⟨px, 2, none⟩ = some (.int .u32 B.bs) := bd_cells J9.out.2
                obtain ⟨y0, y1, y2⟩ := bd_cells HY.out
                have x6 := J9.out.2.lt
                have y6 := HY.out.lt
                by_cases hd : D.ow = 0
                · have hd1 : (D.ow != 0) = false := by simpa using hd
                  clear HN
                  go_wp2_with fail
                  go_roundw
                  case rel => exact ⟨q + 1, by omega, by go_num, J9⟩
                  case measure => simp [intOf]; omega
                · obtain ⟨n1, n2⟩ := HN.out hz hd
                  have hd1 : (D.ow != 0) = true := by simpa using hd
                  have hd2 : (B.ow == D.ow) = false := by simpa using n1
                  have hd3 := bs_inj_iff B.nm D.nm
                  rw [decide_eq_false n2] at hd3
                  clear HN n1 n2
                  go_wp2_with fail
                  go_roundw
                  case rel => exact ⟨q + 1, by omega, by go_num, J9⟩
                  case measure => simp [intOf]; omega
              · obtain rfl : q = m := by omega
                go_wp2_with fail
                go_roundw
                case rel => exact ⟨q + 1, by omega, by go_num, Lib.hid JQ.out.1⟩
                case measure => simp [intOf]; omega
        · obtain rfl : m = 8 := by omega
          clear CG HI
          go_wp2_with (go_at_call 8; (with_reducible refine (AW.out _).mono ?_); rintro e w9 ⟨rfl, hb9⟩)
          go_ret
          exact ⟨rfl, JR.out.B.trans (hb9.mono JR.out.B.size)⟩
end
end Go.Proofs.Ytigalcmhongleaa.GL
