/-
  The walk of GatePlays, over the interface and over what awake tells. Nothing here is a statement of the seed.
-/
import Derived.Test.YtigalcmhongleaaGtRun
set_option linter.unusedSimpArgs false
set_option linter.unusedVariables false
namespace Go.Proofs.Ytigalcmhongleaa.GL
open Go.RowKit WM NR OM OR GA GF
set_option maxHeartbeats 4000000
set_option maxRecDepth 10000
/-- a load of the whole that comes alone -/
theorem wl1_T {w : World} {b : Nat} {t : TypeId} {f : Tb} {op : Oper} {a : Act} {K : Act → World → Prop} {Q : Exit → Act → World → Prop} {x : Operand} (ho : op.op = .load 32 x) (hx : a.eval x = .pointer (some ⟨b, 0, none⟩)) (hW : Whole w b t (tC f)) (h : K (a.put op.dst (tV f)) w) : op.wp Try.prog a w K Q :=
  wp_load_mid _ x ho b 0 hx (tC f).toList _ (range_T hW) Try.underlying32 rfl infoT h
section
variable {PT : Rep} {w : World} {a : Option Addr} {n c : Nat} {l : List Ac}
theorem PJ.start (hP : GP PT) {S : Nat → Prop} {v : Value} {w2 : World} (hp : PT S w2 v zeroT) (hS : ∀ g, S g → w.heap.size ≤ g) (hB : Below w.heap.size w w2) : Whole (w2.alloc (.cells tZ 32)) w2.heap.size 32 tZ ∧ PJ PT w w2.heap.size S (putT (w2.alloc (.cells tZ 32)) w2.heap.size zeroT) v zeroT := by
  have h := PJ.zero hP hp hS hB
  have z : Whole (w2.alloc (.cells tZ 32)) w2.heap.size 32 tZ := Whole.new _ _ _
  have e := hP.lt hp
  refine ⟨z, putT_whole z rfl _, hP.keep h.P (by rw [putT_size]; exact Nat.le_refl _) (fun i hi => (putT_fr _ _ _).block i (by have := e i hi; simp; omega) (fun e2 => by have := e i hi; omega)), putT_below h.B h.B.size h.hp _, h.SB, h.hp⟩
theorem GatePlays_walk (hP : GP PT) (AW : ∀ w, Calls Try.prog 8 #[] w fun e u => e = .returned (.bool true) ∧ Below w.heap.size w u) (h : ReadsA (· < w.heap.size) w (.slice a n c) l) :
    Calls Try.prog 3 #[.slice a n c] w fun e w' => e = .returned (.bool true) ∧ Below w.heap.size w w' := by
  obtain ⟨n1, m1, m2⟩ := h.len
  unfold maxLen at m2
  have hn : (n : Int) ≤ 9223372036854775807 := by omega
  have AW := Lib.hid AW
  by_cases h100 : n ≤ 200
  case neg =>
    have h100' : (200 : Int) < n := by omega
    clear h n1 m1 m2
    go_enter Try.func3, Try.ntmps3
    go_wp2_with (first | (go_at_call 8; (with_reducible refine (AW.out _).mono ?_); rintro e w2 ⟨rfl, hb2⟩))
    go_ret
    exact ⟨rfl, hb2⟩
  have h100' : ¬ (200 : Int) < n := by omega
  have HA := Lib.hid h
  have HL := Lib.hid n1
  have HP := Lib.hid hP
  clear h n1 m2 hP
  have q2 : (n : Int) ≤ c := by omega
  go_enter Try.func3, Try.ntmps3
  go_upto_region 4 with (first | (go_at_call 9; (with_reducible refine (HP.out.new _).mono ?_); rintro e w2 ⟨S, va, rfl, hp, hS, hb2⟩; have J0 := Lib.hid (PJ.start HP.out hp hS hb2); clear hp hS hb2) | (refine wst_T (f := zeroT) rfl (.tmp 4) (.tmp 12) rfl rfl rfl rfl J0.out.1 rfl ?_; have J0 := Lib.hid J0.out.2; generalize putT (w2.alloc (.cells tZ 32)) w2.heap.size zeroT = W3 at *))
  generalize w2.heap.size = p at *
  go_wp2_with fail
  go_loopw [5, 6] (fun ok i wr => ∃ k : Nat, k ≤ n ∧ i = .int .i64 (k : Int) ∧ ok = .bool true ∧ ∃ S, Hid (PJ PT w p S wr (.pointer (some va)) (runM zeroT (l.take k)))) (fun _ i _ => n - (intOf i).toNat)
  case atStart => exact ⟨0, by omega, rfl, rfl, _, J0⟩
  case round =>
    obtain ⟨k, hk, rfl, rfl, S, J⟩ := hrel
    clear J0
    by_cases hlt : k < n
    · have hlt' : (k : Int) < n := by omega
      obtain ⟨g, off, rfl, q1, hglt, hok, hat⟩ := HA.out.at hlt
      have hb0 : Below wr.heap.size wr wr.drew := (Below.refl _ _).drew
      have J1 := Lib.hid (J.out.belowS HP.out hb0)
      have CD := Lib.hid (J1.out.do_ HP.out (l.getD k ac0) hok)
      have hrt := run_take zeroT l k (by rw [HL.out]; exact hlt)
      rw [← hrt] at CD
      have KB := Lib.hid hat
      clear hok hat hrt
      obtain ⟨T, hT⟩ : ∃ T, T = runM zeroT (l.take (k + 1)) := ⟨_, rfl⟩
      rw [← hT] at CD
      have HT := Lib.hid hT
      clear hT
      obtain ⟨T0, hT0⟩ : ∃ T, T = runM zeroT (l.take k) := ⟨_, rfl⟩
      rw [← hT0] at CD J1
      clear hT0 J
      obtain ⟨X, hX⟩ : ∃ X, X = l.getD k ac0 := ⟨_, rfl⟩
      rw [← hX] at CD KB
      clear hX
      obtain ⟨xk, nm, o, bk⟩ := X
      change Hid (Calls _ _ #[_, _, .agg #[.int .u8 xk, .string (bs nm), .int .u16 o, .int .u32 bk]] _ _) at CD
      have KB : Hid (∀ u : World, Below w.heap.size w u → u.cell? ⟨g, off + k * 4, none⟩ = some (.int .u8 xk) ∧ u.cell? ⟨g, off + k * 4 + 1, none⟩ = some (.string (bs nm)) ∧ u.cell? ⟨g, off + k * 4 + 2, none⟩ = some (.int .u16 o) ∧ u.cell? ⟨g, off + k * 4 + 3, none⟩ = some (.int .u32 bk)) := KB
      generalize bs nm = X at *
      have K0 := KB.out _ J1.out.B
      go_upto_region 8 with fail
      refine wp_region_held_drew (S := fun u => u.cell? ⟨g, off + k * 4, none⟩ = some (.int .u8 xk) ∧ u.cell? ⟨g, off + k * 4 + 1, none⟩ = some (.string X) ∧ u.cell? ⟨g, off + k * 4 + 2, none⟩ = some (.int .u16 o) ∧ u.cell? ⟨g, off + k * 4 + 3, none⟩ = some (.int .u32 bk)) (by kernel_rfl) K0 (fun hHeld => ?_)
      refine wpAnyH_take (i := 0) (v := ?avv0) rfl (by kernel_rfl) (by kernel_rfl) (by kernel_rfl) (fun _ _ _ h => h) (Or.inl ⟨by rfl, ?ahy0⟩) (by assumption) ?arest0
      case ahy0 =>
        intro u hSu
        obtain ⟨s0, s1, s2, s3⟩ := hSu
        go_simp
        try with_reducible rfl
      try simp only [Act.put, List.getElem_toArray, List.getElem_cons_succ, List.getElem_cons_zero, List.setIfInBounds_toArray, List.set_cons_zero, List.set_cons_succ]
      refine wpAnyH_take (i := 2) (v := ?avv2) rfl (by kernel_rfl) (by kernel_rfl) (by kernel_rfl) (fun _ _ _ h => h) (Or.inl ⟨by rfl, ?ahy2⟩) (by assumption) ?arest2
      case ahy2 =>
        intro u hSu
        obtain ⟨s0, s1, s2, s3⟩ := hSu
        go_simp
        try with_reducible rfl
      try simp only [Act.put, List.getElem_toArray, List.getElem_cons_succ, List.getElem_cons_zero, List.setIfInBounds_toArray, List.set_cons_zero, List.set_cons_succ]
      refine wpAnyH_take (i := 3) (v := ?avv3) rfl (by kernel_rfl) (by kernel_rfl) (by kernel_rfl) (fun _ _ _ h => h) (Or.inl ⟨by rfl, ?ahy3⟩) (by assumption) ?arest3
      case ahy3 =>
        intro u hSu
        obtain ⟨s0, s1, s2, s3⟩ := hSu
        go_simp
        try with_reducible rfl
      try simp only [Act.put, List.getElem_toArray, List.getElem_cons_succ, List.getElem_cons_zero, List.setIfInBounds_toArray, List.set_cons_zero, List.set_cons_succ]
      refine wpAnyH_take (i := 4) (v := ?avv4) rfl (by kernel_rfl) (by kernel_rfl) (by kernel_rfl) (fun _ _ _ h => h) (Or.inl ⟨by rfl, ?ahy4⟩) (by assumption) ?arest4
      case ahy4 =>
        intro u hSu
        obtain ⟨s0, s1, s2, s3⟩ := hSu
        go_simp
        try with_reducible rfl
      try simp only [Act.put, List.getElem_toArray, List.getElem_cons_succ, List.getElem_cons_zero, List.setIfInBounds_toArray, List.set_cons_zero, List.set_cons_succ]
      refine wpAnyH_take (i := 5) (v := ?avv5) rfl (by kernel_rfl) (by kernel_rfl) (by kernel_rfl) (fun _ _ _ h => h) (Or.inl ⟨by rfl, ?ahy5⟩) (by assumption) ?arest5
      case ahy5 =>
        intro u hSu
        obtain ⟨s0, s1, s2, s3⟩ := hSu
        go_simp
        try with_reducible rfl
      try simp only [Act.put, List.getElem_toArray, List.getElem_cons_succ, List.getElem_cons_zero, List.setIfInBounds_toArray, List.set_cons_zero, List.set_cons_succ]
      refine wpAnyH_ready (rs := [1]) (by kernel_rfl) (by simp) ?_
      refine AllReadyH.cons rfl (fun K hK => ?_) AllReadyH.nil
      (refine wl1_T rfl rfl J1.out.Z ?_)
      refine hK.out _ _ ?ahS1 (fun hHeld => ?arest1)
      case ahS1 => exact K0
      clear hK K
      try simp only [Act.put, List.getElem_toArray, List.getElem_cons_succ, List.getElem_cons_zero, List.setIfInBounds_toArray, List.set_cons_zero, List.set_cons_succ]
      refine wpAnyH_ready (rs := [6]) (by kernel_rfl) (by simp) ?_
      refine AllReadyH.cons rfl (fun K hK => ?_) AllReadyH.nil
      (go_simp; go_at_call 10; (with_reducible refine (CD.out).mono ?_); rintro e w5 ⟨rfl, S', hB5, zz, J5⟩; have K5 := KB.out _ hB5; have K6 := KB.out _ J5.B; have J6 := Lib.hid J5; have ZZ := Lib.hid zz; clear hB5 J5 zz)
      refine hK.out _ _ ?bhS6 (fun hHeld => ?brest6)
      case bhS6 => exact K5
      clear hK K
      try simp only [Act.put, List.getElem_toArray, List.getElem_cons_succ, List.getElem_cons_zero, List.setIfInBounds_toArray, List.set_cons_zero, List.set_cons_succ]
      refine wpAnyH_take (i := 7) (v := ?bvv7) rfl (by kernel_rfl) (by kernel_rfl) (by kernel_rfl) (fun _ _ _ h => h) (Or.inl ⟨by rfl, ?bhy7⟩) (by assumption) ?brest7
      case bhy7 =>
        intro u hSu
        obtain ⟨s0, s1, s2, s3⟩ := hSu
        go_simp
        try with_reducible rfl
      try simp only [Act.put, List.getElem_toArray, List.getElem_cons_succ, List.getElem_cons_zero, List.setIfInBounds_toArray, List.set_cons_zero, List.set_cons_succ]
      refine wpAnyH_take (i := 8) (v := ?bvv8) rfl (by kernel_rfl) (by kernel_rfl) (by kernel_rfl) (fun _ _ _ h => h) (Or.inl ⟨by rfl, ?bhy8⟩) (by assumption) ?brest8
      case bhy8 =>
        intro u hSu
        obtain ⟨s0, s1, s2, s3⟩ := hSu
        go_simp
        try with_reducible rfl
      try simp only [Act.put, List.getElem_toArray, List.getElem_cons_succ, List.getElem_cons_zero, List.setIfInBounds_toArray, List.set_cons_zero, List.set_cons_succ]
      refine wpAnyH_take (i := 9) (v := ?bvv9) rfl (by kernel_rfl) (by kernel_rfl) (by kernel_rfl) (fun _ _ _ h => h) (Or.inl ⟨by rfl, ?bhy9⟩) (by assumption) ?brest9
      case bhy9 =>
        intro u hSu
        obtain ⟨s0, s1, s2, s3⟩ := hSu
        go_simp
        try with_reducible rfl
      try simp only [Act.put, List.getElem_toArray, List.getElem_cons_succ, List.getElem_cons_zero, List.setIfInBounds_toArray, List.set_cons_zero, List.set_cons_succ]
      refine wpAnyH_ready (rs := [10]) (by kernel_rfl) (by simp) ?_
      refine AllReadyH.cons rfl (fun K hK => ?_) AllReadyH.nil
      (refine ws_T rfl rfl ZZ.out rfl rfl rfl ?_; generalize putT w5 p T = W6 at *)
      refine hK.out _ _ ?dhS10 (fun hHeld => ?drest10)
      case dhS10 => exact K6
      clear hK K
      try simp only [Act.put, List.getElem_toArray, List.getElem_cons_succ, List.getElem_cons_zero, List.setIfInBounds_toArray, List.set_cons_zero, List.set_cons_succ]
      refine wpAnyH_take (i := 11) (v := ?dvv11) rfl (by kernel_rfl) (by kernel_rfl) (by kernel_rfl) (fun _ _ _ h => h) (Or.inl ⟨by rfl, ?dhy11⟩) (by assumption) ?drest11
      case dhy11 =>
        intro u hSu
        obtain ⟨s0, s1, s2, s3⟩ := hSu
        go_simp
        try with_reducible rfl
      try simp only [Act.put, List.getElem_toArray, List.getElem_cons_succ, List.getElem_cons_zero, List.setIfInBounds_toArray, List.set_cons_zero, List.set_cons_succ]
      refine wpAnyH_done (by kernel_rfl) ?_ _
      clear K0 K5 K6 J1 CD ZZ KB
      have CS := Lib.hid (J6.out.same_ HP.out)
      go_wp2_with (first | (refine wl_Tg rfl (.tmp 4) rfl rfl J6.out.Z ?_) | (go_at_call 11; (with_reducible refine (CS.out).mono ?_); rintro e w8 ⟨rfl, hB⟩; have J8 := Lib.hid (J6.out.belowS HP.out hB); clear hB))
      rw [HT.out] at J8
      clear CS J6 HT
      go_roundw
      case rel => exact ⟨k + 1, by omega, by go_num, rfl, _, J8⟩
      case measure => simp [intOf]; omega
    · obtain rfl : k = n := by omega
      clear HA
      go_wp2_with (go_at_call 8; (with_reducible refine (AW.out _).mono ?_); rintro e w9 ⟨rfl, hb9⟩)
      go_ret
      exact ⟨rfl, J.out.B.trans (hb9.mono J.out.B.size)⟩
end
end Go.Proofs.Ytigalcmhongleaa.GL
