/-
  The walk of EpochPlays, over what the program's functions tell. Nothing here is a statement of the seed.
-/
import Derived.Test.YtcpkiepdpmaeoaaEpRun
set_option linter.unusedSimpArgs false
set_option linter.unusedVariables false
namespace Go.Proofs.Ytcpkiepdpmaeoaa.WK
open Go.RowKit WM NR OM OR EM ER EF EP EL
set_option maxHeartbeats 4000000
set_option maxRecDepth 10000
section
variable {w : World} {a : Option Addr} {n c : Nat} {l : List Ac}
theorem EpochPlays_walk (h : ReadsA (· < w.heap.size) w (.slice a n c) l) :
    Calls Try.prog 3 #[.slice a n c] w fun e w' => e = .returned (.bool true) ∧ Below w.heap.size w w' := by
  obtain ⟨n1, m1, m2⟩ := h.len
  unfold maxLen at m2
  have hn : (n : Int) ≤ 9223372036854775807 := by omega
  have AW := Lib.hid awake_any
  by_cases h100 : n ≤ 100
  case neg =>
    have h100' : (100 : Int) < n := by omega
    clear h n1 m1 m2
    go_enter Try.func3, Try.ntmps3
    go_wp2_with (first | (go_at_call 8; (with_reducible refine (AW.out _).mono ?_); rintro e w2 ⟨rfl, hb2⟩))
    go_ret
    exact ⟨rfl, hb2⟩
  have h100' : ¬ (100 : Int) < n := by omega
  have HA := Lib.hid h
  have HL := Lib.hid n1
  have HOW := Lib.hid h.ows
  clear h n1 m2
  have q2 : (n : Int) ≤ c := by omega
  go_enter Try.func3, Try.ntmps3
  go_upto_region 4 with (go_at_call 9; (with_reducible refine (new_any _).mono ?_); rintro e w2 ⟨v, S, rfl, hP, hS, hb2⟩; have P2 := Lib.hid hP; have J0 := Lib.hid (PJ.zero hP hS hb2); clear hP hS hb2)
  obtain ⟨va, rfl⟩ := P2.out.form
  clear P2
  generalize w2.alloc (.cells (ckC 0 none 0 0) 29) = W3 at *
  generalize w2.heap.size = p at *
  go_wp2_with fail
  go_loopw [5, 6] (fun ok i wr => ∃ k : Nat, k ≤ n ∧ i = .int .i64 (k : Int) ∧ ok = .bool true ∧ ∃ G S la ln lc, Hid (PJ w p G S wr (.pointer (some va)) la ln lc (runM c0 (l.take k)))) (fun _ i _ => n - (intOf i).toNat)
  case atStart => exact ⟨0, by omega, rfl, rfl, _, _, _, _, _, J0⟩
  case round =>
    obtain ⟨k, hk, rfl, rfl, G, S, la, ln, lc, J⟩ := hrel
    clear J0
    by_cases hlt : k < n
    · have hlt' : (k : Int) < n := by omega
      have hn1k : l.length ≤ 1000 := by rw [HL.out]; omega
      have hgd := gd_take HOW.out k
      have hgd2 := gd_take HOW.out (k + 1)
      obtain ⟨g, off, rfl, q1, hglt, hat, hok⟩ := HA.out.at J.out.B (Nat.le_refl _) hlt
      have hb0 : Below wr.heap.size wr wr.drew := (Below.refl _ _).drew
      have J1 := Lib.hid (J.out.belowS hb0)
      have KA : Hid (∀ u, Below w.heap.size w u → AcAt u g (off + k * 3) (l.getD k ac0) ∧ AcOk (· < w.heap.size) u (l.getD k ac0)) := Lib.hid (fun u hu => by
        obtain ⟨g', off', e, _, _, e1, e2⟩ := HA.out.at hu (Nat.le_refl _) hlt
        simp only [Option.some.injEq, Addr.mk.injEq, and_true] at e
        obtain ⟨rfl, rfl⟩ := e
        exact ⟨e1, e2⟩)
      have CD := Lib.hid (J1.out.do_ hgd hn1k (l.getD k ac0) (KA.out _ J1.out.B).2)
      have hrt := run_take c0 l k (by rw [HL.out]; exact hlt)
      rw [← hrt] at CD
      have CS : Hid (∀ (G S : Nat → Prop) (u : World) (la : Option Addr) (ln lc : Nat), PJ w p G S u (.pointer (some va)) la ln lc (runM c0 (l.take (k + 1))) → Calls Try.prog 11 #[.pointer (some va), ckV (runM c0 (l.take (k + 1))).now la ln lc, .slice (l.getD k ac0).ha (l.getD k ac0).hn (l.getD k ac0).hc] u fun e u' => e = .returned (.bool true) ∧ Below u.heap.size u u') := Lib.hid (fun G S u la ln lc hj => hj.same_ hgd2 hn1k (KA.out u hj.B).2.hs)
      have KB : Hid (∀ u, Below w.heap.size w u → AcAt u g (off + k * 3) (l.getD k ac0)) := Lib.hid (fun u hu => (KA.out u hu).1)
      clear hgd hat hok hrt hgd2 KA
      obtain ⟨T, hT⟩ : ∃ T, T = runM c0 (l.take (k + 1)) := ⟨_, rfl⟩
      rw [← hT] at CD CS
      have HT := Lib.hid hT
      clear hT
      obtain ⟨X, hX⟩ : ∃ X, X = l.getD k ac0 := ⟨_, rfl⟩
      rw [← hX] at CD CS KB
      clear hX
      obtain ⟨xk, xo, na, nn, nc, hs⟩ := X
      obtain ⟨NW, hNW⟩ : ∃ q, (runM c0 (l.take k)).now = q := ⟨_, rfl⟩
      rw [hNW] at CD
      have JZ := J1.out.Z
      rw [hNW] at JZ
      clear hNW
      obtain ⟨N2, hN2⟩ : ∃ q, T.now = q := ⟨_, rfl⟩
      rw [hN2] at CD CS
      have HN2 := Lib.hid hN2
      clear hN2
      change Hid (Calls _ _ #[_, _, .agg #[.int .u8 xk, .int .u16 xo, .slice na nn nc]] _ _) at CD
      change Hid (∀ (G S : Nat → Prop) (u : World) (la : Option Addr) (ln lc : Nat), _ → Calls _ _ #[_, _, .slice na nn nc] _ _) at CS
      have KB : Hid (∀ u : World, Below w.heap.size w u → u.cell? ⟨g, off + k * 3, none⟩ = some (.int .u8 xk) ∧ u.cell? ⟨g, off + k * 3 + 1, none⟩ = some (.int .u16 xo) ∧ u.cell? ⟨g, off + k * 3 + 2, none⟩ = some (.slice na nn nc)) := KB
      have K0 := KB.out _ J1.out.B
      obtain ⟨z0, z1⟩ := two_of JZ
      have z6 := JZ.lt
      go_upto_region 8 with fail
      refine wp_region_held_drew (S := fun u => u.cell? ⟨g, off + k * 3, none⟩ = some (.int .u8 xk) ∧ u.cell? ⟨g, off + k * 3 + 1, none⟩ = some (.int .u16 xo) ∧ u.cell? ⟨g, off + k * 3 + 2, none⟩ = some (.slice na nn nc)) (by kernel_rfl) K0 (fun hHeld => ?_)
      refine wpAnyH_take (i := 0) (v := ?avv0) rfl (by kernel_rfl) (by kernel_rfl) (by kernel_rfl) (fun _ _ _ h => h) (Or.inl ⟨by rfl, ?ahy0⟩) (by assumption) ?arest0
      case ahy0 =>
        intro u hSu
        obtain ⟨s0, s1, s2⟩ := hSu
        go_simp
        try with_reducible rfl
      try simp only [Act.put, List.getElem_toArray, List.getElem_cons_succ, List.getElem_cons_zero, List.setIfInBounds_toArray, List.set_cons_zero, List.set_cons_succ]
      refine wpAnyH_take (i := 2) (v := ?avv2) rfl (by kernel_rfl) (by kernel_rfl) (by kernel_rfl) (fun _ _ _ h => h) (Or.inl ⟨by rfl, ?ahy2⟩) (by assumption) ?arest2
      case ahy2 =>
        intro u hSu
        obtain ⟨s0, s1, s2⟩ := hSu
        go_simp
        try with_reducible rfl
      try simp only [Act.put, List.getElem_toArray, List.getElem_cons_succ, List.getElem_cons_zero, List.setIfInBounds_toArray, List.set_cons_zero, List.set_cons_succ]
      refine wpAnyH_take (i := 3) (v := ?avv3) rfl (by kernel_rfl) (by kernel_rfl) (by kernel_rfl) (fun _ _ _ h => h) (Or.inl ⟨by rfl, ?ahy3⟩) (by assumption) ?arest3
      case ahy3 =>
        intro u hSu
        obtain ⟨s0, s1, s2⟩ := hSu
        go_simp
        try with_reducible rfl
      try simp only [Act.put, List.getElem_toArray, List.getElem_cons_succ, List.getElem_cons_zero, List.setIfInBounds_toArray, List.set_cons_zero, List.set_cons_succ]
      refine wpAnyH_take (i := 4) (v := ?avv4) rfl (by kernel_rfl) (by kernel_rfl) (by kernel_rfl) (fun _ _ _ h => h) (Or.inl ⟨by rfl, ?ahy4⟩) (by assumption) ?arest4
      case ahy4 =>
        intro u hSu
        obtain ⟨s0, s1, s2⟩ := hSu
        go_simp
        try with_reducible rfl
      try simp only [Act.put, List.getElem_toArray, List.getElem_cons_succ, List.getElem_cons_zero, List.setIfInBounds_toArray, List.set_cons_zero, List.set_cons_succ]
      refine wpAnyH_take (i := 5) (v := ?avv5) rfl (by kernel_rfl) (by kernel_rfl) (by kernel_rfl) (fun _ _ _ h => h) (Or.inl ⟨by rfl, ?ahy5⟩) (by assumption) ?arest5
      case ahy5 =>
        intro u hSu
        obtain ⟨s0, s1, s2⟩ := hSu
        go_simp
        try with_reducible rfl
      try simp only [Act.put, List.getElem_toArray, List.getElem_cons_succ, List.getElem_cons_zero, List.setIfInBounds_toArray, List.set_cons_zero, List.set_cons_succ]
      refine wpAnyH_ready (rs := [1]) (by kernel_rfl) (by simp) ?_
      refine AllReadyH.cons rfl (fun K hK => ?_) AllReadyH.nil
      go_simp
      refine hK.out _ _ K0 (fun hHeld => ?_)
      clear hK K
      try simp only [Act.put, List.getElem_toArray, List.getElem_cons_succ, List.getElem_cons_zero, List.setIfInBounds_toArray, List.set_cons_zero, List.set_cons_succ]
      refine wpAnyH_ready (rs := [6]) (by kernel_rfl) (by simp) ?_
      refine AllReadyH.cons rfl (fun K hK => ?_) AllReadyH.nil
      (go_simp; go_at_call 10; (with_reducible refine (CD.out).mono ?_); rintro e w5 ⟨la', ln', lc', G', S', rfl, hB5, zz, J5⟩; have K5 := KB.out _ hB5; have K6 := KB.out _ J5.B; have J6 := Lib.hid J5; obtain ⟨y0, y1⟩ := two_of zz; have y6 := zz.lt; have yf0 := zz.frozen 0; have yf1 := zz.frozen 1; clear hB5 J5 zz)
      refine hK.out _ _ ?bhS6 (fun hHeld => ?brest6)
      case bhS6 => first | exact K6 | exact K5 | exact K0
      clear hK K
      try simp only [Act.put, List.getElem_toArray, List.getElem_cons_succ, List.getElem_cons_zero, List.setIfInBounds_toArray, List.set_cons_zero, List.set_cons_succ]
      refine wpAnyH_take (i := 7) (v := ?bvv7) rfl (by kernel_rfl) (by kernel_rfl) (by kernel_rfl) (fun _ _ _ h => h) (Or.inl ⟨by rfl, ?bhy7⟩) (by assumption) ?brest7
      case bhy7 =>
        intro u hSu
        obtain ⟨s0, s1, s2⟩ := hSu
        go_simp
        try with_reducible rfl
      try simp only [Act.put, List.getElem_toArray, List.getElem_cons_succ, List.getElem_cons_zero, List.setIfInBounds_toArray, List.set_cons_zero, List.set_cons_succ]
      refine wpAnyH_take (i := 8) (v := ?bvv8) rfl (by kernel_rfl) (by kernel_rfl) (by kernel_rfl) (fun _ _ _ h => h) (Or.inl ⟨by rfl, ?bhy8⟩) (by assumption) ?brest8
      case bhy8 =>
        intro u hSu
        obtain ⟨s0, s1, s2⟩ := hSu
        go_simp
        try with_reducible rfl
      try simp only [Act.put, List.getElem_toArray, List.getElem_cons_succ, List.getElem_cons_zero, List.setIfInBounds_toArray, List.set_cons_zero, List.set_cons_succ]
      refine wpAnyH_take (i := 9) (v := ?bvv9) rfl (by kernel_rfl) (by kernel_rfl) (by kernel_rfl) (fun _ _ _ h => h) (Or.inl ⟨by rfl, ?bhy9⟩) (by assumption) ?brest9
      case bhy9 =>
        intro u hSu
        obtain ⟨s0, s1, s2⟩ := hSu
        go_simp
        try with_reducible rfl
      try simp only [Act.put, List.getElem_toArray, List.getElem_cons_succ, List.getElem_cons_zero, List.setIfInBounds_toArray, List.set_cons_zero, List.set_cons_succ]
      refine wpAnyH_ready (rs := [10]) (by kernel_rfl) (by simp) ?_
      refine AllReadyH.cons rfl (fun K hK => ?_) AllReadyH.nil
      go_simp
      refine hK.out _ _ ?bhS10 (fun hHeld => ?brest10)
      case bhS10 => first | exact K6 | exact K5 | exact K0
      clear hK K
      try simp only [Act.put, List.getElem_toArray, List.getElem_cons_succ, List.getElem_cons_zero, List.setIfInBounds_toArray, List.set_cons_zero, List.set_cons_succ]
      refine wpAnyH_take (i := 11) (v := ?bvv11) rfl (by kernel_rfl) (by kernel_rfl) (by kernel_rfl) (fun _ _ _ h => h) (Or.inl ⟨by rfl, ?bhy11⟩) (by assumption) ?brest11
      case bhy11 =>
        intro u hSu
        obtain ⟨s0, s1, s2⟩ := hSu
        go_simp
        try with_reducible rfl
      try simp only [Act.put, List.getElem_toArray, List.getElem_cons_succ, List.getElem_cons_zero, List.setIfInBounds_toArray, List.set_cons_zero, List.set_cons_succ]
      refine wpAnyH_done (by kernel_rfl) ?_ _
      clear K0 K5 K6 y0 y1 y6 yf0 yf1 z0 z1 z6 J1 J CD JZ
      generalize (w5.setCell ⟨p, 0, none⟩ (.int .u64 N2)).setCell ⟨p, 1, none⟩ (.slice la' ln' lc') = W6 at *
      go_upto_region 9 with fail
      have hb6 : Below W6.heap.size W6 W6.drew := (Below.refl _ _).drew
      have J7 := Lib.hid (J6.out.belowS hb6)
      have JZ7 : Hid (∀ u, PJ w p G' S' u (.pointer (some va)) la' ln' lc' T → u.cell? ⟨p, 0, none⟩ = some (.int .u64 N2) ∧ u.cell? ⟨p, 1, none⟩ = some (.slice la' ln' lc')) := Lib.hid (fun u hj => by have := two_of hj.Z; rw [HN2.out] at this; exact this)
      have K0 := And.intro (JZ7.out _ J7.out) (KB.out _ J7.out.B)
      refine wp_region_held_drew (S := fun u => (u.cell? ⟨p, 0, none⟩ = some (.int .u64 N2) ∧ u.cell? ⟨p, 1, none⟩ = some (.slice la' ln' lc')) ∧ u.cell? ⟨g, off + k * 3, none⟩ = some (.int .u8 xk) ∧ u.cell? ⟨g, off + k * 3 + 1, none⟩ = some (.int .u16 xo) ∧ u.cell? ⟨g, off + k * 3 + 2, none⟩ = some (.slice na nn nc)) (by kernel_rfl) K0 (fun hHeld => ?_)
      refine wpAnyH_take (i := 0) (v := ?cvv0) rfl (by kernel_rfl) (by kernel_rfl) (by kernel_rfl) (fun _ _ _ h => h) (Or.inl ⟨by rfl, ?chy0⟩) (by assumption) ?crest0
      case chy0 =>
        intro u hSu
        obtain ⟨⟨t0, t1⟩, s0, s1, s2⟩ := hSu
        go_simp
        try with_reducible rfl
      try simp only [Act.put, List.getElem_toArray, List.getElem_cons_succ, List.getElem_cons_zero, List.setIfInBounds_toArray, List.set_cons_zero, List.set_cons_succ]
      refine wpAnyH_take (i := 1) (v := ?cvv1) rfl (by kernel_rfl) (by kernel_rfl) (by kernel_rfl) (fun _ _ _ h => h) (Or.inl ⟨by rfl, ?chy1⟩) (by assumption) ?crest1
      case chy1 =>
        intro u hSu
        obtain ⟨⟨t0, t1⟩, s0, s1, s2⟩ := hSu
        go_simp
        try with_reducible rfl
      try simp only [Act.put, List.getElem_toArray, List.getElem_cons_succ, List.getElem_cons_zero, List.setIfInBounds_toArray, List.set_cons_zero, List.set_cons_succ]
      refine wpAnyH_take (i := 2) (v := ?cvv2) rfl (by kernel_rfl) (by kernel_rfl) (by kernel_rfl) (fun _ _ _ h => h) (Or.inl ⟨by rfl, ?chy2⟩) (by assumption) ?crest2
      case chy2 =>
        intro u hSu
        obtain ⟨⟨t0, t1⟩, s0, s1, s2⟩ := hSu
        go_simp
        try with_reducible rfl
      try simp only [Act.put, List.getElem_toArray, List.getElem_cons_succ, List.getElem_cons_zero, List.setIfInBounds_toArray, List.set_cons_zero, List.set_cons_succ]
      refine wpAnyH_take (i := 3) (v := ?cvv3) rfl (by kernel_rfl) (by kernel_rfl) (by kernel_rfl) (fun _ _ _ h => h) (Or.inl ⟨by rfl, ?chy3⟩) (by assumption) ?crest3
      case chy3 =>
        intro u hSu
        obtain ⟨⟨t0, t1⟩, s0, s1, s2⟩ := hSu
        go_simp
        try with_reducible rfl
      try simp only [Act.put, List.getElem_toArray, List.getElem_cons_succ, List.getElem_cons_zero, List.setIfInBounds_toArray, List.set_cons_zero, List.set_cons_succ]
      refine wpAnyH_take (i := 4) (v := ?cvv4) rfl (by kernel_rfl) (by kernel_rfl) (by kernel_rfl) (fun _ _ _ h => h) (Or.inl ⟨by rfl, ?chy4⟩) (by assumption) ?crest4
      case chy4 =>
        intro u hSu
        obtain ⟨⟨t0, t1⟩, s0, s1, s2⟩ := hSu
        go_simp
        try with_reducible rfl
      try simp only [Act.put, List.getElem_toArray, List.getElem_cons_succ, List.getElem_cons_zero, List.setIfInBounds_toArray, List.set_cons_zero, List.set_cons_succ]
      refine wpAnyH_take (i := 5) (v := ?cvv5) rfl (by kernel_rfl) (by kernel_rfl) (by kernel_rfl) (fun _ _ _ h => h) (Or.inl ⟨by rfl, ?chy5⟩) (by assumption) ?crest5
      case chy5 =>
        intro u hSu
        obtain ⟨⟨t0, t1⟩, s0, s1, s2⟩ := hSu
        go_simp
        try with_reducible rfl
      try simp only [Act.put, List.getElem_toArray, List.getElem_cons_succ, List.getElem_cons_zero, List.setIfInBounds_toArray, List.set_cons_zero, List.set_cons_succ]
      refine wpAnyH_take (i := 6) (v := ?cvv6) rfl (by kernel_rfl) (by kernel_rfl) (by kernel_rfl) (fun _ _ _ h => h) (Or.inl ⟨by rfl, ?chy6⟩) (by assumption) ?crest6
      case chy6 =>
        intro u hSu
        obtain ⟨⟨t0, t1⟩, s0, s1, s2⟩ := hSu
        go_simp
        try with_reducible rfl
      try simp only [Act.put, List.getElem_toArray, List.getElem_cons_succ, List.getElem_cons_zero, List.setIfInBounds_toArray, List.set_cons_zero, List.set_cons_succ]
      refine wpAnyH_take (i := 7) (v := ?cvv7) rfl (by kernel_rfl) (by kernel_rfl) (by kernel_rfl) (fun _ _ _ h => h) (Or.inl ⟨by rfl, ?chy7⟩) (by assumption) ?crest7
      case chy7 =>
        intro u hSu
        obtain ⟨⟨t0, t1⟩, s0, s1, s2⟩ := hSu
        go_simp
        try with_reducible rfl
      try simp only [Act.put, List.getElem_toArray, List.getElem_cons_succ, List.getElem_cons_zero, List.setIfInBounds_toArray, List.set_cons_zero, List.set_cons_succ]
      refine wpAnyH_take (i := 8) (v := ?cvv8) rfl (by kernel_rfl) (by kernel_rfl) (by kernel_rfl) (fun _ _ _ h => h) (Or.inl ⟨by rfl, ?chy8⟩) (by assumption) ?crest8
      case chy8 =>
        intro u hSu
        obtain ⟨⟨t0, t1⟩, s0, s1, s2⟩ := hSu
        go_simp
        try with_reducible rfl
      try simp only [Act.put, List.getElem_toArray, List.getElem_cons_succ, List.getElem_cons_zero, List.setIfInBounds_toArray, List.set_cons_zero, List.set_cons_succ]
      refine wpAnyH_take (i := 9) (v := ?cvv9) rfl (by kernel_rfl) (by kernel_rfl) (by kernel_rfl) (fun _ _ _ h => h) (Or.inl ⟨by rfl, ?chy9⟩) (by assumption) ?crest9
      case chy9 =>
        intro u hSu
        obtain ⟨⟨t0, t1⟩, s0, s1, s2⟩ := hSu
        go_simp
        try with_reducible rfl
      try simp only [Act.put, List.getElem_toArray, List.getElem_cons_succ, List.getElem_cons_zero, List.setIfInBounds_toArray, List.set_cons_zero, List.set_cons_succ]
      refine wpAnyH_ready (rs := [10]) (by kernel_rfl) (by simp) ?_
      refine AllReadyH.cons rfl (fun K hK => ?_) AllReadyH.nil
      (go_simp; go_at_call 11; (with_reducible refine (CS.out _ _ _ _ _ _ J7.out).mono ?_); rintro e w8 ⟨rfl, hB⟩; have J8 := Lib.hid (J7.out.belowS hB); have K8 := And.intro (JZ7.out _ J8.out) (KB.out _ J8.out.B); clear hB)
      refine hK.out _ _ ?chS10 (fun hHeld => ?crest10)
      case chS10 => first | exact K8
      clear hK K
      try simp only [Act.put, List.getElem_toArray, List.getElem_cons_succ, List.getElem_cons_zero, List.setIfInBounds_toArray, List.set_cons_zero, List.set_cons_succ]
      refine wpAnyH_take (i := 11) (v := ?cvv11) rfl (by kernel_rfl) (by kernel_rfl) (by kernel_rfl) (fun _ _ _ h => h) (Or.inl ⟨by rfl, ?chy11⟩) (by assumption) ?crest11
      case chy11 =>
        intro u hSu
        obtain ⟨⟨t0, t1⟩, s0, s1, s2⟩ := hSu
        go_simp
        try with_reducible rfl
      try simp only [Act.put, List.getElem_toArray, List.getElem_cons_succ, List.getElem_cons_zero, List.setIfInBounds_toArray, List.set_cons_zero, List.set_cons_succ]
      refine wpAnyH_take (i := 12) (v := ?cvv12) rfl (by kernel_rfl) (by kernel_rfl) (by kernel_rfl) (fun _ _ _ h => h) (Or.inl ⟨by rfl, ?chy12⟩) (by assumption) ?crest12
      case chy12 =>
        intro u hSu
        obtain ⟨⟨t0, t1⟩, s0, s1, s2⟩ := hSu
        go_simp
        try with_reducible rfl
      try simp only [Act.put, List.getElem_toArray, List.getElem_cons_succ, List.getElem_cons_zero, List.setIfInBounds_toArray, List.set_cons_zero, List.set_cons_succ]
      refine wpAnyH_done (by kernel_rfl) ?_ _
      rw [HT.out] at J8
      clear K0 K8 J6 J7 KB CS HT JZ7 HN2
      go_wp2_with fail
      go_roundw
      case rel => exact ⟨k + 1, by omega, by go_num, rfl, _, _, _, _, _, J8⟩
      case measure => simp [intOf]; omega
    · obtain rfl : k = n := by omega
      clear HA
      go_wp2_with (go_at_call 8; (with_reducible refine (AW.out _).mono ?_); rintro e w9 ⟨rfl, hb9⟩)
      go_ret
      exact ⟨rfl, J.out.B.trans (hb9.mono J.out.B.size)⟩
end
end Go.Proofs.Ytcpkiepdpmaeoaa.WK
