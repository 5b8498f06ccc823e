/-
  The walk of EpochForks, over what the program's functions tell. Nothing here is a statement of the seed.
-/
import Derived.Test.YtcpkiepdpmaeoaaEpRun
set_option linter.unusedSimpArgs false
set_option linter.unusedVariables false
namespace Go.Proofs.Ytcpkiepdpmaeoaa.WK
open Go.RowKit WM NR OM OR EM ER EF EP EL
set_option maxHeartbeats 4000000
set_option maxRecDepth 10000
section
variable {w : World} {a : Option Addr} {n c : Nat} {l : List Ac} {a2 : Option Addr} {n2 c2 : Nat} {m : List Ac}
theorem gd_takeT {c : Ck} {n : Nat} {l : List Ac} (h : Gd c n) (hl : ∀ x ∈ l, 0 ≤ x.ow ∧ x.ow ≤ 65535) (k : Nat) : Gd (runM c (l.take k)) (n + l.length) := by
  refine gd_mono (gd_run (l.take k) h (fun x hx => hl x (List.mem_of_mem_take hx))) ?_
  rw [List.length_take]
  omega
theorem readsA_go {B : Nat} {w u : World} {a : Option Addr} {n c : Nat} {l : List Ac} (h : ReadsA (· < w.heap.size) w (.slice a n c) l) (hb : Below w.heap.size w u) : ReadsA (· < u.heap.size) u (.slice a n c) l := by
  obtain ⟨a', cap, e, h1, h2, h4, h5⟩ := h
  refine ⟨a', cap, e, h1, h2, ?_, fun x hx => ⟨(h5 x hx).kind, (h5 x hx).ow, (h5 x hx).hs.below hb⟩⟩
  rcases h4 with h4 | ⟨g, off, ea, hg, hc⟩
  · exact Or.inl h4
  · refine Or.inr ⟨g, off, ea, Nat.lt_of_lt_of_le hg hb.size, fun j hj => ?_⟩
    obtain ⟨x0, x1, x2⟩ := hc j hj
    have e := fun o => hb.cell (p := ⟨g, o, none⟩) hg
    exact ⟨(e _).trans x0, (e _).trans x1, (e _).trans x2⟩
theorem EpochForks_walk (h : ReadsA (· < w.heap.size) w (.slice a n c) l) (h2 : ReadsA (· < w.heap.size) w (.slice a2 n2 c2) m) :
    Calls Try.prog 5 #[.slice a n c, .slice a2 n2 c2] w fun e w' => e = .returned (.bool true) ∧ Below w.heap.size w w' := by
  obtain ⟨n3, m3, m4⟩ := h2.len
  unfold maxLen at m4
  have hn2 : (n2 : Int) ≤ 9223372036854775807 := by omega
  obtain ⟨n1, m1, m2⟩ := h.len
  unfold maxLen at m2
  have hn : (n : Int) ≤ 9223372036854775807 := by omega
  have AW := Lib.hid awake_any
  by_cases h60 : n ≤ 60
  case neg =>
    have h60' : (60 : Int) < n := by omega
    clear h n1 m1 m2 h2 n3 m3 m4
    go_enter Try.func5, Try.ntmps5
    go_wp2_with (first | (go_at_call 8; (with_reducible refine (AW.out _).mono ?_); rintro e w2 ⟨rfl, hb2⟩))
    go_ret
    exact ⟨rfl, hb2⟩
  have h60' : ¬ (60 : Int) < n := by omega
  by_cases g60 : n2 ≤ 60
  case neg =>
    have g60' : (60 : Int) < n2 := by omega
    clear h n1 m1 m2 h2 n3 m3 m4
    go_enter Try.func5, Try.ntmps5
    go_wp2_with (first | (go_at_call 8; (with_reducible refine (AW.out _).mono ?_); rintro e w2 ⟨rfl, hb2⟩))
    go_ret
    exact ⟨rfl, hb2⟩
  have g60' : ¬ (60 : Int) < n2 := by omega
  have HA := Lib.hid h
  have HL := Lib.hid n1
  have HOW := Lib.hid h.ows
  have HM := Lib.hid h2
  have HL2 := Lib.hid n3
  have HOW2 := Lib.hid h2.ows
  clear h n1 m2 h2 n3 m4
  have q2 : (n : Int) ≤ c := by omega
  have q3 : (n2 : Int) ≤ c2 := by omega
  go_enter Try.func5, Try.ntmps5
  go_upto_region 4 with (go_at_call 9; (with_reducible refine (new_any _).mono ?_); rintro e w2 ⟨v, S, rfl, hP, hS, hb2⟩; have P2 := Lib.hid hP; have J0 := Lib.hid (PJ.zero hP hS hb2); clear hP hS hb2)
  obtain ⟨va, rfl⟩ := P2.out.form
  clear P2
  generalize w2.alloc (.cells (ckC 0 none 0 0) 29) = W3 at *
  generalize w2.heap.size = p at *
  go_wp2_with fail
  go_loopw [7] (fun i wr => ∃ k : Nat, k ≤ n ∧ i = .int .i64 (k : Int) ∧ ∃ G S la ln lc, Hid (PJ w p G S wr (.pointer (some va)) la ln lc (runM c0 (l.take k)))) (fun i _ => n - (intOf i).toNat)
  case atStart => exact ⟨0, by omega, rfl, _, _, _, _, _, J0⟩
  case round =>
    obtain ⟨k, hk, rfl, G, S, la, ln, lc, J⟩ := hrel
    clear J0
    by_cases hlt : k < n
    · have hlt' : (k : Int) < n := by omega
      have hn1k : l.length ≤ 1000 := by rw [HL.out]; omega
      have hgd := gd_take HOW.out k
      obtain ⟨g, off, rfl, q1, hglt, hat, hok⟩ := HA.out.at J.out.B (Nat.le_refl _) hlt
      have hb0 : Below wr.heap.size wr wr.drew := (Below.refl _ _).drew
      have J1 := Lib.hid (J.out.belowS hb0)
      have KA : Hid (∀ u, Below w.heap.size w u → AcAt u g (off + k * 3) (l.getD k ac0) ∧ AcOk (· < w.heap.size) u (l.getD k ac0)) := Lib.hid (fun u hu => by
        obtain ⟨g', off', e, _, _, e1, e2⟩ := HA.out.at hu (Nat.le_refl _) hlt
        simp only [Option.some.injEq, Addr.mk.injEq, and_true] at e
        obtain ⟨rfl, rfl⟩ := e
        exact ⟨e1, e2⟩)
      have CD := Lib.hid (J1.out.do_ hgd hn1k (l.getD k ac0) (KA.out _ J1.out.B).2)
      have hrt := run_take c0 l k (by rw [HL.out]; exact hlt)
      rw [← hrt] at CD
      have KB : Hid (∀ u, Below w.heap.size w u → AcAt u g (off + k * 3) (l.getD k ac0)) := Lib.hid (fun u hu => (KA.out u hu).1)
      obtain ⟨T9, hT⟩ : ∃ T8, T8 = runM c0 (l.take (k + 1)) := ⟨_, rfl⟩
      rw [← hT] at CD
      have HT := Lib.hid hT
      clear hT hat hok hrt KA
      obtain ⟨X, hX⟩ : ∃ X, X = l.getD k ac0 := ⟨_, rfl⟩
      rw [← hX] at CD KB
      have HXX := Lib.hid hX
      clear hX
      obtain ⟨xk, xo, na, nn, nc, hs⟩ := X
      obtain ⟨NW, hNW⟩ : ∃ q, (runM c0 (l.take k)).now = q := ⟨_, rfl⟩
      rw [hNW] at CD
      have JZ := J1.out.Z
      rw [hNW] at JZ
      have HNW := Lib.hid hNW
      clear hNW
      obtain ⟨N2, hN2⟩ : ∃ q, T9.now = q := ⟨_, rfl⟩
      rw [hN2] at CD
      have HN2 := Lib.hid hN2
      clear hN2
      change Hid (Calls _ _ #[_, _, .agg #[.int .u8 xk, .int .u16 xo, .slice na nn nc]] _ _) at CD
      have KB : Hid (∀ u : World, Below w.heap.size w u → u.cell? ⟨g, off + k * 3, none⟩ = some (.int .u8 xk) ∧ u.cell? ⟨g, off + k * 3 + 1, none⟩ = some (.int .u16 xo) ∧ u.cell? ⟨g, off + k * 3 + 2, none⟩ = some (.slice na nn nc)) := KB
      clear hgd HXX
      have K0 := KB.out _ J1.out.B
      obtain ⟨z0, z1⟩ := two_of JZ
      have z6 := JZ.lt
      go_upto_region 7 with fail
      refine wp_region_held_drew (S := fun u => u.cell? ⟨g, off + k * 3, none⟩ = some (.int .u8 xk) ∧ u.cell? ⟨g, off + k * 3 + 1, none⟩ = some (.int .u16 xo) ∧ u.cell? ⟨g, off + k * 3 + 2, none⟩ = some (.slice na nn nc)) (by kernel_rfl) K0 (fun hHeld => ?_)
      refine wpAnyH_take (i := 0) (v := ?tavv0) rfl (by kernel_rfl) (by kernel_rfl) (by kernel_rfl) (fun _ _ _ h => h) (Or.inl ⟨by rfl, ?tahy0⟩) (by assumption) ?tarest0
      case tahy0 =>
        intro u hSu
        obtain ⟨s0, s1, s2⟩ := hSu
        go_simp
        try with_reducible rfl
      try simp only [Act.put, List.getElem_toArray, List.getElem_cons_succ, List.getElem_cons_zero, List.setIfInBounds_toArray, List.set_cons_zero, List.set_cons_succ]
      refine wpAnyH_take (i := 2) (v := ?tavv2) rfl (by kernel_rfl) (by kernel_rfl) (by kernel_rfl) (fun _ _ _ h => h) (Or.inl ⟨by rfl, ?tahy2⟩) (by assumption) ?tarest2
      case tahy2 =>
        intro u hSu
        obtain ⟨s0, s1, s2⟩ := hSu
        go_simp
        try with_reducible rfl
      try simp only [Act.put, List.getElem_toArray, List.getElem_cons_succ, List.getElem_cons_zero, List.setIfInBounds_toArray, List.set_cons_zero, List.set_cons_succ]
      refine wpAnyH_take (i := 3) (v := ?tavv3) rfl (by kernel_rfl) (by kernel_rfl) (by kernel_rfl) (fun _ _ _ h => h) (Or.inl ⟨by rfl, ?tahy3⟩) (by assumption) ?tarest3
      case tahy3 =>
        intro u hSu
        obtain ⟨s0, s1, s2⟩ := hSu
        go_simp
        try with_reducible rfl
      try simp only [Act.put, List.getElem_toArray, List.getElem_cons_succ, List.getElem_cons_zero, List.setIfInBounds_toArray, List.set_cons_zero, List.set_cons_succ]
      refine wpAnyH_take (i := 4) (v := ?tavv4) rfl (by kernel_rfl) (by kernel_rfl) (by kernel_rfl) (fun _ _ _ h => h) (Or.inl ⟨by rfl, ?tahy4⟩) (by assumption) ?tarest4
      case tahy4 =>
        intro u hSu
        obtain ⟨s0, s1, s2⟩ := hSu
        go_simp
        try with_reducible rfl
      try simp only [Act.put, List.getElem_toArray, List.getElem_cons_succ, List.getElem_cons_zero, List.setIfInBounds_toArray, List.set_cons_zero, List.set_cons_succ]
      refine wpAnyH_take (i := 5) (v := ?tavv5) rfl (by kernel_rfl) (by kernel_rfl) (by kernel_rfl) (fun _ _ _ h => h) (Or.inl ⟨by rfl, ?tahy5⟩) (by assumption) ?tarest5
      case tahy5 =>
        intro u hSu
        obtain ⟨s0, s1, s2⟩ := hSu
        go_simp
        try with_reducible rfl
      try simp only [Act.put, List.getElem_toArray, List.getElem_cons_succ, List.getElem_cons_zero, List.setIfInBounds_toArray, List.set_cons_zero, List.set_cons_succ]
      refine wpAnyH_ready (rs := [1]) (by kernel_rfl) (by simp) ?_
      refine AllReadyH.cons rfl (fun K hK => ?_) AllReadyH.nil
      go_simp
      refine hK.out _ _ K0 (fun hHeld => ?_)
      clear hK K
      try simp only [Act.put, List.getElem_toArray, List.getElem_cons_succ, List.getElem_cons_zero, List.setIfInBounds_toArray, List.set_cons_zero, List.set_cons_succ]
      refine wpAnyH_ready (rs := [6]) (by kernel_rfl) (by simp) ?_
      refine AllReadyH.cons rfl (fun K hK => ?_) AllReadyH.nil
      (go_simp; go_at_call 10; (with_reducible refine (CD.out).mono ?_); rintro e w5 ⟨la', ln', lc', G', S', rfl, hB5, zz, J5⟩; have K5 := KB.out _ hB5; have K6 := KB.out _ J5.B; have J6 := Lib.hid J5; obtain ⟨y0, y1⟩ := two_of zz; have y6 := zz.lt; have yf0 := zz.frozen 0; have yf1 := zz.frozen 1; clear hB5 J5 zz)
      refine hK.out _ _ ?tbhS6 (fun hHeld => ?tbrest6)
      case tbhS6 => first | exact K6 | exact K5 | exact K0
      clear hK K
      try simp only [Act.put, List.getElem_toArray, List.getElem_cons_succ, List.getElem_cons_zero, List.setIfInBounds_toArray, List.set_cons_zero, List.set_cons_succ]
      refine wpAnyH_take (i := 7) (v := ?tbvv7) rfl (by kernel_rfl) (by kernel_rfl) (by kernel_rfl) (fun _ _ _ h => h) (Or.inl ⟨by rfl, ?tbhy7⟩) (by assumption) ?tbrest7
      case tbhy7 =>
        intro u hSu
        obtain ⟨s0, s1, s2⟩ := hSu
        go_simp
        try with_reducible rfl
      try simp only [Act.put, List.getElem_toArray, List.getElem_cons_succ, List.getElem_cons_zero, List.setIfInBounds_toArray, List.set_cons_zero, List.set_cons_succ]
      refine wpAnyH_take (i := 8) (v := ?tbvv8) rfl (by kernel_rfl) (by kernel_rfl) (by kernel_rfl) (fun _ _ _ h => h) (Or.inl ⟨by rfl, ?tbhy8⟩) (by assumption) ?tbrest8
      case tbhy8 =>
        intro u hSu
        obtain ⟨s0, s1, s2⟩ := hSu
        go_simp
        try with_reducible rfl
      try simp only [Act.put, List.getElem_toArray, List.getElem_cons_succ, List.getElem_cons_zero, List.setIfInBounds_toArray, List.set_cons_zero, List.set_cons_succ]
      refine wpAnyH_take (i := 9) (v := ?tbvv9) rfl (by kernel_rfl) (by kernel_rfl) (by kernel_rfl) (fun _ _ _ h => h) (Or.inl ⟨by rfl, ?tbhy9⟩) (by assumption) ?tbrest9
      case tbhy9 =>
        intro u hSu
        obtain ⟨s0, s1, s2⟩ := hSu
        go_simp
        try with_reducible rfl
      try simp only [Act.put, List.getElem_toArray, List.getElem_cons_succ, List.getElem_cons_zero, List.setIfInBounds_toArray, List.set_cons_zero, List.set_cons_succ]
      refine wpAnyH_ready (rs := [10]) (by kernel_rfl) (by simp) ?_
      refine AllReadyH.cons rfl (fun K hK => ?_) AllReadyH.nil
      go_simp
      refine hK.out _ _ ?tbhS10 (fun hHeld => ?tbrest10)
      case tbhS10 => first | exact K6 | exact K5 | exact K0
      clear hK K
      try simp only [Act.put, List.getElem_toArray, List.getElem_cons_succ, List.getElem_cons_zero, List.setIfInBounds_toArray, List.set_cons_zero, List.set_cons_succ]
      refine wpAnyH_done (by kernel_rfl) ?_ _
      clear K0 K5 K6 y0 y1 y6 yf0 yf1 z0 z1 z6 J1 CD JZ
      generalize (w5.setCell ⟨p, 0, none⟩ (.int .u64 N2)).setCell ⟨p, 1, none⟩ (.slice la' ln' lc') = W6 at *
      rw [HT.out] at J6
      clear KB HT HN2 HNW
      clear J
      go_wp2_with fail
      go_roundw
      case rel => exact ⟨k + 1, by omega, by go_num, _, _, _, _, _, J6⟩
      case measure => simp [intOf]; omega
    · obtain rfl : k = n := by omega
      have hn1k : l.length ≤ 1000 := by rw [HL.out]; omega
      have hgd := gd_take HOW.out k
      obtain ⟨T, hT⟩ : ∃ T, T = runM c0 (l.take k) := ⟨_, rfl⟩
      rw [← hT] at J hgd
      clear hT HA HOW
      have FK : Hid (∀ u, Below wr.heap.size wr u → Calls Try.prog 16 #[.pointer (some va)] u fun e u' => ∃ v2 S2, e = .returned v2 ∧ PT S2 u' v2 T ∧ (∀ g, S2 g → u.heap.size ≤ g) ∧ Below u.heap.size u u') := Lib.hid (fun u hb => fork_any (J.out.belowS hb).D.P hgd hn1k)
      obtain ⟨NOW, hNOW⟩ : ∃ q, T.now = q := ⟨_, rfl⟩
      have HNW := Lib.hid hNOW
      have KZ : Hid (∀ u, PJ w p G S u (.pointer (some va)) la ln lc T → u.cell? ⟨p, 0, none⟩ = some (.int .u64 NOW) ∧ u.cell? ⟨p, 1, none⟩ = some (.slice la ln lc)) := Lib.hid (fun u hj => by have h := two_of hj.Z; rw [hNOW] at h; exact h)
      clear hNOW
      go_upto_region 8 with fail
      have hd : Below wr.heap.size wr wr.drew := (Below.refl _ _).drew
      have J1 := Lib.hid (J.out.belowS hd)
      have HD := Lib.hid hd
      clear hd
      have K0 := KZ.out _ J1.out
      refine wp_region_held_drew (S := fun u => u.cell? ⟨p, 0, none⟩ = some (.int .u64 NOW) ∧ u.cell? ⟨p, 1, none⟩ = some (.slice la ln lc)) (by kernel_rfl) K0 (fun hHeld => ?_)
      refine wpAnyH_take (i := 0) (v := ?favv0) rfl (by kernel_rfl) (by kernel_rfl) (by kernel_rfl) (fun _ _ _ h => h) (Or.inl ⟨by rfl, ?fahy0⟩) (by assumption) ?farest0
      case fahy0 =>
        intro u hSu
        obtain ⟨s0, s1⟩ := hSu
        go_simp
        try with_reducible rfl
      try simp only [Act.put, List.getElem_toArray, List.getElem_cons_succ, List.getElem_cons_zero, List.setIfInBounds_toArray, List.set_cons_zero, List.set_cons_succ]
      refine wpAnyH_take (i := 2) (v := ?favv2) rfl (by kernel_rfl) (by kernel_rfl) (by kernel_rfl) (fun _ _ _ h => h) (Or.inl ⟨by rfl, ?fahy2⟩) (by assumption) ?farest2
      case fahy2 =>
        intro u hSu
        obtain ⟨s0, s1⟩ := hSu
        go_simp
        try with_reducible rfl
      try simp only [Act.put, List.getElem_toArray, List.getElem_cons_succ, List.getElem_cons_zero, List.setIfInBounds_toArray, List.set_cons_zero, List.set_cons_succ]
      refine wpAnyH_ready (rs := [1, 3]) (by kernel_rfl) (by simp) ?_
      refine AllReadyH.cons rfl ?_ (AllReadyH.cons rfl ?_ AllReadyH.nil)
      · intro K hK
        go_simp
        go_at_call 16
        with_reducible refine (FK.out _ HD.out).mono ?_
        rintro e u1 ⟨v2, S2, rfl, hP, hS2, hB⟩
        have hb1 := HD.out.trans (hB.mono HD.out.size)
        have J2 := Lib.hid (J.out.belowS hb1)
        have K1 := KZ.out _ J2.out
        have b3 := below_new u1 (.cells (ckC 0 none 0 0) 29)
        have K2 := KZ.out _ (J2.out.belowS b3)
        have RZ := Whole.new u1 29 (ckC 0 none 0 0)
        obtain ⟨y0, y1⟩ := two_of RZ
        have yf0 := RZ.frozen 0
        have yf1 := RZ.frozen 1
        have yl := RZ.lt
        have JJ := Lib.hid (J.out.fork_a hb1 hP (fun g hg => Nat.le_trans HD.out.size (hS2 g hg)))
        rw [HNW.out] at JJ
        have K3 := KZ.out _ JJ.out.1
        obtain ⟨vb, rfl⟩ := hP.form
        clear hB hb1 b3 RZ hP hS2
        refine hK.out _ _ K1 (fun hHeld => ?_)
        clear hK K
        try simp only [Act.put, List.getElem_toArray, List.getElem_cons_succ, List.getElem_cons_zero, List.setIfInBounds_toArray, List.set_cons_zero, List.set_cons_succ]
        refine wpAnyH_ready (rs := [3]) (by kernel_rfl) (by simp) ?_
        refine AllReadyH.cons rfl (fun K hK => ?_) AllReadyH.nil
        go_simp
        refine hK.out _ _ ?fbhS3 (fun hHeld => ?fbrest3)
        case fbhS3 => first | exact K3 | exact K2 | exact K1 | exact K0
        clear hK K
        try simp only [Act.put, List.getElem_toArray, List.getElem_cons_succ, List.getElem_cons_zero, List.setIfInBounds_toArray, List.set_cons_zero, List.set_cons_succ]
        refine wpAnyH_take (i := 4) (v := ?fbvv4) rfl (by kernel_rfl) (by kernel_rfl) (by kernel_rfl) (fun _ _ _ h => h) (Or.inl ⟨by rfl, ?fbhy4⟩) (by assumption) ?fbrest4
        case fbhy4 =>
          intro u hSu
          obtain ⟨s0, s1⟩ := hSu
          go_simp
          try with_reducible rfl
        try simp only [Act.put, List.getElem_toArray, List.getElem_cons_succ, List.getElem_cons_zero, List.setIfInBounds_toArray, List.set_cons_zero, List.set_cons_succ]
        refine wpAnyH_ready (rs := [5]) (by kernel_rfl) (by simp) ?_
        refine AllReadyH.cons rfl (fun K hK => ?_) AllReadyH.nil
        go_simp
        refine hK.out _ _ ?fbhS5 (fun hHeld => ?fbrest5)
        case fbhS5 => first | exact K3 | exact K2 | exact K1 | exact K0
        clear hK K
        try simp only [Act.put, List.getElem_toArray, List.getElem_cons_succ, List.getElem_cons_zero, List.setIfInBounds_toArray, List.set_cons_zero, List.set_cons_succ]
        refine wpAnyH_take (i := 6) (v := ?fbvv6) rfl (by kernel_rfl) (by kernel_rfl) (by kernel_rfl) (fun _ _ _ h => h) (Or.inl ⟨by rfl, ?fbhy6⟩) (by assumption) ?fbrest6
        case fbhy6 =>
          intro u hSu
          obtain ⟨s0, s1⟩ := hSu
          go_simp
          try with_reducible rfl
        try simp only [Act.put, List.getElem_toArray, List.getElem_cons_succ, List.getElem_cons_zero, List.setIfInBounds_toArray, List.set_cons_zero, List.set_cons_succ]
        refine wpAnyH_done (by kernel_rfl) ?_ _
        clear y0 y1 yf0 yf1 yl K0 K1 K2 K3 J1 J2 FK HD KZ
        generalize u1.alloc (.cells (ckC NOW la ln lc) 29) = W at *
        generalize u1.heap.size = p2 at *
        obtain ⟨w7, hw7⟩ : ∃ x, x = wr := ⟨_, rfl⟩
        subst hw7
        obtain ⟨JT, JF⟩ := JJ.out
        have J0 := Lib.hid JF
        have HM2 := Lib.hid (readsA_go (B := 0) HM.out J.out.B)
        clear JJ JT JF HNW
        go_wp2_with fail
        go_loopw [10, 11] (fun ok i wr => ∃ k2 : Nat, k2 ≤ n2 ∧ i = .int .i64 (k2 : Int) ∧ ok = .bool true ∧ ∃ G2 S2 la2 ln2 lc2, Hid (PJ w7 p2 G2 S2 wr (.pointer (some vb)) la2 ln2 lc2 (runM T (m.take k2)))) (fun _ i _ => n2 - (intOf i).toNat)
        case atStart => exact ⟨0, by omega, rfl, rfl, _, _, _, _, _, J0⟩
        case round =>
          obtain ⟨k2, hk2, rfl, rfl, G2, S2, la2, ln2, lc2, JR⟩ := hrel
          clear J0
          by_cases hlt : k2 < n2
          · have hlt2' : (k2 : Int) < n2 := by omega
            have hn1m : l.length + m.length ≤ 1000 := by rw [HL.out, HL2.out]; omega
            have hgd2 := gd_takeT hgd HOW2.out k2
            obtain ⟨g, off, rfl, q1, hglt, hat, hok⟩ := HM2.out.at JR.out.B (Nat.le_refl _) hlt
            have hb0 : Below wr.heap.size wr wr.drew := (Below.refl _ _).drew
            have J1 := Lib.hid (JR.out.belowS hb0)
            have KA : Hid (∀ u, Below w7.heap.size w7 u → AcAt u g (off + k2 * 3) (m.getD k2 ac0) ∧ AcOk (· < w7.heap.size) u (m.getD k2 ac0)) := Lib.hid (fun u hu => by
              obtain ⟨g', off', e, _, _, e1, e2⟩ := HM2.out.at hu (Nat.le_refl _) hlt
              simp only [Option.some.injEq, Addr.mk.injEq, and_true] at e
              obtain ⟨rfl, rfl⟩ := e
              exact ⟨e1, e2⟩)
            have CD := Lib.hid (J1.out.do_ hgd2 hn1m (m.getD k2 ac0) (KA.out _ J1.out.B).2)
            have hrt := run_take T m k2 (by rw [HL2.out]; exact hlt)
            rw [← hrt] at CD
            have KB : Hid (∀ u, Below w7.heap.size w7 u → AcAt u g (off + k2 * 3) (m.getD k2 ac0)) := Lib.hid (fun u hu => (KA.out u hu).1)
            obtain ⟨T9, hT⟩ : ∃ T8, T8 = runM T (m.take (k2 + 1)) := ⟨_, rfl⟩
            rw [← hT] at CD
            have HT := Lib.hid hT
            clear hT hat hok hrt KA
            obtain ⟨X, hX⟩ : ∃ X, X = m.getD k2 ac0 := ⟨_, rfl⟩
            rw [← hX] at CD KB
            have HXX := Lib.hid hX
            clear hX
            obtain ⟨xk, xo, na, nn, nc, hs⟩ := X
            obtain ⟨NW, hNW⟩ : ∃ q, (runM T (m.take k2)).now = q := ⟨_, rfl⟩
            rw [hNW] at CD
            have JZ := J1.out.Z
            rw [hNW] at JZ
            have HNW := Lib.hid hNW
            clear hNW
            obtain ⟨N2, hN2⟩ : ∃ q, T9.now = q := ⟨_, rfl⟩
            rw [hN2] at CD
            have HN2 := Lib.hid hN2
            clear hN2
            change Hid (Calls _ _ #[_, _, .agg #[.int .u8 xk, .int .u16 xo, .slice na nn nc]] _ _) at CD
            have KB : Hid (∀ u : World, Below w7.heap.size w7 u → u.cell? ⟨g, off + k2 * 3, none⟩ = some (.int .u8 xk) ∧ u.cell? ⟨g, off + k2 * 3 + 1, none⟩ = some (.int .u16 xo) ∧ u.cell? ⟨g, off + k2 * 3 + 2, none⟩ = some (.slice na nn nc)) := KB
            clear hgd2 HXX
            have K0 := KB.out _ J1.out.B
            obtain ⟨z0, z1⟩ := two_of JZ
            have z6 := JZ.lt
            go_upto_region 14 with fail
            refine wp_region_held_drew (S := fun u => u.cell? ⟨g, off + k2 * 3, none⟩ = some (.int .u8 xk) ∧ u.cell? ⟨g, off + k2 * 3 + 1, none⟩ = some (.int .u16 xo) ∧ u.cell? ⟨g, off + k2 * 3 + 2, none⟩ = some (.slice na nn nc)) (by kernel_rfl) K0 (fun hHeld => ?_)
            refine wpAnyH_take (i := 0) (v := ?saavv0) rfl (by kernel_rfl) (by kernel_rfl) (by kernel_rfl) (fun _ _ _ h => h) (Or.inl ⟨by rfl, ?saahy0⟩) (by assumption) ?saarest0
            case saahy0 =>
              intro u hSu
              obtain ⟨s0, s1, s2⟩ := hSu
              go_simp
              try with_reducible rfl
            try simp only [Act.put, List.getElem_toArray, List.getElem_cons_succ, List.getElem_cons_zero, List.setIfInBounds_toArray, List.set_cons_zero, List.set_cons_succ]
            refine wpAnyH_take (i := 2) (v := ?saavv2) rfl (by kernel_rfl) (by kernel_rfl) (by kernel_rfl) (fun _ _ _ h => h) (Or.inl ⟨by rfl, ?saahy2⟩) (by assumption) ?saarest2
            case saahy2 =>
              intro u hSu
              obtain ⟨s0, s1, s2⟩ := hSu
              go_simp
              try with_reducible rfl
            try simp only [Act.put, List.getElem_toArray, List.getElem_cons_succ, List.getElem_cons_zero, List.setIfInBounds_toArray, List.set_cons_zero, List.set_cons_succ]
            refine wpAnyH_take (i := 3) (v := ?saavv3) rfl (by kernel_rfl) (by kernel_rfl) (by kernel_rfl) (fun _ _ _ h => h) (Or.inl ⟨by rfl, ?saahy3⟩) (by assumption) ?saarest3
            case saahy3 =>
              intro u hSu
              obtain ⟨s0, s1, s2⟩ := hSu
              go_simp
              try with_reducible rfl
            try simp only [Act.put, List.getElem_toArray, List.getElem_cons_succ, List.getElem_cons_zero, List.setIfInBounds_toArray, List.set_cons_zero, List.set_cons_succ]
            refine wpAnyH_take (i := 4) (v := ?saavv4) rfl (by kernel_rfl) (by kernel_rfl) (by kernel_rfl) (fun _ _ _ h => h) (Or.inl ⟨by rfl, ?saahy4⟩) (by assumption) ?saarest4
            case saahy4 =>
              intro u hSu
              obtain ⟨s0, s1, s2⟩ := hSu
              go_simp
              try with_reducible rfl
            try simp only [Act.put, List.getElem_toArray, List.getElem_cons_succ, List.getElem_cons_zero, List.setIfInBounds_toArray, List.set_cons_zero, List.set_cons_succ]
            refine wpAnyH_take (i := 5) (v := ?saavv5) rfl (by kernel_rfl) (by kernel_rfl) (by kernel_rfl) (fun _ _ _ h => h) (Or.inl ⟨by rfl, ?saahy5⟩) (by assumption) ?saarest5
            case saahy5 =>
              intro u hSu
              obtain ⟨s0, s1, s2⟩ := hSu
              go_simp
              try with_reducible rfl
            try simp only [Act.put, List.getElem_toArray, List.getElem_cons_succ, List.getElem_cons_zero, List.setIfInBounds_toArray, List.set_cons_zero, List.set_cons_succ]
            refine wpAnyH_ready (rs := [1]) (by kernel_rfl) (by simp) ?_
            refine AllReadyH.cons rfl (fun K hK => ?_) AllReadyH.nil
            go_simp
            refine hK.out _ _ K0 (fun hHeld => ?_)
            clear hK K
            try simp only [Act.put, List.getElem_toArray, List.getElem_cons_succ, List.getElem_cons_zero, List.setIfInBounds_toArray, List.set_cons_zero, List.set_cons_succ]
            refine wpAnyH_ready (rs := [6]) (by kernel_rfl) (by simp) ?_
            refine AllReadyH.cons rfl (fun K hK => ?_) AllReadyH.nil
            (go_simp; go_at_call 10; (with_reducible refine (CD.out).mono ?_); rintro e w5 ⟨la', ln', lc', G', S', rfl, hB5, zz, J5⟩; have K5 := KB.out _ hB5; have K6 := KB.out _ J5.B; have J6 := Lib.hid J5; obtain ⟨y0, y1⟩ := two_of zz; have y6 := zz.lt; have yf0 := zz.frozen 0; have yf1 := zz.frozen 1; clear hB5 J5 zz)
            refine hK.out _ _ ?sabhS6 (fun hHeld => ?sabrest6)
            case sabhS6 => first | exact K6 | exact K5 | exact K0
            clear hK K
            try simp only [Act.put, List.getElem_toArray, List.getElem_cons_succ, List.getElem_cons_zero, List.setIfInBounds_toArray, List.set_cons_zero, List.set_cons_succ]
            refine wpAnyH_take (i := 7) (v := ?sabvv7) rfl (by kernel_rfl) (by kernel_rfl) (by kernel_rfl) (fun _ _ _ h => h) (Or.inl ⟨by rfl, ?sabhy7⟩) (by assumption) ?sabrest7
            case sabhy7 =>
              intro u hSu
              obtain ⟨s0, s1, s2⟩ := hSu
              go_simp
              try with_reducible rfl
            try simp only [Act.put, List.getElem_toArray, List.getElem_cons_succ, List.getElem_cons_zero, List.setIfInBounds_toArray, List.set_cons_zero, List.set_cons_succ]
            refine wpAnyH_take (i := 8) (v := ?sabvv8) rfl (by kernel_rfl) (by kernel_rfl) (by kernel_rfl) (fun _ _ _ h => h) (Or.inl ⟨by rfl, ?sabhy8⟩) (by assumption) ?sabrest8
            case sabhy8 =>
              intro u hSu
              obtain ⟨s0, s1, s2⟩ := hSu
              go_simp
              try with_reducible rfl
            try simp only [Act.put, List.getElem_toArray, List.getElem_cons_succ, List.getElem_cons_zero, List.setIfInBounds_toArray, List.set_cons_zero, List.set_cons_succ]
            refine wpAnyH_take (i := 9) (v := ?sabvv9) rfl (by kernel_rfl) (by kernel_rfl) (by kernel_rfl) (fun _ _ _ h => h) (Or.inl ⟨by rfl, ?sabhy9⟩) (by assumption) ?sabrest9
            case sabhy9 =>
              intro u hSu
              obtain ⟨s0, s1, s2⟩ := hSu
              go_simp
              try with_reducible rfl
            try simp only [Act.put, List.getElem_toArray, List.getElem_cons_succ, List.getElem_cons_zero, List.setIfInBounds_toArray, List.set_cons_zero, List.set_cons_succ]
            refine wpAnyH_ready (rs := [10]) (by kernel_rfl) (by simp) ?_
            refine AllReadyH.cons rfl (fun K hK => ?_) AllReadyH.nil
            go_simp
            refine hK.out _ _ ?sabhS10 (fun hHeld => ?sabrest10)
            case sabhS10 => first | exact K6 | exact K5 | exact K0
            clear hK K
            try simp only [Act.put, List.getElem_toArray, List.getElem_cons_succ, List.getElem_cons_zero, List.setIfInBounds_toArray, List.set_cons_zero, List.set_cons_succ]
            refine wpAnyH_take (i := 11) (v := ?sabvv11) rfl (by kernel_rfl) (by kernel_rfl) (by kernel_rfl) (fun _ _ _ h => h) (Or.inl ⟨by rfl, ?sabhy11⟩) (by assumption) ?sabrest11
            case sabhy11 =>
              intro u hSu
              obtain ⟨s0, s1, s2⟩ := hSu
              go_simp
              try with_reducible rfl
            try simp only [Act.put, List.getElem_toArray, List.getElem_cons_succ, List.getElem_cons_zero, List.setIfInBounds_toArray, List.set_cons_zero, List.set_cons_succ]
            refine wpAnyH_done (by kernel_rfl) ?_ _
            clear K0 K5 K6 y0 y1 y6 yf0 yf1 z0 z1 z6 J1 CD JZ
            generalize (w5.setCell ⟨p2, 0, none⟩ (.int .u64 N2)).setCell ⟨p2, 1, none⟩ (.slice la' ln' lc') = W6 at *
            rw [HT.out] at J6
            clear KB HT HN2 HNW
            clear JR
            go_wp2_with fail
            go_roundw
            case rel => exact ⟨k2 + 1, by omega, by go_num, rfl, _, _, _, _, _, J6⟩
            case measure => simp [intOf]; omega
          · obtain rfl : k2 = n2 := by omega
            have hn1m : l.length + m.length ≤ 1000 := by rw [HL.out, HL2.out]; omega
            have hgd2 := gd_takeT hgd HOW2.out k2
            obtain ⟨T2, hT2⟩ : ∃ T2, T2 = runM T (m.take k2) := ⟨_, rfl⟩
            rw [← hT2] at hgd2 JR
            clear hT2 HM HM2
            have JT := Lib.hid (J.out.belowS JR.out.B)
            have CS : Hid (∀ u, Below wr.heap.size wr u → Calls Try.prog 11 #[.pointer (some vb), ckV T2.now la2 ln2 lc2, .slice none 0 0] u fun e u' => e = .returned (.bool true) ∧ Below u.heap.size u u') := Lib.hid (fun u hb => (JR.out.belowS hb).same_ hgd2 hn1m (ReadsH.nil _ _))
            have CT : Hid (∀ u, Below wr.heap.size wr u → Calls Try.prog 11 #[.pointer (some va), ckV T.now la ln lc, .slice none 0 0] u fun e u' => e = .returned (.bool true) ∧ Below u.heap.size u u') := Lib.hid (fun u hb => (JT.out.belowS hb).same_ hgd hn1k (ReadsH.nil _ _))
            have Z1 : Hid (∀ u, Below wr.heap.size wr u → u.cell? ⟨p2, 0, none⟩ = some (.int .u64 T2.now) ∧ u.cell? ⟨p2, 1, none⟩ = some (.slice la2 ln2 lc2) ∧ p2 < u.heap.size) := Lib.hid (fun u hb => by have h := (JR.out.belowS hb).Z; exact ⟨h.cell 0, h.cell 1, h.lt⟩)
            have Z2 : Hid (∀ u, Below wr.heap.size wr u → u.cell? ⟨p, 0, none⟩ = some (.int .u64 T.now) ∧ u.cell? ⟨p, 1, none⟩ = some (.slice la ln lc) ∧ p < u.heap.size) := Lib.hid (fun u hb => by have h := (JT.out.belowS hb).Z; exact ⟨h.cell 0, h.cell 1, h.lt⟩)
            have BW := Lib.hid JT.out.B
            generalize T2.now = NA at *
            generalize T.now = NB at *
            have B1 := Lib.hid (Below.refl wr.heap.size wr)
            clear HL HL2 hgd hgd2 J JT JR
            go_upto_region 20 with (first | (go_at_call 17; (with_reducible refine (ret_nil _ _).mono ?_); rintro e w1 ⟨xr, rfl, hB⟩; have B1 := Lib.hid (B1.out.trans (hB.mono B1.out.size)); clear hB) | (go_at_call 18; (with_reducible refine (now_nil _).mono ?_); rintro e w1 ⟨rfl, hB⟩; have B1 := Lib.hid (B1.out.trans (hB.mono B1.out.size)); clear hB) | (go_at_call 16; (with_reducible refine (fork_nil _).mono ?_); rintro e w1 ⟨rfl, hB⟩; have B1 := Lib.hid (B1.out.trans (hB.mono B1.out.size)); clear hB) | (go_at_call 19; (with_reducible refine (due_nil' _).mono ?_); rintro e w1 ⟨ra, rc, rfl, hB⟩; have B1 := Lib.hid (B1.out.trans (hB.mono B1.out.size)); clear hB) | (go_at_call 20; (with_reducible refine (take_nil _).mono ?_); rintro e w1 ⟨ra, rc, rfl, hB⟩; have B1 := Lib.hid (B1.out.trans (hB.mono B1.out.size)); clear hB) | (go_at_call 21; (with_reducible refine (wait_nil _).mono ?_); rintro e w1 ⟨ra, rc, rfl, hB⟩; have B1 := Lib.hid (B1.out.trans (hB.mono B1.out.size)); clear hB) | (go_at_call 22; (with_reducible refine (clear_nil _).mono ?_); rintro e w1 ⟨ra, rc, rfl, hB⟩; have B1 := Lib.hid (B1.out.trans (hB.mono B1.out.size)); clear hB))
            obtain ⟨z0, z1, z6⟩ := Z1.out _ B1.out
            go_wp2_with (first | (go_at_call 11; (with_reducible refine (CS.out _ B1.out).mono ?_); rintro e w8 ⟨rfl, hB⟩; have B2 := Lib.hid (B1.out.trans (hB.mono B1.out.size)); clear hB; clear z0 z1 z6; obtain ⟨z0, z1, z6⟩ := Z2.out _ B2.out) | (go_at_call 11; (with_reducible refine (CT.out _ B2.out).mono ?_); rintro e w9 ⟨rfl, hB⟩; have B3 := Lib.hid (B2.out.trans (hB.mono B2.out.size)); clear hB) | (go_at_call 8; (with_reducible refine (AW.out _).mono ?_); rintro e w10 ⟨rfl, hB⟩; have B4 := Lib.hid (B3.out.trans (hB.mono B3.out.size)); clear hB))
            go_ret
            exact ⟨rfl, BW.out.trans (B4.out.mono BW.out.size)⟩

      · intro K hK
        go_simp
        have hb3 : Below wr.heap.size wr (wr.alloc (.cells (ckC 0 none 0 0) 29)).drew := (below_new wr _).drew
        have K1 := KZ.out _ (J.out.belowS hb3)
        have hz : Below (wr.alloc (.cells (ckC 0 none 0 0) 29)).heap.size (wr.alloc (.cells (ckC 0 none 0 0) 29)) (wr.alloc (.cells (ckC 0 none 0 0) 29)).drew := (Below.refl _ _).drew
        have RZ := Lib.hid ((Whole.new wr 29 (ckC 0 none 0 0)).belowS hz)
        have HB := Lib.hid hb3
        clear hb3 hz
        refine hK.out _ _ K1 (fun hHeld => ?_)
        clear hK K
        try simp only [Act.put, List.getElem_toArray, List.getElem_cons_succ, List.getElem_cons_zero, List.setIfInBounds_toArray, List.set_cons_zero, List.set_cons_succ]
        refine wpAnyH_ready (rs := [1]) (by kernel_rfl) (by simp) ?_
        refine AllReadyH.cons rfl (fun K hK => ?_) AllReadyH.nil
        (go_simp; go_at_call 16; (with_reducible refine (FK.out _ HB.out).mono ?_); rintro e u1 ⟨v2, S2, rfl, hP, hS2, hB⟩; have hb1 := HB.out.trans (hB.mono HB.out.size); have RZ1 := RZ.out.belowS hB; have K2 := KZ.out _ (J.out.belowS hb1); obtain ⟨y0, y1⟩ := two_of RZ1; have yf0 := RZ1.frozen 0; have yf1 := RZ1.frozen 1; have yl := RZ1.lt; have JJ := Lib.hid (J.out.fork_b hb1 hP (fun g hg => Nat.le_trans HB.out.size (hS2 g hg)) RZ1 (Nat.le_refl _) (fun g hg e => by have := hS2 g hg; have := RZ.out.lt; omega)); rw [HNW.out] at JJ; have K3 := KZ.out _ JJ.out.1; obtain ⟨vb, rfl⟩ := hP.form; clear hB hb1 hP hS2 RZ1)
        refine hK.out _ _ ?fchS1 (fun hHeld => ?fcrest1)
        case fchS1 => first | exact K3 | exact K2 | exact K1 | exact K0
        clear hK K
        try simp only [Act.put, List.getElem_toArray, List.getElem_cons_succ, List.getElem_cons_zero, List.setIfInBounds_toArray, List.set_cons_zero, List.set_cons_succ]
        refine wpAnyH_take (i := 4) (v := ?fcvv4) rfl (by kernel_rfl) (by kernel_rfl) (by kernel_rfl) (fun _ _ _ h => h) (Or.inl ⟨by rfl, ?fchy4⟩) (by assumption) ?fcrest4
        case fchy4 =>
          intro u hSu
          obtain ⟨s0, s1⟩ := hSu
          go_simp
          try with_reducible rfl
        try simp only [Act.put, List.getElem_toArray, List.getElem_cons_succ, List.getElem_cons_zero, List.setIfInBounds_toArray, List.set_cons_zero, List.set_cons_succ]
        refine wpAnyH_ready (rs := [5]) (by kernel_rfl) (by simp) ?_
        refine AllReadyH.cons rfl (fun K hK => ?_) AllReadyH.nil
        go_simp
        refine hK.out _ _ ?fchS5 (fun hHeld => ?fcrest5)
        case fchS5 => first | exact K3 | exact K2 | exact K1 | exact K0
        clear hK K
        try simp only [Act.put, List.getElem_toArray, List.getElem_cons_succ, List.getElem_cons_zero, List.setIfInBounds_toArray, List.set_cons_zero, List.set_cons_succ]
        refine wpAnyH_take (i := 6) (v := ?fcvv6) rfl (by kernel_rfl) (by kernel_rfl) (by kernel_rfl) (fun _ _ _ h => h) (Or.inl ⟨by rfl, ?fchy6⟩) (by assumption) ?fcrest6
        case fchy6 =>
          intro u hSu
          obtain ⟨s0, s1⟩ := hSu
          go_simp
          try with_reducible rfl
        try simp only [Act.put, List.getElem_toArray, List.getElem_cons_succ, List.getElem_cons_zero, List.setIfInBounds_toArray, List.set_cons_zero, List.set_cons_succ]
        refine wpAnyH_done (by kernel_rfl) ?_ _
        clear y0 y1 yf0 yf1 yl K0 K1 K2 K3 J1 FK HD RZ HB KZ
        generalize (u1.setCell ⟨wr.heap.size, 0, none⟩ (.int .u64 NOW)).setCell ⟨wr.heap.size, 1, none⟩ (.slice la ln lc) = W at *
        generalize wr.heap.size = p2 at *
        obtain ⟨w7, hw7⟩ : ∃ x, x = wr := ⟨_, rfl⟩
        subst hw7
        obtain ⟨JT, JF⟩ := JJ.out
        have J0 := Lib.hid JF
        have HM2 := Lib.hid (readsA_go (B := 0) HM.out J.out.B)
        clear JJ JT JF HNW
        go_wp2_with fail
        go_loopw [10, 11] (fun ok i wr => ∃ k2 : Nat, k2 ≤ n2 ∧ i = .int .i64 (k2 : Int) ∧ ok = .bool true ∧ ∃ G2 S2 la2 ln2 lc2, Hid (PJ w7 p2 G2 S2 wr (.pointer (some vb)) la2 ln2 lc2 (runM T (m.take k2)))) (fun _ i _ => n2 - (intOf i).toNat)
        case atStart => exact ⟨0, by omega, rfl, rfl, _, _, _, _, _, J0⟩
        case round =>
          obtain ⟨k2, hk2, rfl, rfl, G2, S2, la2, ln2, lc2, JR⟩ := hrel
          clear J0
          by_cases hlt : k2 < n2
          · have hlt2' : (k2 : Int) < n2 := by omega
            have hn1m : l.length + m.length ≤ 1000 := by rw [HL.out, HL2.out]; omega
            have hgd2 := gd_takeT hgd HOW2.out k2
            obtain ⟨g, off, rfl, q1, hglt, hat, hok⟩ := HM2.out.at JR.out.B (Nat.le_refl _) hlt
            have hb0 : Below wr.heap.size wr wr.drew := (Below.refl _ _).drew
            have J1 := Lib.hid (JR.out.belowS hb0)
            have KA : Hid (∀ u, Below w7.heap.size w7 u → AcAt u g (off + k2 * 3) (m.getD k2 ac0) ∧ AcOk (· < w7.heap.size) u (m.getD k2 ac0)) := Lib.hid (fun u hu => by
              obtain ⟨g', off', e, _, _, e1, e2⟩ := HM2.out.at hu (Nat.le_refl _) hlt
              simp only [Option.some.injEq, Addr.mk.injEq, and_true] at e
              obtain ⟨rfl, rfl⟩ := e
              exact ⟨e1, e2⟩)
            have CD := Lib.hid (J1.out.do_ hgd2 hn1m (m.getD k2 ac0) (KA.out _ J1.out.B).2)
            have hrt := run_take T m k2 (by rw [HL2.out]; exact hlt)
            rw [← hrt] at CD
            have KB : Hid (∀ u, Below w7.heap.size w7 u → AcAt u g (off + k2 * 3) (m.getD k2 ac0)) := Lib.hid (fun u hu => (KA.out u hu).1)
            obtain ⟨T9, hT⟩ : ∃ T8, T8 = runM T (m.take (k2 + 1)) := ⟨_, rfl⟩
            rw [← hT] at CD
            have HT := Lib.hid hT
            clear hT hat hok hrt KA
            obtain ⟨X, hX⟩ : ∃ X, X = m.getD k2 ac0 := ⟨_, rfl⟩
            rw [← hX] at CD KB
            have HXX := Lib.hid hX
            clear hX
            obtain ⟨xk, xo, na, nn, nc, hs⟩ := X
            obtain ⟨NW, hNW⟩ : ∃ q, (runM T (m.take k2)).now = q := ⟨_, rfl⟩
            rw [hNW] at CD
            have JZ := J1.out.Z
            rw [hNW] at JZ
            have HNW := Lib.hid hNW
            clear hNW
            obtain ⟨N2, hN2⟩ : ∃ q, T9.now = q := ⟨_, rfl⟩
            rw [hN2] at CD
            have HN2 := Lib.hid hN2
            clear hN2
            change Hid (Calls _ _ #[_, _, .agg #[.int .u8 xk, .int .u16 xo, .slice na nn nc]] _ _) at CD
            have KB : Hid (∀ u : World, Below w7.heap.size w7 u → u.cell? ⟨g, off + k2 * 3, none⟩ = some (.int .u8 xk) ∧ u.cell? ⟨g, off + k2 * 3 + 1, none⟩ = some (.int .u16 xo) ∧ u.cell? ⟨g, off + k2 * 3 + 2, none⟩ = some (.slice na nn nc)) := KB
            clear hgd2 HXX
            have K0 := KB.out _ J1.out.B
            obtain ⟨z0, z1⟩ := two_of JZ
            have z6 := JZ.lt
            go_upto_region 14 with fail
            refine wp_region_held_drew (S := fun u => u.cell? ⟨g, off + k2 * 3, none⟩ = some (.int .u8 xk) ∧ u.cell? ⟨g, off + k2 * 3 + 1, none⟩ = some (.int .u16 xo) ∧ u.cell? ⟨g, off + k2 * 3 + 2, none⟩ = some (.slice na nn nc)) (by kernel_rfl) K0 (fun hHeld => ?_)
            refine wpAnyH_take (i := 0) (v := ?sbavv0) rfl (by kernel_rfl) (by kernel_rfl) (by kernel_rfl) (fun _ _ _ h => h) (Or.inl ⟨by rfl, ?sbahy0⟩) (by assumption) ?sbarest0
            case sbahy0 =>
              intro u hSu
              obtain ⟨s0, s1, s2⟩ := hSu
              go_simp
              try with_reducible rfl
            try simp only [Act.put, List.getElem_toArray, List.getElem_cons_succ, List.getElem_cons_zero, List.setIfInBounds_toArray, List.set_cons_zero, List.set_cons_succ]
            refine wpAnyH_take (i := 2) (v := ?sbavv2) rfl (by kernel_rfl) (by kernel_rfl) (by kernel_rfl) (fun _ _ _ h => h) (Or.inl ⟨by rfl, ?sbahy2⟩) (by assumption) ?sbarest2
            case sbahy2 =>
              intro u hSu
              obtain ⟨s0, s1, s2⟩ := hSu
              go_simp
              try with_reducible rfl
            try simp only [Act.put, List.getElem_toArray, List.getElem_cons_succ, List.getElem_cons_zero, List.setIfInBounds_toArray, List.set_cons_zero, List.set_cons_succ]
            refine wpAnyH_take (i := 3) (v := ?sbavv3) rfl (by kernel_rfl) (by kernel_rfl) (by kernel_rfl) (fun _ _ _ h => h) (Or.inl ⟨by rfl, ?sbahy3⟩) (by assumption) ?sbarest3
            case sbahy3 =>
              intro u hSu
              obtain ⟨s0, s1, s2⟩ := hSu
              go_simp
              try with_reducible rfl
            try simp only [Act.put, List.getElem_toArray, List.getElem_cons_succ, List.getElem_cons_zero, List.setIfInBounds_toArray, List.set_cons_zero, List.set_cons_succ]
            refine wpAnyH_take (i := 4) (v := ?sbavv4) rfl (by kernel_rfl) (by kernel_rfl) (by kernel_rfl) (fun _ _ _ h => h) (Or.inl ⟨by rfl, ?sbahy4⟩) (by assumption) ?sbarest4
            case sbahy4 =>
              intro u hSu
              obtain ⟨s0, s1, s2⟩ := hSu
              go_simp
              try with_reducible rfl
            try simp only [Act.put, List.getElem_toArray, List.getElem_cons_succ, List.getElem_cons_zero, List.setIfInBounds_toArray, List.set_cons_zero, List.set_cons_succ]
            refine wpAnyH_take (i := 5) (v := ?sbavv5) rfl (by kernel_rfl) (by kernel_rfl) (by kernel_rfl) (fun _ _ _ h => h) (Or.inl ⟨by rfl, ?sbahy5⟩) (by assumption) ?sbarest5
            case sbahy5 =>
              intro u hSu
              obtain ⟨s0, s1, s2⟩ := hSu
              go_simp
              try with_reducible rfl
            try simp only [Act.put, List.getElem_toArray, List.getElem_cons_succ, List.getElem_cons_zero, List.setIfInBounds_toArray, List.set_cons_zero, List.set_cons_succ]
            refine wpAnyH_ready (rs := [1]) (by kernel_rfl) (by simp) ?_
            refine AllReadyH.cons rfl (fun K hK => ?_) AllReadyH.nil
            go_simp
            refine hK.out _ _ K0 (fun hHeld => ?_)
            clear hK K
            try simp only [Act.put, List.getElem_toArray, List.getElem_cons_succ, List.getElem_cons_zero, List.setIfInBounds_toArray, List.set_cons_zero, List.set_cons_succ]
            refine wpAnyH_ready (rs := [6]) (by kernel_rfl) (by simp) ?_
            refine AllReadyH.cons rfl (fun K hK => ?_) AllReadyH.nil
            (go_simp; go_at_call 10; (with_reducible refine (CD.out).mono ?_); rintro e w5 ⟨la', ln', lc', G', S', rfl, hB5, zz, J5⟩; have K5 := KB.out _ hB5; have K6 := KB.out _ J5.B; have J6 := Lib.hid J5; obtain ⟨y0, y1⟩ := two_of zz; have y6 := zz.lt; have yf0 := zz.frozen 0; have yf1 := zz.frozen 1; clear hB5 J5 zz)
            refine hK.out _ _ ?sbbhS6 (fun hHeld => ?sbbrest6)
            case sbbhS6 => first | exact K6 | exact K5 | exact K0
            clear hK K
            try simp only [Act.put, List.getElem_toArray, List.getElem_cons_succ, List.getElem_cons_zero, List.setIfInBounds_toArray, List.set_cons_zero, List.set_cons_succ]
            refine wpAnyH_take (i := 7) (v := ?sbbvv7) rfl (by kernel_rfl) (by kernel_rfl) (by kernel_rfl) (fun _ _ _ h => h) (Or.inl ⟨by rfl, ?sbbhy7⟩) (by assumption) ?sbbrest7
            case sbbhy7 =>
              intro u hSu
              obtain ⟨s0, s1, s2⟩ := hSu
              go_simp
              try with_reducible rfl
            try simp only [Act.put, List.getElem_toArray, List.getElem_cons_succ, List.getElem_cons_zero, List.setIfInBounds_toArray, List.set_cons_zero, List.set_cons_succ]
            refine wpAnyH_take (i := 8) (v := ?sbbvv8) rfl (by kernel_rfl) (by kernel_rfl) (by kernel_rfl) (fun _ _ _ h => h) (Or.inl ⟨by rfl, ?sbbhy8⟩) (by assumption) ?sbbrest8
            case sbbhy8 =>
              intro u hSu
              obtain ⟨s0, s1, s2⟩ := hSu
              go_simp
              try with_reducible rfl
            try simp only [Act.put, List.getElem_toArray, List.getElem_cons_succ, List.getElem_cons_zero, List.setIfInBounds_toArray, List.set_cons_zero, List.set_cons_succ]
            refine wpAnyH_take (i := 9) (v := ?sbbvv9) rfl (by kernel_rfl) (by kernel_rfl) (by kernel_rfl) (fun _ _ _ h => h) (Or.inl ⟨by rfl, ?sbbhy9⟩) (by assumption) ?sbbrest9
            case sbbhy9 =>
              intro u hSu
              obtain ⟨s0, s1, s2⟩ := hSu
              go_simp
              try with_reducible rfl
            try simp only [Act.put, List.getElem_toArray, List.getElem_cons_succ, List.getElem_cons_zero, List.setIfInBounds_toArray, List.set_cons_zero, List.set_cons_succ]
            refine wpAnyH_ready (rs := [10]) (by kernel_rfl) (by simp) ?_
            refine AllReadyH.cons rfl (fun K hK => ?_) AllReadyH.nil
            go_simp
            refine hK.out _ _ ?sbbhS10 (fun hHeld => ?sbbrest10)
            case sbbhS10 => first | exact K6 | exact K5 | exact K0
            clear hK K
            try simp only [Act.put, List.getElem_toArray, List.getElem_cons_succ, List.getElem_cons_zero, List.setIfInBounds_toArray, List.set_cons_zero, List.set_cons_succ]
            refine wpAnyH_take (i := 11) (v := ?sbbvv11) rfl (by kernel_rfl) (by kernel_rfl) (by kernel_rfl) (fun _ _ _ h => h) (Or.inl ⟨by rfl, ?sbbhy11⟩) (by assumption) ?sbbrest11
            case sbbhy11 =>
              intro u hSu
              obtain ⟨s0, s1, s2⟩ := hSu
              go_simp
              try with_reducible rfl
            try simp only [Act.put, List.getElem_toArray, List.getElem_cons_succ, List.getElem_cons_zero, List.setIfInBounds_toArray, List.set_cons_zero, List.set_cons_succ]
            refine wpAnyH_done (by kernel_rfl) ?_ _
            clear K0 K5 K6 y0 y1 y6 yf0 yf1 z0 z1 z6 J1 CD JZ
            generalize (w5.setCell ⟨p2, 0, none⟩ (.int .u64 N2)).setCell ⟨p2, 1, none⟩ (.slice la' ln' lc') = W6 at *
            rw [HT.out] at J6
            clear KB HT HN2 HNW
            clear JR
            go_wp2_with fail
            go_roundw
            case rel => exact ⟨k2 + 1, by omega, by go_num, rfl, _, _, _, _, _, J6⟩
            case measure => simp [intOf]; omega
          · obtain rfl : k2 = n2 := by omega
            have hn1m : l.length + m.length ≤ 1000 := by rw [HL.out, HL2.out]; omega
            have hgd2 := gd_takeT hgd HOW2.out k2
            obtain ⟨T2, hT2⟩ : ∃ T2, T2 = runM T (m.take k2) := ⟨_, rfl⟩
            rw [← hT2] at hgd2 JR
            clear hT2 HM HM2
            have JT := Lib.hid (J.out.belowS JR.out.B)
            have CS : Hid (∀ u, Below wr.heap.size wr u → Calls Try.prog 11 #[.pointer (some vb), ckV T2.now la2 ln2 lc2, .slice none 0 0] u fun e u' => e = .returned (.bool true) ∧ Below u.heap.size u u') := Lib.hid (fun u hb => (JR.out.belowS hb).same_ hgd2 hn1m (ReadsH.nil _ _))
            have CT : Hid (∀ u, Below wr.heap.size wr u → Calls Try.prog 11 #[.pointer (some va), ckV T.now la ln lc, .slice none 0 0] u fun e u' => e = .returned (.bool true) ∧ Below u.heap.size u u') := Lib.hid (fun u hb => (JT.out.belowS hb).same_ hgd hn1k (ReadsH.nil _ _))
            have Z1 : Hid (∀ u, Below wr.heap.size wr u → u.cell? ⟨p2, 0, none⟩ = some (.int .u64 T2.now) ∧ u.cell? ⟨p2, 1, none⟩ = some (.slice la2 ln2 lc2) ∧ p2 < u.heap.size) := Lib.hid (fun u hb => by have h := (JR.out.belowS hb).Z; exact ⟨h.cell 0, h.cell 1, h.lt⟩)
            have Z2 : Hid (∀ u, Below wr.heap.size wr u → u.cell? ⟨p, 0, none⟩ = some (.int .u64 T.now) ∧ u.cell? ⟨p, 1, none⟩ = some (.slice la ln lc) ∧ p < u.heap.size) := Lib.hid (fun u hb => by have h := (JT.out.belowS hb).Z; exact ⟨h.cell 0, h.cell 1, h.lt⟩)
            have BW := Lib.hid JT.out.B
            generalize T2.now = NA at *
            generalize T.now = NB at *
            have B1 := Lib.hid (Below.refl wr.heap.size wr)
            clear HL HL2 hgd hgd2 J JT JR
            go_upto_region 20 with (first | (go_at_call 17; (with_reducible refine (ret_nil _ _).mono ?_); rintro e w1 ⟨xr, rfl, hB⟩; have B1 := Lib.hid (B1.out.trans (hB.mono B1.out.size)); clear hB) | (go_at_call 18; (with_reducible refine (now_nil _).mono ?_); rintro e w1 ⟨rfl, hB⟩; have B1 := Lib.hid (B1.out.trans (hB.mono B1.out.size)); clear hB) | (go_at_call 16; (with_reducible refine (fork_nil _).mono ?_); rintro e w1 ⟨rfl, hB⟩; have B1 := Lib.hid (B1.out.trans (hB.mono B1.out.size)); clear hB) | (go_at_call 19; (with_reducible refine (due_nil' _).mono ?_); rintro e w1 ⟨ra, rc, rfl, hB⟩; have B1 := Lib.hid (B1.out.trans (hB.mono B1.out.size)); clear hB) | (go_at_call 20; (with_reducible refine (take_nil _).mono ?_); rintro e w1 ⟨ra, rc, rfl, hB⟩; have B1 := Lib.hid (B1.out.trans (hB.mono B1.out.size)); clear hB) | (go_at_call 21; (with_reducible refine (wait_nil _).mono ?_); rintro e w1 ⟨ra, rc, rfl, hB⟩; have B1 := Lib.hid (B1.out.trans (hB.mono B1.out.size)); clear hB) | (go_at_call 22; (with_reducible refine (clear_nil _).mono ?_); rintro e w1 ⟨ra, rc, rfl, hB⟩; have B1 := Lib.hid (B1.out.trans (hB.mono B1.out.size)); clear hB))
            obtain ⟨z0, z1, z6⟩ := Z1.out _ B1.out
            go_wp2_with (first | (go_at_call 11; (with_reducible refine (CS.out _ B1.out).mono ?_); rintro e w8 ⟨rfl, hB⟩; have B2 := Lib.hid (B1.out.trans (hB.mono B1.out.size)); clear hB; clear z0 z1 z6; obtain ⟨z0, z1, z6⟩ := Z2.out _ B2.out) | (go_at_call 11; (with_reducible refine (CT.out _ B2.out).mono ?_); rintro e w9 ⟨rfl, hB⟩; have B3 := Lib.hid (B2.out.trans (hB.mono B2.out.size)); clear hB) | (go_at_call 8; (with_reducible refine (AW.out _).mono ?_); rintro e w10 ⟨rfl, hB⟩; have B4 := Lib.hid (B3.out.trans (hB.mono B3.out.size)); clear hB))
            go_ret
            exact ⟨rfl, BW.out.trans (B4.out.mono BW.out.size)⟩
end
end Go.Proofs.Ytcpkiepdpmaeoaa.WK
