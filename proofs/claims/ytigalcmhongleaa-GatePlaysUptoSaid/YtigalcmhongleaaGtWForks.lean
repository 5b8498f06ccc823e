/-
  The walk of GateForks, over the interface and over what awake tells. Nothing here is a statement of the seed.
-/
import Derived.Test.YtigalcmhongleaaGtWPlays
set_option linter.unusedSimpArgs false
set_option linter.unusedVariables false
namespace Go.Proofs.Ytigalcmhongleaa.GL
open Go.RowKit WM NR OM OR GA GF
set_option maxHeartbeats 4000000
set_option maxRecDepth 10000
/-- what else the program's functions tell: Fork, and all at a table that is not there -/
structure GP2 (PT : Rep) : Prop where
  frk : ∀ {S w v f}, PT S w v f → Calls Try.prog 12 #[v] w fun e u => ∃ S2 a, e = .returned (.pointer (some a)) ∧ PT S2 u (.pointer (some a)) f ∧ (∀ g, S2 g → w.heap.size ≤ g) ∧ Below w.heap.size w u
  opnN : ∀ w, Calls Try.prog 13 #[.pointer none, .agg #[.string ⟨#[109]⟩, .int .u16 1, .int .u32 1]] w fun e u => ∃ x, e = .returned (.tuple #[.int .i64 x, .int .i64 1]) ∧ Below w.heap.size w u
  trnN : ∀ w, Calls Try.prog 14 #[.pointer none, .agg #[.string ⟨#[109]⟩, .int .u16 1, .int .u32 1]] w fun e u => ∃ x y z q, e = .returned (.tuple #[.int .i64 x, .agg #[.string y, .int .u16 z, .int .u32 q], .int .i64 1]) ∧ Below w.heap.size w u
  clsN : ∀ w, Calls Try.prog 15 #[.pointer none, .string ⟨#[109]⟩] w fun e u => ∃ x y z q, e = .returned (.tuple #[.int .i64 x, .agg #[.string y, .int .u16 z, .int .u32 q], .int .i64 1]) ∧ Below w.heap.size w u
  fndN : ∀ w, Calls Try.prog 16 #[.pointer none, .string ⟨#[109]⟩] w fun e u => ∃ x y z q, e = .returned (.tuple #[.int .i64 x, .agg #[.string y, .int .u16 z, .int .u32 q], .int .i64 1]) ∧ Below w.heap.size w u
  getN : ∀ w, Calls Try.prog 17 #[.pointer none, .int .i64 0] w fun e u => e = .returned (.agg #[.string ⟨#[]⟩, .int .u16 0, .int .u32 0]) ∧ Below w.heap.size w u
  freN : ∀ w, Calls Try.prog 18 #[.pointer none] w fun e u => e = .returned (.int .i64 0) ∧ Below w.heap.size w u
  frkN : ∀ w, Calls Try.prog 12 #[.pointer none] w fun e u => e = .returned (.pointer none) ∧ Below w.heap.size w u
section
variable {PT : Rep} {w : World} {a : Option Addr} {n c : Nat} {l : List Ac} {a2 : Option Addr} {n2 c2 : Nat} {m : List Ac}
theorem readsA_go {w u : World} {a : Option Addr} {n c : Nat} {l : List Ac} (h : ReadsA (· < w.heap.size) w (.slice a n c) l) (hb : Below w.heap.size w u) : ReadsA (· < u.heap.size) u (.slice a n c) l := by
  obtain ⟨a', cap, e, h1, h2, h4, h5⟩ := h
  refine ⟨a', cap, e, h1, h2, ?_, h5⟩
  rcases h4 with h4 | ⟨g, off, ea, hg, hc⟩
  · exact Or.inl h4
  · refine Or.inr ⟨g, off, ea, Nat.lt_of_lt_of_le hg hb.size, fun j hj => ?_⟩
    obtain ⟨x0, x1, x2, x3⟩ := hc j hj
    have e := fun o => hb.cell (p := ⟨g, o, none⟩) hg
    exact ⟨(e _).trans x0, (e _).trans x1, (e _).trans x2, (e _).trans x3⟩
theorem three_of' {w : World} {b : Nat} {t : TypeId} {x0 x1 x2 : Value} (h : Whole w b t #[x0, x1, x2]) : w.cell? ⟨b, 0, none⟩ = some x0 ∧ w.cell? ⟨b, 1, none⟩ = some x1 ∧ w.cell? ⟨b, 2, none⟩ = some x2 := ⟨h.cell 0, h.cell 1, h.cell 2⟩
theorem bind_eq (u : World) : (binOp .eql 35 (.agg #[.string ⟨#[]⟩, .int .u16 0, .int .u32 0]) (.agg #[.string ⟨#[]⟩, .int .u16 0, .int .u32 0])).run Try.prog u = .ok (.bool true) u := by
  rw [run_eql_struct, show (10000:Nat) = 9999+1 from rfl, run_equalIn_agg u 9999 _ _ _ (by kernel_rfl) (by kernel_rfl)]
  simp [Op.eqFields, go_sem, Try.underlying9, Try.underlying26, Try.underlying27]
/-- a copy of both beside them -/
theorem PJ.fork_ {p p2 : Nat} {S S2 : Nat → Prop} {u u1 : World} {v v2 : Value} {f : Tb} (hP : GP PT) (h : PJ PT w p S u v f) (hb : Below u.heap.size u u1) (hP2 : PT S2 u1 v2 f) (hS : ∀ g, S2 g → u.heap.size ≤ g ∧ g ≠ p2) (hZ : Whole u1 p2 32 tZ) (hp : u.heap.size ≤ p2) :
    PJ PT w p S (putT u1 p2 f) v f ∧ PJ PT u p2 S2 (putT u1 p2 f) v2 f := by
  have hb2 := putT_below hb hb.size hp f
  exact ⟨h.belowS hP hb2, putT_whole hZ rfl f, hP.keep hP2 (by rw [putT_size]; exact Nat.le_refl _) (fun i hi => (putT_fr u1 p2 f).block i (hP.lt hP2 i hi) (fun e => (hS i hi).2 e)), hb2, hS, hp⟩
theorem GateForks_walk (hP : GP PT) (hP2 : GP2 PT) (AW : ∀ w, Calls Try.prog 8 #[] w fun e u => e = .returned (.bool true) ∧ Below w.heap.size w u) (h : ReadsA (· < w.heap.size) w (.slice a n c) l) (h2 : ReadsA (· < w.heap.size) w (.slice a2 n2 c2) m) :
    Calls Try.prog 4 #[.slice a n c, .slice a2 n2 c2] w fun e w' => e = .returned (.bool true) ∧ Below w.heap.size w w' := by
  obtain ⟨n3, m3, m4⟩ := h2.len
  unfold maxLen at m4
  have hn2 : (n2 : Int) ≤ 9223372036854775807 := by omega
  obtain ⟨n1, m1, m2⟩ := h.len
  unfold maxLen at m2
  have hn : (n : Int) ≤ 9223372036854775807 := by omega
  have AW := Lib.hid AW
  by_cases h60 : n ≤ 100
  case neg =>
    have h60' : (100 : Int) < n := by omega
    clear h n1 m1 m2 h2 n3 m3 m4
    go_enter Try.func4, Try.ntmps4
    go_wp2_with (first | (go_at_call 8; (with_reducible refine (AW.out _).mono ?_); rintro e w2 ⟨rfl, hb2⟩))
    go_ret
    exact ⟨rfl, hb2⟩
  have h60' : ¬ (100 : Int) < n := by omega
  by_cases g60 : n2 ≤ 100
  case neg =>
    have g60' : (100 : Int) < n2 := by omega
    clear h n1 m1 m2 h2 n3 m3 m4
    go_enter Try.func4, Try.ntmps4
    go_wp2_with (first | (go_at_call 8; (with_reducible refine (AW.out _).mono ?_); rintro e w2 ⟨rfl, hb2⟩))
    go_ret
    exact ⟨rfl, hb2⟩
  have g60' : ¬ (100 : Int) < n2 := by omega
  have HA := Lib.hid h
  have HL := Lib.hid n1
  have HM := Lib.hid h2
  have HL2 := Lib.hid n3
  have HP := Lib.hid hP
  have HP2 := Lib.hid hP2
  clear h n1 m2 h2 n3 m4 hP hP2
  have q2 : (n : Int) ≤ c := by omega
  have q3 : (n2 : Int) ≤ c2 := by omega
  go_enter Try.func4, Try.ntmps4
  go_upto_region 4 with (first | (go_at_call 9; (with_reducible refine (HP.out.new _).mono ?_); rintro e w2 ⟨S, va, rfl, hp, hS, hb2⟩; have J0 := Lib.hid (PJ.start HP.out hp hS hb2); clear hp hS hb2) | (refine wst_T (f := zeroT) rfl (.tmp 6) (.tmp 36) rfl rfl rfl rfl J0.out.1 rfl ?_; have J0 := Lib.hid J0.out.2; generalize putT (w2.alloc (.cells tZ 32)) w2.heap.size zeroT = W3 at *))
  generalize w2.heap.size = p at *
  go_wp2_with fail
  go_loopw [7] (fun i wr => ∃ k : Nat, k ≤ n ∧ i = .int .i64 (k : Int) ∧ ∃ S, Hid (PJ PT w p S wr (.pointer (some va)) (runM zeroT (l.take k)))) (fun i _ => n - (intOf i).toNat)
  case atStart => exact ⟨0, by omega, rfl, _, J0⟩
  case round =>
    obtain ⟨k, hk, rfl, S, J⟩ := hrel
    clear J0
    by_cases hlt : k < n
    · have hlt' : (k : Int) < n := by omega
      obtain ⟨g, off, rfl, q1, hglt, hok, hat⟩ := HA.out.at hlt
      have hb0 : Below wr.heap.size wr wr.drew := (Below.refl _ _).drew
      have J1 := Lib.hid (J.out.belowS HP.out hb0)
      have CD := Lib.hid (J1.out.do_ HP.out (l.getD k ac0) hok)
      have hrt := run_take zeroT l k (by rw [HL.out]; exact hlt)
      rw [← hrt] at CD
      have KB := Lib.hid hat
      clear hok hat hrt
      obtain ⟨T9, hT⟩ : ∃ T9, T9 = runM zeroT (l.take (k + 1)) := ⟨_, rfl⟩
      rw [← hT] at CD
      have HT := Lib.hid hT
      clear hT
      obtain ⟨T0, hT0⟩ : ∃ T0, T0 = runM zeroT (l.take k) := ⟨_, rfl⟩
      rw [← hT0] at CD J1
      clear hT0 J
      obtain ⟨X, hX⟩ : ∃ X, X = l.getD k ac0 := ⟨_, rfl⟩
      rw [← hX] at CD KB
      clear hX
      obtain ⟨xk, nm, o, bk⟩ := X
      change Hid (Calls _ _ #[_, _, .agg #[.int .u8 xk, .string (bs nm), .int .u16 o, .int .u32 bk]] _ _) at CD
      have KB : Hid (∀ u : World, Below w.heap.size w u → u.cell? ⟨g, off + k * 4, none⟩ = some (.int .u8 xk) ∧ u.cell? ⟨g, off + k * 4 + 1, none⟩ = some (.string (bs nm)) ∧ u.cell? ⟨g, off + k * 4 + 2, none⟩ = some (.int .u16 o) ∧ u.cell? ⟨g, off + k * 4 + 3, none⟩ = some (.int .u32 bk)) := KB
      generalize bs nm = X at *
      have K0 := KB.out _ J1.out.B
      go_upto_region 7 with fail
      refine wp_region_held_drew (S := fun u => u.cell? ⟨g, off + k * 4, none⟩ = some (.int .u8 xk) ∧ u.cell? ⟨g, off + k * 4 + 1, none⟩ = some (.string X) ∧ u.cell? ⟨g, off + k * 4 + 2, none⟩ = some (.int .u16 o) ∧ u.cell? ⟨g, off + k * 4 + 3, none⟩ = some (.int .u32 bk)) (by kernel_rfl) K0 (fun hHeld => ?_)
      refine wpAnyH_take (i := 0) (v := ?tavv0) rfl (by kernel_rfl) (by kernel_rfl) (by kernel_rfl) (fun _ _ _ h => h) (Or.inl ⟨by rfl, ?tahy0⟩) (by assumption) ?tarest0
      case tahy0 =>
        intro u hSu
        obtain ⟨s0, s1, s2, s3⟩ := hSu
        go_simp
        try with_reducible rfl
      try simp only [Act.put, List.getElem_toArray, List.getElem_cons_succ, List.getElem_cons_zero, List.setIfInBounds_toArray, List.set_cons_zero, List.set_cons_succ]
      refine wpAnyH_take (i := 2) (v := ?tavv2) rfl (by kernel_rfl) (by kernel_rfl) (by kernel_rfl) (fun _ _ _ h => h) (Or.inl ⟨by rfl, ?tahy2⟩) (by assumption) ?tarest2
      case tahy2 =>
        intro u hSu
        obtain ⟨s0, s1, s2, s3⟩ := hSu
        go_simp
        try with_reducible rfl
      try simp only [Act.put, List.getElem_toArray, List.getElem_cons_succ, List.getElem_cons_zero, List.setIfInBounds_toArray, List.set_cons_zero, List.set_cons_succ]
      refine wpAnyH_take (i := 3) (v := ?tavv3) rfl (by kernel_rfl) (by kernel_rfl) (by kernel_rfl) (fun _ _ _ h => h) (Or.inl ⟨by rfl, ?tahy3⟩) (by assumption) ?tarest3
      case tahy3 =>
        intro u hSu
        obtain ⟨s0, s1, s2, s3⟩ := hSu
        go_simp
        try with_reducible rfl
      try simp only [Act.put, List.getElem_toArray, List.getElem_cons_succ, List.getElem_cons_zero, List.setIfInBounds_toArray, List.set_cons_zero, List.set_cons_succ]
      refine wpAnyH_take (i := 4) (v := ?tavv4) rfl (by kernel_rfl) (by kernel_rfl) (by kernel_rfl) (fun _ _ _ h => h) (Or.inl ⟨by rfl, ?tahy4⟩) (by assumption) ?tarest4
      case tahy4 =>
        intro u hSu
        obtain ⟨s0, s1, s2, s3⟩ := hSu
        go_simp
        try with_reducible rfl
      try simp only [Act.put, List.getElem_toArray, List.getElem_cons_succ, List.getElem_cons_zero, List.setIfInBounds_toArray, List.set_cons_zero, List.set_cons_succ]
      refine wpAnyH_take (i := 5) (v := ?tavv5) rfl (by kernel_rfl) (by kernel_rfl) (by kernel_rfl) (fun _ _ _ h => h) (Or.inl ⟨by rfl, ?tahy5⟩) (by assumption) ?tarest5
      case tahy5 =>
        intro u hSu
        obtain ⟨s0, s1, s2, s3⟩ := hSu
        go_simp
        try with_reducible rfl
      try simp only [Act.put, List.getElem_toArray, List.getElem_cons_succ, List.getElem_cons_zero, List.setIfInBounds_toArray, List.set_cons_zero, List.set_cons_succ]
      refine wpAnyH_ready (rs := [1]) (by kernel_rfl) (by simp) ?_
      refine AllReadyH.cons rfl (fun K hK => ?_) AllReadyH.nil
      (refine wl1_T rfl rfl J1.out.Z ?_)
      refine hK.out _ _ ?tahS1 (fun hHeld => ?tarest1)
      case tahS1 => exact K0
      clear hK K
      try simp only [Act.put, List.getElem_toArray, List.getElem_cons_succ, List.getElem_cons_zero, List.setIfInBounds_toArray, List.set_cons_zero, List.set_cons_succ]
      refine wpAnyH_ready (rs := [6]) (by kernel_rfl) (by simp) ?_
      refine AllReadyH.cons rfl (fun K hK => ?_) AllReadyH.nil
      (go_simp; go_at_call 10; (with_reducible refine (CD.out).mono ?_); rintro e w5 ⟨rfl, S', hB5, zz, J5⟩; have K5 := KB.out _ hB5; have K6 := KB.out _ J5.B; have J6 := Lib.hid J5; have ZZ := Lib.hid zz; clear hB5 J5 zz)
      refine hK.out _ _ ?tbhS6 (fun hHeld => ?tbrest6)
      case tbhS6 => exact K5
      clear hK K
      try simp only [Act.put, List.getElem_toArray, List.getElem_cons_succ, List.getElem_cons_zero, List.setIfInBounds_toArray, List.set_cons_zero, List.set_cons_succ]
      refine wpAnyH_take (i := 7) (v := ?tbvv7) rfl (by kernel_rfl) (by kernel_rfl) (by kernel_rfl) (fun _ _ _ h => h) (Or.inl ⟨by rfl, ?tbhy7⟩) (by assumption) ?tbrest7
      case tbhy7 =>
        intro u hSu
        obtain ⟨s0, s1, s2, s3⟩ := hSu
        go_simp
        try with_reducible rfl
      try simp only [Act.put, List.getElem_toArray, List.getElem_cons_succ, List.getElem_cons_zero, List.setIfInBounds_toArray, List.set_cons_zero, List.set_cons_succ]
      refine wpAnyH_take (i := 8) (v := ?tbvv8) rfl (by kernel_rfl) (by kernel_rfl) (by kernel_rfl) (fun _ _ _ h => h) (Or.inl ⟨by rfl, ?tbhy8⟩) (by assumption) ?tbrest8
      case tbhy8 =>
        intro u hSu
        obtain ⟨s0, s1, s2, s3⟩ := hSu
        go_simp
        try with_reducible rfl
      try simp only [Act.put, List.getElem_toArray, List.getElem_cons_succ, List.getElem_cons_zero, List.setIfInBounds_toArray, List.set_cons_zero, List.set_cons_succ]
      refine wpAnyH_take (i := 9) (v := ?tbvv9) rfl (by kernel_rfl) (by kernel_rfl) (by kernel_rfl) (fun _ _ _ h => h) (Or.inl ⟨by rfl, ?tbhy9⟩) (by assumption) ?tbrest9
      case tbhy9 =>
        intro u hSu
        obtain ⟨s0, s1, s2, s3⟩ := hSu
        go_simp
        try with_reducible rfl
      try simp only [Act.put, List.getElem_toArray, List.getElem_cons_succ, List.getElem_cons_zero, List.setIfInBounds_toArray, List.set_cons_zero, List.set_cons_succ]
      refine wpAnyH_ready (rs := [10]) (by kernel_rfl) (by simp) ?_
      refine AllReadyH.cons rfl (fun K hK => ?_) AllReadyH.nil
      (refine ws_T rfl rfl ZZ.out rfl rfl rfl ?_; generalize putT w5 p T9 = W6 at *)
      refine hK.out _ _ ?tdhS10 (fun hHeld => ?tdrest10)
      case tdhS10 => exact K6
      clear hK K
      try simp only [Act.put, List.getElem_toArray, List.getElem_cons_succ, List.getElem_cons_zero, List.setIfInBounds_toArray, List.set_cons_zero, List.set_cons_succ]
      refine wpAnyH_done (by kernel_rfl) ?_ _
      clear K0 K5 K6 J1 CD ZZ KB
      rw [HT.out] at J6
      clear HT
      go_wp2_with fail
      go_roundw
      case rel => exact ⟨k + 1, by omega, by go_num, _, J6⟩
      case measure => simp [intOf]; omega
    · obtain rfl : k = n := by omega
      obtain ⟨T, hT⟩ : ∃ T, T = runM zeroT (l.take k) := ⟨_, rfl⟩
      rw [← hT] at J
      clear hT HA
      have FK : Hid (∀ u, Below wr.heap.size wr u → Calls Try.prog 12 #[.pointer (some va)] u fun e u' => ∃ S2 a, e = .returned (.pointer (some a)) ∧ PT S2 u' (.pointer (some a)) T ∧ (∀ g, S2 g → u.heap.size ≤ g) ∧ Below u.heap.size u u') := Lib.hid (fun u hb => HP2.out.frk (J.out.belowS HP.out hb).P)
      have KZ : Hid (∀ u, Below wr.heap.size wr u → Whole u p 32 (tC T)) := Lib.hid (fun u hb => (J.out.belowS HP.out hb).Z)
      go_upto_region 8 with fail
      have hd : Below wr.heap.size wr wr.drew := (Below.refl _ _).drew
      have J1 := Lib.hid (J.out.belowS HP.out hd)
      have HD := Lib.hid hd
      have K0 := KZ.out _ hd
      clear hd
      refine wp_region_held_drew (S := fun u => Whole u p 32 (tC T)) (by kernel_rfl) K0 (fun hHeld => ?_)
      refine wpAnyH_take (i := 0) (v := ?favv0) rfl (by kernel_rfl) (by kernel_rfl) (by kernel_rfl) (fun _ _ _ h => h) (Or.inl ⟨by rfl, ?fahy0⟩) (by assumption) ?farest0
      case fahy0 =>
        intro u hSu
        go_simp
        try with_reducible rfl
      try simp only [Act.put, List.getElem_toArray, List.getElem_cons_succ, List.getElem_cons_zero, List.setIfInBounds_toArray, List.set_cons_zero, List.set_cons_succ]
      refine wpAnyH_take (i := 2) (v := _) rfl (by kernel_rfl) (by kernel_rfl) (by kernel_rfl) (fun _ _ _ h => h) ((yl_T rfl (.tmp 6) rfl rfl (fun u h => h))) (by assumption) ?farest2
      try simp only [Act.put, List.getElem_toArray, List.getElem_cons_succ, List.getElem_cons_zero, List.setIfInBounds_toArray, List.set_cons_zero, List.set_cons_succ]
      refine wpAnyH_ready (rs := [1, 3]) (by kernel_rfl) (by simp) ?_
      refine AllReadyH.cons rfl ?_ (AllReadyH.cons rfl ?_ AllReadyH.nil)
      · intro K hK
        go_simp
        go_at_call 12
        with_reducible refine (FK.out _ HD.out).mono ?_
        rintro e u1 ⟨S2, vb, rfl, hp2, hS2, hB⟩
        have hb1 := HD.out.trans (hB.mono HD.out.size)
        have K1 := KZ.out _ hb1
        have b3 := below_new u1 (.cells tZ 32)
        have hb3 := hb1.trans (b3.mono hb1.size)
        have K2 := KZ.out _ hb3
        have RZ := Lib.hid (Whole.new u1 32 tZ)
        have JJ := Lib.hid (PJ.fork_ HP.out J.out hb3 (HP.out.keep hp2 b3.size (fun g hg => b3.block g (HP.out.lt hp2 g hg))) (fun g hg => ⟨Nat.le_trans HD.out.size (hS2 g hg), by have := HP.out.lt hp2 g hg; omega⟩) RZ.out hb1.size)
        have K3 := JJ.out.1.Z
        clear hB hb1 b3 hb3 hp2 hS2
        refine hK.out _ _ K1 (fun hHeld => ?_)
        clear hK K
        try simp only [Act.put, List.getElem_toArray, List.getElem_cons_succ, List.getElem_cons_zero, List.setIfInBounds_toArray, List.set_cons_zero, List.set_cons_succ]
        refine wpAnyH_ready (rs := [3]) (by kernel_rfl) (by simp) ?_
        refine AllReadyH.cons rfl (fun K hK => ?_) AllReadyH.nil
        go_simp
        refine hK.out _ _ ?fbhS3 (fun hHeld => ?fbrest3)
        case fbhS3 => exact K2
        clear hK K
        try simp only [Act.put, List.getElem_toArray, List.getElem_cons_succ, List.getElem_cons_zero, List.setIfInBounds_toArray, List.set_cons_zero, List.set_cons_succ]
        refine wpAnyH_take (i := 4) (v := ?fbvv4) rfl (by kernel_rfl) (by kernel_rfl) (by kernel_rfl) (fun _ _ _ h => h) (Or.inl ⟨by rfl, ?fbhy4⟩) (by assumption) ?fbrest4
        case fbhy4 =>
          intro u hSu
          go_simp
          try with_reducible rfl
        try simp only [Act.put, List.getElem_toArray, List.getElem_cons_succ, List.getElem_cons_zero, List.setIfInBounds_toArray, List.set_cons_zero, List.set_cons_succ]
        refine wpAnyH_ready (rs := [5]) (by kernel_rfl) (by simp) ?_
        refine AllReadyH.cons rfl (fun K hK => ?_) AllReadyH.nil
        (refine ws_T rfl rfl RZ.out rfl rfl rfl ?_; generalize putT (u1.alloc (.cells tZ 32)) u1.heap.size T = W at *)
        refine hK.out _ _ ?fbbhS5 (fun hHeld => ?fbbrest5)
        case fbbhS5 => exact K3
        clear hK K
        try simp only [Act.put, List.getElem_toArray, List.getElem_cons_succ, List.getElem_cons_zero, List.setIfInBounds_toArray, List.set_cons_zero, List.set_cons_succ]
        refine wpAnyH_take (i := 6) (v := ?fbbvv6) rfl (by kernel_rfl) (by kernel_rfl) (by kernel_rfl) (fun _ _ _ h => h) (Or.inl ⟨by rfl, ?fbbhy6⟩) (by assumption) ?fbbrest6
        case fbbhy6 =>
          intro u hSu
          go_simp
          try with_reducible rfl
        try simp only [Act.put, List.getElem_toArray, List.getElem_cons_succ, List.getElem_cons_zero, List.setIfInBounds_toArray, List.set_cons_zero, List.set_cons_succ]
        refine wpAnyH_done (by kernel_rfl) ?_ _
        clear K0 K1 K2 K3 J1 FK HD KZ RZ
        generalize u1.heap.size = p2 at *
        obtain ⟨w7, hw7⟩ : ∃ x, x = wr := ⟨_, rfl⟩
        subst hw7
        obtain ⟨JT, JF⟩ := JJ.out
        have J0 := Lib.hid JF
        have HM2 := Lib.hid (readsA_go HM.out J.out.B)
        clear JJ JT JF
        go_wp2_with fail
        go_loopw [10, 11] (fun ok i wr => ∃ k2 : Nat, k2 ≤ n2 ∧ i = .int .i64 (k2 : Int) ∧ ok = .bool true ∧ ∃ S2, Hid (PJ PT w7 p2 S2 wr (.pointer (some vb)) (runM T (m.take k2)))) (fun _ i _ => n2 - (intOf i).toNat)
        case atStart => exact ⟨0, by omega, rfl, rfl, _, J0⟩
        case round =>
          obtain ⟨k2, hk2, rfl, rfl, S2, JR⟩ := hrel
          clear J0
          by_cases hlt : k2 < n2
          · have hlt2' : (k2 : Int) < n2 := by omega
            obtain ⟨g, off, rfl, q1, hglt, hok, hat⟩ := HM2.out.at hlt
            have hb0 : Below wr.heap.size wr wr.drew := (Below.refl _ _).drew
            have J1 := Lib.hid (JR.out.belowS HP.out hb0)
            have CD := Lib.hid (J1.out.do_ HP.out (m.getD k2 ac0) hok)
            have hrt := run_take T m k2 (by rw [HL2.out]; exact hlt)
            rw [← hrt] at CD
            have KB := Lib.hid hat
            clear hok hat hrt
            obtain ⟨T9, hT⟩ : ∃ T9, T9 = runM T (m.take (k2 + 1)) := ⟨_, rfl⟩
            rw [← hT] at CD
            have HT := Lib.hid hT
            clear hT
            obtain ⟨T0, hT0⟩ : ∃ T0, T0 = runM T (m.take k2) := ⟨_, rfl⟩
            rw [← hT0] at CD J1
            clear hT0 JR
            obtain ⟨X, hX⟩ : ∃ X, X = m.getD k2 ac0 := ⟨_, rfl⟩
            rw [← hX] at CD KB
            clear hX
            obtain ⟨xk, nm, o, bk⟩ := X
            change Hid (Calls _ _ #[_, _, .agg #[.int .u8 xk, .string (bs nm), .int .u16 o, .int .u32 bk]] _ _) at CD
            have KB : Hid (∀ u : World, Below w7.heap.size w7 u → u.cell? ⟨g, off + k2 * 4, none⟩ = some (.int .u8 xk) ∧ u.cell? ⟨g, off + k2 * 4 + 1, none⟩ = some (.string (bs nm)) ∧ u.cell? ⟨g, off + k2 * 4 + 2, none⟩ = some (.int .u16 o) ∧ u.cell? ⟨g, off + k2 * 4 + 3, none⟩ = some (.int .u32 bk)) := KB
            generalize bs nm = X at *
            have K0 := KB.out _ J1.out.B
            go_upto_region 14 with fail
            refine wp_region_held_drew (S := fun u => u.cell? ⟨g, off + k2 * 4, none⟩ = some (.int .u8 xk) ∧ u.cell? ⟨g, off + k2 * 4 + 1, none⟩ = some (.string X) ∧ u.cell? ⟨g, off + k2 * 4 + 2, none⟩ = some (.int .u16 o) ∧ u.cell? ⟨g, off + k2 * 4 + 3, none⟩ = some (.int .u32 bk)) (by kernel_rfl) K0 (fun hHeld => ?_)
            refine wpAnyH_take (i := 0) (v := ?savv0) rfl (by kernel_rfl) (by kernel_rfl) (by kernel_rfl) (fun _ _ _ h => h) (Or.inl ⟨by rfl, ?sahy0⟩) (by assumption) ?sarest0
            case sahy0 =>
              intro u hSu
              obtain ⟨s0, s1, s2, s3⟩ := hSu
              go_simp
              try with_reducible rfl
            try simp only [Act.put, List.getElem_toArray, List.getElem_cons_succ, List.getElem_cons_zero, List.setIfInBounds_toArray, List.set_cons_zero, List.set_cons_succ]
            refine wpAnyH_take (i := 2) (v := ?savv2) rfl (by kernel_rfl) (by kernel_rfl) (by kernel_rfl) (fun _ _ _ h => h) (Or.inl ⟨by rfl, ?sahy2⟩) (by assumption) ?sarest2
            case sahy2 =>
              intro u hSu
              obtain ⟨s0, s1, s2, s3⟩ := hSu
              go_simp
              try with_reducible rfl
            try simp only [Act.put, List.getElem_toArray, List.getElem_cons_succ, List.getElem_cons_zero, List.setIfInBounds_toArray, List.set_cons_zero, List.set_cons_succ]
            refine wpAnyH_take (i := 3) (v := ?savv3) rfl (by kernel_rfl) (by kernel_rfl) (by kernel_rfl) (fun _ _ _ h => h) (Or.inl ⟨by rfl, ?sahy3⟩) (by assumption) ?sarest3
            case sahy3 =>
              intro u hSu
              obtain ⟨s0, s1, s2, s3⟩ := hSu
              go_simp
              try with_reducible rfl
            try simp only [Act.put, List.getElem_toArray, List.getElem_cons_succ, List.getElem_cons_zero, List.setIfInBounds_toArray, List.set_cons_zero, List.set_cons_succ]
            refine wpAnyH_take (i := 4) (v := ?savv4) rfl (by kernel_rfl) (by kernel_rfl) (by kernel_rfl) (fun _ _ _ h => h) (Or.inl ⟨by rfl, ?sahy4⟩) (by assumption) ?sarest4
            case sahy4 =>
              intro u hSu
              obtain ⟨s0, s1, s2, s3⟩ := hSu
              go_simp
              try with_reducible rfl
            try simp only [Act.put, List.getElem_toArray, List.getElem_cons_succ, List.getElem_cons_zero, List.setIfInBounds_toArray, List.set_cons_zero, List.set_cons_succ]
            refine wpAnyH_take (i := 5) (v := ?savv5) rfl (by kernel_rfl) (by kernel_rfl) (by kernel_rfl) (fun _ _ _ h => h) (Or.inl ⟨by rfl, ?sahy5⟩) (by assumption) ?sarest5
            case sahy5 =>
              intro u hSu
              obtain ⟨s0, s1, s2, s3⟩ := hSu
              go_simp
              try with_reducible rfl
            try simp only [Act.put, List.getElem_toArray, List.getElem_cons_succ, List.getElem_cons_zero, List.setIfInBounds_toArray, List.set_cons_zero, List.set_cons_succ]
            refine wpAnyH_ready (rs := [1]) (by kernel_rfl) (by simp) ?_
            refine AllReadyH.cons rfl (fun K hK => ?_) AllReadyH.nil
            (refine wl1_T rfl rfl J1.out.Z ?_)
            refine hK.out _ _ ?sahS1 (fun hHeld => ?sarest1)
            case sahS1 => exact K0
            clear hK K
            try simp only [Act.put, List.getElem_toArray, List.getElem_cons_succ, List.getElem_cons_zero, List.setIfInBounds_toArray, List.set_cons_zero, List.set_cons_succ]
            refine wpAnyH_ready (rs := [6]) (by kernel_rfl) (by simp) ?_
            refine AllReadyH.cons rfl (fun K hK => ?_) AllReadyH.nil
            (go_simp; go_at_call 10; (with_reducible refine (CD.out).mono ?_); rintro e w5 ⟨rfl, S', hB5, zz, J5⟩; have K5 := KB.out _ hB5; have K6 := KB.out _ J5.B; have J6 := Lib.hid J5; have ZZ := Lib.hid zz; clear hB5 J5 zz)
            refine hK.out _ _ ?sbhS6 (fun hHeld => ?sbrest6)
            case sbhS6 => exact K5
            clear hK K
            try simp only [Act.put, List.getElem_toArray, List.getElem_cons_succ, List.getElem_cons_zero, List.setIfInBounds_toArray, List.set_cons_zero, List.set_cons_succ]
            refine wpAnyH_take (i := 7) (v := ?sbvv7) rfl (by kernel_rfl) (by kernel_rfl) (by kernel_rfl) (fun _ _ _ h => h) (Or.inl ⟨by rfl, ?sbhy7⟩) (by assumption) ?sbrest7
            case sbhy7 =>
              intro u hSu
              obtain ⟨s0, s1, s2, s3⟩ := hSu
              go_simp
              try with_reducible rfl
            try simp only [Act.put, List.getElem_toArray, List.getElem_cons_succ, List.getElem_cons_zero, List.setIfInBounds_toArray, List.set_cons_zero, List.set_cons_succ]
            refine wpAnyH_take (i := 8) (v := ?sbvv8) rfl (by kernel_rfl) (by kernel_rfl) (by kernel_rfl) (fun _ _ _ h => h) (Or.inl ⟨by rfl, ?sbhy8⟩) (by assumption) ?sbrest8
            case sbhy8 =>
              intro u hSu
              obtain ⟨s0, s1, s2, s3⟩ := hSu
              go_simp
              try with_reducible rfl
            try simp only [Act.put, List.getElem_toArray, List.getElem_cons_succ, List.getElem_cons_zero, List.setIfInBounds_toArray, List.set_cons_zero, List.set_cons_succ]
            refine wpAnyH_take (i := 9) (v := ?sbvv9) rfl (by kernel_rfl) (by kernel_rfl) (by kernel_rfl) (fun _ _ _ h => h) (Or.inl ⟨by rfl, ?sbhy9⟩) (by assumption) ?sbrest9
            case sbhy9 =>
              intro u hSu
              obtain ⟨s0, s1, s2, s3⟩ := hSu
              go_simp
              try with_reducible rfl
            try simp only [Act.put, List.getElem_toArray, List.getElem_cons_succ, List.getElem_cons_zero, List.setIfInBounds_toArray, List.set_cons_zero, List.set_cons_succ]
            refine wpAnyH_ready (rs := [10]) (by kernel_rfl) (by simp) ?_
            refine AllReadyH.cons rfl (fun K hK => ?_) AllReadyH.nil
            (refine ws_T rfl rfl ZZ.out rfl rfl rfl ?_; generalize putT w5 p2 T9 = W6 at *)
            refine hK.out _ _ ?sdhS10 (fun hHeld => ?sdrest10)
            case sdhS10 => exact K6
            clear hK K
            try simp only [Act.put, List.getElem_toArray, List.getElem_cons_succ, List.getElem_cons_zero, List.setIfInBounds_toArray, List.set_cons_zero, List.set_cons_succ]
            refine wpAnyH_take (i := 11) (v := ?sdvv11) rfl (by kernel_rfl) (by kernel_rfl) (by kernel_rfl) (fun _ _ _ h => h) (Or.inl ⟨by rfl, ?sdhy11⟩) (by assumption) ?sdrest11
            case sdhy11 =>
              intro u hSu
              obtain ⟨s0, s1, s2, s3⟩ := hSu
              go_simp
              try with_reducible rfl
            try simp only [Act.put, List.getElem_toArray, List.getElem_cons_succ, List.getElem_cons_zero, List.setIfInBounds_toArray, List.set_cons_zero, List.set_cons_succ]
            refine wpAnyH_done (by kernel_rfl) ?_ _
            clear K0 K5 K6 J1 CD ZZ KB
            rw [HT.out] at J6
            clear HT
            go_wp2_with fail
            go_roundw
            case rel => exact ⟨k2 + 1, by omega, by go_num, rfl, _, J6⟩
            case measure => simp [intOf]; omega
          · obtain rfl : k2 = n2 := by omega
            obtain ⟨T2, hT2⟩ : ∃ T2, T2 = runM T (m.take k2) := ⟨_, rfl⟩
            rw [← hT2] at JR
            clear hT2 HM HM2
            have JT := Lib.hid (J.out.belowS HP.out JR.out.B)
            have CS : Hid (∀ u, Below wr.heap.size wr u → Calls Try.prog 11 #[.pointer (some vb), tV T2] u fun e u' => e = .returned (.bool true) ∧ Below u.heap.size u u') := Lib.hid (fun u hb => (JR.out.belowS HP.out hb).same_ HP.out)
            have CT : Hid (∀ u, Below wr.heap.size wr u → Calls Try.prog 11 #[.pointer (some va), tV T] u fun e u' => e = .returned (.bool true) ∧ Below u.heap.size u u') := Lib.hid (fun u hb => (JT.out.belowS HP.out hb).same_ HP.out)
            have Z1 : Hid (∀ u, Below wr.heap.size wr u → Whole u p2 32 (tC T2)) := Lib.hid (fun u hb => (JR.out.belowS HP.out hb).Z)
            have Z2 : Hid (∀ u, Below wr.heap.size wr u → Whole u p 32 (tC T)) := Lib.hid (fun u hb => (JT.out.belowS HP.out hb).Z)
            have BW := Lib.hid JT.out.B
            have B1 := Lib.hid (Below.refl wr.heap.size wr)
            clear HL HL2 J JT JR
            have b13 := below_new wr (.cells #[.string ⟨#[109]⟩, .int .u16 1, .int .u32 1] 35)
            have B13 := Lib.hid (Whole.new wr 35 #[.string ⟨#[109]⟩, .int .u16 1, .int .u32 1])
            have B1 := Lib.hid (B1.out.trans b13)
            clear b13
            go_upto_region 19 with fail
            have BI : Hid (∀ u, Below wr.heap.size wr u → ∀ t cs, Below wr.heap.size wr (u.alloc (.cells cs t))) := Lib.hid (fun u hb t cs => hb.trans ((below_new u _).mono hb.size))
            generalize wr.alloc (.cells #[.string ⟨#[109]⟩, .int .u16 1, .int .u32 1] 35) = w13 at *
            obtain ⟨x0, x1, x2⟩ := three_of' B13.out
            have x6 := B13.out.lt
            go_upto_region 20 with (go_at_call 13; (with_reducible refine (HP2.out.opnN _).mono ?_); rintro e w14 ⟨xr, rfl, hB⟩; have B14 := Lib.hid (B13.out.belowS hB); have B1 := Lib.hid (B1.out.trans (hB.mono B1.out.size)); clear hB)
            clear x0 x1 x2 x6
            obtain ⟨x0, x1, x2⟩ := three_of' B14.out
            have x6 := B14.out.lt
            go_upto_region 21 with (go_at_call 14; (with_reducible refine (HP2.out.trnN _).mono ?_); rintro e w15 ⟨xr2, ya, za, qa, rfl, hB⟩; have B1 := Lib.hid (B1.out.trans (hB.mono B1.out.size)); clear hB)
            clear x0 x1 x2 x6 B13 B14
            have B1 := Lib.hid (BI.out _ B1.out 35 #[.string ya, .int .u16 za, .int .u32 qa])
            generalize w15.alloc (.cells #[.string ya, .int .u16 za, .int .u32 qa] 35) = w16 at *
            go_upto_region 22 with (go_at_call 15; (with_reducible refine (HP2.out.clsN _).mono ?_); rintro e w17 ⟨xr3, yb, zb, qb, rfl, hB⟩; have B1 := Lib.hid (B1.out.trans (hB.mono B1.out.size)); clear hB)
            have B1 := Lib.hid (BI.out _ B1.out 35 #[.string yb, .int .u16 zb, .int .u32 qb])
            generalize w17.alloc (.cells #[.string yb, .int .u16 zb, .int .u32 qb] 35) = w18 at *
            go_upto_region 23 with (go_at_call 16; (with_reducible refine (HP2.out.fndN _).mono ?_); rintro e w19 ⟨xr4, yc, zc, qc, rfl, hB⟩; have B1 := Lib.hid (B1.out.trans (hB.mono B1.out.size)); clear hB)
            have B1 := Lib.hid (BI.out _ B1.out 35 #[.string yc, .int .u16 zc, .int .u32 qc])
            generalize w19.alloc (.cells #[.string yc, .int .u16 zc, .int .u32 qc] 35) = w20 at *
            have heq := bind_eq
            go_upto_region 24 with (first | (go_at_call 17; (with_reducible refine (HP2.out.getN _).mono ?_); rintro e w21 ⟨rfl, hB⟩; have B1 := Lib.hid (B1.out.trans (hB.mono B1.out.size)); clear hB) | (go_at_call 18; (with_reducible refine (HP2.out.freN _).mono ?_); rintro e w22 ⟨rfl, hB⟩; have B1 := Lib.hid (B1.out.trans (hB.mono B1.out.size)); clear hB) | (go_at_call 12; (with_reducible refine (HP2.out.frkN _).mono ?_); rintro e w23 ⟨rfl, hB⟩; have B1 := Lib.hid (B1.out.trans (hB.mono B1.out.size)); clear hB))
            clear BI heq
            go_wp2_with (first | (refine wl_T rfl (.tmp 9) rfl rfl (Z1.out _ B1.out) ?_) | (go_at_call 11; (with_reducible refine (CS.out _ B1.out).mono ?_); rintro e w24 ⟨rfl, hB⟩; have B2 := Lib.hid (B1.out.trans (hB.mono B1.out.size)); clear hB) | (refine wl_Tg rfl (.tmp 6) rfl rfl (Z2.out _ B2.out) ?_) | (go_at_call 11; (with_reducible refine (CT.out _ B2.out).mono ?_); rintro e w25 ⟨rfl, hB⟩; have B3 := Lib.hid (B2.out.trans (hB.mono B2.out.size)); clear hB) | (go_at_call 8; (with_reducible refine (AW.out _).mono ?_); rintro e w26 ⟨rfl, hB⟩; have B9 := Lib.hid (B3.out.trans (hB.mono B3.out.size)); clear hB))
            go_ret
            exact ⟨rfl, BW.out.trans (B9.out.mono BW.out.size)⟩
      · intro K hK
        go_simp
        have hb3 : Below wr.heap.size wr (wr.alloc (.cells tZ 32)).drew := (below_new wr _).drew
        have K1 := KZ.out _ hb3
        have hz : Below (wr.alloc (.cells tZ 32)).heap.size (wr.alloc (.cells tZ 32)) (wr.alloc (.cells tZ 32)).drew := (Below.refl _ _).drew
        have RZ := Lib.hid ((Whole.new wr 32 tZ).belowS hz)
        have HB := Lib.hid hb3
        clear hb3 hz
        refine hK.out _ _ K1 (fun hHeld => ?_)
        clear hK K
        try simp only [Act.put, List.getElem_toArray, List.getElem_cons_succ, List.getElem_cons_zero, List.setIfInBounds_toArray, List.set_cons_zero, List.set_cons_succ]
        refine wpAnyH_ready (rs := [1]) (by kernel_rfl) (by simp) ?_
        refine AllReadyH.cons rfl (fun K hK => ?_) AllReadyH.nil
        (go_simp; go_at_call 12; (with_reducible refine (FK.out _ HB.out).mono ?_); rintro e u1 ⟨S2, vb, rfl, hp2, hS2, hB⟩; have hb1 := HB.out.trans (hB.mono HB.out.size); have RZ1 := Lib.hid (RZ.out.belowS hB); have K2 := KZ.out _ hb1; have JJ := Lib.hid (PJ.fork_ (p2 := wr.heap.size) HP.out J.out hb1 hp2 (fun g hg => ⟨Nat.le_trans HB.out.size (hS2 g hg), by have := hS2 g hg; have := RZ.out.lt; omega⟩) RZ1.out (Nat.le_refl _)); have K3 := JJ.out.1.Z; clear hB hb1 hp2 hS2)
        refine hK.out _ _ ?fchS1 (fun hHeld => ?fcrest1)
        case fchS1 => exact K2
        clear hK K
        try simp only [Act.put, List.getElem_toArray, List.getElem_cons_succ, List.getElem_cons_zero, List.setIfInBounds_toArray, List.set_cons_zero, List.set_cons_succ]
        refine wpAnyH_take (i := 4) (v := ?fcvv4) rfl (by kernel_rfl) (by kernel_rfl) (by kernel_rfl) (fun _ _ _ h => h) (Or.inl ⟨by rfl, ?fchy4⟩) (by assumption) ?fcrest4
        case fchy4 =>
          intro u hSu
          go_simp
          try with_reducible rfl
        try simp only [Act.put, List.getElem_toArray, List.getElem_cons_succ, List.getElem_cons_zero, List.setIfInBounds_toArray, List.set_cons_zero, List.set_cons_succ]
        refine wpAnyH_ready (rs := [5]) (by kernel_rfl) (by simp) ?_
        refine AllReadyH.cons rfl (fun K hK => ?_) AllReadyH.nil
        (refine ws_T rfl rfl RZ1.out rfl rfl rfl ?_; generalize putT u1 wr.heap.size T = W at *)
        refine hK.out _ _ ?fcchS5 (fun hHeld => ?fccrest5)
        case fcchS5 => exact K3
        clear hK K
        try simp only [Act.put, List.getElem_toArray, List.getElem_cons_succ, List.getElem_cons_zero, List.setIfInBounds_toArray, List.set_cons_zero, List.set_cons_succ]
        refine wpAnyH_take (i := 6) (v := ?fccvv6) rfl (by kernel_rfl) (by kernel_rfl) (by kernel_rfl) (fun _ _ _ h => h) (Or.inl ⟨by rfl, ?fcchy6⟩) (by assumption) ?fccrest6
        case fcchy6 =>
          intro u hSu
          go_simp
          try with_reducible rfl
        try simp only [Act.put, List.getElem_toArray, List.getElem_cons_succ, List.getElem_cons_zero, List.setIfInBounds_toArray, List.set_cons_zero, List.set_cons_succ]
        refine wpAnyH_done (by kernel_rfl) ?_ _
        clear K0 K1 K2 K3 J1 FK HD KZ RZ RZ1 HB
        generalize wr.heap.size = p2 at *
        obtain ⟨w7, hw7⟩ : ∃ x, x = wr := ⟨_, rfl⟩
        subst hw7
        obtain ⟨JT, JF⟩ := JJ.out
        have J0 := Lib.hid JF
        have HM2 := Lib.hid (readsA_go HM.out J.out.B)
        clear JJ JT JF
        go_wp2_with fail
        go_loopw [10, 11] (fun ok i wr => ∃ k2 : Nat, k2 ≤ n2 ∧ i = .int .i64 (k2 : Int) ∧ ok = .bool true ∧ ∃ S2, Hid (PJ PT w7 p2 S2 wr (.pointer (some vb)) (runM T (m.take k2)))) (fun _ i _ => n2 - (intOf i).toNat)
        case atStart => exact ⟨0, by omega, rfl, rfl, _, J0⟩
        case round =>
          obtain ⟨k2, hk2, rfl, rfl, S2, JR⟩ := hrel
          clear J0
          by_cases hlt : k2 < n2
          · have hlt2' : (k2 : Int) < n2 := by omega
            obtain ⟨g, off, rfl, q1, hglt, hok, hat⟩ := HM2.out.at hlt
            have hb0 : Below wr.heap.size wr wr.drew := (Below.refl _ _).drew
            have J1 := Lib.hid (JR.out.belowS HP.out hb0)
            have CD := Lib.hid (J1.out.do_ HP.out (m.getD k2 ac0) hok)
            have hrt := run_take T m k2 (by rw [HL2.out]; exact hlt)
            rw [← hrt] at CD
            have KB := Lib.hid hat
            clear hok hat hrt
            obtain ⟨T9, hT⟩ : ∃ T9, T9 = runM T (m.take (k2 + 1)) := ⟨_, rfl⟩
            rw [← hT] at CD
            have HT := Lib.hid hT
            clear hT
            obtain ⟨T0, hT0⟩ : ∃ T0, T0 = runM T (m.take k2) := ⟨_, rfl⟩
            rw [← hT0] at CD J1
            clear hT0 JR
            obtain ⟨X, hX⟩ : ∃ X, X = m.getD k2 ac0 := ⟨_, rfl⟩
            rw [← hX] at CD KB
            clear hX
            obtain ⟨xk, nm, o, bk⟩ := X
            change Hid (Calls _ _ #[_, _, .agg #[.int .u8 xk, .string (bs nm), .int .u16 o, .int .u32 bk]] _ _) at CD
            have KB : Hid (∀ u : World, Below w7.heap.size w7 u → u.cell? ⟨g, off + k2 * 4, none⟩ = some (.int .u8 xk) ∧ u.cell? ⟨g, off + k2 * 4 + 1, none⟩ = some (.string (bs nm)) ∧ u.cell? ⟨g, off + k2 * 4 + 2, none⟩ = some (.int .u16 o) ∧ u.cell? ⟨g, off + k2 * 4 + 3, none⟩ = some (.int .u32 bk)) := KB
            generalize bs nm = X at *
            have K0 := KB.out _ J1.out.B
            go_upto_region 14 with fail
            refine wp_region_held_drew (S := fun u => u.cell? ⟨g, off + k2 * 4, none⟩ = some (.int .u8 xk) ∧ u.cell? ⟨g, off + k2 * 4 + 1, none⟩ = some (.string X) ∧ u.cell? ⟨g, off + k2 * 4 + 2, none⟩ = some (.int .u16 o) ∧ u.cell? ⟨g, off + k2 * 4 + 3, none⟩ = some (.int .u32 bk)) (by kernel_rfl) K0 (fun hHeld => ?_)
            refine wpAnyH_take (i := 0) (v := ?qavv0) rfl (by kernel_rfl) (by kernel_rfl) (by kernel_rfl) (fun _ _ _ h => h) (Or.inl ⟨by rfl, ?qahy0⟩) (by assumption) ?qarest0
            case qahy0 =>
              intro u hSu
              obtain ⟨s0, s1, s2, s3⟩ := hSu
              go_simp
              try with_reducible rfl
            try simp only [Act.put, List.getElem_toArray, List.getElem_cons_succ, List.getElem_cons_zero, List.setIfInBounds_toArray, List.set_cons_zero, List.set_cons_succ]
            refine wpAnyH_take (i := 2) (v := ?qavv2) rfl (by kernel_rfl) (by kernel_rfl) (by kernel_rfl) (fun _ _ _ h => h) (Or.inl ⟨by rfl, ?qahy2⟩) (by assumption) ?qarest2
            case qahy2 =>
              intro u hSu
              obtain ⟨s0, s1, s2, s3⟩ := hSu
              go_simp
              try with_reducible rfl
            try simp only [Act.put, List.getElem_toArray, List.getElem_cons_succ, List.getElem_cons_zero, List.setIfInBounds_toArray, List.set_cons_zero, List.set_cons_succ]
            refine wpAnyH_take (i := 3) (v := ?qavv3) rfl (by kernel_rfl) (by kernel_rfl) (by kernel_rfl) (fun _ _ _ h => h) (Or.inl ⟨by rfl, ?qahy3⟩) (by assumption) ?qarest3
            case qahy3 =>
              intro u hSu
              obtain ⟨s0, s1, s2, s3⟩ := hSu
              go_simp
              try with_reducible rfl
            try simp only [Act.put, List.getElem_toArray, List.getElem_cons_succ, List.getElem_cons_zero, List.setIfInBounds_toArray, List.set_cons_zero, List.set_cons_succ]
            refine wpAnyH_take (i := 4) (v := ?qavv4) rfl (by kernel_rfl) (by kernel_rfl) (by kernel_rfl) (fun _ _ _ h => h) (Or.inl ⟨by rfl, ?qahy4⟩) (by assumption) ?qarest4
            case qahy4 =>
              intro u hSu
              obtain ⟨s0, s1, s2, s3⟩ := hSu
              go_simp
              try with_reducible rfl
            try simp only [Act.put, List.getElem_toArray, List.getElem_cons_succ, List.getElem_cons_zero, List.setIfInBounds_toArray, List.set_cons_zero, List.set_cons_succ]
            refine wpAnyH_take (i := 5) (v := ?qavv5) rfl (by kernel_rfl) (by kernel_rfl) (by kernel_rfl) (fun _ _ _ h => h) (Or.inl ⟨by rfl, ?qahy5⟩) (by assumption) ?qarest5
            case qahy5 =>
              intro u hSu
              obtain ⟨s0, s1, s2, s3⟩ := hSu
              go_simp
              try with_reducible rfl
            try simp only [Act.put, List.getElem_toArray, List.getElem_cons_succ, List.getElem_cons_zero, List.setIfInBounds_toArray, List.set_cons_zero, List.set_cons_succ]
            refine wpAnyH_ready (rs := [1]) (by kernel_rfl) (by simp) ?_
            refine AllReadyH.cons rfl (fun K hK => ?_) AllReadyH.nil
            (refine wl1_T rfl rfl J1.out.Z ?_)
            refine hK.out _ _ ?qahS1 (fun hHeld => ?qarest1)
            case qahS1 => exact K0
            clear hK K
            try simp only [Act.put, List.getElem_toArray, List.getElem_cons_succ, List.getElem_cons_zero, List.setIfInBounds_toArray, List.set_cons_zero, List.set_cons_succ]
            refine wpAnyH_ready (rs := [6]) (by kernel_rfl) (by simp) ?_
            refine AllReadyH.cons rfl (fun K hK => ?_) AllReadyH.nil
            (go_simp; go_at_call 10; (with_reducible refine (CD.out).mono ?_); rintro e w5 ⟨rfl, S', hB5, zz, J5⟩; have K5 := KB.out _ hB5; have K6 := KB.out _ J5.B; have J6 := Lib.hid J5; have ZZ := Lib.hid zz; clear hB5 J5 zz)
            refine hK.out _ _ ?qbhS6 (fun hHeld => ?qbrest6)
            case qbhS6 => exact K5
            clear hK K
            try simp only [Act.put, List.getElem_toArray, List.getElem_cons_succ, List.getElem_cons_zero, List.setIfInBounds_toArray, List.set_cons_zero, List.set_cons_succ]
            refine wpAnyH_take (i := 7) (v := ?qbvv7) rfl (by kernel_rfl) (by kernel_rfl) (by kernel_rfl) (fun _ _ _ h => h) (Or.inl ⟨by rfl, ?qbhy7⟩) (by assumption) ?qbrest7
            case qbhy7 =>
              intro u hSu
              obtain ⟨s0, s1, s2, s3⟩ := hSu
              go_simp
              try with_reducible rfl
            try simp only [Act.put, List.getElem_toArray, List.getElem_cons_succ, List.getElem_cons_zero, List.setIfInBounds_toArray, List.set_cons_zero, List.set_cons_succ]
            refine wpAnyH_take (i := 8) (v := ?qbvv8) rfl (by kernel_rfl) (by kernel_rfl) (by kernel_rfl) (fun _ _ _ h => h) (Or.inl ⟨by rfl, ?qbhy8⟩) (by assumption) ?qbrest8
            case qbhy8 =>
              intro u hSu
              obtain ⟨s0, s1, s2, s3⟩ := hSu
              go_simp
              try with_reducible rfl
            try simp only [Act.put, List.getElem_toArray, List.getElem_cons_succ, List.getElem_cons_zero, List.setIfInBounds_toArray, List.set_cons_zero, List.set_cons_succ]
            refine wpAnyH_take (i := 9) (v := ?qbvv9) rfl (by kernel_rfl) (by kernel_rfl) (by kernel_rfl) (fun _ _ _ h => h) (Or.inl ⟨by rfl, ?qbhy9⟩) (by assumption) ?qbrest9
            case qbhy9 =>
              intro u hSu
              obtain ⟨s0, s1, s2, s3⟩ := hSu
              go_simp
              try with_reducible rfl
            try simp only [Act.put, List.getElem_toArray, List.getElem_cons_succ, List.getElem_cons_zero, List.setIfInBounds_toArray, List.set_cons_zero, List.set_cons_succ]
            refine wpAnyH_ready (rs := [10]) (by kernel_rfl) (by simp) ?_
            refine AllReadyH.cons rfl (fun K hK => ?_) AllReadyH.nil
            (refine ws_T rfl rfl ZZ.out rfl rfl rfl ?_; generalize putT w5 p2 T9 = W6 at *)
            refine hK.out _ _ ?qdhS10 (fun hHeld => ?qdrest10)
            case qdhS10 => exact K6
            clear hK K
            try simp only [Act.put, List.getElem_toArray, List.getElem_cons_succ, List.getElem_cons_zero, List.setIfInBounds_toArray, List.set_cons_zero, List.set_cons_succ]
            refine wpAnyH_take (i := 11) (v := ?qdvv11) rfl (by kernel_rfl) (by kernel_rfl) (by kernel_rfl) (fun _ _ _ h => h) (Or.inl ⟨by rfl, ?qdhy11⟩) (by assumption) ?qdrest11
            case qdhy11 =>
              intro u hSu
              obtain ⟨s0, s1, s2, s3⟩ := hSu
              go_simp
              try with_reducible rfl
            try simp only [Act.put, List.getElem_toArray, List.getElem_cons_succ, List.getElem_cons_zero, List.setIfInBounds_toArray, List.set_cons_zero, List.set_cons_succ]
            refine wpAnyH_done (by kernel_rfl) ?_ _
            clear K0 K5 K6 J1 CD ZZ KB
            rw [HT.out] at J6
            clear HT
            go_wp2_with fail
            go_roundw
            case rel => exact ⟨k2 + 1, by omega, by go_num, rfl, _, J6⟩
            case measure => simp [intOf]; omega
          · obtain rfl : k2 = n2 := by omega
            obtain ⟨T2, hT2⟩ : ∃ T2, T2 = runM T (m.take k2) := ⟨_, rfl⟩
            rw [← hT2] at JR
            clear hT2 HM HM2
            have JT := Lib.hid (J.out.belowS HP.out JR.out.B)
            have CS : Hid (∀ u, Below wr.heap.size wr u → Calls Try.prog 11 #[.pointer (some vb), tV T2] u fun e u' => e = .returned (.bool true) ∧ Below u.heap.size u u') := Lib.hid (fun u hb => (JR.out.belowS HP.out hb).same_ HP.out)
            have CT : Hid (∀ u, Below wr.heap.size wr u → Calls Try.prog 11 #[.pointer (some va), tV T] u fun e u' => e = .returned (.bool true) ∧ Below u.heap.size u u') := Lib.hid (fun u hb => (JT.out.belowS HP.out hb).same_ HP.out)
            have Z1 : Hid (∀ u, Below wr.heap.size wr u → Whole u p2 32 (tC T2)) := Lib.hid (fun u hb => (JR.out.belowS HP.out hb).Z)
            have Z2 : Hid (∀ u, Below wr.heap.size wr u → Whole u p 32 (tC T)) := Lib.hid (fun u hb => (JT.out.belowS HP.out hb).Z)
            have BW := Lib.hid JT.out.B
            have B1 := Lib.hid (Below.refl wr.heap.size wr)
            clear HL HL2 J JT JR
            have b13 := below_new wr (.cells #[.string ⟨#[109]⟩, .int .u16 1, .int .u32 1] 35)
            have B13 := Lib.hid (Whole.new wr 35 #[.string ⟨#[109]⟩, .int .u16 1, .int .u32 1])
            have B1 := Lib.hid (B1.out.trans b13)
            clear b13
            go_upto_region 19 with fail
            have BI : Hid (∀ u, Below wr.heap.size wr u → ∀ t cs, Below wr.heap.size wr (u.alloc (.cells cs t))) := Lib.hid (fun u hb t cs => hb.trans ((below_new u _).mono hb.size))
            generalize wr.alloc (.cells #[.string ⟨#[109]⟩, .int .u16 1, .int .u32 1] 35) = w13 at *
            obtain ⟨x0, x1, x2⟩ := three_of' B13.out
            have x6 := B13.out.lt
            go_upto_region 20 with (go_at_call 13; (with_reducible refine (HP2.out.opnN _).mono ?_); rintro e w14 ⟨xr, rfl, hB⟩; have B14 := Lib.hid (B13.out.belowS hB); have B1 := Lib.hid (B1.out.trans (hB.mono B1.out.size)); clear hB)
            clear x0 x1 x2 x6
            obtain ⟨x0, x1, x2⟩ := three_of' B14.out
            have x6 := B14.out.lt
            go_upto_region 21 with (go_at_call 14; (with_reducible refine (HP2.out.trnN _).mono ?_); rintro e w15 ⟨xr2, ya, za, qa, rfl, hB⟩; have B1 := Lib.hid (B1.out.trans (hB.mono B1.out.size)); clear hB)
            clear x0 x1 x2 x6 B13 B14
            have B1 := Lib.hid (BI.out _ B1.out 35 #[.string ya, .int .u16 za, .int .u32 qa])
            generalize w15.alloc (.cells #[.string ya, .int .u16 za, .int .u32 qa] 35) = w16 at *
            go_upto_region 22 with (go_at_call 15; (with_reducible refine (HP2.out.clsN _).mono ?_); rintro e w17 ⟨xr3, yb, zb, qb, rfl, hB⟩; have B1 := Lib.hid (B1.out.trans (hB.mono B1.out.size)); clear hB)
            have B1 := Lib.hid (BI.out _ B1.out 35 #[.string yb, .int .u16 zb, .int .u32 qb])
            generalize w17.alloc (.cells #[.string yb, .int .u16 zb, .int .u32 qb] 35) = w18 at *
            go_upto_region 23 with (go_at_call 16; (with_reducible refine (HP2.out.fndN _).mono ?_); rintro e w19 ⟨xr4, yc, zc, qc, rfl, hB⟩; have B1 := Lib.hid (B1.out.trans (hB.mono B1.out.size)); clear hB)
            have B1 := Lib.hid (BI.out _ B1.out 35 #[.string yc, .int .u16 zc, .int .u32 qc])
            generalize w19.alloc (.cells #[.string yc, .int .u16 zc, .int .u32 qc] 35) = w20 at *
            have heq := bind_eq
            go_upto_region 24 with (first | (go_at_call 17; (with_reducible refine (HP2.out.getN _).mono ?_); rintro e w21 ⟨rfl, hB⟩; have B1 := Lib.hid (B1.out.trans (hB.mono B1.out.size)); clear hB) | (go_at_call 18; (with_reducible refine (HP2.out.freN _).mono ?_); rintro e w22 ⟨rfl, hB⟩; have B1 := Lib.hid (B1.out.trans (hB.mono B1.out.size)); clear hB) | (go_at_call 12; (with_reducible refine (HP2.out.frkN _).mono ?_); rintro e w23 ⟨rfl, hB⟩; have B1 := Lib.hid (B1.out.trans (hB.mono B1.out.size)); clear hB))
            clear BI heq
            go_wp2_with (first | (refine wl_T rfl (.tmp 9) rfl rfl (Z1.out _ B1.out) ?_) | (go_at_call 11; (with_reducible refine (CS.out _ B1.out).mono ?_); rintro e w24 ⟨rfl, hB⟩; have B2 := Lib.hid (B1.out.trans (hB.mono B1.out.size)); clear hB) | (refine wl_Tg rfl (.tmp 6) rfl rfl (Z2.out _ B2.out) ?_) | (go_at_call 11; (with_reducible refine (CT.out _ B2.out).mono ?_); rintro e w25 ⟨rfl, hB⟩; have B3 := Lib.hid (B2.out.trans (hB.mono B2.out.size)); clear hB) | (go_at_call 8; (with_reducible refine (AW.out _).mono ?_); rintro e w26 ⟨rfl, hB⟩; have B9 := Lib.hid (B3.out.trans (hB.mono B3.out.size)); clear hB))
            go_ret
            exact ⟨rfl, BW.out.trans (B9.out.mono BW.out.size)⟩
end
end Go.Proofs.Ytigalcmhongleaa.GL
