/-
  The reference of layer 13: an entry put in order. Nothing here is a statement of the seed.
-/
import Derived.Test.YtajidaicojekdaaSymRef2
import Derived.Test.YtajidaicojekdaaSymApp
import Derived.Test.YtajidaicojekdaaNameL
set_option linter.unusedSimpArgs false
set_option linter.unusedVariables false
namespace Go.Proofs.Ytajidaicojekdaa.SF
open Go.RowKit WM NR OM OR SM SR
set_option maxHeartbeats 4000000
set_option maxRecDepth 10000
/-- what put leaves -/
def IsPut (B : Nat) (ln : Nat) (l : List En) (w : World) : Ending → World → Prop := fun e w' => ∃ a c, e = .returned (.slice a (ln + 1) c) ∧ ReadsE (B ≤ ·) w' (.slice a (ln + 1) c) l ∧ Below B w w'
theorem put_post {w u : World} {l : List En} {e : En} {k ln n' : Nat} {a : Option Addr} {c : Nat} {n : Nat} (hp : putL l e = l.take k ++ e :: l.drop k) (hn : n' = ln + 1) (hl : l.length = ln) (ho : u.ownsRow (w.heap.size + 1) 92 5 (.slice a n c) n' (eC (l.take k ++ [e] ++ l.drop k))) (hb : Below w.heap.size w u) : IsPut w.heap.size ln (putL l e) w (.returned (.slice a n c)) u := by
  rw [hn] at ho
  have e1 : l.take k ++ [e] ++ l.drop k = putL l e := by rw [hp, List.append_assoc]; rfl
  rw [e1] at ho
  have h2 : (putL l e).length = ln + 1 := by rw [putL_len, hl]
  have hr := ReadsE.of_owns (by rw [h2]; exact ho)
  obtain ⟨a', cap, e2, _⟩ := id hr
  simp only [Value.slice.injEq] at e2
  obtain ⟨rfl, rfl, rfl⟩ := e2
  rw [h2] at hr ⊢
  exact ⟨_, _, rfl, hr.mono fun g hg => by omega, hb⟩
theorem refPut_any {w : World} {la : Option Addr} {ln lc : Nat} {l : List En} (h : ReadsE (· < w.heap.size) w (.slice la ln lc) l) (e : En) (hc : ∀ x ∈ l, x.nm.length ≤ 2097152) (he : e.nm.length ≤ 2097152) (hl : ln ≤ 100000) :
    Calls Try.prog 38 #[.slice la ln lc, enV e] w (IsPut w.heap.size ln (putL l e) w) := by
  obtain ⟨nm0, md0, xg, xi, xr⟩ := e
  have ln1 := h.len.1
  have hn : (ln : Int) ≤ 9223372036854775807 := by omega
  have hcap : (ln : Int) ≤ (lc : Int) := by have := h.len.2.1; omega
  have HE := Lib.hid h
  have HL : Hid (∀ k, k < ln → NF.Says Try.prog 68 #[.string (bs (l.getD k e0).nm), .string (bs nm0)] (.bool (NM.lessB (l.getD k e0).nm nm0))) := Lib.hid (fun k hk => by
    have hm : l.getD k e0 ∈ l := by rw [List.getD_eq_getElem?_getD, List.getElem?_eq_getElem (by omega)]; exact List.getElem_mem _
    have h1 := hc _ hm
    exact NF.refLessS (bs (l.getD k e0).nm) (bs nm0) (by show (NM.bs (l.getD k e0).nm).size ≤ 2097152; rw [NM.bs_size]; exact h1) (by show (NM.bs nm0).size ≤ 2097152; rw [NM.bs_size]; exact he) _ rfl)
  have HPP : Hid (∀ k, k ≤ ln → (∀ j, j < k → NM.lessB (l.getD j e0).nm nm0 = true) → (k = ln ∨ NM.lessB (l.getD k e0).nm nm0 = false) → putL l ⟨nm0, md0, xg, xi, xr⟩ = l.take k ++ ⟨nm0, md0, xg, xi, xr⟩ :: l.drop k) := Lib.hid (fun k hk h1 h2 => putL_at l ⟨nm0, md0, xg, xi, xr⟩ k (by rw [ln1]; exact hk) h1 (by rw [ln1]; exact h2))
  obtain ⟨R, hR⟩ : ∃ R, R = putL l ⟨nm0, md0, xg, xi, xr⟩ := ⟨_, rfl⟩
  have HX := Lib.hid (Whole.new w 92 #[.string (bs nm0), .string (bs md0), .int .i64 xg, .int .i64 xi, .int .i64 xr])
  have HB := Lib.hid (below_new w (.cells #[.string (bs nm0), .string (bs md0), .int .i64 xg, .int .i64 xi, .int .i64 xr] 92))
  clear hR R h hc he
  go_enter Try.func38, Try.ntmps38
  go_upto_region 1 with fail
  generalize w.alloc (.cells #[.string (bs nm0), .string (bs md0), .int .i64 xg, .int .i64 xi, .int .i64 xr] 92) = W at *
  go_wp2_with fail
  go_loopw [5] (fun i wr => ∃ k : Nat, k ≤ ln ∧ i = .int .i64 (k : Int) ∧ Hid (∀ j, j < k → NM.lessB (l.getD j e0).nm nm0 = true) ∧ Below W.heap.size W wr) (fun i _ => ln - (intOf i).toNat)
  case atStart => exact ⟨0, by omega, rfl, Lib.hid (fun j hj => by omega), Below.refl _ _⟩
  case round =>
    obtain ⟨k, hk0, rfl, hp, hbl⟩ := hrel
    have HX1 := Lib.hid (HX.out.belowS hbl)
    have HB1 := Lib.hid (HB.out.trans (hbl.mono HB.out.size))
    have hbd : Below wr.heap.size wr wr.drew := (Below.refl _ _).drew
    by_cases hlt : k < ln
    · have hlt' : (k : Int) < ln := by omega
      have hd : decide ((k : Int) < (ln : Int)) = true := decide_eq_true hlt'
      obtain ⟨g, off, rfl, q1, e1, _⟩ := HE.out.at HB1.out hlt
      have e1d : wr.drew.cell? ⟨g, off + k * 5, none⟩ = some (.string (bs (l.getD k e0).nm)) := e1
      have CL := Lib.hid (HL.out k hlt)
      have KK : wr.drew.cell? ⟨g, off + k * 5, none⟩ = some (.string (bs (l.getD k e0).nm)) ∧ wr.drew.cell? ⟨w.heap.size, 0, none⟩ = some (.string (bs nm0)) := ⟨e1d, (HX1.out.belowS hbd).cell 0⟩
      have hgl : g < wr.heap.size := World.block_lt_of_cell? wr _ e1
      clear e1 e1d
      obtain ⟨y, hy⟩ : ∃ y, y = bs (l.getD k e0).nm := ⟨_, rfl⟩
      obtain ⟨b, hb⟩ : ∃ b, b = NM.lessB (l.getD k e0).nm nm0 := ⟨_, rfl⟩
      rw [← hy, ← hb] at CL
      rw [← hy] at KK
      have Hb := Lib.hid hb
      clear hy hb
      go_upto_region 2 with fail
      refine wp_region_held_drew (S := fun u => u.cell? ⟨g, off + k * 5, none⟩ = some (.string y) ∧ u.cell? ⟨w.heap.size, 0, none⟩ = some (.string (bs nm0))) (by kernel_rfl) KK (fun hHeld => ?_)
      refine wpAnyH_take (i := 0) (v := ?avv0) rfl (by kernel_rfl) (by kernel_rfl) (by kernel_rfl) (fun _ _ _ h => h) (Or.inl ⟨by rfl, ?ahy0⟩) (by assumption) ?arest0
      case ahy0 =>
        intro u hSu
        obtain ⟨s0, s1⟩ := hSu
        go_simp
        try with_reducible rfl
      try simp only [Act.put, List.getElem_toArray, List.getElem_cons_succ, List.getElem_cons_zero, List.setIfInBounds_toArray, List.set_cons_zero, List.set_cons_succ]
      refine wpAnyH_take (i := 1) (v := ?avv1) rfl (by kernel_rfl) (by kernel_rfl) (by kernel_rfl) (fun _ _ _ h => h) (Or.inl ⟨by rfl, ?ahy1⟩) (by assumption) ?arest1
      case ahy1 =>
        intro u hSu
        obtain ⟨s0, s1⟩ := hSu
        go_simp
        try with_reducible rfl
      try simp only [Act.put, List.getElem_toArray, List.getElem_cons_succ, List.getElem_cons_zero, List.setIfInBounds_toArray, List.set_cons_zero, List.set_cons_succ]
      refine wpAnyH_take (i := 2) (v := ?avv2) rfl (by kernel_rfl) (by kernel_rfl) (by kernel_rfl) (fun _ _ _ h => h) (Or.inl ⟨by rfl, ?ahy2⟩) (by assumption) ?arest2
      case ahy2 =>
        intro u hSu
        obtain ⟨s0, s1⟩ := hSu
        go_simp
        try with_reducible rfl
      try simp only [Act.put, List.getElem_toArray, List.getElem_cons_succ, List.getElem_cons_zero, List.setIfInBounds_toArray, List.set_cons_zero, List.set_cons_succ]
      refine wpAnyH_take (i := 3) (v := ?avv3) rfl (by kernel_rfl) (by kernel_rfl) (by kernel_rfl) (fun _ _ _ h => h) (Or.inl ⟨by rfl, ?ahy3⟩) (by assumption) ?arest3
      case ahy3 =>
        intro u hSu
        obtain ⟨s0, s1⟩ := hSu
        go_simp
        try with_reducible rfl
      try simp only [Act.put, List.getElem_toArray, List.getElem_cons_succ, List.getElem_cons_zero, List.setIfInBounds_toArray, List.set_cons_zero, List.set_cons_succ]
      refine wpAnyH_take (i := 4) (v := ?avv4) rfl (by kernel_rfl) (by kernel_rfl) (by kernel_rfl) (fun _ _ _ h => h) (Or.inl ⟨by rfl, ?ahy4⟩) (by assumption) ?arest4
      case ahy4 =>
        intro u hSu
        obtain ⟨s0, s1⟩ := hSu
        go_simp
        try with_reducible rfl
      try simp only [Act.put, List.getElem_toArray, List.getElem_cons_succ, List.getElem_cons_zero, List.setIfInBounds_toArray, List.set_cons_zero, List.set_cons_succ]
      refine wpAnyH_take (i := 5) (v := ?avv5) rfl (by kernel_rfl) (by kernel_rfl) (by kernel_rfl) (fun _ _ _ h => h) (Or.inl ⟨by rfl, ?ahy5⟩) (by assumption) ?arest5
      case ahy5 =>
        intro u hSu
        obtain ⟨s0, s1⟩ := hSu
        go_simp
        try with_reducible rfl
      try simp only [Act.put, List.getElem_toArray, List.getElem_cons_succ, List.getElem_cons_zero, List.setIfInBounds_toArray, List.set_cons_zero, List.set_cons_succ]
      refine wpAnyH_take (i := 6) (v := ?avv6) rfl (by kernel_rfl) (by kernel_rfl) (by kernel_rfl) (fun _ _ _ h => h) (Or.inl ⟨by rfl, ?ahy6⟩) (by assumption) ?arest6
      case ahy6 =>
        intro u hSu
        obtain ⟨s0, s1⟩ := hSu
        go_simp
        try with_reducible rfl
      try simp only [Act.put, List.getElem_toArray, List.getElem_cons_succ, List.getElem_cons_zero, List.setIfInBounds_toArray, List.set_cons_zero, List.set_cons_succ]
      refine wpAnyH_take (i := 7) (v := ?avv7) rfl (by kernel_rfl) (by kernel_rfl) (by kernel_rfl) (fun _ _ _ h => h) (Or.inl ⟨by rfl, ?ahy7⟩) (by assumption) ?arest7
      case ahy7 =>
        intro u hSu
        obtain ⟨s0, s1⟩ := hSu
        go_simp
        try with_reducible rfl
      try simp only [Act.put, List.getElem_toArray, List.getElem_cons_succ, List.getElem_cons_zero, List.setIfInBounds_toArray, List.set_cons_zero, List.set_cons_succ]
      refine wpAnyH_take (i := 8) (v := ?avv8) rfl (by kernel_rfl) (by kernel_rfl) (by kernel_rfl) (fun _ _ _ h => h) (Or.inl ⟨by rfl, ?ahy8⟩) (by assumption) ?arest8
      case ahy8 =>
        intro u hSu
        obtain ⟨s0, s1⟩ := hSu
        go_simp
        try with_reducible rfl
      try simp only [Act.put, List.getElem_toArray, List.getElem_cons_succ, List.getElem_cons_zero, List.setIfInBounds_toArray, List.set_cons_zero, List.set_cons_succ]
      refine wpAnyH_take (i := 9) (v := ?avv9) rfl (by kernel_rfl) (by kernel_rfl) (by kernel_rfl) (fun _ _ _ h => h) (Or.inl ⟨by rfl, ?ahy9⟩) (by assumption) ?arest9
      case ahy9 =>
        intro u hSu
        obtain ⟨s0, s1⟩ := hSu
        go_simp
        try with_reducible rfl
      try simp only [Act.put, List.getElem_toArray, List.getElem_cons_succ, List.getElem_cons_zero, List.setIfInBounds_toArray, List.set_cons_zero, List.set_cons_succ]
      refine wpAnyH_take (i := 10) (v := ?avv10) rfl (by kernel_rfl) (by kernel_rfl) (by kernel_rfl) (fun _ _ _ h => h) (Or.inl ⟨by rfl, ?ahy10⟩) (by assumption) ?arest10
      case ahy10 =>
        intro u hSu
        obtain ⟨s0, s1⟩ := hSu
        go_simp
        try with_reducible rfl
      try simp only [Act.put, List.getElem_toArray, List.getElem_cons_succ, List.getElem_cons_zero, List.setIfInBounds_toArray, List.set_cons_zero, List.set_cons_succ]
      refine wpAnyH_take (i := 11) (v := ?avv11) rfl (by kernel_rfl) (by kernel_rfl) (by kernel_rfl) (fun _ _ _ h => h) (Or.inl ⟨by rfl, ?ahy11⟩) (by assumption) ?arest11
      case ahy11 =>
        intro u hSu
        obtain ⟨s0, s1⟩ := hSu
        go_simp
        try with_reducible rfl
      try simp only [Act.put, List.getElem_toArray, List.getElem_cons_succ, List.getElem_cons_zero, List.setIfInBounds_toArray, List.set_cons_zero, List.set_cons_succ]
      refine wpAnyH_ready (rs := [12]) (by kernel_rfl) (by simp) ?_
      refine AllReadyH.cons rfl (fun K hK => ?_) AllReadyH.nil
      (go_simp; go_at_call 68; (with_reducible refine (CL.out.at _).mono ?_); rintro e w1 ⟨rfl, hb1⟩; have hb2 := hbd.trans (hb1.mono hbd.size); have HX2 := Lib.hid (HX1.out.belowS hb2); have HB2 := Lib.hid (HB1.out.trans (hb2.mono HB1.out.size)); have hbl2 := hbl.trans (hb2.mono hbl.size); have K1 := And.intro ((hb2.cell (p := ⟨g, off + k * 5, none⟩) hgl).trans KK.1) (HX2.out.cell 0); clear hb1)
      refine hK.out _ _ ?ahS12 (fun hHeld => ?arest12)
      case ahS12 => first | exact K1
      clear hK K
      try simp only [Act.put, List.getElem_toArray, List.getElem_cons_succ, List.getElem_cons_zero, List.setIfInBounds_toArray, List.set_cons_zero, List.set_cons_succ]
      refine wpAnyH_take (i := 13) (v := ?avv13) rfl (by kernel_rfl) (by kernel_rfl) (by kernel_rfl) (fun _ _ _ h => h) (Or.inl ⟨by rfl, ?ahy13⟩) (by assumption) ?arest13
      case ahy13 =>
        intro u hSu
        obtain ⟨s0, s1⟩ := hSu
        go_simp
        try with_reducible rfl
      try simp only [Act.put, List.getElem_toArray, List.getElem_cons_succ, List.getElem_cons_zero, List.setIfInBounds_toArray, List.set_cons_zero, List.set_cons_succ]
      refine wpAnyH_done (by kernel_rfl) ?_ _
      cases b
      case true =>
        have hp2 := Lib.hid (fun j (hj : j < k + 1) => if h : j < k then hp.out j h else by rw [show j = k by omega]; exact Hb.out.symm)
        clear hp Hb
        go_wp2_with fail
        go_roundw
        case rel => exact ⟨k + 1, by omega, by go_num, hp2, hbl2⟩
        case measure => simp [intOf]; omega
      case false =>
        have HP := Lib.hid (HPP.out k hk0 hp.out (Or.inr Hb.out.symm))
        clear hp Hb HPP HL CL KK HX1 HB1 HX HB hd
        try clear K1
        have X0 : Whole w1.drew w.heap.size 92 #[.string (bs nm0), .string (bs md0), .int .i64 xg, .int .i64 xi, .int .i64 xr] := HX2.out.belowS (Below.refl _ _).drew
        have B0 : Below w.heap.size w w1.drew := HB2.out.drew
        have S0 : w.heap.size + 1 ≤ w1.drew.heap.size := X0.lt
        obtain ⟨a1, cc1, hr1, ht1⟩ := HE.out.take elemEn sizeEn k (by rw [ln1]; exact hk0)
        obtain ⟨a2, cc2, hr2, ht2⟩ := HE.out.drop elemEn sizeEn k (by rw [ln1]; exact hk0)
        rw [ln1] at hr2 ht2
        have hk : k ≤ ln := hk0
        go_upto_region 5 with fail
        have K0 : (fun u => u.cell? ⟨w.heap.size, 0, none⟩ = some (.string (bs nm0)) ∧ u.cell? ⟨w.heap.size, 1, none⟩ = some (.string (bs md0)) ∧ u.cell? ⟨w.heap.size, 2, none⟩ = some (.int .i64 xg) ∧ u.cell? ⟨w.heap.size, 3, none⟩ = some (.int .i64 xi) ∧ u.cell? ⟨w.heap.size, 4, none⟩ = some (.int .i64 xr)) w1.drew := five_cells X0
        refine wp_region_held_drew (S := (fun u => u.cell? ⟨w.heap.size, 0, none⟩ = some (.string (bs nm0)) ∧ u.cell? ⟨w.heap.size, 1, none⟩ = some (.string (bs md0)) ∧ u.cell? ⟨w.heap.size, 2, none⟩ = some (.int .i64 xg) ∧ u.cell? ⟨w.heap.size, 3, none⟩ = some (.int .i64 xi) ∧ u.cell? ⟨w.heap.size, 4, none⟩ = some (.int .i64 xr))) (by kernel_rfl) K0 (fun hHeld => ?_)
        refine wpAnyH_take (i := 0) (v := ?fvv0) rfl (by kernel_rfl) (by kernel_rfl) (by kernel_rfl) (fun _ _ _ h => h) (Or.inl ⟨by rfl, ?fhy0⟩) (by assumption) ?frest0
        case fhy0 =>
          intro u hSu
          obtain ⟨s0, s1, s2, s3, s4⟩ := hSu
          go_simp
          try with_reducible rfl
        try simp only [Act.put, List.getElem_toArray, List.getElem_cons_succ, List.getElem_cons_zero, List.setIfInBounds_toArray, List.set_cons_zero, List.set_cons_succ]
        refine wpAnyH_take (i := 1) (v := ?fvv1) rfl (by kernel_rfl) (by kernel_rfl) (by kernel_rfl) (fun _ _ _ h => h) (Or.inl ⟨by rfl, ?fhy1⟩) (by assumption) ?frest1
        case fhy1 =>
          intro u hSu
          obtain ⟨s0, s1, s2, s3, s4⟩ := hSu
          go_simp
          try with_reducible rfl
        try simp only [Act.put, List.getElem_toArray, List.getElem_cons_succ, List.getElem_cons_zero, List.setIfInBounds_toArray, List.set_cons_zero, List.set_cons_succ]
        refine wpAnyH_take (i := 2) (v := ?fvv2) rfl (by kernel_rfl) (by kernel_rfl) (by kernel_rfl) (fun _ _ _ h => h) (Or.inl ⟨by rfl, ?fhy2⟩) (by assumption) ?frest2
        case fhy2 =>
          intro u hSu
          obtain ⟨s0, s1, s2, s3, s4⟩ := hSu
          go_simp
          try with_reducible rfl
        try simp only [Act.put, List.getElem_toArray, List.getElem_cons_succ, List.getElem_cons_zero, List.setIfInBounds_toArray, List.set_cons_zero, List.set_cons_succ]
        refine wpAnyH_take (i := 3) (v := ?fvv3) rfl (by kernel_rfl) (by kernel_rfl) (by kernel_rfl) (fun _ _ _ h => h) (Or.inl ⟨by rfl, ?fhy3⟩) (by assumption) ?frest3
        case fhy3 =>
          intro u hSu
          obtain ⟨s0, s1, s2, s3, s4⟩ := hSu
          go_simp
          try with_reducible rfl
        try simp only [Act.put, List.getElem_toArray, List.getElem_cons_succ, List.getElem_cons_zero, List.setIfInBounds_toArray, List.set_cons_zero, List.set_cons_succ]
        refine wpAnyH_take (i := 5) (v := ?fvv5) rfl (by kernel_rfl) (by kernel_rfl) (by kernel_rfl) (fun _ _ _ h => h) (Or.inl ⟨by rfl, ?fhy5⟩) (by assumption) ?frest5
        case fhy5 =>
          intro u hSu
          obtain ⟨s0, s1, s2, s3, s4⟩ := hSu
          go_simp
          try with_reducible rfl
        try simp only [Act.put, List.getElem_toArray, List.getElem_cons_succ, List.getElem_cons_zero, List.setIfInBounds_toArray, List.set_cons_zero, List.set_cons_succ]
        refine wpAnyH_ready (rs := [4, 6]) (by kernel_rfl) (by simp) ?_
        refine AllReadyH.cons rfl ?_ (AllReadyH.cons rfl ?_ AllReadyH.nil)
        · intro K hK
          obtain ⟨v4, u4, hr4, ho4, hg4⟩ := app_ent (ty := 27) (u := w1.drew) (B := w.heap.size + 1) (n := 0) (l := []) S0 (owns_nil _ _ _ _) (ht1.below B0) (by omega)
          have b4 := below_none hg4
          have B4 := B0.trans (b4.mono B0.size)
          have X4 := X0.belowS b4
          have b6 := below_new u4 (.cells #[.string (bs nm0), .string (bs md0), .int .i64 xg, .int .i64 xi, .int .i64 xr] 92)
          have X6 := X4.belowS b6
          have B6 := B4.trans (b6.mono B4.size)
          have S4 := b4.size
          have S6 := b6.size
          rw [Nat.zero_add, List.nil_append] at ho4
          have ho6 := owns_below ho4 b6
          obtain ⟨v7, u7, hr7, ho7, hg7⟩ := app_ent (ty := 27) (B := w.heap.size + 1) (by omega) ho6 (one_ent u4 ⟨nm0, md0, xg, xi, xr⟩ 92) (by omega)
          have X7 := whole_kept X6 hg7 (fun g hg => by have := (owns_lt ho6 hg).1; omega)
          have B7 := below_grown B6 (by omega) ho6 (by omega) hg7
          have S7 : w.heap.size + 1 ≤ u7.heap.size := by have := hg7.size; omega
          have K4 : (fun u => u.cell? ⟨w.heap.size, 0, none⟩ = some (.string (bs nm0)) ∧ u.cell? ⟨w.heap.size, 1, none⟩ = some (.string (bs md0)) ∧ u.cell? ⟨w.heap.size, 2, none⟩ = some (.int .i64 xg) ∧ u.cell? ⟨w.heap.size, 3, none⟩ = some (.int .i64 xi) ∧ u.cell? ⟨w.heap.size, 4, none⟩ = some (.int .i64 xr)) u4 := five_cells X4
          have K6 : (fun u => u.cell? ⟨w.heap.size, 0, none⟩ = some (.string (bs nm0)) ∧ u.cell? ⟨w.heap.size, 1, none⟩ = some (.string (bs md0)) ∧ u.cell? ⟨w.heap.size, 2, none⟩ = some (.int .i64 xg) ∧ u.cell? ⟨w.heap.size, 3, none⟩ = some (.int .i64 xi) ∧ u.cell? ⟨w.heap.size, 4, none⟩ = some (.int .i64 xr)) (u4.alloc (.cells #[.string (bs nm0), .string (bs md0), .int .i64 xg, .int .i64 xi, .int .i64 xr] 92)) := five_cells X6
          have K7 : (fun u => u.cell? ⟨w.heap.size, 0, none⟩ = some (.string (bs nm0)) ∧ u.cell? ⟨w.heap.size, 1, none⟩ = some (.string (bs md0)) ∧ u.cell? ⟨w.heap.size, 2, none⟩ = some (.int .i64 xg) ∧ u.cell? ⟨w.heap.size, 3, none⟩ = some (.int .i64 xi) ∧ u.cell? ⟨w.heap.size, 4, none⟩ = some (.int .i64 xr)) u7 := five_cells X7
          refine Lib.wp_append_run _ _ _ _ _ rfl (.slice none 0 0) (.slice a1 k cc1) rfl rfl _ _ hr4 ?_
          refine hK.out _ _ K4 (fun hHeld => ?_)
          clear hK K
          try simp only [Act.put, List.getElem_toArray, List.getElem_cons_succ, List.getElem_cons_zero, List.setIfInBounds_toArray, List.set_cons_zero, List.set_cons_succ]
          refine wpAnyH_ready (rs := [6]) (by kernel_rfl) (by simp) ?_
          refine AllReadyH.cons rfl (fun K hK => ?_) AllReadyH.nil
          go_simp
          refine hK.out _ _ K6 (fun hHeld => ?_)
          clear hK K
          try simp only [Act.put, List.getElem_toArray, List.getElem_cons_succ, List.getElem_cons_zero, List.setIfInBounds_toArray, List.set_cons_zero, List.set_cons_succ]
          refine wpAnyH_ready (rs := [7]) (by kernel_rfl) (by simp) ?_
          refine AllReadyH.cons rfl (fun K hK => ?_) AllReadyH.nil
          refine Lib.wp_append_run _ _ _ _ _ rfl v4 (.slice (some ⟨u4.heap.size, 0, none⟩) 1 1) rfl rfl _ _ hr7 ?_
          refine hK.out _ _ K7 (fun hHeld => ?_)
          clear hK K
          try simp only [Act.put, List.getElem_toArray, List.getElem_cons_succ, List.getElem_cons_zero, List.setIfInBounds_toArray, List.set_cons_zero, List.set_cons_succ]
          refine wpAnyH_take (i := 8) (v := ?favv8) rfl (by kernel_rfl) (by kernel_rfl) (by kernel_rfl) (fun _ _ _ h => h) (Or.inl ⟨by rfl, ?fahy8⟩) (by assumption) ?farest8
          case fahy8 =>
            intro u hSu
            obtain ⟨s0, s1, s2, s3, s4⟩ := hSu
            go_simp
            try with_reducible rfl
          try simp only [Act.put, List.getElem_toArray, List.getElem_cons_succ, List.getElem_cons_zero, List.setIfInBounds_toArray, List.set_cons_zero, List.set_cons_succ]
          refine wpAnyH_done (by kernel_rfl) ?_ _
          clear K0 K4 K6 K7 hHeld
          obtain ⟨v9, u9, hr9, ho9, hg9⟩ := app_ent (ty := 27) (B := w.heap.size + 1) S7 ho7 (ht2.below B7) (by omega)
          have B9 := below_grown B7 (by omega) ho7 (by omega) hg9
          obtain ⟨a9, c9', rfl, _⟩ := owns_le ho9
          clear hr1 hr4 hr7
          go_wp2_with (at_builtin; refine Lib.wpList_append_run _ rfl _ _ _ _ rfl _ _ rfl rfl _ _ hr9 ?_)
          go_ret
          exact put_post HP.out (by omega) ln1 ho9 B9
        · intro K hK
          have b6 := below_new w1.drew (.cells #[.string (bs nm0), .string (bs md0), .int .i64 xg, .int .i64 xi, .int .i64 xr] 92)
          have X6 := X0.belowS b6
          have B6 := B0.trans (b6.mono B0.size)
          have S6 := b6.size
          obtain ⟨v4, u4, hr4, ho4, hg4⟩ := app_ent (ty := 27) (u := w1.drew.alloc (.cells #[.string (bs nm0), .string (bs md0), .int .i64 xg, .int .i64 xi, .int .i64 xr] 92)) (B := w.heap.size + 1) (n := 0) (l := []) (by omega) (owns_nil _ _ _ _) (ht1.below B6) (by omega)
          have b4 := below_none hg4
          have B4 := B6.trans (b4.mono B6.size)
          have X4 := X6.belowS b4
          have S4 := b4.size
          rw [Nat.zero_add, List.nil_append] at ho4
          have one4 := (one_ent w1.drew ⟨nm0, md0, xg, xi, xr⟩ 92).keep (w' := u4) (fun g hg hlt => b4.block g hlt)
          obtain ⟨v7, u7, hr7, ho7, hg7⟩ := app_ent (ty := 27) (B := w.heap.size + 1) (by omega) ho4 one4 (by omega)
          have X7 := whole_kept X4 hg7 (fun g hg => by have := (owns_lt ho4 hg).1; omega)
          have B7 := below_grown B4 (by omega) ho4 (by omega) hg7
          have S7 : w.heap.size + 1 ≤ u7.heap.size := by have := hg7.size; omega
          have K4 : (fun u => u.cell? ⟨w.heap.size, 0, none⟩ = some (.string (bs nm0)) ∧ u.cell? ⟨w.heap.size, 1, none⟩ = some (.string (bs md0)) ∧ u.cell? ⟨w.heap.size, 2, none⟩ = some (.int .i64 xg) ∧ u.cell? ⟨w.heap.size, 3, none⟩ = some (.int .i64 xi) ∧ u.cell? ⟨w.heap.size, 4, none⟩ = some (.int .i64 xr)) u4 := five_cells X4
          have K6 : (fun u => u.cell? ⟨w.heap.size, 0, none⟩ = some (.string (bs nm0)) ∧ u.cell? ⟨w.heap.size, 1, none⟩ = some (.string (bs md0)) ∧ u.cell? ⟨w.heap.size, 2, none⟩ = some (.int .i64 xg) ∧ u.cell? ⟨w.heap.size, 3, none⟩ = some (.int .i64 xi) ∧ u.cell? ⟨w.heap.size, 4, none⟩ = some (.int .i64 xr)) (w1.drew.alloc (.cells #[.string (bs nm0), .string (bs md0), .int .i64 xg, .int .i64 xi, .int .i64 xr] 92)) := five_cells X6
          have K7 : (fun u => u.cell? ⟨w.heap.size, 0, none⟩ = some (.string (bs nm0)) ∧ u.cell? ⟨w.heap.size, 1, none⟩ = some (.string (bs md0)) ∧ u.cell? ⟨w.heap.size, 2, none⟩ = some (.int .i64 xg) ∧ u.cell? ⟨w.heap.size, 3, none⟩ = some (.int .i64 xi) ∧ u.cell? ⟨w.heap.size, 4, none⟩ = some (.int .i64 xr)) u7 := five_cells X7
          go_simp
          refine hK.out _ _ K6 (fun hHeld => ?_)
          clear hK K
          try simp only [Act.put, List.getElem_toArray, List.getElem_cons_succ, List.getElem_cons_zero, List.setIfInBounds_toArray, List.set_cons_zero, List.set_cons_succ]
          refine wpAnyH_ready (rs := [4]) (by kernel_rfl) (by simp) ?_
          refine AllReadyH.cons rfl (fun K hK => ?_) AllReadyH.nil
          refine Lib.wp_append_run _ _ _ _ _ rfl (.slice none 0 0) (.slice a1 k cc1) rfl rfl _ _ hr4 ?_
          refine hK.out _ _ K4 (fun hHeld => ?_)
          clear hK K
          try simp only [Act.put, List.getElem_toArray, List.getElem_cons_succ, List.getElem_cons_zero, List.setIfInBounds_toArray, List.set_cons_zero, List.set_cons_succ]
          refine wpAnyH_ready (rs := [7]) (by kernel_rfl) (by simp) ?_
          refine AllReadyH.cons rfl (fun K hK => ?_) AllReadyH.nil
          refine Lib.wp_append_run _ _ _ _ _ rfl v4 (.slice (some ⟨w1.drew.heap.size, 0, none⟩) 1 1) rfl rfl _ _ hr7 ?_
          refine hK.out _ _ K7 (fun hHeld => ?_)
          clear hK K
          try simp only [Act.put, List.getElem_toArray, List.getElem_cons_succ, List.getElem_cons_zero, List.setIfInBounds_toArray, List.set_cons_zero, List.set_cons_succ]
          refine wpAnyH_take (i := 8) (v := ?fbvv8) rfl (by kernel_rfl) (by kernel_rfl) (by kernel_rfl) (fun _ _ _ h => h) (Or.inl ⟨by rfl, ?fbhy8⟩) (by assumption) ?fbrest8
          case fbhy8 =>
            intro u hSu
            obtain ⟨s0, s1, s2, s3, s4⟩ := hSu
            go_simp
            try with_reducible rfl
          try simp only [Act.put, List.getElem_toArray, List.getElem_cons_succ, List.getElem_cons_zero, List.setIfInBounds_toArray, List.set_cons_zero, List.set_cons_succ]
          refine wpAnyH_done (by kernel_rfl) ?_ _
          clear K0 K4 K6 K7 hHeld
          obtain ⟨v9, u9, hr9, ho9, hg9⟩ := app_ent (ty := 27) (B := w.heap.size + 1) S7 ho7 (ht2.below B7) (by omega)
          have B9 := below_grown B7 (by omega) ho7 (by omega) hg9
          obtain ⟨a9, c9', rfl, _⟩ := owns_le ho9
          clear hr1 hr4 hr7
          go_wp2_with (at_builtin; refine Lib.wpList_append_run _ rfl _ _ _ _ rfl _ _ rfl rfl _ _ hr9 ?_)
          go_ret
          exact put_post HP.out (by omega) ln1 ho9 B9
    · obtain rfl : k = ln := by omega
      have hd : decide ((k : Int) < (k : Int)) = false := by simp
      have HP := Lib.hid (HPP.out k hk0 hp.out (Or.inl rfl))
      have HX2 := Lib.hid (HX1.out.belowS hbd)
      have HB2 := Lib.hid (HB1.out.trans (hbd.mono HB1.out.size))
      have KK : wr.drew.cell? ⟨w.heap.size, 0, none⟩ = some (.string (bs nm0)) := HX2.out.cell 0
      clear hp HPP HL HX1 HB1 HX HB
      go_upto_region 2 with fail
      refine wp_region_held_drew (S := fun u => u.cell? ⟨w.heap.size, 0, none⟩ = some (.string (bs nm0))) (by kernel_rfl) KK (fun hHeld => ?_)
      refine wpAnyH_take (i := 0) (v := ?evv0) rfl (by kernel_rfl) (by kernel_rfl) (by kernel_rfl) (fun _ _ _ h => h) (Or.inl ⟨by rfl, ?ehy0⟩) (by assumption) ?erest0
      case ehy0 =>
        intro u hSu
        skip
        go_simp
        try with_reducible rfl
      try simp only [Act.put, List.getElem_toArray, List.getElem_cons_succ, List.getElem_cons_zero, List.setIfInBounds_toArray, List.set_cons_zero, List.set_cons_succ]
      refine wpAnyH_take (i := 1) (v := ?evv1) rfl (by kernel_rfl) (by kernel_rfl) (by kernel_rfl) (fun _ _ _ h => h) (Or.inl ⟨by rfl, ?ehy1⟩) (by assumption) ?erest1
      case ehy1 =>
        intro u hSu
        skip
        go_simp
        try with_reducible rfl
      try simp only [Act.put, List.getElem_toArray, List.getElem_cons_succ, List.getElem_cons_zero, List.setIfInBounds_toArray, List.set_cons_zero, List.set_cons_succ]
      refine wpAnyH_take (i := 2) (v := ?evv2) rfl (by kernel_rfl) (by kernel_rfl) (by kernel_rfl) (fun _ _ _ h => h) (Or.inl ⟨by rfl, ?ehy2⟩) (by assumption) ?erest2
      case ehy2 =>
        intro u hSu
        skip
        go_simp
        try with_reducible rfl
      try simp only [Act.put, List.getElem_toArray, List.getElem_cons_succ, List.getElem_cons_zero, List.setIfInBounds_toArray, List.set_cons_zero, List.set_cons_succ]
      refine wpAnyH_take (i := 3) (v := ?evv3) rfl (by kernel_rfl) (by kernel_rfl) (by kernel_rfl) (fun _ _ _ h => h) (Or.inl ⟨by rfl, ?ehy3⟩) (by assumption) ?erest3
      case ehy3 =>
        intro u hSu
        skip
        go_simp
        try with_reducible rfl
      try simp only [Act.put, List.getElem_toArray, List.getElem_cons_succ, List.getElem_cons_zero, List.setIfInBounds_toArray, List.set_cons_zero, List.set_cons_succ]
      refine wpAnyH_take (i := 4) (v := ?evv4) rfl (by kernel_rfl) (by kernel_rfl) (by kernel_rfl) (fun _ _ _ h => h) (Or.inl ⟨by rfl, ?ehy4⟩) (by assumption) ?erest4
      case ehy4 =>
        intro u hSu
        skip
        go_simp
        try with_reducible rfl
      try simp only [Act.put, List.getElem_toArray, List.getElem_cons_succ, List.getElem_cons_zero, List.setIfInBounds_toArray, List.set_cons_zero, List.set_cons_succ]
      refine wpAnyH_take (i := 5) (v := undef) rfl (by kernel_rfl) (by kernel_rfl) (by kernel_rfl) (fun _ _ _ h => h) (Or.inr ⟨by rfl, rfl⟩) (by assumption) ?erest5
      try simp only [Act.put, List.getElem_toArray, List.getElem_cons_succ, List.getElem_cons_zero, List.setIfInBounds_toArray, List.set_cons_zero, List.set_cons_succ]
      refine wpAnyH_take (i := 6) (v := undef) rfl (by kernel_rfl) (by kernel_rfl) (by kernel_rfl) (fun _ _ _ h => h) (Or.inr ⟨by rfl, rfl⟩) (by assumption) ?erest6
      try simp only [Act.put, List.getElem_toArray, List.getElem_cons_succ, List.getElem_cons_zero, List.setIfInBounds_toArray, List.set_cons_zero, List.set_cons_succ]
      refine wpAnyH_take (i := 7) (v := undef) rfl (by kernel_rfl) (by kernel_rfl) (by kernel_rfl) (fun _ _ _ h => h) (Or.inr ⟨by rfl, rfl⟩) (by assumption) ?erest7
      try simp only [Act.put, List.getElem_toArray, List.getElem_cons_succ, List.getElem_cons_zero, List.setIfInBounds_toArray, List.set_cons_zero, List.set_cons_succ]
      refine wpAnyH_take (i := 8) (v := undef) rfl (by kernel_rfl) (by kernel_rfl) (by kernel_rfl) (fun _ _ _ h => h) (Or.inr ⟨by rfl, rfl⟩) (by assumption) ?erest8
      try simp only [Act.put, List.getElem_toArray, List.getElem_cons_succ, List.getElem_cons_zero, List.setIfInBounds_toArray, List.set_cons_zero, List.set_cons_succ]
      refine wpAnyH_take (i := 9) (v := undef) rfl (by kernel_rfl) (by kernel_rfl) (by kernel_rfl) (fun _ _ _ h => h) (Or.inr ⟨by rfl, rfl⟩) (by assumption) ?erest9
      try simp only [Act.put, List.getElem_toArray, List.getElem_cons_succ, List.getElem_cons_zero, List.setIfInBounds_toArray, List.set_cons_zero, List.set_cons_succ]
      refine wpAnyH_take (i := 10) (v := undef) rfl (by kernel_rfl) (by kernel_rfl) (by kernel_rfl) (fun _ _ _ h => h) (Or.inr ⟨by rfl, rfl⟩) (by assumption) ?erest10
      try simp only [Act.put, List.getElem_toArray, List.getElem_cons_succ, List.getElem_cons_zero, List.setIfInBounds_toArray, List.set_cons_zero, List.set_cons_succ]
      refine wpAnyH_take (i := 11) (v := undef) rfl (by kernel_rfl) (by kernel_rfl) (by kernel_rfl) (fun _ _ _ h => h) (Or.inr ⟨by rfl, rfl⟩) (by assumption) ?erest11
      try simp only [Act.put, List.getElem_toArray, List.getElem_cons_succ, List.getElem_cons_zero, List.setIfInBounds_toArray, List.set_cons_zero, List.set_cons_succ]
      refine wpAnyH_take (i := 12) (v := undef) rfl (by kernel_rfl) (by kernel_rfl) (by kernel_rfl) (fun _ _ _ h => h) (Or.inr ⟨by rfl, rfl⟩) (by assumption) ?erest12
      try simp only [Act.put, List.getElem_toArray, List.getElem_cons_succ, List.getElem_cons_zero, List.setIfInBounds_toArray, List.set_cons_zero, List.set_cons_succ]
      refine wpAnyH_take (i := 13) (v := ?evv13) rfl (by kernel_rfl) (by kernel_rfl) (by kernel_rfl) (fun _ _ _ h => h) (Or.inl ⟨by rfl, ?ehy13⟩) (by assumption) ?erest13
      case ehy13 =>
        intro u hSu
        skip
        go_simp
        try with_reducible rfl
      try simp only [Act.put, List.getElem_toArray, List.getElem_cons_succ, List.getElem_cons_zero, List.setIfInBounds_toArray, List.set_cons_zero, List.set_cons_succ]
      refine wpAnyH_done (by kernel_rfl) ?_ _
      clear KK hd
      have X0 : Whole wr.drew.drew w.heap.size 92 #[.string (bs nm0), .string (bs md0), .int .i64 xg, .int .i64 xi, .int .i64 xr] := HX2.out.belowS (Below.refl _ _).drew
      have B0 : Below w.heap.size w wr.drew.drew := HB2.out.drew
      have S0 : w.heap.size + 1 ≤ wr.drew.drew.heap.size := X0.lt
      obtain ⟨a1, cc1, hr1, ht1⟩ := HE.out.take elemEn sizeEn k (by rw [ln1]; exact hk0)
      obtain ⟨a2, cc2, hr2, ht2⟩ := HE.out.drop elemEn sizeEn k (by rw [ln1]; exact hk0)
      rw [ln1, Nat.sub_self] at hr2 ht2
      have hk : k ≤ k := hk0
      go_upto_region 5 with fail
      have K0 : (fun u => u.cell? ⟨w.heap.size, 0, none⟩ = some (.string (bs nm0)) ∧ u.cell? ⟨w.heap.size, 1, none⟩ = some (.string (bs md0)) ∧ u.cell? ⟨w.heap.size, 2, none⟩ = some (.int .i64 xg) ∧ u.cell? ⟨w.heap.size, 3, none⟩ = some (.int .i64 xi) ∧ u.cell? ⟨w.heap.size, 4, none⟩ = some (.int .i64 xr)) wr.drew.drew := five_cells X0
      refine wp_region_held_drew (S := (fun u => u.cell? ⟨w.heap.size, 0, none⟩ = some (.string (bs nm0)) ∧ u.cell? ⟨w.heap.size, 1, none⟩ = some (.string (bs md0)) ∧ u.cell? ⟨w.heap.size, 2, none⟩ = some (.int .i64 xg) ∧ u.cell? ⟨w.heap.size, 3, none⟩ = some (.int .i64 xi) ∧ u.cell? ⟨w.heap.size, 4, none⟩ = some (.int .i64 xr))) (by kernel_rfl) K0 (fun hHeld => ?_)
      refine wpAnyH_take (i := 0) (v := ?hvv0) rfl (by kernel_rfl) (by kernel_rfl) (by kernel_rfl) (fun _ _ _ h => h) (Or.inl ⟨by rfl, ?hhy0⟩) (by assumption) ?hrest0
      case hhy0 =>
        intro u hSu
        obtain ⟨s0, s1, s2, s3, s4⟩ := hSu
        go_simp
        try with_reducible rfl
      try simp only [Act.put, List.getElem_toArray, List.getElem_cons_succ, List.getElem_cons_zero, List.setIfInBounds_toArray, List.set_cons_zero, List.set_cons_succ]
      refine wpAnyH_take (i := 1) (v := ?hvv1) rfl (by kernel_rfl) (by kernel_rfl) (by kernel_rfl) (fun _ _ _ h => h) (Or.inl ⟨by rfl, ?hhy1⟩) (by assumption) ?hrest1
      case hhy1 =>
        intro u hSu
        obtain ⟨s0, s1, s2, s3, s4⟩ := hSu
        go_simp
        try with_reducible rfl
      try simp only [Act.put, List.getElem_toArray, List.getElem_cons_succ, List.getElem_cons_zero, List.setIfInBounds_toArray, List.set_cons_zero, List.set_cons_succ]
      refine wpAnyH_take (i := 2) (v := ?hvv2) rfl (by kernel_rfl) (by kernel_rfl) (by kernel_rfl) (fun _ _ _ h => h) (Or.inl ⟨by rfl, ?hhy2⟩) (by assumption) ?hrest2
      case hhy2 =>
        intro u hSu
        obtain ⟨s0, s1, s2, s3, s4⟩ := hSu
        go_simp
        try with_reducible rfl
      try simp only [Act.put, List.getElem_toArray, List.getElem_cons_succ, List.getElem_cons_zero, List.setIfInBounds_toArray, List.set_cons_zero, List.set_cons_succ]
      refine wpAnyH_take (i := 3) (v := ?hvv3) rfl (by kernel_rfl) (by kernel_rfl) (by kernel_rfl) (fun _ _ _ h => h) (Or.inl ⟨by rfl, ?hhy3⟩) (by assumption) ?hrest3
      case hhy3 =>
        intro u hSu
        obtain ⟨s0, s1, s2, s3, s4⟩ := hSu
        go_simp
        try with_reducible rfl
      try simp only [Act.put, List.getElem_toArray, List.getElem_cons_succ, List.getElem_cons_zero, List.setIfInBounds_toArray, List.set_cons_zero, List.set_cons_succ]
      refine wpAnyH_take (i := 5) (v := ?hvv5) rfl (by kernel_rfl) (by kernel_rfl) (by kernel_rfl) (fun _ _ _ h => h) (Or.inl ⟨by rfl, ?hhy5⟩) (by assumption) ?hrest5
      case hhy5 =>
        intro u hSu
        obtain ⟨s0, s1, s2, s3, s4⟩ := hSu
        go_simp
        try with_reducible rfl
      try simp only [Act.put, List.getElem_toArray, List.getElem_cons_succ, List.getElem_cons_zero, List.setIfInBounds_toArray, List.set_cons_zero, List.set_cons_succ]
      refine wpAnyH_ready (rs := [4, 6]) (by kernel_rfl) (by simp) ?_
      refine AllReadyH.cons rfl ?_ (AllReadyH.cons rfl ?_ AllReadyH.nil)
      · intro K hK
        obtain ⟨v4, u4, hr4, ho4, hg4⟩ := app_ent (ty := 27) (u := wr.drew.drew) (B := w.heap.size + 1) (n := 0) (l := []) S0 (owns_nil _ _ _ _) (ht1.below B0) (by omega)
        have b4 := below_none hg4
        have B4 := B0.trans (b4.mono B0.size)
        have X4 := X0.belowS b4
        have b6 := below_new u4 (.cells #[.string (bs nm0), .string (bs md0), .int .i64 xg, .int .i64 xi, .int .i64 xr] 92)
        have X6 := X4.belowS b6
        have B6 := B4.trans (b6.mono B4.size)
        have S4 := b4.size
        have S6 := b6.size
        rw [Nat.zero_add, List.nil_append] at ho4
        have ho6 := owns_below ho4 b6
        obtain ⟨v7, u7, hr7, ho7, hg7⟩ := app_ent (ty := 27) (B := w.heap.size + 1) (by omega) ho6 (one_ent u4 ⟨nm0, md0, xg, xi, xr⟩ 92) (by omega)
        have X7 := whole_kept X6 hg7 (fun g hg => by have := (owns_lt ho6 hg).1; omega)
        have B7 := below_grown B6 (by omega) ho6 (by omega) hg7
        have S7 : w.heap.size + 1 ≤ u7.heap.size := by have := hg7.size; omega
        have K4 : (fun u => u.cell? ⟨w.heap.size, 0, none⟩ = some (.string (bs nm0)) ∧ u.cell? ⟨w.heap.size, 1, none⟩ = some (.string (bs md0)) ∧ u.cell? ⟨w.heap.size, 2, none⟩ = some (.int .i64 xg) ∧ u.cell? ⟨w.heap.size, 3, none⟩ = some (.int .i64 xi) ∧ u.cell? ⟨w.heap.size, 4, none⟩ = some (.int .i64 xr)) u4 := five_cells X4
        have K6 : (fun u => u.cell? ⟨w.heap.size, 0, none⟩ = some (.string (bs nm0)) ∧ u.cell? ⟨w.heap.size, 1, none⟩ = some (.string (bs md0)) ∧ u.cell? ⟨w.heap.size, 2, none⟩ = some (.int .i64 xg) ∧ u.cell? ⟨w.heap.size, 3, none⟩ = some (.int .i64 xi) ∧ u.cell? ⟨w.heap.size, 4, none⟩ = some (.int .i64 xr)) (u4.alloc (.cells #[.string (bs nm0), .string (bs md0), .int .i64 xg, .int .i64 xi, .int .i64 xr] 92)) := five_cells X6
        have K7 : (fun u => u.cell? ⟨w.heap.size, 0, none⟩ = some (.string (bs nm0)) ∧ u.cell? ⟨w.heap.size, 1, none⟩ = some (.string (bs md0)) ∧ u.cell? ⟨w.heap.size, 2, none⟩ = some (.int .i64 xg) ∧ u.cell? ⟨w.heap.size, 3, none⟩ = some (.int .i64 xi) ∧ u.cell? ⟨w.heap.size, 4, none⟩ = some (.int .i64 xr)) u7 := five_cells X7
        refine Lib.wp_append_run _ _ _ _ _ rfl (.slice none 0 0) (.slice a1 k cc1) rfl rfl _ _ hr4 ?_
        refine hK.out _ _ K4 (fun hHeld => ?_)
        clear hK K
        try simp only [Act.put, List.getElem_toArray, List.getElem_cons_succ, List.getElem_cons_zero, List.setIfInBounds_toArray, List.set_cons_zero, List.set_cons_succ]
        refine wpAnyH_ready (rs := [6]) (by kernel_rfl) (by simp) ?_
        refine AllReadyH.cons rfl (fun K hK => ?_) AllReadyH.nil
        go_simp
        refine hK.out _ _ K6 (fun hHeld => ?_)
        clear hK K
        try simp only [Act.put, List.getElem_toArray, List.getElem_cons_succ, List.getElem_cons_zero, List.setIfInBounds_toArray, List.set_cons_zero, List.set_cons_succ]
        refine wpAnyH_ready (rs := [7]) (by kernel_rfl) (by simp) ?_
        refine AllReadyH.cons rfl (fun K hK => ?_) AllReadyH.nil
        refine Lib.wp_append_run _ _ _ _ _ rfl v4 (.slice (some ⟨u4.heap.size, 0, none⟩) 1 1) rfl rfl _ _ hr7 ?_
        refine hK.out _ _ K7 (fun hHeld => ?_)
        clear hK K
        try simp only [Act.put, List.getElem_toArray, List.getElem_cons_succ, List.getElem_cons_zero, List.setIfInBounds_toArray, List.set_cons_zero, List.set_cons_succ]
        refine wpAnyH_take (i := 8) (v := ?havv8) rfl (by kernel_rfl) (by kernel_rfl) (by kernel_rfl) (fun _ _ _ h => h) (Or.inl ⟨by rfl, ?hahy8⟩) (by assumption) ?harest8
        case hahy8 =>
          intro u hSu
          obtain ⟨s0, s1, s2, s3, s4⟩ := hSu
          go_simp
          try with_reducible rfl
        try simp only [Act.put, List.getElem_toArray, List.getElem_cons_succ, List.getElem_cons_zero, List.setIfInBounds_toArray, List.set_cons_zero, List.set_cons_succ]
        refine wpAnyH_done (by kernel_rfl) ?_ _
        clear K0 K4 K6 K7 hHeld
        obtain ⟨v9, u9, hr9, ho9, hg9⟩ := app_ent (ty := 27) (B := w.heap.size + 1) S7 ho7 (ht2.below B7) (by omega)
        have B9 := below_grown B7 (by omega) ho7 (by omega) hg9
        obtain ⟨a9, c9', rfl, _⟩ := owns_le ho9
        clear hr1 hr4 hr7
        go_wp2_with (at_builtin; refine Lib.wpList_append_run _ rfl _ _ _ _ rfl _ _ rfl rfl _ _ hr9 ?_)
        go_ret
        exact put_post HP.out (by omega) ln1 ho9 B9
      · intro K hK
        have b6 := below_new wr.drew.drew (.cells #[.string (bs nm0), .string (bs md0), .int .i64 xg, .int .i64 xi, .int .i64 xr] 92)
        have X6 := X0.belowS b6
        have B6 := B0.trans (b6.mono B0.size)
        have S6 := b6.size
        obtain ⟨v4, u4, hr4, ho4, hg4⟩ := app_ent (ty := 27) (u := wr.drew.drew.alloc (.cells #[.string (bs nm0), .string (bs md0), .int .i64 xg, .int .i64 xi, .int .i64 xr] 92)) (B := w.heap.size + 1) (n := 0) (l := []) (by omega) (owns_nil _ _ _ _) (ht1.below B6) (by omega)
        have b4 := below_none hg4
        have B4 := B6.trans (b4.mono B6.size)
        have X4 := X6.belowS b4
        have S4 := b4.size
        rw [Nat.zero_add, List.nil_append] at ho4
        have one4 := (one_ent wr.drew.drew ⟨nm0, md0, xg, xi, xr⟩ 92).keep (w' := u4) (fun g hg hlt => b4.block g hlt)
        obtain ⟨v7, u7, hr7, ho7, hg7⟩ := app_ent (ty := 27) (B := w.heap.size + 1) (by omega) ho4 one4 (by omega)
        have X7 := whole_kept X4 hg7 (fun g hg => by have := (owns_lt ho4 hg).1; omega)
        have B7 := below_grown B4 (by omega) ho4 (by omega) hg7
        have S7 : w.heap.size + 1 ≤ u7.heap.size := by have := hg7.size; omega
        have K4 : (fun u => u.cell? ⟨w.heap.size, 0, none⟩ = some (.string (bs nm0)) ∧ u.cell? ⟨w.heap.size, 1, none⟩ = some (.string (bs md0)) ∧ u.cell? ⟨w.heap.size, 2, none⟩ = some (.int .i64 xg) ∧ u.cell? ⟨w.heap.size, 3, none⟩ = some (.int .i64 xi) ∧ u.cell? ⟨w.heap.size, 4, none⟩ = some (.int .i64 xr)) u4 := five_cells X4
        have K6 : (fun u => u.cell? ⟨w.heap.size, 0, none⟩ = some (.string (bs nm0)) ∧ u.cell? ⟨w.heap.size, 1, none⟩ = some (.string (bs md0)) ∧ u.cell? ⟨w.heap.size, 2, none⟩ = some (.int .i64 xg) ∧ u.cell? ⟨w.heap.size, 3, none⟩ = some (.int .i64 xi) ∧ u.cell? ⟨w.heap.size, 4, none⟩ = some (.int .i64 xr)) (wr.drew.drew.alloc (.cells #[.string (bs nm0), .string (bs md0), .int .i64 xg, .int .i64 xi, .int .i64 xr] 92)) := five_cells X6
        have K7 : (fun u => u.cell? ⟨w.heap.size, 0, none⟩ = some (.string (bs nm0)) ∧ u.cell? ⟨w.heap.size, 1, none⟩ = some (.string (bs md0)) ∧ u.cell? ⟨w.heap.size, 2, none⟩ = some (.int .i64 xg) ∧ u.cell? ⟨w.heap.size, 3, none⟩ = some (.int .i64 xi) ∧ u.cell? ⟨w.heap.size, 4, none⟩ = some (.int .i64 xr)) u7 := five_cells X7
        go_simp
        refine hK.out _ _ K6 (fun hHeld => ?_)
        clear hK K
        try simp only [Act.put, List.getElem_toArray, List.getElem_cons_succ, List.getElem_cons_zero, List.setIfInBounds_toArray, List.set_cons_zero, List.set_cons_succ]
        refine wpAnyH_ready (rs := [4]) (by kernel_rfl) (by simp) ?_
        refine AllReadyH.cons rfl (fun K hK => ?_) AllReadyH.nil
        refine Lib.wp_append_run _ _ _ _ _ rfl (.slice none 0 0) (.slice a1 k cc1) rfl rfl _ _ hr4 ?_
        refine hK.out _ _ K4 (fun hHeld => ?_)
        clear hK K
        try simp only [Act.put, List.getElem_toArray, List.getElem_cons_succ, List.getElem_cons_zero, List.setIfInBounds_toArray, List.set_cons_zero, List.set_cons_succ]
        refine wpAnyH_ready (rs := [7]) (by kernel_rfl) (by simp) ?_
        refine AllReadyH.cons rfl (fun K hK => ?_) AllReadyH.nil
        refine Lib.wp_append_run _ _ _ _ _ rfl v4 (.slice (some ⟨wr.drew.drew.heap.size, 0, none⟩) 1 1) rfl rfl _ _ hr7 ?_
        refine hK.out _ _ K7 (fun hHeld => ?_)
        clear hK K
        try simp only [Act.put, List.getElem_toArray, List.getElem_cons_succ, List.getElem_cons_zero, List.setIfInBounds_toArray, List.set_cons_zero, List.set_cons_succ]
        refine wpAnyH_take (i := 8) (v := ?hbvv8) rfl (by kernel_rfl) (by kernel_rfl) (by kernel_rfl) (fun _ _ _ h => h) (Or.inl ⟨by rfl, ?hbhy8⟩) (by assumption) ?hbrest8
        case hbhy8 =>
          intro u hSu
          obtain ⟨s0, s1, s2, s3, s4⟩ := hSu
          go_simp
          try with_reducible rfl
        try simp only [Act.put, List.getElem_toArray, List.getElem_cons_succ, List.getElem_cons_zero, List.setIfInBounds_toArray, List.set_cons_zero, List.set_cons_succ]
        refine wpAnyH_done (by kernel_rfl) ?_ _
        clear K0 K4 K6 K7 hHeld
        obtain ⟨v9, u9, hr9, ho9, hg9⟩ := app_ent (ty := 27) (B := w.heap.size + 1) S7 ho7 (ht2.below B7) (by omega)
        have B9 := below_grown B7 (by omega) ho7 (by omega) hg9
        obtain ⟨a9, c9', rfl, _⟩ := owns_le ho9
        clear hr1 hr4 hr7
        go_wp2_with (at_builtin; refine Lib.wpList_append_run _ rfl _ _ _ _ rfl _ _ rfl rfl _ _ hr9 ?_)
        go_ret
        exact put_post HP.out (by omega) ln1 ho9 B9
end Go.Proofs.Ytajidaicojekdaa.SF
