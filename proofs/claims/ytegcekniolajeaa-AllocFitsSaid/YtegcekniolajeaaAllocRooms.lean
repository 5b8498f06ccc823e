/-
  The tree over the runs of a row, as it is made. Nothing here is a statement of the seed.
-/
import Derived.Test.YtegcekniolajeaaAllocUse2
import Derived.Test.YtegcekniolajeaaAllocEach
import Derived.Laws.CopyOwn
import Derived.Deep.RegionLaw
import Derived.Deep.RegionHeld3
set_option linter.unusedSimpArgs false
set_option linter.unusedVariables false
namespace Go.Proofs.Ytegcekniolajeaa.AF
open Go.RowKit Go.Shelf AL NR

attribute [local go_sem] Oper.semAt_some

theorem infoI : (Try.prog.info? 3).map (fun i => (i.zero, i.size, i.bytes)) = some (some (.int .i64 0), 1, 8) := by kernel_rfl
theorem one_at (w : World) (v : Value) (t : TypeId) : ∀ j u, [v][j]? = some u → (w.alloc (.cells #[v] t)).cell? ((⟨w.heap.size, 0, none⟩ : Addr).add j) = some u := by
  intro j u hj
  match j, hj with
  | 0, hj =>
    simp at hj
    subst hj
    simp [Addr.add]
def ways (l : List Pr) : List Value := n64s (l.map (·.2))
theorem ways_snoc (a : List Pr) (x : Pr) : ways a ++ [.int .i64 (x.2 : Int)] = ways (a ++ [x]) := by simp [ways, n64s]
theorem ways_R (l : List Bool) : ways (R l) = n64s (lens l) := rfl
theorem tr_made {w1 : World} {B g m : Nat} (h : w1.ownsRow B 3 1 (.slice (some ⟨g, 0, none⟩) m m) m (madeCells (Value.int .i64 0).cells (m * 1)).toList) : TrW w1 g (List.replicate m 0) := by
  rcases h.2 with ⟨h', _⟩ | ⟨g', cap', cur, h', hb, hg, hnc, hcm, hcs, htake⟩
  · simp at h'
  · simp only [Value.slice.injEq, Option.some.injEq, Addr.mk.injEq, and_true, true_and] at h'
    obtain ⟨rfl, rfl⟩ := h'
    have e : cur.toList = n64s (List.replicate m 0) := by
      rw [List.take_of_length_le (by rw [Array.length_toList, hcs]; exact Nat.le_refl _)] at htake
      rw [htake, Nat.mul_one]
      have : (Value.int .i64 0).cells = #[Value.int .i64 0] := rfl
      rw [this, toList_madeCells_one]
      simp [n64s]
    show w1.heap[g]? = _
    rw [hg, ← e]
theorem n64s_one (l : List Nat) : ∀ u ∈ n64s l, u.oneCell' = true := by
  intro u hu
  obtain ⟨_, _, rfl⟩ := List.mem_map.1 hu
  rfl
theorem src_of {w1 : World} {B n cap : Nat} {ao : Option Addr} {xs : List Value} (h : w1.ownsRow B 3 1 (.slice ao n cap) n xs) : 0 < n → ∃ ad, ao = some ad ∧ ∀ j v, xs[j]? = some v → w1.cell? (ad.add j) = some v := by
  intro hn
  rcases h.2 with ⟨h', h0⟩ | ⟨g', cap', cur, h', hb, hg, hnc, hcm, hcs, htake⟩
  · omega
  · simp only [Value.slice.injEq, true_and] at h'
    obtain ⟨rfl, rfl⟩ := h'
    refine ⟨_, rfl, fun j v hj => ?_⟩
    have hx := h.1
    have hjl := (List.getElem?_eq_some_iff.1 hj).1
    rw [Addr.add_lit, Nat.zero_add]
    exact (h.cellAt j (by omega)).trans hj
theorem splice_map {α β : Type} (f : α → β) (L : List α) (off : Nat) (cs : List α) : splice (L.map f) off (cs.map f) = (splice L off cs).map f := by simp [splice, List.map_take, List.map_drop]
theorem tr_spliced {w4 : World} {g m H n : Nat} {ls : List Nat} (hn : ls.length = n) (hH : H + n ≤ m) (h : Hid (w4.heap[g]? = some (.cells (splice (n64s (List.replicate m 0)) H (n64s ls)).toArray 3 (0, 0)))) : TrW w4 g (List.replicate H 0 ++ (ls ++ List.replicate (m - H - n) 0)) := by
  have h := h.out
  unfold n64s at h
  rw [splice_map] at h
  show w4.heap[g]? = _
  rw [h]
  unfold n64s splice
  rw [List.take_replicate, List.drop_replicate, Nat.min_eq_left (by omega), hn, Nat.sub_add_eq]
theorem at_parts {H k : Nat} {ls : List Nat} (hb : ∀ x ∈ ls, x ≤ 400) (i : Nat) : at0 (List.replicate H 0 ++ (ls ++ List.replicate k 0)) i ≤ 400 := by
  unfold at0
  rw [List.getD_eq_getElem?_getD]
  cases h : (List.replicate H 0 ++ (ls ++ List.replicate k 0))[i]? with
  | none => simp
  | some x =>
    have hm := List.mem_of_getElem? h
    simp only [List.mem_append, List.mem_replicate] at hm
    simp only [Option.getD_some]
    rcases hm with hm | hm | hm
    · omega
    · exact hb x hm
    · omega
theorem below_grown {W wr w2 : World} (h : Below W.heap.size W wr) (hg : wr.grownBy w2 (some W.heap.size)) : Below W.heap.size W w2 :=
  h.grown hg h.size (fun k hk => by cases hk; exact Nat.le_refl _)
/-- what is made of a row -/
def RoomsP (l : List Bool) (w : World) (e : Ending) (w' : World) : Prop := ∃ g T d k, e = .returned (.slice (some ⟨g, 0, none⟩) T.length T.length) ∧ w.heap.size ≤ g ∧ TrW w' g T ∧ Tree T d ∧ (∀ i, at0 T i ≤ 400) ∧ T.length ≤ 2000 ∧ leaves T d = lens l ++ List.replicate k 0 ∧ Below w.heap.size w w'
set_option maxRecDepth 100000 in
set_option maxHeartbeats 4000000 in
theorem rooms_any (l : List Bool) (v : Value) (w : World) (hv : Reads (· < w.heap.size) w v (bls l)) (hl : l.length ≤ 400) :
    Calls Try.prog 23 #[v] w (RoomsP l w) := by
  refine (callsIn_wide (n := 3)).1 ?_
  have h1 : 1 ≤ 3 := by omega
  obtain ⟨a, c, rfl, _⟩ := hv.shape
  obtain ⟨i0, hi, hz0, hz1, hz2⟩ := info_parts infoI
  have hRl := R_len l
  rw [bls_len] at *
  refine callsIn_of_wp_marks Try.func23 rfl trivial ?_ rfl
  simp only [Try.ntmps23, List.size_toArray, List.length_cons, List.length_nil, Nat.reduceAdd, Nat.reduceSub, Array.replicate_succ, Array.replicate_zero, List.push_toArray, List.append_toArray, List.nil_append, List.cons_append]
  gi_wp2_with (refine ⟨trivial, ?_⟩; gi_at_call 21; refine (callsIn_wide.2 (runs_any _ _ _ _)).mono ?_; rintro e w' ⟨rfl, rfl⟩)
  have bT := Boxed.new (w.alloc (.cells #[.slice none 0 0] 36)) 22 (.slice a l.length c)
  simp only [World.size_alloc] at bT
  refine wpIn_rangeFunc_ownF rfl h1 (gf := 25) (lb := #[.pointer (some ⟨w.heap.size + 1, 0, none⟩)]) rfl trivial (enters_of Try.func25 (by kernel_rfl) rfl)
    (runs_stops (3 - 1) (by omega) (w.heap.size + 1) w.heap.size l hl (.slice a l.length c) _ bT.lt (by simp; omega) bT.cell (hv.below (ball (ball (Below.refl _ _) (Nat.le_refl _)) (by simp)))) KB.trans (KB.put (by simp; omega) (by simp)) (Below.refl _ _) (fun _ => rfl)
    (RowI 36 3 1 ways (.slice a l.length c) w) (fun _ _ _ => False) (rowI_own _ _ _ _ _ w _ (by simp; omega)) (fun _ => no_own _) (rowI_start _ _ _ _ w _ rfl)
    (fun x => { tmps := #[.slice a l.length c, undef, .slice none 0 0, .pointer (some ⟨w.heap.size, 0, none⟩), undef, .int .i64 (x.2 : Int), undef, undef, undef, .slice a l.length c,
      .func (.func 25) #[] #[.pointer (some ⟨w.heap.size + 1, 0, none⟩)], .int .i64 (x.1 : Int), .int .i64 (x.2 : Int), undef, undef, undef, undef, undef, undef, undef, undef, undef, undef, undef, undef, undef, undef, undef, undef, undef, undef, undef, undef, undef, undef, undef, undef, undef, undef, undef, undef], defers := [] }) ?assign ?body ?done ?stop
  case assign =>
    intro l x W K hK
    gi_wp2
    exact hK
  case body =>
    rintro lb ps x W ⟨⟨⟨v, hb, hrow, -⟩, hbx⟩, hB⟩ hlt
    have c0 := hb.cell
    have f0 := hb.frozen
    obtain ⟨ao, cap, rfl⟩ := owns_form' hrow
    have hps : ps.length ≤ 399 := by omega
    gi_wp2_with (gi_at_builtin; refine wpListIn_append_own _ rfl _ _ 36 rfl w.heap.size 3 i0 (.int .i64 0) 1 8 Try.underlying36 hi hz0 hz1 hz2 rfl (by decide) _ _ _ rfl (hrow.alloc _) ⟨W.heap.size, 0, none⟩ 1 1 [.int .i64 (x.2 : Int)] rfl rfl (one_at _ _ _) (by intro u hu; simp at hu; subst hu; rfl) (by unfold maxLen; omega) (by omega) (by have := hB.size; simp; omega) ?_; intro v' w1 hown' hgrow _; obtain ⟨g', cap', rfl⟩ := ownsRow_succ hown'; obtain ⟨hv1, hfin⟩ := rowI_next (x := x) hb (by decide) hrow hB hbx (by decide) hown' hgrow (by simp) (by rw [← ways_snoc]); have HF := Lib.hid hfin; have g3 := hv1.cell; have q3 := hv1.frozen; clear hfin)
    exact HF.out
  case done =>
    rintro D ys W hD rfl ⟨⟨⟨v, hb, hrow, -⟩, hbx⟩, hB⟩ hK
    have c0 := hb.cell
    obtain ⟨ao, cap, rfl⟩ := owns_form' hrow
    gi_wp2
    refine wpIn_wide.2 ?_
    have hls : (lens l).length = (R l).length := by simp [lens]
    have hD2 : D < W.heap.size := (Array.getElem?_eq_some_iff.1 hK).1
    have HROW := Lib.hid hrow
    have HBX := Lib.hid hb
    have HKD := Lib.hid hK
    have HB := Lib.hid hB
    have HBD := Lib.hid (fun p (hp : p ∈ R l) => R_bd l p hp)
    clear hrow hbx hb hK bT hv
    rw [ways_R] at HROW
    have hw0 : w.heap.size < W.heap.size := HBX.out.lt
    have HD := Lib.hid hD
    clear hD
    generalize hn : (R l).length = n at *
    clear hn
    have hn4 : n ≤ 400 := by omega
    have hn3 : (n : Int) ≤ 400 := by omega
    go_loopw [6] (fun x wr => ∃ (d H : Nat), Hid (2 ^ d = H) ∧ 1 ≤ H ∧ H ≤ 800 ∧ x = .int .i64 (H : Int) ∧ W = wr) (fun x _ => n - (intOf x).toNat)
    case atStart => exact ⟨0, 1, rfl, by omega, by omega, rfl, rfl⟩
    case round =>
      obtain ⟨d, H, hd, hH1, hH8, rfl, rfl⟩ := hrel
      by_cases hlt : H < n
      · have hlt' : (H : Int) < n := by omega
        have hd' : Hid (2 ^ (d + 1) = H * 2) := Lib.hid (by rw [Nat.pow_succ, hd.out])
        go_wp2_with fail
        go_roundw
        case rel => exact ⟨d + 1, H * 2, hd', by omega, by omega, by go_num, by first | rfl | trivial⟩
        case measure => simp [intOf]; omega
      · have hge : (n : Int) ≤ H := by omega
        have hHi : (1 : Int) ≤ H := by omega
        have hHi8 : (H : Int) ≤ 800 := by omega
        obtain ⟨m, hm⟩ : ∃ m, m = 2 * H := ⟨_, rfl⟩
        have HM := Lib.hid hm
        have hm1 : (m : Int) ≤ 2 * H := by omega
        have hm2 : 2 * (H : Int) ≤ m := by omega
        clear hm
        go_wp2_with fail
        refine wpIn_wide.2 ?_
        go_wp2_with (at_make; refine wpList_make_full _ rfl _ _ 45 rfl w.heap.size 3 i0 _ 1 Try.underlying45 hi hz0 hz1 _ _ _ _ m rfl rfl (by omega) (by omega) (by rw [hz2]; omega) (by unfold maxLen; omega) (by omega) ?_; intro w1 hown1 hgrow1; have c1 := (HBX.out.kept hgrow1 (by simp)).cell; have hT0 := Lib.hid (tr_made hown1); have HR1 := Lib.hid (HROW.out.kept hgrow1 (by cases (Value.slice ao n cap).ownBlock <;> simp)); have HG1 := Lib.hid hgrow1; clear hown1 hgrow1)
        have hsrc := Lib.hid (src_of HR1.out)
        have hBW : Below W.heap.size W w1 := (Below.refl _ _).grown HG1.out (Nat.le_refl _) (fun k hk => by cases hk)
        have hne : ¬ m = H := by omega
        have hne2 : ¬ H = m := by omega
        have hle : (H : Int) ≤ (m : Int) := by omega
        have hle2 : H ≤ m := by omega
        have hcs := Lib.hid (n64s_len (lens l))
        have hmin : Nat.min n (m - H) = n := Nat.min_eq_left (by omega)
        have HMIN := Lib.hid hmin
        clear hmin
        refine wp_region_noPanic ?_
        go_region_law (refine step_copy_splice rfl (.tmp 28) (.tmp 29) 45 36 rfl 3 Try.underlying45 (by kernel_rfl) (some ⟨W.heap.size, H, none⟩) ao (m - H) (m - H) n cap (by simp [Act.eval, Act.put]) (by simp [Act.eval, Act.put]) W.heap.size H (n64s (List.replicate m 0)) 3 hT0.out (n64s (lens l)) (by rw [hcs.out, hls, HMIN.out]) (fun h => ⟨rfl, hsrc.out (by rw [hcs.out, hls] at h; exact h)⟩) (by rw [hcs.out, hls, n64s_len, List.length_replicate]; omega) (n64s_one _) W.heap.size W hBW.drew (Nat.le_refl _) ?_; intro w4 hg4 hb4)
        refine NoPanic.normal ?_
        have HT4 := Lib.hid (tr_spliced (n := n) hls (by omega) hg4)
        have HBB := Lib.hid hb4
        clear hg4 hb4 c1 hT0 HR1 HG1 hsrc hBW hne hne2 hle hle2 hcs HMIN
        have hp0 : List.replicate H 0 ++ (lens l ++ List.replicate (m - H - n) 0) = List.replicate (2 ^ d) 0 ++ (lens l ++ List.replicate (2 ^ d - (lens l).length) 0) := by
          rw [hd.out, hls]
          have := HM.out
          congr 3; omega
        have hpl : (List.replicate H 0 ++ (lens l ++ List.replicate (m - H - n) 0)).length = m := by
          have := HM.out
          simp [hls]; omega
        have hpb : ∀ i, at0 (List.replicate H 0 ++ (lens l ++ List.replicate (m - H - n) 0)) i ≤ 400 := fun i => at_parts (fun x hx => by
          obtain ⟨p, hp, rfl⟩ := List.mem_map.1 hx
          have := HBD.out p hp
          omega) i
        have hpv : leaves (List.replicate H 0 ++ (lens l ++ List.replicate (m - H - n) 0)) d = lens l ++ List.replicate (2 ^ d - (lens l).length) 0 := by
          rw [hp0]
          exact leaves_made (lens l) d (by rw [hd.out, hls]; omega)
        have HPB := Lib.hid hpb
        have HPV := Lib.hid hpv
        clear hp0 hpb hpv
        generalize List.replicate H 0 ++ (lens l ++ List.replicate (m - H - n) 0) = T0 at *
        generalize hk : 2 ^ d - (lens l).length = kk at *
        have HPS := Lib.hid (part_start T0 d (by rw [hpl, HM.out, hd.out]))
        have HSET := Lib.hid (fun (u : World) (T' : List Nat) (hu : TrW u W.heap.size T') (hl' : T'.length ≤ 2000) i hi => settle_any hu hl' i hi)
        clear hk
        go_wp2_with fail
        clear hHi8 hge
        go_loopw [8] (fun x wr => ∃ (i : Nat) (T : List Nat), i + 1 ≤ H ∧ x = .int .i64 (i : Int) ∧ T.length = m ∧ Below W.heap.size W wr ∧ Hid (TrW wr W.heap.size T ∧ Part T d i ∧ leaves T d = lens l ++ List.replicate kk 0 ∧ ∀ j, at0 T j ≤ 400)) (fun x _ => (intOf x).toNat)
        case atStart => exact ⟨H - 1, T0, by omega, by go_num, hpl, HBB.out, Lib.hid ⟨HT4.out, by rw [← hd.out]; exact HPS.out, HPV.out, HPB.out⟩⟩
        case round =>
          obtain ⟨i, T, hiH, rfl, hTl, hbr, hI⟩ := hrel
          obtain ⟨I1, I2, I3, I4⟩ := hI.out
          cases i with
          | zero =>
            have htr := Lib.hid (part_end I2)
            have I3h := Lib.hid I3
            have I4h := Lib.hid I4
            have I1h := Lib.hid I1
            clear I1 I2 I3 I4 hI
            show Code.wp _ _ _ { tmps := #[_, _, _, _, _, _, _, _, .int .i64 0, _, _, _, _, _, _, _, _, _, _, _, _, _, _, _, _, _, _, _, _, _, _, _, _, _, _, _, _, _, _, _, _], defers := _ } wr
            go_wp2_with fail
            have hKr : wr.heap[D]? = some (.deferred (some [])) := (hbr.block D hD2).trans HKD.out
            refine ⟨by simp, .inl ⟨_, _, rfl, run_takeDeferred hKr, ?_⟩⟩
            refine ⟨_, results_tmp rfl _ _ _, W.heap.size, T, d, kk, ?_, by omega, I1h.out.same (World.putObj_heap_other (by omega)), htr.out, I4h.out, by omega, I3h.out, (HB.out.trans (hbr.mono HB.out.size)).trans (belowK_b (w := w) (Nat.le_refl _) _ D _ _ (by have := HD.out; simp at this; omega) hKr rfl rfl)⟩
            rw [hTl]
            rfl
          | succ i =>
            have hsz := HM.out
            have hset := Lib.hid (HSET.out wr T I1 (by omega) (i + 1) (by omega))
            rw [hTl] at hset
            have ho := Lib.hid (part_step I2 (by rw [hd.out]; omega))
            have hlv := Lib.hid (leaves_up (T := T) (d := d) (i := i + 1) (v := max (at0 T (2 * (i + 1))) (at0 T (2 * (i + 1) + 1))) (by rw [hd.out]; omega))
            have hB2 := Lib.hid (at_le (T := T) (i := i + 1) (v := max (at0 T (2 * (i + 1))) (at0 T (2 * (i + 1) + 1))) I4 (by omega) (by have := I4 (2 * (i + 1)); have := I4 (2 * (i + 1) + 1); omega))
            have hl2 : (T.set (i + 1) (max (at0 T (2 * (i + 1))) (at0 T (2 * (i + 1) + 1)))).length = m := by rw [List.length_set]; exact hTl
            have hLE := Lib.hid (hlv.out.trans I3)
            clear I1 I2 I3 I4 hI hlv hsz
            generalize T.set (i + 1) (max (at0 T (2 * (i + 1))) (at0 T (2 * (i + 1) + 1))) = T2 at *
            have hx : (0 : Int) < ((i + 1 : Nat) : Int) := by omega
            have hx8 : ((i + 1 : Nat) : Int) ≤ 800 := by omega
            generalize hy : i + 1 = y at *
            have HY := Lib.hid hy
            clear hy
            go_wp2_with (go_at_call 26; (with_reducible refine hset.out.mono ?_); rintro e2 w2 ⟨rfl, ht2, hg2⟩; have HT2 := Lib.hid ht2; have HG2 := Lib.hid (below_grown hbr hg2); clear ht2 hg2)
            go_roundw
            case rel => exact ⟨i, T2, by have := HY.out; omega, by have := HY.out; go_num, hl2, HG2.out, Lib.hid ⟨HT2.out, ho.out, hLE.out, hB2.out⟩⟩
            case measure => have := HY.out; simp [intOf]; omega
  case stop =>
    rintro D c ps W hD hpre hF hK
    exact hF.elim
end Go.Proofs.Ytegcekniolajeaa.AF
