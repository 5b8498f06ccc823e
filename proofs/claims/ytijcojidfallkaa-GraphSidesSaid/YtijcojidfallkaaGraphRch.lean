/-
  The reference of layer 14: what is reached. Nothing here is a statement of the seed.
-/
import Derived.Test.YtijcojidfallkaaGraphAdd
set_option linter.unusedSimpArgs false
set_option linter.unusedVariables false
namespace Go.Proofs.Ytijcojidfallkaa.GF
open Go.RowKit WM NR OM OR GM GR
set_option maxHeartbeats 4000000
set_option maxRecDepth 10000
theorem rise_len {g : List Nd} (hg : GM.Good g) {L : List (List UInt8)} (hr : Rise L) (hs : ∀ x ∈ L, hasM g x = true) : L.length ≤ g.length := by
  have e : ((g.map (·.nm)).filter (fun y => decide (y ∈ L))).length = L.length := by
    refine List.Perm.length_eq ((List.perm_ext_iff_of_nodup (hg.uq.sublist List.filter_sublist) hr.nodup).2 fun y => ?_)
    rw [List.mem_filter, decide_eq_true_eq]
    refine ⟨fun hy => hy.2, fun hy => ⟨?_, hy⟩⟩
    obtain ⟨z, hz, rfl⟩ := has_iff.1 (hs y hy)
    exact List.mem_map.2 ⟨z, hz, rfl⟩
  rw [← e]
  have := List.length_filter_le (fun y => decide (y ∈ L)) (g.map (·.nm))
  simpa using this
theorem deps_len {g : List Nd} (hg : GM.Good g) (n : List UInt8) : (depsM g n).length ≤ g.length := rise_len hg (hg.deps_rise n) fun x hx => hg.dep_node hx
theorem it_len {g : List Nd} (hg : GM.Good g) (n : List UInt8) (k : Nat) : (itM g k (depsM g n)).length ≤ g.length :=
  rise_len hg (rise_it k _ (hg.deps_rise n)) fun x hx => (hg.reach_node (it_sound k _ (fun y hy => .one hy) x hx)).2
theorem flat_len {g : List Nd} (hg : GM.Good g) (L : List (List UInt8)) : (L.flatMap (depsM g)).length ≤ L.length * g.length := by
  induction L with
  | nil => simp
  | cons a L ih =>
    rw [List.flatMap_cons, List.length_append, List.length_cons, Nat.add_mul, Nat.one_mul]
    have := deps_len hg a
    omega
theorem flat_take {g : List Nd} (L : List (List UInt8)) (i : Nat) (h : i < L.length) : (L.take (i + 1)).flatMap (depsM g) = (L.take i).flatMap (depsM g) ++ depsM g (L.getD i []) := by
  rw [take_succ_getD L [] i h, List.flatMap_append]
  simp
/-- texts that a call tells, wherever they lie -/
abbrev IsR (w : World) (l : List (List UInt8)) (e : Ending) (u : World) : Prop := ∃ a n c, e = .returned (.slice a n c) ∧ Reads (· < u.heap.size) u (.slice a n c) (strs l) ∧ Below w.heap.size w u
theorem refReached_any {w : World} {la : Option Addr} {ln lc : Nat} {l : List Nr} (h : RdG (· < w.heap.size) w la ln lc l) (hg : GM.Good (ndL l)) (hbd : ln ≤ 300) (s : List UInt8) :
    Calls Try.prog 50 #[gV la ln lc, .string (bs s)] w (IsR w (reachedM (ndL l) s)) := by
  obtain ⟨ll, q2, _⟩ := h.len
  have hln : (ndL l).length = ln := by rw [List.length_map]; exact ll
  have b0 := below_new w (.cells (gC la ln lc) 29)
  have hX := Whole.new w 29 (gC la ln lc)
  have HD := Lib.hid (fun (u : World) (hb : Below w.heap.size w u) (x : List UInt8) => refDeps_any (h.go hb hb.size) x)
  have HIT := Lib.hid (fun k => it_len hg s k)
  have HFL := Lib.hid (fun L => flat_len hg L)
  have HDL := Lib.hid (fun n => deps_len hg n)
  have HRC := Lib.hid (show reachedM (ndL l) s = itM (ndL l) (ln + 1) (depsM (ndL l) s) by unfold reachedM; rw [hln])
  have HSU := Lib.hid (fun k => itM_succ (ndL l) k (depsM (ndL l) s))
  generalize reachedM (ndL l) s = RC at *
  rw [hln] at HIT HFL HDL
  generalize ndL l = gg at *
  have HX := Lib.hid hX
  have HB := Lib.hid b0
  have hq : (ln : Int) ≤ lc := by omega
  have hl3 : (ln : Int) ≤ 300 := by omega
  have CD := Lib.hid (HD.out _ b0 s)
  clear h hg ll hln b0 hX q2
  go_enter Try.func50, Try.ntmps50
  go_upto_region 1 with fail
  generalize w.alloc (.cells (gC la ln lc) 29) = W at *
  have c0 : W.cell? ⟨w.heap.size, 0, none⟩ = some (.slice la ln lc) := HX.out.cell 0
  go_upto_region 2 with (go_at_call 29; (with_reducible refine CD.out.mono ?_); rintro e w1 ⟨da, dn, dc, rfl, hr, hb⟩; have HR0 := Lib.hid ((hr.below hb).mono fun g hg => Nat.lt_of_lt_of_le hg hb.size); have HB1 := Lib.hid hb; clear hr hb)
  clear CD c0
  go_wp2_with fail
  go_loopw [5, 6] (fun v5 v6 wr => ∃ (k : Nat) (a : Option Addr) (n c : Nat), k ≤ ln + 1 ∧ v6 = .int .i64 (k : Int) ∧ v5 = .slice a n c ∧ Hid (Reads (· < wr.heap.size) wr (.slice a n c) (strs (itM gg k (depsM gg s)))) ∧ Hid (Below W.heap.size W wr)) (fun _ v6 _ => ln + 1 - (intOf v6).toNat)
  case atStart => exact ⟨0, _, _, _, by omega, rfl, rfl, HR0, HB1⟩
  case round =>
    obtain ⟨k, a, n, c, hk, rfl, rfl, HR, HF⟩ := hrel
    clear HR0 HB1
    have HB1 := Lib.hid (HB.out.trans (HF.out.mono HB.out.size))
    have c0 : wr.cell? ⟨w.heap.size, 0, none⟩ = some (.slice la ln lc) := (HX.out.belowS HF.out).cell 0
    have c6 := (HX.out.belowS HF.out).lt
    by_cases hle : k ≤ ln
    · have hle' : (k : Int) ≤ ln := by omega
      obtain ⟨w7, hw7⟩ : ∃ x, x = wr := ⟨_, rfl⟩
      subst hw7
      have hit := HIT.out k
      have hsu := HSU.out k
      obtain ⟨L, hL⟩ : ∃ L, L = itM gg k (depsM gg s) := ⟨_, rfl⟩
      rw [← hL] at hit hsu HR
      have HST := Lib.hid hsu
      obtain ⟨n1, m1, m2⟩ := reads_len HR.out
      rw [strs_len] at n1
      have hnc : (n : Int) ≤ c := by omega
      have HLN := Lib.hid n1
      have b5 := below_new w7 (.cells #[] 9)
      have hown0 := World.ownsRow_lit (e := 9) (base := w7.heap.size) (size := 1) w7 #[] 0 (Nat.le_refl _) (by simp [maxLen]) rfl
      obtain ⟨v7, u7, hr7, ho7, hg7⟩ := app_str (ty := 32) (l := []) b5.size hown0 ((HR.out.below b5).mono fun g hg => hg) (by omega)
      have b7 := below_grown b5 b5.size hown0 (Nat.le_refl _) hg7
      rw [Nat.zero_add, List.nil_append] at ho7
      have HO7 := Lib.hid ho7
      have HB7 := Lib.hid b7
      have HFL2 := Lib.hid (fun i (hi : i ≤ n) => show ((L.take i).flatMap (depsM gg)).length ≤ 90000 by
        have h1 := HFL.out (L.take i)
        have h2 : (L.take i).length ≤ 300 := by rw [List.length_take]; omega
        have h3 := Nat.mul_le_mul h2 hbd
        omega)
      have hn300 : n ≤ 300 := by omega
      clear hsu hL m1 m2 hit ho7 b7 b5 hown0 hg7
      go_wp2_with (at_builtin; refine Lib.wpList_append_run _ rfl _ _ _ _ rfl _ _ rfl rfl _ _ hr7 ?_)
      clear hr7 c0 c6
      go_loopw [7, 8] (fun v7 v8 wr => ∃ (i m : Nat) (v : Value), i ≤ n ∧ v8 = .int .i64 (i : Int) ∧ v = v7 ∧ Hid (wr.ownsRow w7.heap.size 9 1 v m (strs (L ++ (L.take i).flatMap (depsM gg)))) ∧ Hid (Below w7.heap.size w7 wr)) (fun _ v8 _ => n - (intOf v8).toNat)
      case atStart => exact ⟨0, n, _, by omega, rfl, rfl, Lib.hid (by simpa using HO7.out), HB7⟩
      case round =>
        obtain ⟨i, m, v, hin, rfl, rfl, HO, HF2⟩ := hrel
        have hX7 := HX.out.belowS HF.out
        have c0 : wr.cell? ⟨w.heap.size, 0, none⟩ = some (.slice la ln lc) := (hX7.belowS HF2.out).cell 0
        have hm := HO.out.1
        rw [strs_len, List.length_append, Nat.mul_one] at hm
        have hf := HFL2.out i hin
        have hm1 : m ≤ 90300 := by have := HLN.out; omega
        clear hm hf
        by_cases hli : i < n
        · have hli' : (i : Int) < n := by omega
          have i0 : (0 : Int) ≤ i := by omega
          have kl : i < L.length := by rw [HLN.out]; exact hli
          obtain ⟨g, off, rfl, _, e1⟩ := reads_at HR.out HF2.out hli
          rw [strs_at kl] at e1
          have hgl : g < w7.heap.size := by
            have h1 := (HR.out.cells (by intro e; have h9 := congrArg List.length e; rw [strs_len, HLN.out, List.length_nil] at h9; omega))
            obtain ⟨g', off', cap', e, hg', _⟩ := h1
            simp only [Value.slice.injEq, Option.some.injEq, Addr.mk.injEq] at e
            omega
          have hw7l := hX7.lt
          have HK := Lib.hid (fun (u : World) (hu : Below w7.heap.size w7 u) => show u.cell? ⟨w.heap.size, 0, none⟩ = some (.slice la ln lc) ∧ u.cell? ⟨g, off + i, none⟩ = some (.string (bs (L.getD i []))) from
            ⟨(hX7.below hu hw7l).cell 0, ((hu.cell (p := ⟨g, off + i, none⟩) hgl).trans ((HF2.out.cell (p := ⟨g, off + i, none⟩) hgl).symm)).trans e1⟩)
          have HTK := Lib.hid (flat_take (g := gg) L i kl)
          have hdl := HDL.out (L.getD i [])
          have HBr := Lib.hid (HB1.out.trans (HF2.out.mono HB1.out.size))
          have hW : Below wr.heap.size wr wr.drew := (Below.refl _ _).drew
          have HBd := Lib.hid (HBr.out.trans (hW.mono HBr.out.size))
          have CD := Lib.hid (HD.out _ HBd.out (L.getD i []))
          clear e1 kl hX7 c0
          generalize L.getD i [] = y at *
          generalize bs y = Y at *
          have K0 := HK.out _ (HF2.out.trans (hW.mono HF2.out.size))
          go_upto_region 9 with fail
          go_region_held3 (fun u => u.cell? ⟨w.heap.size, 0, none⟩ = some (.slice la ln lc) ∧ u.cell? ⟨g, off + i, none⟩ = some (.string Y))
            (first | with_reducible exact K0 | with_reducible exact K1 | with_reducible exact K2)
            (first
              | (go_at_call 29; (with_reducible refine CD.out.mono ?_); rintro e w2 ⟨da, dn, dc, rfl, hrd, hb2⟩; have hB2 := below_of hW hb2; have hF3 := HF2.out.trans (hB2.mono HF2.out.size); have K1 := HK.out _ hF3; have ho2 := owns_below HO.out hB2; have hdn := (reads_len hrd).1; rw [strs_len] at hdn; obtain ⟨v8, u8, hr8, ho8, hg8⟩ := app_str (ty := 32) hF3.size ho2 (hrd.below hb2) (by omega); have hF8 := below_grown hF3 hF3.size ho2 (Nat.le_refl _) hg8; have K2 := HK.out _ hF8)
              | (refine Lib.wp_append_run _ _ _ _ _ rfl _ _ rfl rfl _ _ hr8 ?_))
          rename_i hHeld
          clear hHeld
          have HO8 := Lib.hid (show u8.ownsRow w7.heap.size 9 1 v8 (m + dn) (strs (L ++ (L.take (i + 1)).flatMap (depsM gg))) by rw [HTK.out, ← List.append_assoc]; exact ho8)
          have HF8 := Lib.hid hF8
          clear K0 K1 K2 hr8 ho8 hg8 hF8 ho2 hF3 hB2 hrd hb2
          go_wp2_with fail
          go_roundw
          case rel => exact ⟨i + 1, m + dn, v8, by omega, by go_num, rfl, HO8, HF8⟩
          case measure => simp [intOf]; omega
        · obtain rfl : i = n := by omega
          obtain ⟨va, vc, hv⟩ := own_form HO.out
          subst hv
          have CS := Lib.hid (refSet_any (w := wr) ((Reads.of_owns HO.out).there.mono fun g hg => hg.2) (by omega))
          have hst : itM gg (k + 1) (depsM gg s) = setM (L ++ (L.take i).flatMap (depsM gg)) := by rw [HST.out, List.take_of_length_le (by rw [HLN.out]; exact Nat.le_refl _)]; rfl
          rw [← hst] at CS
          have HFz := Lib.hid (HF.out.trans (HF2.out.mono HF.out.size))
          clear hst c0 hX7
          go_wp2_with (go_at_call 23; (with_reducible refine CS.out.mono ?_); rintro e w9 ⟨sa, sc, rfl, hr9, hb9⟩; have HR9 := Lib.hid (hr9.mono fun b hb => hb.2); have HF9 := Lib.hid (HFz.out.trans (hb9.mono HFz.out.size)); clear hr9 hb9)
          go_roundw
          case rel => exact ⟨k + 1, _, _, _, by omega, by go_num, rfl, HR9, HF9⟩
          case measure => simp [intOf]; omega
    · obtain rfl : k = ln + 1 := by omega
      have hle' : ¬ (((ln + 1 : Nat) : Int) ≤ ln) := by omega
      have hR := HR.out
      rw [← HRC.out] at hR
      have R := Lib.hid (show IsR w RC (.returned (.slice a n c)) wr from ⟨_, _, _, rfl, hR, HB1.out⟩)
      clear hR HR
      go_wp2_with fail
      go_ret
      exact R.out
end Go.Proofs.Ytijcojidfallkaa.GF
