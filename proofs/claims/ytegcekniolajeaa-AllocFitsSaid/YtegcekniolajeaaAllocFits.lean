/-
  Whether there is room for all sizes: the program's, and the document's own answer. Nothing here is a statement of the seed.
-/
import Derived.Test.YtegcekniolajeaaAllocRooms
import Derived.Test.YtegcekniolajeaaAllocWMore
set_option linter.unusedSimpArgs false
set_option linter.unusedVariables false
namespace Go.Proofs.Ytegcekniolajeaa.AF
open Go.RowKit AL NR WK

theorem fits_any (l : List Bool) (v : Value) (ns : List Int) (u : Value) (w : World) (hv : Reads (· < w.heap.size) w v (bls l)) (hu : Reads (· < w.heap.size) w u (i64s ns)) (hl : l.length ≤ 400) (hns : ns.length ≤ 20) :
    Calls Try.prog 19 #[v, u] w fun e w' => e = .returned (.bool (fitL l ns)) ∧ Below w.heap.size w w' := by
  have CR := Lib.hid (rooms_any l v w hv hl)
  have CE := Lib.hid (fun (w1 : World) (g d : Nat) (T : List Nat) (h : TrW w1 g T) (ht : Tree T d) hb hl (hx : Below w.heap.size w w1) (hg : w.heap.size ≤ g) => each_any (B := w.heap.size) h ht hb hl ns u (hu.below hx) hg hns)
  have HL := Lib.hid (fitL_R ns l)
  obtain ⟨a, c, rfl, _⟩ := hv.shape
  obtain ⟨a2, c2, rfl, _⟩ := hu.shape
  rw [bls_len, i64s_len] at *
  clear hv hu
  go_enter Try.func19, Try.ntmps19
  go_wp2_with fail
  (go_at_call 23; (with_reducible refine CR.out.mono ?_); rintro e w1 ⟨g, T, d, k, rfl, hg, h1, h2, h3, h4, h5, h6⟩; have C2 := Lib.hid (CE.out w1 g d T h1 h2 h3 h4 h6 hg); have HX := Lib.hid (And.intro hg (And.intro h5 h6)); clear hg h1 h2 h3 h4 h5 h6)
  go_wp2_with fail
  (go_at_call 24; (with_reducible refine C2.out.mono ?_); rintro e w2 ⟨rfl, hgr⟩; have HG := Lib.hid hgr; clear hgr)
  go_wp2_with fail
  go_ret
  obtain ⟨hg, h5, h6⟩ := HX.out
  refine ⟨ret_bool ?_, h6.grown HG.out h6.size (fun k hk => by cases hk; exact hg)⟩
  rw [h5, fit_made, HL.out]
theorem fitL_cons {L : List Bool} {ns : List Int} {i : Nat} (h : i < ns.length) : fitL L (ns.drop i) = if ns.getD i 0 < 1 then false else match F L (ns.getD i 0).toNat with
    | none => false
    | some k => fitL (mk k (ns.getD i 0).toNat L) (ns.drop (i + 1)) := by
  rw [List.drop_eq_getElem_cons h]
  have e : ns.getD i 0 = ns[i] := by simp [h]
  rw [e]
  rfl
theorem fitL_done (L : List Bool) (ns : List Int) : fitL L (ns.drop ns.length) = true := by rw [List.drop_length]; rfl
/-- three ways -/
theorem fit_ways {L : List Bool} {ns : List Int} {i : Nat} (h : i < ns.length) : (∃ q : Int, q ≠ 0 ∧ findV L (ns.getD i 0) = .tuple #[.int .i64 0, .int .i64 q] ∧ fitL L (ns.drop i) = false) ∨
    (∃ k N : Nat, ns.getD i 0 = (N : Int) ∧ 1 ≤ N ∧ k + N ≤ L.length ∧ findV L (ns.getD i 0) = .tuple #[.int .i64 (k : Int), .int .i64 0] ∧ fitL L (ns.drop i) = fitL (mk k N L) (ns.drop (i + 1))) := by
  rw [fitL_cons h]
  generalize ns.getD i 0 = n
  by_cases h1 : n < 1
  · left
    refine ⟨2, by decide, ?_, by rw [if_pos h1]⟩
    unfold findV; rw [if_pos h1]
  · obtain ⟨N, rfl⟩ := Int.eq_ofNat_of_zero_le (show 0 ≤ n by omega)
    rw [if_neg h1, Int.toNat_natCast]
    cases hF : F L N with
    | none =>
      left
      exact ⟨7, by decide, by unfold findV; rw [if_neg h1, Int.toNat_natCast, hF], rfl⟩
    | some k =>
      right
      exact ⟨k, N, rfl, by omega, (F_some (by omega) hF).1, by unfold findV; rw [if_neg h1, Int.toNat_natCast, hF], rfl⟩
set_option maxHeartbeats 4000000 in
theorem refFits_any (l : List Bool) (v : Value) (ns : List Int) (u : Value) (w : World) (hv : Reads (· < w.heap.size) w v (bls l)) (hu : Reads (· < w.heap.size) w u (i64s ns)) (hl : l.length ≤ 200) (hns : ns.length ≤ 20) (hbn : ∀ i, ns.getD i 0 ≤ 9223372036854775807) :
    Calls Try.prog 20 #[v, u] w fun e w' => e = .returned (.bool (fitL l ns)) ∧ Below w.heap.size w w' := by
  obtain ⟨i0, hi, hz0, hz1, hz2⟩ := info_parts infoB
  have hA0 := below_new w (.cells #[] 4)
  have HR := Lib.hid (next hv hA0)
  have HO := Lib.hid (own_empty w 4)
  have HU := Lib.hid hu
  obtain ⟨a, c, rfl, _⟩ := hv.shape
  obtain ⟨a2, c2, rfl, _, hcm2⟩ := hu.shape
  rw [bls_len] at *
  rw [i64s_len] at *
  have h1 := Lib.hid (bls_one l)
  have hl3 : (l.length : Int) ≤ 200 := by omega
  have hz3 : (ns.length : Int) ≤ 20 := by omega
  have CF := Lib.hid (fun (w1 : World) (x : Value) (L : List Bool) (hx : Reads (· < w1.heap.size) w1 x (bls L)) (hl : L.length ≤ 400) i => refFind_any L x w1 hx hl (ns.getD i 0) (hbn i))
  have HW := Lib.hid (fun (L : List Bool) i (h : i < ns.length) => fit_ways (L := L) h)
  have HD := Lib.hid (fun L => fitL_done L ns)
  have HA : Hid (fitL l (ns.drop 0) = fitL l ns) := Lib.hid (by rw [List.drop_zero])
  clear hv hu hbn
  generalize fitL l ns = ans at *
  unfold maxLen at hcm2
  go_enter Try.func20, Try.ntmps20
  go_wp2_with (at_builtin; refine wpList_append_reads _ rfl _ _ 22 rfl w.heap.size 4 i0 (.bool false) 1 Try.underlying22 hi hz0 hz1 hz2 rfl (.slice (some ⟨w.heap.size, 0, none⟩) 0 0) 0 [] rfl HO.out _ _ (bls l) rfl HR.out h1.out (by rw [bls_len]; unfold maxLen; omega) (by rw [bls_len]; omega) (by simp) ?_; intro v' w1 hown hgrow; replace hown := own_bls hown; have hb1 := hA0.grown hgrow (by simp) (fun g hg => by simp [Value.ownBlock] at hg; omega); obtain ⟨a', c', rfl⟩ := owns_form' hown; have HO1 := Lib.hid hown; clear hown hgrow)
  generalize hm : l.length = m at *
  have HML := Lib.hid hm
  clear hm
  go_loopw [6] (fun x wr => ∃ (i : Nat) (L : List Bool), i ≤ ns.length ∧ x = .int .i64 (i : Int) ∧ L.length = m ∧ Below w.heap.size w wr ∧ Hid (wr.ownsRow w.heap.size 4 1 (.slice a' m c') m (bls L)) ∧ Hid (fitL L (ns.drop i) = ans)) (fun x _ => ns.length - (intOf x).toNat)
  case atStart => exact ⟨0, l, by omega, rfl, HML.out, hb1, HO1, HA⟩
  case round =>
    obtain ⟨i, L, hi', rfl, hL, hb, hown, hans⟩ := hrel
    by_cases hlt : i < ns.length
    · have hne : i64s ns ≠ [] := by intro e; have := congrArg List.length e; rw [i64s_len] at this; simp at this; rw [this] at hlt; simp at hlt
      obtain ⟨p, off, cp, e1, hp, _, _, hc⟩ := HU.out.cells hne
      simp only [Value.slice.injEq] at e1
      obtain ⟨rfl, e2, rfl⟩ := e1
      clear e2
      have CN := Lib.hid (reads_num (G := (· < w.heap.size)) hc i hlt)
      clear hc hne
      have hlt' : (i : Int) < ns.length := by omega
      have hi0 : (0 : Int) ≤ i := by omega
      have hcell := (hb.cell (p := ⟨p, off + i, none⟩) hp).trans CN.out
      have cf := Lib.hid (CF.out wr _ L (copied_reads (w := w) hown.out) (by omega) i)
      rcases HW.out L i hlt with ⟨q, hq, hf, hfl⟩ | ⟨k, N, hN, hN1, hkN, hf, hfl⟩
      · rw [hf] at cf
        have e := Lib.hid (hfl.symm.trans hans.out)
        have hq' : (q != 0) = true := by simpa using hq
        clear hf hfl hq
        generalize ns.getD i 0 = nn at *
        go_wp2_with fail
        (go_at_call 11; (with_reducible refine cf.out.mono ?_); rintro e2 w2 ⟨rfl, rfl⟩)
        go_wp2_with fail
        go_ret
        exact ⟨ret_bool e.out, hb⟩
      · rw [hf] at cf
        have e := Lib.hid (hfl.symm.trans hans.out)
        clear hf hfl
        rw [hN] at cf hcell CN
        clear hN
        obtain ⟨g, c3, e3⟩ := owns_succ' (show 1 ≤ m by omega) hown.out
        simp only [Value.slice.injEq, true_and] at e3
        obtain ⟨rfl, rfl⟩ := e3
        have hk3 : (k : Int) + N ≤ m := by omega
        have hk0 : (0 : Int) ≤ k := by omega
        have hN1' : (1 : Int) ≤ N := by omega
        have H0 := Lib.hid (show wr.ownsRow w.heap.size 4 1 (.slice (some ⟨g, 0, none⟩) m c') m (bls (mk k 0 L)) by rw [mk_zero]; exact hown.out)
        have HPW := Lib.hid hp
        have HCN := Lib.hid CN.out
        have HLL := Lib.hid hL
        go_wp2_with fail
        (go_at_call 11; (with_reducible refine cf.out.mono ?_); rintro e2 w2 ⟨rfl, rfl⟩)
        clear hcell
        go_wp2_with fail
        go_loopw [9] (fun x wr' => ∃ q : Nat, q ≤ N ∧ x = .int .i64 ((k + q : Nat) : Int) ∧ Below w.heap.size w wr' ∧ Hid (wr'.ownsRow w.heap.size 4 1 (.slice (some ⟨g, 0, none⟩) m c') m (bls (mk k q L)))) (fun x _ => k + N - (intOf x).toNat)
        case atStart => exact ⟨0, by omega, rfl, hb, H0⟩
        case round =>
          obtain ⟨q, hq, rfl, hbq, hoq⟩ := hrel
          have hcell := (hbq.cell (p := ⟨p, off + i, none⟩) HPW.out).trans HCN.out
          by_cases hqn : q < N
          · have hqn' : (k : Int) + q < k + N := by omega
            have hlq : (mk k q L).length = m := by rw [mk_len k q L (by rw [HLL.out]; omega), HLL.out]
            obtain ⟨b3, hc3⟩ : ∃ b, wr.cell? ⟨g, k + q, none⟩ = some (.bool b) := ⟨_, (hoq.out.cellAt (k + q) (by omega)).trans (bls_at (mk k q L) (k + q) (by rw [hlq]; omega))⟩
            have hf3 := hoq.out.frozenAt (k + q)
            have hst := hoq.out.stored (k + q) (.bool true)
            rw [bls_set, mk_step k q L (by rw [HLL.out]; omega)] at hst
            have HST := Lib.hid hst.1
            have HBS := Lib.hid (hbq.setCell (p := ⟨g, k + q, none⟩) (hoq.out.lt g rfl).1 (.bool true))
            clear hst hlq
            go_wp2_with fail
            go_roundw
            case rel => exact ⟨q + 1, by omega, by go_num, HBS.out, HST⟩
            case measure => simp [intOf]; omega
          · obtain rfl : q = N := by omega
            have hml : (mk k q L).length = m := by rw [mk_len k q L (by rw [HLL.out]; omega), HLL.out]
            have hml' := Lib.hid hml
            clear hml
            go_wp2_with fail
            go_roundw
            case rel => exact ⟨i + 1, mk k q L, by omega, by go_num, hml'.out, hbq, hoq, e⟩
            case measure => simp [intOf]; omega
    · obtain rfl : i = ns.length := by omega
      have e := Lib.hid ((HD.out L).symm.trans hans.out)
      go_wp2_with fail
      go_ret
      exact ⟨ret_bool e.out, hb⟩
end Go.Proofs.Ytegcekniolajeaa.AF
