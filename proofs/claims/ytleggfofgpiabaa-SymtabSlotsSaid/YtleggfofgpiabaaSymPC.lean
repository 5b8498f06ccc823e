/-
  The program's Remove. Nothing here is a statement of the seed.
-/
import Derived.Test.YtleggfofgpiabaaSymPB
set_option linter.unusedSimpArgs false
set_option linter.unusedVariables false
namespace Go.Proofs.Ytleggfofgpiabaa.SP
open Go.RowKit WM NR OM OR SM SR MV
set_option maxHeartbeats 4000000
set_option maxRecDepth 10000
/-- what the map of entries tells once some names are gone -/
def without (f : List UInt8 → Option Value) (ns : List (List UInt8)) (s : List UInt8) : Option Value := if s ∈ ns then none else f s
theorem without_take (f : List UInt8 → Option Value) (ns : List (List UInt8)) (k : Nat) (h : k < ns.length) (s : List UInt8) : (if s = ns.getD k [] then none else without f (ns.take k) s) = without f (ns.take (k + 1)) s := by
  unfold without
  by_cases h1 : s = ns.getD k []
  · rw [if_pos h1, if_pos ((mem_take_succ ns [] k h s).2 (Or.inr h1))]
  · rw [if_neg h1]
    by_cases h2 : s ∈ ns.take k
    · rw [if_pos h2, if_pos ((mem_take_succ ns [] k h s).2 (Or.inl h2))]
    · rw [if_neg h2, if_neg (fun h3 => ((mem_take_succ ns [] k h s).1 h3).elim h2 h1)]
theorem entF_without {t : Tb} (hg : SM.Good t) {m : List UInt8} {ns : List (List UInt8)} (hp : ns.Perm (nmsOf t.L m)) (s : List UInt8) : without (entF t.L) ns s = entF (t.L.filter (fun e => decide (e.md ≠ m))) s := by
  have hu := srt_uniq hg.srt
  have hu2 : ((t.L.filter (fun e => decide (e.md ≠ m))).map (·.nm)).Nodup := hu.sublist (List.filter_sublist.map _)
  unfold without
  by_cases h1 : s ∈ ns
  · rw [if_pos h1]
    obtain ⟨e, he, hn, hd⟩ := nmsOf_mem (hp.mem_iff.1 h1)
    refine (entF_no fun x hx hxn => ?_).symm
    obtain ⟨hx1, hx2⟩ := List.mem_filter.1 hx
    have := uniq_nm hu hx1 he (hxn.trans hn.symm)
    rw [this] at hx2
    exact of_decide_eq_true hx2 hd
  · rw [if_neg h1]
    by_cases h2 : ∃ e ∈ t.L, e.nm = s
    · obtain ⟨e, he, rfl⟩ := h2
      have hd : e.md ≠ m := fun hd => h1 (hp.mem_iff.2 (List.mem_map.2 ⟨e, List.mem_filter.2 ⟨he, decide_eq_true hd⟩, rfl⟩))
      rw [entF_mem hu he, entF_mem hu2 (List.mem_filter.2 ⟨he, decide_eq_true hd⟩)]
    · rw [entF_no fun e he hn => h2 ⟨e, he, hn⟩, entF_no fun e he hn => h2 ⟨e, (List.mem_filter.1 he).1, hn⟩]
theorem nmsOf_less (l : List En) {m m' : List UInt8} (h : m' ≠ m) : nmsOf (l.filter (fun e => decide (e.md ≠ m))) m' = nmsOf l m' := by
  unfold nmsOf
  rw [List.filter_filter]
  congr 1
  refine List.filter_congr fun e _ => ?_
  by_cases h1 : e.md = m'
  · simp [h1, h]
  · simp [h1]
theorem remove_any {S : Nat → Prop} {w : World} {v : Value} {t : Tb} (h : PT S w v t) (hg : SM.Good t) (hb : t.mods.length ≤ 10000 ∧ t.L.length ≤ 80000) (m : List UInt8) (hm : m.length ≤ 9223372036854775807) :
    Calls Try.prog 20 #[v, .string (bs m)] w fun e u => e = .returned (.int .i64 (removeM t m).2) ∧ Chg S w v (removeM t m).1 u := by
  obtain ⟨a, be, bm, fm, rfl, h⟩ := h
  have HH := Lib.hid h
  have HG := Lib.hid hg
  have HB := Lib.hid hb
  have HM := Lib.hid hm
  have C1 := Lib.hid (has_any ⟨a, be, bm, fm, rfl, h⟩ hg hb m hm)
  have C2 := Lib.hid (fun (u : World) (hu : Below w.heap.size w u) => refs_any ⟨a, be, bm, fm, rfl, h.below hu⟩ hg hb m hm)
  have hbd := refsM_bd t.L m (fun e he => by have := hg.bd e he; omega)
  obtain ⟨M, hM⟩ : ∃ M, M = bs m := ⟨_, rfl⟩
  rw [← hM] at C1 C2 ⊢
  have HMM := Lib.hid hM
  unfold removeM
  clear h hg hb hm hM
  cases h1 : hasM t m
  · rw [if_pos rfl]
    rw [h1] at C1
    clear h1
    go_enter Try.func20, Try.ntmps20
    go_wp2_with (go_at_call 12; (with_reducible refine C1.out.mono ?_); rintro e w1 ⟨rfl, hb1⟩; have B := Lib.hid hb1; clear hb1 C1)
    go_ret
    exact ⟨rfl, HH.out.chg_below B.out⟩
  · rw [if_neg (by simp)]
    rw [h1] at C1
    have H1 := Lib.hid h1
    clear h1
    by_cases h2 : 0 < refsM t.L m
    · rw [if_pos h2]
      have H2 := Lib.hid h2
      generalize refsM t.L m = r at *
      have hr : r > 0 := H2.out
      clear h2
      go_enter Try.func20, Try.ntmps20
      go_wp2_with (first | (go_at_call 12; (with_reducible refine C1.out.mono ?_); rintro e w1 ⟨rfl, hb1⟩; have B := Lib.hid hb1; clear hb1 C1) | (go_at_call 32; (with_reducible refine (C2.out _ B.out).mono ?_); rintro e w2 ⟨rfl, hb1⟩; have B := Lib.hid (below_of B.out hb1); clear hb1 C2))
      go_ret
      exact ⟨rfl, HH.out.chg_below B.out⟩
    · rw [if_neg h2]
      have h0 : refsM t.L m = 0 := by omega
      rw [h0] at C2
      obtain ⟨b, n, c, names, hz, hr, hp⟩ := HH.out.names HG.out HM.out
      obtain ⟨n1, m1, m2⟩ := reads_len hr
      rw [strs_len] at n1
      unfold maxLen at m2
      have hnl : names.length ≤ 80000 := by
        rw [hp.length_eq]
        unfold nmsOf
        rw [List.length_map]
        have := List.length_filter_le (fun e : En => decide (e.md = m)) t.L
        have := HB.out
        omega
      have hn : n ≤ 80000 := by omega
      have hnc : (n : Int) ≤ c := by omega
      have HR := Lib.hid hr
      have HN := Lib.hid n1
      have HP := Lib.hid hp
      have HS := Lib.hid (fun k (hk : k < names.length) => show (names.getD k []).length ≤ maxLen by
        obtain ⟨e, he, h2, _⟩ := nmsOf_mem (hp.mem_iff.1 (getD_mem' (d := []) hk))
        rw [← h2]; exact HH.out.zn e he)
      have ha := HH.out.a_ne
      have hal := HH.out.hd.lt
      have hbe := HH.out.lt be HH.out.sb
      have hbm := HH.out.lt bm HH.out.sm
      have HNE := Lib.hid HH.out.ne
      have HA := Lib.hid ha
      have HLL := Lib.hid (fun (u : World) (hu : Below w.heap.size w u) => by
        have := (HH.out.below hu).mlook HM.out
        rw [hz, ← HMM.out] at this
        exact this)
      have HC := Lib.hid (fun (u : World) (hu : u.heap[a]? = w.heap[a]?) => show u.cell? ⟨a, 0, none⟩ = some (.map (some be)) ∧ u.cell? ⟨a, 1, none⟩ = some (.map (some bm)) from ⟨(HH.out.hd.as hu).cell 0, (HH.out.hd.as hu).cell 1⟩)
      clear hr n1 m1 m2 hp hz hnl h0 h2 hbd ha
      go_enter Try.func20, Try.ntmps20
      go_wp2_with (first | (go_at_call 12; (with_reducible refine C1.out.mono ?_); rintro e w1 ⟨rfl, hb1⟩; have B := Lib.hid hb1; clear hb1 C1) | (go_at_call 32; (with_reducible refine (C2.out _ B.out).mono ?_); rintro e w2 ⟨rfl, hb1⟩; have B := Lib.hid (below_of B.out hb1); clear hb1 C2; have hl := HLL.out _ B.out; have c1 := (HC.out _ (B.out.block a hal)).2))
      clear hl c1
      go_loopw [27] (fun v27 wr => ∃ k : Nat, k ≤ n ∧ v27 = .int .i64 (k : Int) ∧ Hid (ME wr be (without (entF t.L) (names.take k))) ∧ Hid (Fr (· = be) w wr)) (fun v27 _ => n - (intOf v27).toNat)
      case atStart => exact ⟨0, by omega, rfl, Lib.hid ((HH.out.en.below B.out hbe).as fun s _ => by simp [without]), Lib.hid (Fr.of_below B.out)⟩
      case round =>
        obtain ⟨k, hk, rfl, HE, HF⟩ := hrel
        have c0 := (HC.out wr (HF.out.block a hal HA.out.1)).1
        have c1 := (HC.out wr (HF.out.block a hal HA.out.1)).2
        by_cases hlt : k < n
        · have hltz : (k : Int) < n := by omega
          have k1 : k < names.length := by rw [HN.out]; exact hlt
          obtain ⟨g, off, rfl, q1, q2⟩ := reads_atG HR.out (u := wr) (fun g hg _ => HF.out.block g (HH.out.lt g hg.1) hg.2.1) hlt
          rw [strs_at k1] at q2
          have HSL := Lib.hid (HS.out k k1)
          have HK1 := Lib.hid k1
          clear k1 c1
          go_wp2_with (at_delete; refine wpList_delete_V rfl _ _ rfl Try.underlying9 Try.underlying36 rfl HE.out (names.getD k []) rfl HSL.out ?_; intro w5 hm5 hg5 _)
          have HF5 := Lib.hid (Fr_grown HF.out hg5 (fun i hi => Or.inl (Option.some.inj hi).symm))
          have HE5 := Lib.hid (hm5.as (g := without (entF t.L) (names.take (k + 1))) fun s _ => without_take _ _ k HK1.out s)
          clear hm5 hg5
          go_roundw
          case rel => exact ⟨k + 1, by omega, by go_num, HE5, HF5⟩
          case measure => simp [intOf]; omega
        · obtain rfl : k = n := by omega
          have hm0 := HH.out.md.same (HF.out.block bm hbm (fun e => HNE.out e.symm))
          have HM0 := Lib.hid hm0
          have HE1 := Lib.hid (HE.out.as (g := entF (t.L.filter (fun e => decide (e.md ≠ m)))) fun s _ => by rw [← entF_without HG.out HP.out, List.take_of_length_le (by rw [HN.out]; exact Nat.le_refl _)])
          clear hm0 HE c0
          go_wp2_with (at_delete; refine wpList_delete_V rfl _ _ rfl Try.underlying9 Try.underlying37 rfl HM0.out m (by rw [← HMM.out]; rfl) HM.out ?_; intro w5 hm5 hg5 _; have HM5 := Lib.hid hm5; have HG5 := Lib.hid hg5; clear hm5 hg5)
          go_ret
          refine ⟨rfl, S, ⟨a, be, bm, fun x => if x = m then none else fm x, rfl, ?_⟩, fun g hg => Or.inl hg, ?_⟩
          · have HF5 : Fr (fun g => g = be ∨ g = bm) w w5 := Fr_grown (HF.out.mono (S' := fun g => g = be ∨ g = bm) (fun i hi => Or.inl (Or.inl hi))) HG5.out (fun i hi => Or.inl (Or.inr (Option.some.inj hi).symm))
            refine ⟨HH.out.hd.as (HF5.block a hal (fun e => e.elim HA.out.1 HA.out.2)), HE1.out.kept HG5.out (fun e => HNE.out (Option.some.inj e)), HM5.out, ?_, HNE.out, HH.out.sa, HH.out.sb, HH.out.sm, fun g hg => Nat.lt_of_lt_of_le (HH.out.lt g hg) HF5.size, fun e he => HH.out.zn e (List.mem_filter.1 he).1, fun x hx => HH.out.zm x (List.mem_filter.1 hx).1⟩
            intro m' hm'
            constructor
            · intro hi
              obtain ⟨hi1, hi2⟩ := List.mem_filter.1 hi
              have hi2 : m' ≠ m := of_decide_eq_true hi2
              obtain ⟨b1, b2, b3, nms, h1, h2, h3⟩ := (HH.out.mi m' hm').1 hi1
              refine ⟨b1, b2, b3, nms, ?_, h2.keep fun g hg hgl => HF5.block g hgl (fun e => e.elim hg.2.1 hg.2.2), by rw [nmsOf_less _ hi2]; exact h3⟩
              show (if m' = m then none else fm m') = _
              rw [if_neg hi2, h1]
            · intro hi
              show (if m' = m then none else fm m') = none
              by_cases e : m' = m
              · rw [if_pos e]
              · rw [if_neg e]
                exact (HH.out.mi m' hm').2 (fun h => hi (List.mem_filter.2 ⟨h, decide_eq_true e⟩))
          · exact Fr_grown (HF.out.mono (S' := S) (fun i hi => Or.inl (by rw [hi]; exact HH.out.sb))) HG5.out (fun i hi => Or.inl (by rw [← Option.some.inj hi]; exact HH.out.sm))
end Go.Proofs.Ytleggfofgpiabaa.SP
