/-
  The program lays a module and its entries; Add. Nothing here is a statement of the seed.
-/
import Derived.Test.YtajidaicojekdaaSymTw
set_option linter.unusedSimpArgs false
set_option linter.unusedVariables false
namespace Go.Proofs.Ytajidaicojekdaa.SP
open Go.RowKit WM NR OM OR SM SR MV
set_option maxHeartbeats 4000000
set_option maxRecDepth 10000
theorem entF_mem {l : List En} (hu : (l.map (·.nm)).Nodup) {e : En} (he : e ∈ l) : entF l e.nm = some (enV e) := by
  obtain ⟨h1, h2⟩ := plc_self hu he
  rw [entF_some (by omega), h2]
theorem entF_no {l : List En} {s : List UInt8} (h : ∀ e ∈ l, e.nm ≠ s) : entF l s = none := by
  refine entF_none ?_
  have h1 := plc_ge l s
  by_cases h0 : 0 ≤ plc l s
  · obtain ⟨e, he, h2⟩ := plc_mem.1 h0
    exact absurd h2 (h e he)
  · omega
/-- entries of one kind, in whatever order, tell the same -/
theorem entF_as {l l' : List En} (hu : (l.map (·.nm)).Nodup) (hu' : (l'.map (·.nm)).Nodup) (h : ∀ e, e ∈ l ↔ e ∈ l') (s : List UInt8) : entF l s = entF l' s := by
  by_cases hs : ∃ e ∈ l, e.nm = s
  · obtain ⟨e, he, rfl⟩ := hs
    rw [entF_mem hu he, entF_mem hu' ((h e).1 he)]
  · rw [entF_no (fun e he hn => hs ⟨e, he, hn⟩), entF_no (fun e he hn => hs ⟨e, (h e).2 he, hn⟩)]
theorem entF_putL {l : List En} (hu : (l.map (·.nm)).Nodup) {e : En} (he : ∀ x ∈ l, x.nm ≠ e.nm) (s : List UInt8) : entF (putL l e) s = if s = e.nm then some (enV e) else entF l s := by
  have hp := putL_perm l e
  have hu2 : ((putL l e).map (·.nm)).Nodup := by
    rw [(hp.map _).nodup_iff, List.map_cons, List.nodup_cons]
    refine ⟨fun hm => ?_, hu⟩
    obtain ⟨x, hx, h2⟩ := List.mem_map.1 hm
    exact he x hx h2
  by_cases h : s = e.nm
  · rw [if_pos h, h]
    exact entF_mem hu2 (putL_mem.2 (Or.inl rfl))
  · rw [if_neg h]
    by_cases hs : ∃ x ∈ l, x.nm = s
    · obtain ⟨x, hx, rfl⟩ := hs
      rw [entF_mem hu hx, entF_mem hu2 (putL_mem.2 (Or.inr hx))]
    · rw [entF_no (l := l) fun x hx hn => hs ⟨x, hx, hn⟩]
      refine entF_no fun x hx hn => ?_
      rcases putL_mem.1 hx with rfl | hx
      · exact h hn.symm
      · exact hs ⟨x, hx, hn⟩
theorem entF_in {l : List En} {s : List UInt8} (h : (entF l s).isSome = true) : s ∈ l.map (·.nm) := by
  rw [entF_isSome] at h
  obtain ⟨e, he, h2⟩ := plc_mem.1 (of_decide_eq_true h)
  exact List.mem_map.2 ⟨e, he, h2⟩
theorem getD_mem' {α : Type} {l : List α} {d : α} {k : Nat} (h : k < l.length) : l.getD k d ∈ l := by rw [List.getD_eq_getElem?_getD, List.getElem?_eq_getElem h]; exact List.getElem_mem _
theorem reads_atG {G : Nat → Prop} {w u : World} {a : Option Addr} {n c : Nat} {xs : List Value} (h : Reads G w (.slice a n c) xs) (hu : ∀ g, G g → g < w.heap.size → u.heap[g]? = w.heap[g]?) {k : Nat} (hk : k < n) : ∃ g off, a = some ⟨g, off, none⟩ ∧ n ≤ c ∧ u.cell? ⟨g, off + k, none⟩ = xs[k]? :=
  reads_at ((h.keep hu).there.mono (fun g hg => hg.2) : Reads (· < u.heap.size) u _ _) (Below.refl _ _) hk
theorem Fr_grown {S : Nat → Prop} {a b c : World} {row : Option Nat} (h : Fr S a b) (k : b.grownBy c row) (hr : ∀ i, row = some i → S i ∨ a.heap.size ≤ i) : Fr S a c :=
  h.trans (S' := fun i => row = some i) ⟨k.os, k.tape, k.output, k.size, fun i hi hn => k.block i hi (fun e => hn e.symm)⟩ hr
theorem Pt.a_ne {S : Nat → Prop} {u : World} {a be bm : Nat} {fm : List UInt8 → Option Value} {t : Tb} (h : Pt S u a be bm fm t) : a ≠ be ∧ a ≠ bm := by
  have h1 := h.hd
  unfold Whole at h1
  obtain ⟨D, ⟨es, clock, e1, _⟩, _⟩ := h.en
  obtain ⟨D', ⟨es', clock', e1', _⟩, _⟩ := h.md
  constructor
  · rintro rfl
    rw [e1] at h1
    cases h1
  · rintro rfl
    rw [e1'] at h1
    cases h1
theorem nmsOf_new {t : Tb} (hg : SM.Good t) {m : List UInt8} (hm : m ∉ t.mods) (g : Int) (xs : List (List UInt8)) : xs.Perm (nmsOf (putAll m g t.L 0 xs) m) := by
  have h1 := ((putAll_perm m g xs t.L 0).filter (fun e => decide (e.md = m))).map (·.nm)
  have h0 : t.L.filter (fun e => decide (e.md = m)) = [] := List.filter_eq_nil_iff.2 (fun e he hd => hm (by have := hg.home e he; rw [of_decide_eq_true hd] at this; exact this))
  have h2 : (news m g 0 xs).filter (fun e => decide (e.md = m)) = news m g 0 xs := List.filter_eq_self.2 (fun e he => decide_eq_true (news_mem m g xs 0 e he).2.1)
  rw [List.filter_append, h0, List.append_nil, h2, news_names] at h1
  exact h1.symm
theorem nmsOf_old {t : Tb} {m m' : List UInt8} (hne : m' ≠ m) (g : Int) (xs : List (List UInt8)) : nmsOf (putAll m g t.L 0 xs) m' = nmsOf t.L m' := by
  unfold nmsOf
  rw [putAll_filter m g _ (fun x i => decide_eq_false (fun e => hne e.symm))]
theorem infoStr : (Try.prog.info? 9).map (fun i => (i.zero, i.size, i.bytes)) = some (some (.string ⟨#[]⟩), 1, 16) := by kernel_rfl
/-- names of the first k exports are laid in order, no one twice -/
theorem putAll_uniq {t : Tb} (hg : SM.Good t) {m : List UInt8} {g : Int} {xs : List (List UInt8)} (hd : xs.Nodup) (hc : ∀ x ∈ xs, NM.chk x = 0) (hn : ∀ x ∈ xs, ∀ e ∈ t.L, e.nm ≠ x) (k : Nat) : ((putAll m g t.L 0 (xs.take k)).map (·.nm)).Nodup :=
  srt_uniq (srt_all m g (xs.take k) t.L 0 hg.srt hg.nms (fun x hx => hc x (List.mem_of_mem_take hx)) (hd.sublist (List.take_sublist k xs)) (fun x hx => hn x (List.mem_of_mem_take hx)))
theorem putAll_names {t : Tb} {m : List UInt8} {g : Int} {xs : List (List UInt8)} {k : Nat} {e : En} (he : e ∈ putAll m g t.L 0 (xs.take k)) : e ∈ t.L ∨ (e.nm ∈ xs.take k ∧ e.md = m) := by
  rcases List.mem_append.1 ((putAll_perm m g (xs.take k) t.L 0).mem_iff.1 he) with h | h
  · obtain ⟨h1, h2, _⟩ := news_mem m g _ 0 e h
    exact Or.inr ⟨h1, h2⟩
  · exact Or.inl h
theorem put_any {S : Nat → Prop} {w : World} {a be bm : Nat} {fm : List UInt8 → Option Value} {t : Tb} (h : Pt S w a be bm fm t) (hg : SM.Good t) (hb : t.mods.length ≤ 10000 ∧ t.L.length ≤ 80000) (m : List UInt8) (hm : NM.chk m = 0) (hmt : m ∉ t.mods) (g : Int) (hgt : 0 ≤ g ∧ g ≤ 7)
    {na : Option Addr} {nn nc : Nat} {xs : List (List UInt8)} (hx : Reads (fun g => ¬ S g ∧ g < w.heap.size) w (.slice na nn nc) (strs xs)) (h8 : xs.length ≤ 8) (hd : xs.Nodup) (hc : ∀ x ∈ xs, NM.chk x = 0) (hn : ∀ x ∈ xs, ∀ e ∈ t.L, e.nm ≠ x) :
    Calls Try.prog 34 #[.pointer (some ⟨a, 0, none⟩), .string (bs m), .int .i64 g, .slice na nn nc] w fun e u => e = .returned (.tuple #[]) ∧ Chg S w (.pointer (some ⟨a, 0, none⟩)) ⟨t.mods ++ [m], putAll m g t.L 0 xs⟩ u := by
  obtain ⟨i0, hi, hz0, hz1, hz2⟩ := info_parts infoStr
  obtain ⟨n1, m1, m2⟩ := reads_len hx
  rw [strs_len] at n1
  unfold maxLen at m2
  have hnn : nn ≤ 8 := by omega
  have m1' : (nn : Int) ≤ nc := by omega
  have HX := Lib.hid hx
  have HL := Lib.hid n1
  have HH := Lib.hid h
  have HG := Lib.hid hg
  have HB := Lib.hid hb
  have HD := Lib.hid hd
  have HC := Lib.hid hc
  have HN := Lib.hid hn
  have HM := Lib.hid hm
  have HT := Lib.hid hmt
  have HGT := Lib.hid hgt
  have CM := Lib.hid (NF.clone_any (bs m) w (by rw [bs_size]; have := NM.chk_short m hm; omega))
  obtain ⟨M, hM⟩ : ∃ M, M = bs m := ⟨_, rfl⟩
  rw [← hM] at CM ⊢
  have HMM := Lib.hid hM
  clear hx n1 m1 m2 h hg hb hd hc hn hm hmt hgt hM h8
  go_enter Try.func34, Try.ntmps34
  go_wp2_with (go_at_call 63; (with_reducible refine CM.out.mono ?_); rintro e w1 ⟨rfl, hb1⟩; have B1 := Lib.hid hb1; clear hb1)
  go_loopw [8, 15] (fun v8 v15 wr => ∃ (k : Nat) (q : Value), k ≤ nn ∧ v15 = .int .i64 (k : Int) ∧ q = v8 ∧ wr.ownsRow w.heap.size 9 1 q k (strs (xs.take k)) ∧ Hid (ME wr be (entF (putAll m g t.L 0 (xs.take k)))) ∧ Hid (Fr (· = be) w wr)) (fun _ v15 _ => nn - (intOf v15).toNat)
  case atStart => exact ⟨0, _, by omega, rfl, rfl, World.ownsRow_nil _ _ _ _, Lib.hid (HH.out.en.belowS B1.out), Lib.hid (Fr.of_below B1.out)⟩
  case round =>
    obtain ⟨k, q, hk, rfl, rfl, hown, HE, HF⟩ := hrel
    by_cases hlt : k < nn
    · have hltz : (k : Int) < nn := by omega
      have k1 : k < xs.length := by rw [HL.out]; exact hlt
      obtain ⟨gb, off, rfl, q1, c1⟩ := reads_atG HX.out (u := wr) (fun g hg _ => HF.out.block g hg.2 (fun e => hg.1 (by rw [e]; exact HH.out.sb))) hlt
      rw [strs_at k1] at c1
      have hxm := getD_mem' (l := xs) (d := []) k1
      have CX := Lib.hid (fun u => NF.clone_any (bs (xs.getD k [])) u (by rw [bs_size]; have := NM.chk_short _ (HC.out _ hxm); omega))
      have hn16 : (k + 1) * 16 ≤ 140737488355328 := by omega
      have hnm : k + 1 ≤ maxLen := by unfold maxLen; omega
      have UQ := Lib.hid (putAll_uniq HG.out (m := m) (g := g) HD.out HC.out HN.out k)
      have NE := Lib.hid (fun e (he : e ∈ putAll m g t.L 0 (xs.take k)) => show e.nm ≠ xs.getD k [] from by
        rcases putAll_names he with h1 | ⟨h1, _⟩
        · exact HN.out _ hxm e h1
        · intro e1
          rw [e1] at h1
          have h2 := HD.out.sublist (List.take_sublist (k + 1) xs)
          rw [take_succ_getD xs [] k k1, nodup_snoc] at h2
          exact h2.2 h1)
      have ET := Lib.hid (putAll_take m g t.L xs k k1)
      have EL := Lib.hid (putAll_len m g (xs.take k) t.L 0)
      obtain ⟨X, hX⟩ : ∃ X, X = bs (xs.getD k []) := ⟨_, rfl⟩
      rw [← hX] at c1 CX
      have HXX := Lib.hid hX
      have HXM := Lib.hid hxm
      have HK := Lib.hid k1
      clear hX hxm k1
      go_wp2_with (first
        | (go_at_call 63; (with_reducible refine (CX.out _).mono ?_); rintro e w2 ⟨rfl, hb2⟩; have hown2 := owns_below hown hb2; have HE2 := Lib.hid (HE.out.belowS hb2); have HF2 := Lib.hid (HF.out.then hb2); clear hb2 hown)
        | (at_builtin; refine wpList_append_own _ rfl _ _ 23 rfl w.heap.size 9 i0 (.string ⟨#[]⟩) 1 16 Try.underlying23 hi hz0 hz1 hz2 rfl (by decide) _ _ _ rfl (hown2.alloc _) ⟨w2.heap.size, 0, none⟩ 1 1 [.string X] rfl rfl ?c1 ?c2 hnm hn16 ?c5 ?_))
      case c1 =>
        intro j u hu
        cases j with
        | zero => simp at hu; subst hu; exact (Whole.new _ _ _).cell 0
        | succ j => simp at hu
      case c2 => intro u hu; simp at hu; subst hu; rfl
      case c5 => have := HF2.out.size; simp; omega
      intro v' w3 hown3 hgrow _
      have hrow : ∀ i, q.ownBlock = some i → i = be ∨ w.heap.size ≤ i := fun i hi => Or.inr (hown2.lt i hi).1
      have hbe := HH.out.lt be HH.out.sb
      have HE3 := Lib.hid ((HE2.out.below ((Below.refl w2.heap.size w2).alloc (Nat.le_refl _) (.cells #[.string X] 9)) HE2.out.lt).kept hgrow (fun e => by have := (hown2.lt be e.symm).1; omega))
      have HF3 := Lib.hid (Fr_grown (HF2.out.alloc (.cells #[.string X] 9)) hgrow hrow)
      obtain ⟨w4, hr4, hm4, hg4⟩ := HE3.out.put Try.underlying9 Try.underlying81 (l := (putAll m g t.L 0 (xs.take k)).map (·.nm)) (fun s _ hs => entF_in hs) (by rw [List.length_map, EL.out, List.length_take]; have := HB.out; unfold maxLen; omega) (s := xs.getD k []) (by have := NM.chk_short _ (HC.out _ HXM.out); unfold maxLen; omega) (v := enV ⟨xs.getD k [], m, g, (k : Int), 0⟩) rfl
      have HF4 := Lib.hid (Fr_grown HF3.out hg4 (fun i hi => Or.inl (Option.some.inj hi).symm))
      have hown4 := hown3.kept hg4 (by
        by_cases hv : v'.ownBlock = none
        · exact Or.inl hv
        · right
          intro e
          have := (hown3.lt be e).1
          omega)
      have HE4 := Lib.hid (hm4.as (g := entF (putAll m g t.L 0 (xs.take (k + 1)))) (fun s _ => by rw [ET.out, entF_putL UQ.out NE.out]))
      simp only [enV] at hr4
      rw [← HXX.out, ← HMM.out] at hr4
      have hc4 : ∀ u : World, u.heap[a]? = w.heap[a]? → u.cell? ⟨a, 0, none⟩ = some (.map (some be)) := fun u e => (HH.out.hd.as e).cell 0
      have ha := HH.out.a_ne
      have hal := HH.out.hd.lt
      have c0 := hc4 w3 (HF3.out.block a hal ha.1)
      have hst : strs (xs.take (k + 1)) = strs (xs.take k) ++ [.string X] := by rw [take_succ_getD xs [] k HK.out, HXX.out]; simp [strs]
      have hown4 : w4.ownsRow w.heap.size 9 1 v' (k + 1) (strs (xs.take (k + 1))) := by rw [hst]; exact hown4
      clear HE2 HE3 HF2 HF3 hown2 hown3 hgrow hrow hm4 hg4 hc4 ha hal hst
      go_wp2_with fail
      go_roundw
      case rel => exact ⟨k + 1, v', by omega, by go_num, rfl, hown4, HE4, HF4⟩
      case measure => simp [intOf]; omega
    · obtain rfl : k = nn := by omega
      have hxk : xs.take k = xs := List.take_of_length_le (by rw [HL.out]; exact Nat.le_refl _)
      rw [hxk] at hown
      have HE := Lib.hid (by have := HE.out; rw [hxk] at this; exact this : ME wr be (entF (putAll m g t.L 0 xs)))
      clear hxk
      have ha := HH.out.a_ne
      have hal := HH.out.hd.lt
      have hbe := HH.out.lt be HH.out.sb
      have hbm := HH.out.lt bm HH.out.sm
      have hne := HH.out.ne
      have c1 : wr.cell? ⟨a, 1, none⟩ = some (.map (some bm)) := (HH.out.hd.as (HF.out.block a hal ha.1)).cell 1
      have HM1 := HH.out.md.same (HF.out.block bm hbm (fun e => hne e.symm))
      obtain ⟨w4, hr4, hm4, hg4⟩ := HM1.put Try.underlying9 Try.underlying82 (l := t.mods) (fun s hs h1 => by
          by_cases hi : s ∈ t.mods
          · exact hi
          · rw [(HH.out.mi s hs).2 hi] at h1; cases h1) (by have := HB.out; unfold maxLen; omega) (s := m) (by have := NM.chk_short _ HM.out; unfold maxLen; omega) (v := q) rfl
      have HF4 := Lib.hid (Fr_grown (HF.out.mono (S' := fun g => g = be ∨ g = bm) (fun i hi => Or.inl (Or.inl hi))) hg4 (fun i hi => Or.inl (Or.inr (Option.some.inj hi).symm)))
      have hown4 := hown.kept hg4 (by
        by_cases hv : q.ownBlock = none
        · exact Or.inl hv
        · right
          intro e
          have := (hown.lt bm e).1
          omega)
      have HE4 := HE.out.kept hg4 (fun e => hne (Option.some.inj e))
      rw [← HMM.out] at hr4
      have hRd := Reads.of_owns hown4
      obtain ⟨qa, qn, qc, hq⟩ := hRd.form
      have R := Lib.hid (show Chg S w (.pointer (some ⟨a, 0, none⟩)) ⟨t.mods ++ [m], putAll m g t.L 0 xs⟩ w4 from by
        refine ⟨fun g => S g ∨ (w.heap.size ≤ g ∧ g < w4.heap.size ∧ q.ownBlock = some g), ⟨a, be, bm, _, rfl, ⟨HH.out.hd.as (HF4.out.block a hal (fun e => e.elim ha.1 ha.2)), HE4, hm4, ?_, hne, Or.inl HH.out.sa, Or.inl HH.out.sb, Or.inl HH.out.sm, ?_, ?_, ?_⟩⟩, ?_, HF4.out.mono ?_⟩
        · intro m' hm'
          constructor
          · intro hi
            by_cases e : m' = m
            · subst e
              refine ⟨qa, qn, qc, xs, by show (if m' = m' then some q else fm m') = _; rw [if_pos rfl, hq], ?_, nmsOf_new HG.out HT.out g xs⟩
              rw [← hq]
              exact hRd.there.mono fun g hg => ⟨Or.inr ⟨hg.1.1, hg.2, hg.1.2⟩, by have := hg.1.1; omega, by have := hg.1.1; omega⟩
            · have hi2 : m' ∈ t.mods := by
                rcases List.mem_append.1 hi with hi | hi
                · exact hi
                · simp at hi; exact absurd hi e
              obtain ⟨b1, b2, b3, nms, h1, h2, h3⟩ := (HH.out.mi m' hm').1 hi2
              refine ⟨b1, b2, b3, nms, by show (if m' = m then some q else fm m') = _; rw [if_neg e, h1], ?_, by rw [nmsOf_old e]; exact h3⟩
              exact (h2.keep fun g hg hgl => HF4.out.block g hgl (fun e => e.elim hg.2.1 hg.2.2)).mono fun g hg => ⟨Or.inl hg.1, hg.2⟩
          · intro hi
            simp only [List.mem_append, List.mem_singleton, not_or] at hi
            show (if m' = m then some q else fm m') = _
            rw [if_neg hi.2, (HH.out.mi m' hm').2 hi.1]
        · rintro g (hg | hg)
          · exact Nat.lt_of_lt_of_le (HH.out.lt g hg) HF4.out.size
          · exact hg.2.1
        · intro e he
          have he2 : e ∈ putAll m g t.L 0 (xs.take xs.length) := by rw [List.take_length]; exact he
          rcases putAll_names he2 with h1 | ⟨h1, _⟩
          · exact HH.out.zn e h1
          · have := NM.chk_short _ (HC.out _ (List.mem_of_mem_take h1)); unfold maxLen; omega
        · intro x hx
          rcases List.mem_append.1 hx with hx | hx
          · exact HH.out.zm x hx
          · simp at hx; subst hx
            have := NM.chk_short _ HM.out; unfold maxLen; omega
        · rintro g (hg | hg)
          · exact Or.inl hg
          · exact Or.inr hg.1
        · rintro i (hi | hi)
          · left; rw [hi]; exact HH.out.sb
          · left; rw [hi]; exact HH.out.sm)
      clear hown4 hRd hq HM1 HE4 hm4 hg4 HF4 HE ha hal hbe hbm hne
      go_wp2_with fail
      go_end0
      exact ⟨rfl, R.out⟩
end Go.Proofs.Ytajidaicojekdaa.SP
