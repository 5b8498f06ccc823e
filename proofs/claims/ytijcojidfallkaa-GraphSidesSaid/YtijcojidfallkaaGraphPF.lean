/-
  The program's Dependents: texts of its own, sorted by the library. Nothing here is a statement of the seed.
-/
import Derived.Test.YtijcojidfallkaaGraphPE
import Derived.Test.YtijcojidfallkaaShelf
import Derived.Sort.OwnSorted
set_option linter.unusedSimpArgs false
set_option linter.unusedVariables false
namespace Go.Proofs.Ytijcojidfallkaa.GP
open Go.RowKit WM NR OM OR GM GR MV GF
set_option maxHeartbeats 4000000
set_option maxRecDepth 10000
theorem sort_own {w : World} {B n : Nat} {v : Value} {ss : List Tx} (ho : w.ownsRow B 9 1 v n (strs ss)) (hn : ss.length = n) (hl : ss.length ≤ 80000) (hd : ss.Nodup) :
    Calls Try.prog 42 #[v] w fun e u => e = .returned (.tuple #[]) ∧ u.ownsRow B 9 1 v n (strs (setM ss)) ∧ w.grownBy u v.ownBlock := by
  subst hn
  have hls : (ss.mergeSort fun x y => decide (x ≤ y)).length = ss.length := by simp
  rw [← sort_set hd]
  rcases ho.2 with ⟨rfl, h0⟩ | ⟨g, cap, cur, rfl, hbase, hb, h1, h2, h3, h4⟩
  · obtain rfl : ss = [] := List.length_eq_zero_iff.1 h0
    refine (Try.slices_Sort_string_none none 0 w).mono ?_
    rintro e u ⟨he, rfl⟩
    exact ⟨he, by simpa using ho, grown_below _ (Below.refl _ _)⟩
  · refine (Try.slices_Sort_string g 0 cap ss w (holds_of_block hb (by rw [encStr_strs]; simpa using h4)) (Array.getElem?_eq_some_iff.1 hb).1 (by omega)).mono ?_
    rintro e u ⟨he, n, os, rfl⟩
    exact ⟨he, ownsRow_sorted hls hbase hb h1 h2 h3, grownBy_sorted _⟩
theorem dpt_rise {g : List Nd} (hg : GM.Good g) (m : Tx) : Rise (dptM g m) := hg.srt.sublist (List.filter_sublist.map _)
theorem dpt_mem {g : List Nd} {m s : Tx} : s ∈ dptM g m ↔ ∃ x ∈ g, x.nm = s ∧ m ∈ x.ds := by
  unfold dptM
  rw [List.mem_map]
  constructor
  · rintro ⟨x, hx, e⟩
    obtain ⟨h1, h2⟩ := List.mem_filter.1 hx
    exact ⟨x, h1, e, by simpa using h2⟩
  · rintro ⟨x, hx, e, h⟩
    exact ⟨x, List.mem_filter.2 ⟨hx, by simpa using h⟩, e⟩
/-- who has been found -/
structure Dp (g : List Nd) (m : Tx) (left : List UInt8 → Bool) (ns : List Tx) : Prop where
  nd : ns.Nodup
  mem : ∀ s, s ∈ ns ↔ ∃ x ∈ g, x.nm = s ∧ left s = false ∧ m ∈ x.ds
theorem Dp.len {g : List Nd} {m : Tx} {left : List UInt8 → Bool} {ns : List Tx} (h : Dp g m left ns) : ns.length ≤ g.length := nodup_len h.nd fun x hx => by
  obtain ⟨y, hy, e, _⟩ := (h.mem x).1 hx
  exact has_iff.2 ⟨y, hy, e⟩
theorem Dp.yes {g : List Nd} {m : Tx} {left : List UInt8 → Bool} {ns : List Tx} (h : Dp g m left ns) {x : Nd} (hx : x ∈ g) (hl : left x.nm = true) (hm : m ∈ x.ds) : Dp g m (fun y => left y && !decide (y = x.nm)) (ns ++ [x.nm]) := by
  have hni : x.nm ∉ ns := fun hi => by
    obtain ⟨_, _, _, h3, _⟩ := (h.mem _).1 hi
    rw [hl] at h3; cases h3
  refine ⟨List.nodup_append.2 ⟨h.nd, by simp, fun a ha b hb => by simp at hb; subst hb; exact fun e => hni (e ▸ ha)⟩, fun s => ?_⟩
  rw [List.mem_append, List.mem_singleton, h.mem s]
  constructor
  · rintro (⟨y, hy, h1, h2, h3⟩ | rfl)
    · exact ⟨y, hy, h1, by simp [h2], h3⟩
    · exact ⟨x, hx, rfl, by simp, hm⟩
  · rintro ⟨y, hy, h1, h2, h3⟩
    by_cases e : s = x.nm
    · exact Or.inr e
    · exact Or.inl ⟨y, hy, h1, by simpa [e] using h2, h3⟩
theorem Dp.no {g : List Nd} {m : Tx} {left : List UInt8 → Bool} {ns : List Tx} (h : Dp g m left ns) {x : Nd} (hu : ∀ y ∈ g, y.nm = x.nm → y = x) (hm : m ∉ x.ds) : Dp g m (fun y => left y && !decide (y = x.nm)) ns := by
  refine ⟨h.nd, fun s => ?_⟩
  rw [h.mem s]
  constructor
  · rintro ⟨y, hy, h1, h2, h3⟩
    exact ⟨y, hy, h1, by simp [h2], h3⟩
  · rintro ⟨y, hy, h1, h2, h3⟩
    by_cases e : s = x.nm
    · rw [hu y hy (h1.trans e)] at h3
      exact absurd h3 hm
    · exact ⟨y, hy, h1, by simpa [e] using h2, h3⟩
theorem Dp.done {g : List Nd} (hg : GM.Good g) {m : Tx} {left : List UInt8 → Bool} {ns : List Tx} (h : Dp g m left ns) (hl : ∀ x ∈ g, left x.nm = false) : setM ns = dptM g m := by
  refine rise_ext (rise_set ns) (dpt_rise hg m) fun s => ?_
  rw [mem_set, h.mem, dpt_mem]
  constructor
  · rintro ⟨y, hy, h1, h2, h3⟩
    exact ⟨y, hy, h1, h3⟩
  · rintro ⟨y, hy, rfl, h3⟩
    exact ⟨y, hy, rfl, hl y hy, h3⟩
section
variable {S : Nat → Prop} {w u : World} {a b : Nat} {k : Tx → Nat} {g : List Nd}
theorem dpt_any {v : Value} (h : PT S w v g) (hg : GM.Good g) (hb : g.length ≤ 100) (m : List UInt8) (hm : m.length ≤ 9223372036854775807) :
    Calls Try.prog 19 #[v, .string (bs m)] w (IsL w (dptM g m)) := by
  obtain ⟨i0, hi, hz0, hz1, hz2⟩ := info_parts infoStr
  obtain ⟨a, b, k, rfl, h⟩ := h
  have C1 := Lib.hid (all_any h)
  have HH := Lib.hid h
  have HG := Lib.hid hg
  have HBD := Lib.hid hb
  have HM := Lib.hid hm
  obtain ⟨x, hx⟩ : ∃ x, x = bs m := ⟨_, rfl⟩
  rw [← hx]
  have HX := Lib.hid hx
  have hbl := h.lt b h.sb
  obtain ⟨w2, cnt0, hr, hR, hb2, hs2⟩ := h.md.range Try.underlying9 (T := 50) Try.underlying50
  have HR0 := Lib.hid hR
  have HB2 := Lib.hid hb2
  have HBL := Lib.hid hbl
  clear h hb hm hg hx hR hb2 hs2 hbl
  go_enter Try.func19, Try.ntmps19
  go_wp2_with (go_at_call 41; (with_reducible refine C1.out.mono ?_); rintro e w1 ⟨rfl, hw1⟩; subst w1)
  clear hr
  obtain ⟨r0, hr0⟩ : ∃ r, r = w.heap.size := ⟨_, rfl⟩
  rw [← hr0] at HR0 ⊢
  have HR00 := Lib.hid hr0
  clear hr0
  go_loopw [5] (fun v5 wr => ∃ (left : List UInt8 → Bool) (cnt : Nat) (ns : List Tx) (q : Value), q = v5 ∧ Hid (RangeV Try.prog 9 any wr b r0 (nodF k g) left cnt) ∧ Hid (Below w.heap.size w wr) ∧ wr.ownsRow (w.heap.size + 1) 9 1 q ns.length (strs ns) ∧ Hid (Dp g m left ns)) (fun _ wr => wr.rangeLeft b r0)
  case atStart => exact ⟨_, cnt0, [], _, rfl, HR0, HB2, World.ownsRow_nil _ _ _ _, Lib.hid ⟨List.nodup_nil, fun s => ⟨fun h => by (cases h), fun ⟨y, hy, e, hl, _⟩ => by rw [nodF_isSome, has_iff.2 ⟨y, hy, e⟩] at hl; cases hl⟩⟩⟩
  case round =>
    obtain ⟨left, cnt, ns, q, rfl, HRG, HB, hown, HD⟩ := hrel
    have HO := Lib.hid hown
    go_wp2_with (at_next; refine wpList_next_V rfl _ rfl Try.underlying9 (fun c : Nat => .map (some c)) (nodF_mk k g) rfl HRG.out ?_ ?_)
    · intro hl0
      have HE := Lib.hid (HD.out.done HG.out fun x hx => hl0 x.nm (HH.out.zn x hx))
      clear hl0 hown
      have C := Lib.hid (sort_own HO.out rfl (by have := HD.out.len; have := HBD.out; omega) HD.out.nd)
      rw [HE.out] at C
      have HQB := Lib.hid (fun j (hj : q.ownBlock = some j) => (HO.out.lt j hj).1)
      have HLN : Hid (ns.length = (dptM g m).length) := Lib.hid (by
        rw [← HE.out]
        have hp := List.mergeSort_perm ns (fun x y => decide (x ≤ y))
        rw [← sort_set HD.out.nd]
        simp)
      clear HE
      generalize dptM g m = d at *
      go_wp2_with (go_at_call 42; (with_reducible refine C.out.mono ?_); rintro e w5 ⟨rfl, ho5, hg5⟩; have HO5 := Lib.hid ho5; have HG5 := Lib.hid hg5; clear ho5 hg5)
      go_ret
      exact isL_own HO5.out HLN.out.symm (HB.out.grown HG5.out HB.out.size (fun j hj => by have := HQB.out j hj; omega))
    · intro s c w4 cnt4 hs hlk hf hrg hlt4 hg4 hsz4 hen
      obtain ⟨hns, hc⟩ := nodF_some hf
      obtain rfl : c = k s := by simpa using hc
      obtain ⟨x', hx', rfl⟩ := has_iff.1 hns
      have hB4 := HB.out.grown hg4 HB.out.size (fun j hj => by cases hj; exact Nat.le_of_eq HR00.out.symm)
      have hown4 := hown.kept hg4 (by
        by_cases hv : q.ownBlock = none
        · exact Or.inl hv
        · right
          intro e
          have := (hown.lt _ e).1
          have := HR00.out
          omega)
      have C := Lib.hid (fun u (hu : Below w4.heap.size w4 u) => sethas_any ((HH.out.st x' hx').same (u' := u) (by
        have hl := HH.out.lt _ (HH.out.sk x' hx')
        rw [hu.block _ (Nat.lt_of_lt_of_le hl hB4.size), hB4.block _ hl])) m HM.out)
      have HRG4 := Lib.hid hrg
      have HB4 := Lib.hid hB4
      have HXX := Lib.hid hx'
      rw [← HX.out] at C
      have HUQ := Lib.hid (fun (y : Nd) (hy : y ∈ g) (e : y.nm = x'.nm) => uniq_nm HG.out.uq hy hx' e)
      have hnl := HD.out.len
      have hbd := HBD.out
      have hn16 : (ns.length + 1) * 16 ≤ 140737488355328 := by omega
      have hnm : ns.length + 1 ≤ maxLen := by unfold maxLen; omega
      have HLK := Lib.hid hlk
      have HSZ := Lib.hid (show w.heap.size + 1 ≤ w4.heap.size by have := hrg.lt; have := HR00.out; omega)
      obtain ⟨d, hd⟩ : ∃ d, d = decide (m ∈ x'.ds) := ⟨_, rfl⟩
      rw [← hd] at C
      have HDD := Lib.hid hd
      obtain ⟨y, hy⟩ : ∃ y, y = bs x'.nm := ⟨_, rfl⟩
      have HY := Lib.hid hy
      rw [← hy] at hen ⊢
      clear hs hlk hf hrg hg4 hsz4 hns hc hx' hB4 hd hown hy hnl hbd
      generalize k x'.nm = c' at *
      cases d with
      | true =>
        go_wp2_with (first
          | (go_at_call 37; (with_reducible refine (C.out _ (Below.refl _ _)).mono ?_); rintro e w5 ⟨rfl, hb5⟩; have hown5 := owns_below hown4 hb5; have HRG5 := Lib.hid (HRG4.out.belowS hb5); have HB5 := Lib.hid (below_of HB4.out hb5); have HS5 := Lib.hid (Nat.le_trans HSZ.out hb5.size); clear hb5 hown4)
          | (at_builtin; refine wpList_append_own _ rfl _ _ 32 rfl (w.heap.size + 1) 9 i0 (.string ⟨#[]⟩) 1 16 Try.underlying32 hi hz0 hz1 hz2 rfl (by decide) _ _ _ rfl (hown5.alloc _) ⟨w5.heap.size, 0, none⟩ 1 1 [.string y] rfl rfl ?c1 ?c2 hnm hn16 ?c5 ?_))
        case c1 =>
          intro j u hu
          cases j with
          | zero => simp at hu; subst hu; exact (Whole.new _ _ _).cell 0
          | succ j => simp at hu
        case c2 => intro u hu; simp at hu; subst hu; rfl
        case c5 => have := HS5.out; simp; omega
        intro v' w6 hown6 hgrow _
        have hql : ∀ j, q.ownBlock = some j → w.heap.size + 1 ≤ j := fun j hj => (hown5.lt j hj).1
        have hal := (Below.refl w5.heap.size w5).alloc (Nat.le_refl _) (.cells #[.string y] 9)
        have HRG6 := Lib.hid ((HRG5.out.belowS hal).kept hgrow (fun e => by have := hql _ e.symm; have := HBL.out; omega) (fun e => by have := hql _ e.symm; have := HR00.out; omega))
        have HB6 := Lib.hid ((below_of HB5.out hal).grown hgrow (by have := hal.size; have := HS5.out; omega) (fun j hj => by have := hql j hj; omega))
        have hown7 : w6.ownsRow (w.heap.size + 1) 9 1 v' (ns ++ [x'.nm]).length (strs (ns ++ [x'.nm])) := by
          have : strs (ns ++ [x'.nm]) = strs ns ++ [.string y] := by rw [HY.out]; simp [strs]
          rw [this, List.length_append]
          exact hown6
        have HO7 := Lib.hid hown7
        clear hown6 hown7 hown5 hgrow hql hal
        go_wp2_with fail
        go_roundw
        case rel => exact ⟨_, cnt4, _, _, rfl, HRG6, HB6, HO7.out, Lib.hid (HD.out.yes HXX.out HLK.out (of_decide_eq_true HDD.out.symm))⟩
        case measure => rw [HRG6.out.left_eq, HRG.out.left_eq]; omega
      | false =>
        go_wp2_with (go_at_call 37; (with_reducible refine (C.out _ (Below.refl _ _)).mono ?_); rintro e w5 ⟨rfl, hb5⟩; have hown5 := owns_below hown4 hb5; have HRG5 := Lib.hid (HRG4.out.belowS hb5); have HB5 := Lib.hid (below_of HB4.out hb5); clear hb5 hown4)
        go_roundw
        case rel => exact ⟨_, cnt4, ns, _, rfl, HRG5, HB5, hown5, Lib.hid (HD.out.no HUQ.out (of_decide_eq_false HDD.out.symm))⟩
        case measure => rw [HRG5.out.left_eq, HRG.out.left_eq]; omega
end
end Go.Proofs.Ytijcojidfallkaa.GP
