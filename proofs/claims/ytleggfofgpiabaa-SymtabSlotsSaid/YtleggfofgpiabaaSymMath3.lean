/-
  Layer 13 as lists alone: names counted up and down; a module added and removed; slots. Nothing here is a statement of the seed.
-/
import Derived.Test.YtleggfofgpiabaaSymMath2
set_option linter.unusedVariables false
set_option linter.unusedSimpArgs false
namespace Go.Proofs.Ytleggfofgpiabaa.SM
open NM
/-- each entry counted by how often its name stands there -/
def bump (by_ : Int) (ns : List (List UInt8)) (l : List En) : List En := l.map fun e => { e with refs := e.refs + by_ * ((ns.count e.nm : Nat) : Int) }
theorem bump_nil (by_ : Int) (l : List En) : bump by_ [] l = l := by
  unfold bump
  conv => rhs; rw [← List.map_id l]
  apply List.map_congr_left
  intro e _
  simp
theorem bump_names (by_ : Int) (ns : List (List UInt8)) (l : List En) : (bump by_ ns l).map (·.nm) = l.map (·.nm) := by simp [bump]
theorem bump_cons (by_ : Int) (n : List UInt8) (ns : List (List UInt8)) (l : List En) : bump by_ ns (bump by_ [n] l) = bump by_ (n :: ns) l := by
  unfold bump
  rw [List.map_map]
  apply List.map_congr_left
  intro e _
  simp only [Function.comp, En.mk.injEq, true_and, List.count_cons, List.count_nil]
  rw [Int.add_assoc, ← Int.mul_add]
  congr 2
  omega
/-- names stand once: the entry at a name's place is counted, no other -/
theorem bump_one (by_ : Int) : ∀ (l : List En) (n : List UInt8), (l.map (·.nm)).Nodup → 0 ≤ plc l n → l.set (plc l n).toNat { l.getD (plc l n).toNat e0 with refs := (l.getD (plc l n).toNat e0).refs + by_ } = bump by_ [n] l
  | [], n, _, h => by simp [plc] at h
  | e :: l, n, hd, h => by
    have hd2 := List.nodup_cons.1 (by simpa using hd : (e.nm :: l.map (·.nm)).Nodup)
    unfold plc at h ⊢
    by_cases h1 : e.nm = n
    · rw [if_pos h1]
      have hr : bump by_ [n] l = l := by
        unfold bump
        conv => rhs; rw [← List.map_id l]
        apply List.map_congr_left
        intro x hx
        have hne : x.nm ≠ n := fun h => hd2.1 (by rw [h1, ← h]; exact List.mem_map.2 ⟨x, hx, rfl⟩)
        have : List.count x.nm [n] = 0 := by rw [List.count_singleton]; simp [Ne.symm hne]
        simp [this]
      show _ = { e with refs := e.refs + by_ * ((List.count e.nm [n] : Nat) : Int) } :: bump by_ [n] l
      rw [hr]
      have : List.count e.nm [n] = 1 := by rw [List.count_singleton]; simp [h1]
      rw [this]
      simp
    · rw [if_neg h1] at h ⊢
      by_cases h2 : plc l n < 0
      · rw [if_pos h2] at h; omega
      · rw [if_neg h2] at h ⊢
        have ih := bump_one by_ l n hd2.2 (by omega)
        have e1 : (plc l n + 1).toNat = (plc l n).toNat + 1 := by omega
        rw [e1]
        simp only [List.set_cons_succ, List.getD_cons_succ]
        rw [ih]
        show _ = { e with refs := e.refs + by_ * ((List.count e.nm [n] : Nat) : Int) } :: bump by_ [n] l
        have : List.count e.nm [n] = 0 := by rw [List.count_singleton]; simp [Ne.symm h1]
        rw [this]
        simp
theorem cnt_bump (by_ : Int) : ∀ (ns : List (List UInt8)) (l : List En), (l.map (·.nm)).Nodup → (∀ n ∈ ns, 0 ≤ plc l n) → (cntF by_ l ns).2 = 0 → (cntF by_ l ns).1 = bump by_ ns l
  | [], l, _, _, _ => (bump_nil by_ l).symm
  | n :: ns, l, hd, hx, h => by
    rw [cntF_cons] at h ⊢
    split at h
    · simp at h
    · rename_i h1
      rw [if_neg h1]
      split at h
      · simp at h
      · rename_i h2
        rw [if_neg h2]
        have hb := bump_one by_ l n hd (hx n (List.mem_cons_self ..))
        rw [hb] at h ⊢
        rw [cnt_bump by_ ns _ (by rw [bump_names]; exact hd) (fun m hm => by rw [plc_names m (bump_names by_ [n] l)]; exact hx m (List.mem_cons_of_mem _ hm)) h, bump_cons]
theorem getD_mem {l : List En} {k : Nat} (h : k < l.length) : l.getD k e0 ∈ l := by rw [List.getD_eq_getElem?_getD, List.getElem?_eq_getElem h]; exact List.getElem_mem _
theorem bump_mem {by_ : Int} {ns : List (List UInt8)} {l : List En} {e : En} : e ∈ bump by_ ns l ↔ ∃ x ∈ l, e = { x with refs := x.refs + by_ * ((ns.count x.nm : Nat) : Int) } := by
  unfold bump
  rw [List.mem_map]
  constructor
  · rintro ⟨x, h, rfl⟩; exact ⟨x, h, rfl⟩
  · rintro ⟨x, h, rfl⟩; exact ⟨x, h, rfl⟩
/-- up: all goes well just where no entry would have more than eight -/
theorem cnt_up : ∀ (ns : List (List UInt8)) (l : List En), (l.map (·.nm)).Nodup → (∀ n ∈ ns, 0 ≤ plc l n) → (∀ e ∈ l, 0 ≤ e.refs ∧ e.refs ≤ 8) →
    ((cntF 1 l ns).2 = 0 ∧ (∀ e ∈ l, e.refs + ((ns.count e.nm : Nat) : Int) ≤ 8)) ∨ ((cntF 1 l ns).2 = 25 ∧ ∃ e ∈ l, 8 < e.refs + ((ns.count e.nm : Nat) : Int))
  | [], l, _, _, hr => Or.inl ⟨rfl, fun e he => by have := hr e he; simp; omega⟩
  | n :: ns, l, hd, hx, hr => by
    have hp := hx n (List.mem_cons_self ..)
    have hlt := plc_lt l n
    have hm := getD_mem (l := l) (k := (plc l n).toNat) (by omega)
    have hat := plc_at l n hp
    have h8 := hr _ hm
    have hb := bump_one 1 l n hd hp
    rw [cntF_cons]
    by_cases h1 : 8 < (l.getD (plc l n).toNat e0).refs + 1
    · rw [if_pos h1]
      refine Or.inr ⟨rfl, _, hm, ?_⟩
      rw [hat, List.count_cons_self]
      omega
    · rw [if_neg h1, if_neg (by omega), hb]
      have hr2 : ∀ e ∈ bump 1 [n] l, 0 ≤ e.refs ∧ e.refs ≤ 8 := fun e he => by
        rw [← hb] at he
        rcases List.mem_or_eq_of_mem_set he with he | rfl
        · exact hr e he
        · show 0 ≤ _ + 1 ∧ _ + 1 ≤ (8 : Int)
          omega
      have key : ∀ x : En, x.refs + 1 * ((List.count x.nm [n] : Nat) : Int) + ((ns.count x.nm : Nat) : Int) = x.refs + (((n :: ns).count x.nm : Nat) : Int) := fun x => by
        simp only [List.count_cons, List.count_nil]
        omega
      rcases cnt_up ns (bump 1 [n] l) (by rw [bump_names]; exact hd) (fun m hm => by rw [plc_names m (bump_names 1 [n] l)]; exact hx m (List.mem_cons_of_mem _ hm)) hr2 with ⟨h2, h3⟩ | ⟨h2, e, he, h3⟩
      · refine Or.inl ⟨h2, fun x hx' => ?_⟩
        have := h3 _ (bump_mem.2 ⟨x, hx', rfl⟩)
        simp only at this
        rw [key] at this
        exact this
      · obtain ⟨x, hx', rfl⟩ := bump_mem.1 he
        simp only at h3
        rw [key] at h3
        exact Or.inr ⟨h2, x, hx', h3⟩
/-- down: all goes well just where no entry would have fewer than none -/
theorem cnt_down : ∀ (ns : List (List UInt8)) (l : List En), (l.map (·.nm)).Nodup → (∀ n ∈ ns, 0 ≤ plc l n) → (∀ e ∈ l, 0 ≤ e.refs ∧ e.refs ≤ 8) →
    ((cntF (-1) l ns).2 = 0 ∧ (∀ e ∈ l, 0 ≤ e.refs - ((ns.count e.nm : Nat) : Int))) ∨ ((cntF (-1) l ns).2 = 2 ∧ ∃ e ∈ l, e.refs - ((ns.count e.nm : Nat) : Int) < 0)
  | [], l, _, _, hr => Or.inl ⟨rfl, fun e he => by have := hr e he; simp; omega⟩
  | n :: ns, l, hd, hx, hr => by
    have hp := hx n (List.mem_cons_self ..)
    have hlt := plc_lt l n
    have hm := getD_mem (l := l) (k := (plc l n).toNat) (by omega)
    have hat := plc_at l n hp
    have h8 := hr _ hm
    have hb := bump_one (-1) l n hd hp
    rw [cntF_cons, if_neg (by omega)]
    by_cases h1 : (l.getD (plc l n).toNat e0).refs + -1 < 0
    · rw [if_pos h1]
      refine Or.inr ⟨rfl, _, hm, ?_⟩
      rw [hat, List.count_cons_self]
      omega
    · rw [if_neg h1, hb]
      have hr2 : ∀ e ∈ bump (-1) [n] l, 0 ≤ e.refs ∧ e.refs ≤ 8 := fun e he => by
        rw [← hb] at he
        rcases List.mem_or_eq_of_mem_set he with he | rfl
        · exact hr e he
        · show 0 ≤ _ + -1 ∧ _ + -1 ≤ (8 : Int)
          omega
      have key : ∀ x : En, x.refs + (-1) * ((List.count x.nm [n] : Nat) : Int) - ((ns.count x.nm : Nat) : Int) = x.refs - (((n :: ns).count x.nm : Nat) : Int) := fun x => by
        simp only [List.count_cons, List.count_nil]
        omega
      rcases cnt_down ns (bump (-1) [n] l) (by rw [bump_names]; exact hd) (fun m hm => by rw [plc_names m (bump_names (-1) [n] l)]; exact hx m (List.mem_cons_of_mem _ hm)) hr2 with ⟨h2, h3⟩ | ⟨h2, e, he, h3⟩
      · refine Or.inl ⟨h2, fun x hx' => ?_⟩
        have := h3 _ (bump_mem.2 ⟨x, hx', rfl⟩)
        simp only at this
        rw [key] at this
        exact this
      · obtain ⟨x, hx', rfl⟩ := bump_mem.1 he
        simp only at h3
        rw [key] at h3
        exact Or.inr ⟨h2, x, hx', h3⟩
/-- all but how often it is held -/
def keyE (e : En) : List UInt8 × List UInt8 × Int × Int := (e.nm, e.md, e.gate, e.idx)
theorem key_set (l : List En) (k : Nat) (r : Int) : (l.set k { l.getD k e0 with refs := r }).map keyE = l.map keyE := by
  apply List.ext_getElem
  · simp
  · intro i h1 h2
    simp only [List.length_map, List.length_set] at h1
    simp only [List.getElem_map, List.getElem_set]
    split
    · next h => subst h; rw [List.getD_eq_getElem?_getD, List.getElem?_eq_getElem h1]; rfl
    · rfl
theorem cnt_key (by_ : Int) : ∀ (ns : List (List UInt8)) (l : List En), (cntF by_ l ns).1.map keyE = l.map keyE
  | [], l => rfl
  | n :: ns, l => by
    rw [cntF_cons]
    split
    · rfl
    · split
      · rfl
      · rw [cnt_key by_ ns, key_set]
theorem cnt_refs (by_ : Int) (hby : by_ = 1 ∨ by_ = -1) : ∀ (ns : List (List UInt8)) (l : List En), (∀ e ∈ l, 0 ≤ e.refs ∧ e.refs ≤ 8) → ∀ e ∈ (cntF by_ l ns).1, 0 ≤ e.refs ∧ e.refs ≤ 8
  | [], l, h => h
  | n :: ns, l, h => by
    rw [cntF_cons]
    split
    · exact h
    · split
      · exact h
      · refine cnt_refs by_ hby ns _ fun e he => ?_
        rcases List.mem_or_eq_of_mem_set he with he | rfl
        · exact h e he
        · show 0 ≤ _ + by_ ∧ _ + by_ ≤ (8 : Int)
          omega
theorem key_mem {l l' : List En} (h : l.map keyE = l'.map keyE) {e : En} (he : e ∈ l) : ∃ x ∈ l', keyE x = keyE e := by
  have : keyE e ∈ l'.map keyE := by rw [← h]; exact List.mem_map.2 ⟨e, he, rfl⟩
  obtain ⟨x, h1, h2⟩ := List.mem_map.1 this
  exact ⟨x, h1, h2⟩
theorem key_filter {l l' : List En} (h : l.map keyE = l'.map keyE) (m : List UInt8) : (l.filter (fun x => decide (x.md = m))).length = (l'.filter (fun x => decide (x.md = m))).length := by
  have e : ∀ l : List En, (l.filter (fun x => decide (x.md = m))).length = ((l.map keyE).filter (fun k => decide (k.2.1 = m))).length := fun l => by
    rw [List.filter_map, List.length_map]
    rfl
  rw [e, e, h]
theorem key_srt {l l' : List En} (h : l.map keyE = l'.map keyE) (hs : Srt l') : Srt l := by
  have e : ∀ l : List En, Srt l ↔ (l.map keyE).Pairwise (fun a b => lessB a.1 b.1 = true) := fun l => by
    unfold Srt
    rw [List.pairwise_map]
    rfl
  rw [e, h, ← e]
  exact hs
theorem good_key {t : Tb} (h : Good t) {l : List En} (hk : l.map keyE = t.L.map keyE) (hr : ∀ e ∈ l, 0 ≤ e.refs ∧ e.refs ≤ 8) : Good ⟨t.mods, l⟩ := by
  have hm : ∀ e ∈ l, ∃ x ∈ t.L, x.nm = e.nm ∧ x.md = e.md ∧ x.gate = e.gate ∧ x.idx = e.idx := fun e he => by
    obtain ⟨x, h1, h2⟩ := key_mem hk he
    unfold keyE at h2
    simp only [Prod.mk.injEq] at h2
    exact ⟨x, h1, h2.1, h2.2.1, h2.2.2.1, h2.2.2.2⟩
  refine ⟨fun e he => ?_, h.mds, fun e he => ?_, fun e he => ?_, key_srt hk h.srt, fun e he => ?_⟩
  · obtain ⟨x, h1, h2, _⟩ := hm e he
    rw [← h2]; exact h.nms x h1
  · obtain ⟨x, h1, _, _, h4, h5⟩ := hm e he
    have := h.bd x h1
    have := hr e he
    omega
  · obtain ⟨x, h1, _, h3, _⟩ := hm e he
    rw [← h3]; exact h.home x h1
  · obtain ⟨x, h1, _, h3, _, h5⟩ := hm e he
    have := h.ix x h1
    show e.idx < ((l.filter (fun y => decide (y.md = e.md))).length : Int)
    rw [key_filter hk, ← h3, ← h5]
    exact this
theorem good_count {t : Tb} (h : Good t) (ns : List (List UInt8)) (by_ : Int) (hby : by_ = 1 ∨ by_ = -1) : Good (countM t ns by_).1 := by
  unfold countM
  split
  · exact h
  · split
    · exact good_key h (cnt_key by_ ns t.L) (cnt_refs by_ hby ns t.L fun e he => ⟨(h.bd e he).2.2.2.2.1, (h.bd e he).2.2.2.2.2⟩)
    · exact h
/-- names held and let go as often leave all as it was -/
theorem hold_drop {t t' : Tb} (h : Good t) (ns : List (List UInt8)) (hc : countM t ns 1 = (t', 0)) : countM t' ns (-1) = (t, 0) ∧ (∀ n ∈ ns, 0 ≤ plc t'.L n ∧ 1 ≤ (t'.L.getD (plc t'.L n).toNat e0).refs ∧ (t'.L.getD (plc t'.L n).toNat e0).refs ≤ 8) ∧ t'.mods = t.mods := by
  have hr : ∀ e ∈ t.L, 0 ≤ e.refs ∧ e.refs ≤ 8 := fun e he => ⟨(h.bd e he).2.2.2.2.1, (h.bd e he).2.2.2.2.2⟩
  have hd := srt_uniq h.srt
  unfold countM at hc
  by_cases h1 : ∃ n ∈ ns, plc t.L n < 0
  · rw [if_pos h1] at hc; simp at hc
  rw [if_neg h1] at hc
  have hx : ∀ n ∈ ns, 0 ≤ plc t.L n := fun n hn => Classical.byContradiction fun hh => h1 ⟨n, hn, by omega⟩
  by_cases h2 : (cntF 1 t.L ns).2 = 0
  · rw [if_pos h2] at hc
    have e1 := cnt_bump 1 ns t.L hd hx h2
    simp only [Prod.mk.injEq, and_true] at hc
    subst hc
    rw [e1]
    have hb : ∀ e ∈ t.L, e.refs + ((ns.count e.nm : Nat) : Int) ≤ 8 := by
      rcases cnt_up ns t.L hd hx hr with ⟨_, h3⟩ | ⟨h3, _⟩
      · exact h3
      · rw [h3] at h2; simp at h2
    have hx2 : ∀ n ∈ ns, 0 ≤ plc (bump 1 ns t.L) n := fun n hn => by rw [plc_names n (bump_names 1 ns t.L)]; exact hx n hn
    have hr2 : ∀ e ∈ bump 1 ns t.L, 0 ≤ e.refs ∧ e.refs ≤ 8 := fun e he => by
      obtain ⟨x, h3, rfl⟩ := bump_mem.1 he
      have := hr x h3
      have := hb x h3
      simp only
      omega
    have hd2 : ((bump 1 ns t.L).map (·.nm)).Nodup := by rw [bump_names]; exact hd
    refine ⟨?_, fun n hn => ?_, rfl⟩
    · unfold countM
      rw [if_neg (by rintro ⟨n, hn, h3⟩; have := hx2 n hn; simp only at h3; omega)]
      have h0 : (cntF (-1) (bump 1 ns t.L) ns).2 = 0 := by
        rcases cnt_down ns _ hd2 hx2 hr2 with ⟨h3, _⟩ | ⟨_, e, he, h3⟩
        · exact h3
        · exfalso
          obtain ⟨x, h4, rfl⟩ := bump_mem.1 he
          have := hr x h4
          simp only at h3
          omega
      have e2 := cnt_bump (-1) ns _ hd2 hx2 h0
      simp only
      rw [if_pos h0, e2]
      have : bump (-1) ns (bump 1 ns t.L) = t.L := by
        unfold bump
        rw [List.map_map]
        conv => rhs; rw [← List.map_id t.L]
        apply List.map_congr_left
        intro e _
        simp only [Function.comp, id]
        cases e
        simp only [En.mk.injEq, true_and]
        omega
      rw [this]
    · have hp := hx2 n hn
      have hlt := plc_lt (bump 1 ns t.L) n
      have hm := getD_mem (l := bump 1 ns t.L) (k := (plc (bump 1 ns t.L) n).toNat) (by omega)
      have hat := plc_at _ n hp
      refine ⟨hp, ?_, (hr2 _ hm).2⟩
      obtain ⟨x, h4, h5⟩ := bump_mem.1 hm
      have hnm : x.nm = n := by rw [← hat, h5]
      have hpos : 0 < ns.count x.nm := by rw [hnm]; exact List.count_pos_iff.2 hn
      have := hr x h4
      show 1 ≤ ((bump 1 ns t.L).getD (plc (bump 1 ns t.L) n).toNat e0).refs
      rw [h5]
      simp only
      omega
  · rw [if_neg h2] at hc
    simp only [Prod.mk.injEq] at hc
    exact absurd hc.2 h2
/-- a module of a held entry is in use -/
theorem refs_pos {t : Tb} (h : Good t) {e : En} (he : e ∈ t.L) (hr : 1 ≤ e.refs) : 0 < refsM t.L e.md := by
  have hr2 : ∀ x ∈ t.L, 0 ≤ x.refs := fun x hx => (h.bd x hx).2.2.2.2.1
  obtain ⟨a, b, e1⟩ := List.append_of_mem he
  have nn : ∀ l : List En, (∀ x ∈ l, 0 ≤ x.refs) → 0 ≤ refsM l e.md := by
    intro l
    induction l with
    | nil => intro _; simp [refsM]
    | cons x l ih =>
      intro hl
      have h1 := hl x (List.mem_cons_self ..)
      have h2 := ih fun y hy => hl y (List.mem_cons_of_mem _ hy)
      simp only [refsM]
      split <;> omega
  have h1 := nn a fun x hx => hr2 x (by rw [e1]; exact List.mem_append_left _ hx)
  have h2 := nn b fun x hx => hr2 x (by rw [e1]; exact List.mem_append_right _ (List.mem_cons_of_mem _ hx))
  rw [e1, refsM_append]
  simp only [refsM, if_true]
  omega
theorem remove_held {t : Tb} (h : Good t) {e : En} (he : e ∈ t.L) (hr : 1 ≤ e.refs) : removeM t e.md = (t, 26) := by
  unfold removeM hasM
  rw [if_neg (by simpa using h.home e he), if_pos (refs_pos h he hr)]
/-- a module added and removed leaves all as it was -/
theorem add_remove {t t' : Tb} (h : Good t) (m : List UInt8) (g : Int) (xs : List (List UInt8)) (ha : addM t m g xs = (t', 0)) : hasM t' m = true ∧ refsM t'.L m = 0 ∧ removeM t' m = (t, 0) := by
  rcases add_cases t m g xs with ⟨_, h1⟩ | ⟨h1, h2, h3, h4, h5, h6, h7, h8, e⟩
  · rw [ha] at h1; simp at h1
  · rw [e] at ha
    simp only [Prod.mk.injEq, and_true] at ha
    subst ha
    have hne : ∀ e ∈ t.L, e.md ≠ m := fun e he h' => h7 (h' ▸ h.home e he)
    have h0 : refsM (putAll m g t.L 0 xs) m = 0 := by
      have hz : ∀ l : List En, (∀ e ∈ l, e.md = m → e.refs = 0) → refsM l m = 0 := by
        intro l
        induction l with
        | nil => intro _; rfl
        | cons x l ih =>
          intro hl
          simp only [refsM, ih fun y hy => hl y (List.mem_cons_of_mem _ hy)]
          split
          · next hx => rw [hl x (List.mem_cons_self ..) hx]; rfl
          · rfl
      refine hz _ fun e he hm => ?_
      rcases List.mem_append.1 ((putAll_perm m g xs t.L 0).mem_iff.1 he) with he | he
      · exact (news_mem m g xs 0 e he).2.2.2.2.2
      · exact absurd hm (hne e he)
    refine ⟨by unfold hasM; simp, h0, ?_⟩
    unfold removeM
    rw [if_neg (by unfold hasM; simp), if_neg (by simp only; rw [h0]; omega)]
    have e1 : (t.mods ++ [m]).filter (fun x => decide (x ≠ m)) = t.mods := by
      rw [List.filter_append, List.filter_eq_self.2 (fun x hx => by simpa using (fun e : x = m => h7 (e ▸ hx)))]
      simp
    have e2 : (putAll m g t.L 0 xs).filter (fun e => decide (e.md ≠ m)) = t.L := by
      rw [putAll_filter m g _ (fun x i => by simp)]
      exact List.filter_eq_self.2 fun e he => by simpa using hne e he
    simp only
    rw [e1, e2]
/-- slots of modules with gates of their own -/
structure SlotI (t : Tb) (i : Int) : Prop where
  good : Good t
  low : ∀ e ∈ t.L, e.refs = 0 ∧ e.gate < i
  uniq : (t.L.map slotM).Nodup
theorem slot_nil : SlotI ⟨[], []⟩ 0 := ⟨good_nil, fun _ h => (by cases h), by simp⟩
theorem slot_up {t : Tb} {i : Int} (h : SlotI t i) : SlotI t (i + 1) := ⟨h.good, fun e he => by have := h.low e he; omega, h.uniq⟩
theorem slot_add {t : Tb} {i : Int} (h : SlotI t i) (m : List UInt8) (xs : List (List UInt8)) : SlotI (addM t m i xs).1 (i + 1) := by
  rcases add_cases t m i xs with ⟨e, _⟩ | ⟨h1, h2, h3, h4, h5, h6, h7, h8, e⟩
  · rw [e]; exact slot_up h
  · have hg := good_add h.good m i xs
    rw [e] at hg ⊢
    have hp := putAll_perm m i xs t.L 0
    refine ⟨hg, fun e he => ?_, ?_⟩
    · rcases List.mem_append.1 (hp.mem_iff.1 he) with he | he
      · obtain ⟨_, _, h9, _, _, h10⟩ := news_mem m i xs 0 e he
        omega
      · have := h.low e he; omega
    · refine ((hp.map slotM).nodup_iff).2 ?_
      rw [List.map_append, List.nodup_append]
      refine ⟨news_slots m i xs 0, h.uniq, fun a ha b hb => ?_⟩
      obtain ⟨x, hx, rfl⟩ := List.mem_map.1 ha
      obtain ⟨y, hy, rfl⟩ := List.mem_map.1 hb
      obtain ⟨_, _, h9, h10, _, _⟩ := news_mem m i xs 0 x hx
      have := h.low y hy
      have := h.good.bd y hy
      unfold slotM
      omega
theorem slot_ne {t : Tb} {i : Int} (h : SlotI t i) {a b : Nat} (hab : b < a) (ha : a < t.L.length) : slotM (t.L.getD a e0) ≠ slotM (t.L.getD b e0) ∧ (t.L.getD a e0).nm ≠ (t.L.getD b e0).nm := by
  have g : ∀ k (hk : k < t.L.length), t.L.getD k e0 = t.L[k] := fun k hk => by rw [List.getD_eq_getElem?_getD, List.getElem?_eq_getElem hk]; rfl
  rw [g a ha, g b (by omega)]
  have u1 := List.pairwise_iff_getElem.1 h.uniq b a (by simp; omega) (by simpa using ha) hab
  have u2 := List.pairwise_iff_getElem.1 (srt_uniq h.good.srt) b a (by simp; omega) (by simpa using ha) hab
  simp only [List.getElem_map] at u1 u2
  exact ⟨fun e => u1 e.symm, fun e => u2 e.symm⟩
theorem slot_bd {t : Tb} (h : Good t) {a : Nat} (ha : a < t.L.length) : 0 ≤ slotM (t.L.getD a e0) ∧ slotM (t.L.getD a e0) ≤ 63 := by
  have := h.bd _ (getD_mem ha)
  unfold slotM
  omega
/-! how much a table can have after so many calls -/
theorem add_size (t : Tb) (m : List UInt8) (g : Int) (xs : List (List UInt8)) : (addM t m g xs).1.mods.length ≤ t.mods.length + 1 ∧ (addM t m g xs).1.L.length ≤ t.L.length + 8 := by
  rcases add_cases t m g xs with ⟨e, _⟩ | ⟨_, _, _, _, h5, _, _, _, e⟩
  · rw [e]; omega
  · rw [e]
    simp only [List.length_append, List.length_cons, List.length_nil, putAll_len]
    omega
theorem remove_size (t : Tb) (m : List UInt8) : (removeM t m).1.mods.length ≤ t.mods.length ∧ (removeM t m).1.L.length ≤ t.L.length := by
  rcases remove_cases t m with ⟨e, _⟩ | ⟨e, _⟩ | ⟨_, _, e⟩
  · rw [e]; omega
  · rw [e]; omega
  · rw [e]
    exact ⟨List.length_filter_le _ _, List.length_filter_le _ _⟩
theorem count_size (t : Tb) (ns : List (List UInt8)) (by_ : Int) : (countM t ns by_).1.mods.length = t.mods.length ∧ (countM t ns by_).1.L.length = t.L.length := by
  unfold countM
  split
  · exact ⟨rfl, rfl⟩
  · split
    · have := congrArg List.length (cntF_names by_ ns t.L)
      simp only [List.length_map] at this
      exact ⟨rfl, this⟩
    · exact ⟨rfl, rfl⟩
end Go.Proofs.Ytleggfofgpiabaa.SM
