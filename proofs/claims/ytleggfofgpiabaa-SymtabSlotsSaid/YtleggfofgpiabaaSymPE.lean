/-
  Joined texts: SymPE, SymPF, SymPG. Nothing here is a statement of the seed.
-/
import Derived.Test.YtleggfofgpiabaaSymCo
import Derived.Test.YtleggfofgpiabaaSortTop
import Derived.Test.YtleggfofgpiabaaNameLess
import Derived.Deep.Onto
import Derived.Deep.RegionHeld3
set_option linter.unusedSimpArgs false
set_option linter.unusedVariables false
/-
  The program's list: math of the sorted row. Nothing here is a statement of the seed.
-/
namespace Go.Proofs.Ytleggfofgpiabaa.SP
open Go.RowKit Go.Sort WM NR OM OR SM SR MV
set_option maxHeartbeats 4000000
set_option maxRecDepth 10000
abbrev TE : TypeId := 33
/-- an element of the row: a place of the table's list -/
def encI (l : List En) (x : Nat) : List Value := enC (l.getD (x % l.length) e0)
def ltI (n : Nat) (x y : Nat) : Bool := decide (x % n < y % n)
theorem encI_len (l : List En) (x : Nat) : (encI l x).length = 5 := rfl
theorem encI_one (l : List En) (x : Nat) : ∀ v ∈ encI l x, v.oneCell' = true := by
  intro v hv
  simp only [encI, List.mem_cons, List.not_mem_nil, or_false] at hv
  rcases hv with rfl | rfl | rfl | rfl | rfl <;> rfl
theorem ltI_swo (n : Nat) : SWO (ltI n) :=
  ⟨fun x => by simp [ltI], fun x y z h1 h2 => by simp [ltI] at *; omega, fun x y z h1 h2 => by simp [ltI] at *; omega⟩
theorem perm_map_inv {α β : Type} (f : α → β) : ∀ {c m : List β}, c.Perm m → ∀ r : List α, m = r.map f → ∃ d : List α, d.Perm r ∧ c = d.map f := by
  intro c m h
  induction h with
  | nil =>
    intro r hr
    exact ⟨r, List.Perm.refl _, hr⟩
  | @cons x a b h ih =>
    intro r hr
    cases r with
    | nil => simp at hr
    | cons y r =>
      simp only [List.map_cons, List.cons.injEq] at hr
      obtain ⟨d, hd, hc⟩ := ih r hr.2
      exact ⟨y :: d, hd.cons y, by rw [List.map_cons, ← hc, hr.1]⟩
  | swap x y l =>
    intro r hr
    cases r with
    | nil => simp at hr
    | cons a r =>
      cases r with
      | nil => simp at hr
      | cons b r =>
        simp only [List.map_cons, List.cons.injEq] at hr
        exact ⟨b :: a :: r, List.Perm.swap _ _ _, by simp only [List.map_cons]; rw [← hr.1, ← hr.2.1, ← hr.2.2]⟩
  | trans h1 h2 ih1 ih2 =>
    intro r hr
    obtain ⟨d2, p2, e2⟩ := ih2 r hr
    obtain ⟨d1, p1, e1⟩ := ih1 d2 e2
    exact ⟨d1, p1.trans p2, e1⟩
theorem getD_range (l : List En) : l = (List.range l.length).map (fun i => l.getD i e0) := by
  refine List.ext_getElem (by simp) fun i h1 h2 => ?_
  simp [List.getD_eq_getElem?_getD, h1]
theorem perm_index {l c : List En} (h : c.Perm l) : ∃ d : List Nat, d.Perm (List.range l.length) ∧ c = d.map (fun i => l.getD i e0) :=
  perm_map_inv _ h _ (getD_range l)
/-- what is sorted is the list itself -/
theorem sorted_range {n : Nat} {d : Array Nat} (hp : d.toList.Perm (List.range n)) (hs : SortedIn (ltI n) 0 d.size d) : d.toList = List.range n := by
  have hlt : ∀ x ∈ d.toList, x < n := fun x hx => List.mem_range.1 (hp.mem_iff.1 hx)
  refine hp.eq_of_pairwise (le := fun a b => a ≤ b) (fun a b _ _ h1 h2 => Nat.le_antisymm h1 h2) ?_ ?_
  · rw [List.pairwise_iff_getElem]
    intro i j hi hj hij
    rw [Array.length_toList] at hi hj
    have h := hs i j (Nat.zero_le _) hij hj
    rw [getElem!_pos d i hi, getElem!_pos d j hj] at h
    have a := hlt d[i] (Array.getElem_mem_toList hi)
    have b := hlt d[j] (Array.getElem_mem_toList hj)
    simp only [ltI, Nat.mod_eq_of_lt a, Nat.mod_eq_of_lt b, decide_eq_false_iff_not, Nat.not_lt] at h
    simpa using h
  · exact List.pairwise_lt_range.imp fun h => Nat.le_of_lt h
theorem flatI {l : List En} {d : Array Nat} (hd : ∀ x ∈ d.toList, x < l.length) : flatK (encI l) 5 d = (eC (d.toList.map (fun i => l.getD i e0))).toArray := by
  have hl : (eC (d.toList.map (fun i => l.getD i e0))).length = d.size * 5 := by rw [eC_len, List.length_map, Array.length_toList]
  refine ext_get! (by rw [size_flatK]; exact hl.symm) fun t ht => ?_
  have ht' : t < d.size * 5 := by simpa using ht
  rw [get_flatK _ _ _ t ht']
  have hj : t / 5 < d.size := by omega
  have hx := hd d[t / 5] (Array.getElem_mem_toList hj)
  have hat := eC_at (d.toList.map (fun i => l.getD i e0)) (t / 5) (by simpa using hj)
  have hg : (d.toList.map (fun i => l.getD i e0)).getD (t / 5) e0 = l.getD d[t / 5] e0 := by
    rw [List.getD_eq_getElem?_getD, List.getElem?_map, Array.getElem?_toList, Array.getElem?_eq_getElem hj]
    rfl
  rw [hg] at hat
  rw [getElem!_pos d _ hj]
  have hr : ((eC (d.toList.map (fun i => l.getD i e0))).toArray)[t]! = ((eC (d.toList.map (fun i => l.getD i e0)))[t]?).getD default := by
    rw [getElem!_pos _ t (by rw [List.size_toArray, hl]; exact ht'), List.getElem_toArray, List.getElem?_eq_getElem (by rw [hl]; exact ht')]
    rfl
  rw [hr]
  unfold encI
  rw [Nat.mod_eq_of_lt hx]
  obtain ⟨a0, a1, a2, a3, a4⟩ := hat
  have h5 : t = t / 5 * 5 + t % 5 := by omega
  have h6 : t % 5 < 5 := Nat.mod_lt _ (by omega)
  generalize t % 5 = r at h5 h6 ⊢
  generalize t / 5 = q at *
  subst h5
  match r, h6 with
  | 0, _ => rw [show q * 5 + 0 = q * 5 from rfl, a0]; rfl
  | 1, _ => rw [a1]; rfl
  | 2, _ => rw [a2]; rfl
  | 3, _ => rw [a3]; rfl
  | 4, _ => rw [a4]; rfl
theorem own_holds {w : World} {B n : Nat} {v : Value} {l c : List En} (h : w.ownsRow B TE 5 v n (eC c)) (hn : 0 < n) {d : Array Nat} (hc : c = d.toList.map (fun i => l.getD i e0)) (hd : ∀ x ∈ d.toList, x < l.length) (hs : d.size = n) :
    ∃ g cap cs, v = .slice (some ⟨g, 0, none⟩) n cap ∧ B ≤ g ∧ w.heap[g]? = some (.cells cs TE (0, 0)) ∧ cs.size = cap * 5 ∧ n ≤ cap ∧ cap ≤ maxLen ∧ HoldsK (encI l) 5 w g 0 d := by
  rcases h.2 with ⟨_, h0⟩ | ⟨g, cap, cur, rfl, hg, hcell, hcap, hcm, hsz, hcur⟩
  · omega
  · refine ⟨g, cap, cur, rfl, hg, hcell, hsz, hcap, hcm, ?_⟩
    intro j hj
    have hj' : j < n * 5 := by simpa [hs] using hj
    have W : Whole w g TE cur := hcell
    refine ⟨?_, W.frozen _⟩
    rw [Nat.zero_add, h.cellAt j (by omega), flatI hd, ← hc]
    have hl := h.1
    rw [getElem!_pos _ j (by simp; omega), List.getElem_toArray, List.getElem?_eq_getElem (by omega)]
    rfl
theorem holds_own {w : World} {B g cap : Nat} {l : List En} {cs : Array Value} (hg : B ≤ g) (hcell : w.heap[g]? = some (.cells cs TE (0, 0))) (hsz : cs.size = cap * 5) (hcap : l.length ≤ cap) (hcm : cap ≤ maxLen) {d : Array Nat} (hd : d.toList = List.range l.length) (hH : HoldsK (encI l) 5 w g 0 d) :
    w.ownsRow B TE 5 (.slice (some ⟨g, 0, none⟩) l.length cap) l.length (eC l) := by
  refine ⟨eC_len l, Or.inr ⟨g, cap, cs, rfl, hg, hcell, hcap, hcm, hsz, ?_⟩⟩
  have hds : d.size = l.length := by rw [← Array.length_toList, hd, List.length_range]
  have hfl := flatI (l := l) (d := d) (fun x hx => by rw [hd] at hx; exact List.mem_range.1 hx)
  rw [hd, ← getD_range] at hfl
  have hl := eC_len l
  apply List.ext_getElem?
  intro j
  by_cases hj : j < l.length * 5
  · rw [List.getElem?_take_of_lt hj]
    have h1 := (hH j (by simpa [hds] using hj)).1
    have W : Whole w g TE cs := hcell
    rw [Nat.zero_add, W.cell, hfl] at h1
    rw [Array.getElem?_toList, h1, getElem!_pos _ j (by simp; omega), List.getElem_toArray, List.getElem?_eq_getElem (by omega)]
    rfl
  · rw [List.getElem?_take_eq_none (by omega), List.getElem?_eq_none (by omega)]
end Go.Proofs.Ytleggfofgpiabaa.SP

/-
  The program's list: what compares. Nothing here is a statement of the seed.
-/
namespace Go.Proofs.Ytleggfofgpiabaa.SP
open Go.RowKit WM NR OM OR SM SR MV
set_option maxHeartbeats 4000000
set_option maxRecDepth 10000
theorem lessB_at {t : Tb} (hg : SM.Good t) {x y : Nat} (hx : x < t.L.length) (hy : y < t.L.length) : NM.lessB (t.L.getD x e0).nm (t.L.getD y e0).nm = decide (x < y) := by
  have hP := List.pairwise_iff_getElem.1 hg.srt
  have gx : t.L.getD x e0 = t.L[x] := by rw [List.getD_eq_getElem?_getD, List.getElem?_eq_getElem hx]; rfl
  have gy : t.L.getD y e0 = t.L[y] := by rw [List.getD_eq_getElem?_getD, List.getElem?_eq_getElem hy]; rfl
  rw [gx, gy]
  rcases Nat.lt_trichotomy x y with h | h | h
  · rw [decide_eq_true h, hP x y hx hy h]
  · subst h; rw [NM.lessB_irr]; simp
  · rw [decide_eq_false (by omega)]
    exact NM.lessB_asym _ _ (hg.nms _ (List.getElem_mem hy)) (hg.nms _ (List.getElem_mem hx)) (hP y x hy hx h)
theorem less_lit {w : World} {B g cap n i j : Nat} (X Y : List UInt8) (hX : X.length ≤ 9223372036854775807) (hY : Y.length ≤ 9223372036854775807) {b : Bool} (hb : NM.lessB X Y = b)
    (k0 : w.cell? ⟨B, 0, none⟩ = some (.slice (some ⟨g, 0, none⟩) n cap)) (k1 : w.cell? ⟨g, i * 5, none⟩ = some (.string (bs X))) (k2 : w.cell? ⟨g, j * 5, none⟩ = some (.string (bs Y)))
    (hi : i < n) (hj : j < n) (hn : n ≤ 80000) (hcap : n ≤ cap) :
    Calls Try.prog 16 #[.int .i64 i, .int .i64 j, .pointer (some ⟨B, 0, none⟩)] w fun e w' => e = .returned (.bool b) ∧ Go.RowKit.Below w.heap.size w w' := by
  have C := Lib.hid (fun u => NF.lessS (bs X) (bs Y) (by rw [bs_size]; exact hX) (by rw [bs_size]; exact hY) b hb u)
  have HK := Lib.hid (fun (u : World) (h : Below w.heap.size w u) => show u.cell? ⟨B, 0, none⟩ = some (.slice (some ⟨g, 0, none⟩) n cap) ∧ u.cell? ⟨g, i * 5, none⟩ = some (.string (bs X)) ∧ u.cell? ⟨g, j * 5, none⟩ = some (.string (bs Y)) from
    ⟨(h.cell (p := ⟨B, 0, none⟩) (World.block_lt_of_cell? w _ k0)).trans k0, (h.cell (p := ⟨g, i * 5, none⟩) (World.block_lt_of_cell? w _ k1)).trans k1, (h.cell (p := ⟨g, j * 5, none⟩) (World.block_lt_of_cell? w _ k2)).trans k2⟩)
  generalize bs X = X at *
  generalize bs Y = Y at *
  have hi0 : (i : Int) < n := by omega
  have hj0 : (j : Int) < n := by omega
  have hc0 : (n : Int) ≤ cap := by omega
  clear k0 k1 k2 hb hX hY
  go_enter Try.func16, Try.ntmps16
  go_upto_region 1 with fail
  have hW : Below w.heap.size w w.drew := (Below.refl _ _).drew
  have K0 := HK.out _ hW
  go_region_held3 (fun u => u.cell? ⟨B, 0, none⟩ = some (.slice (some ⟨g, 0, none⟩) n cap) ∧ u.cell? ⟨g, i * 5, none⟩ = some (.string X) ∧ u.cell? ⟨g, j * 5, none⟩ = some (.string Y))
    (first | with_reducible exact K0 | with_reducible exact K1)
    (first | (go_at_call 17; (with_reducible refine (C.out _).mono ?_); rintro e w1 ⟨rfl, hb⟩; have hB1 := below_of hW hb; have K1 := HK.out _ hB1))
  rename_i hHeld
  clear hHeld
  go_wp2_with fail
  go_ret
  exact ⟨rfl, hB1⟩
end Go.Proofs.Ytleggfofgpiabaa.SP

/-
  The program's list: the sort at the list's row. Nothing here is a statement of the seed.
-/
namespace Go.Proofs.Ytleggfofgpiabaa.SP
open Go.RowKit WM NR OM OR SM SR MV
set_option maxHeartbeats 4000000
set_option maxRecDepth 10000
abbrev TL : TypeId := 28
theorem entF_at {l : List En} {s : List UInt8} {e : En} (h : entF l s = some (enV e)) : e ∈ l ∧ e.nm = s := by
  by_cases hp : plc l s < 0
  · rw [entF_none hp] at h; cases h
  · have hlt := plc_lt l s
    have hm : l.getD (plc l s).toNat e0 ∈ l := getD_mem (by omega)
    rw [entF_some hp] at h
    have h1 := Option.some.inj h
    generalize hx : l.getD (plc l s).toNat e0 = x at h1 hm
    obtain ⟨a1, a2, a3, a4, a5⟩ := x
    obtain ⟨b1, b2, b3, b4, b5⟩ := e
    simp only [enV, Value.agg.injEq, Array.mk.injEq, List.cons.injEq, Value.int.injEq, Value.string.injEq, true_and, and_true, OR.bs_inj] at h1
    obtain ⟨rfl, rfl, rfl, rfl, rfl⟩ := h1
    refine ⟨hm, ?_⟩
    have h2 := plc_at (l := l) (s := s) (by omega)
    rw [hx] at h2
    exact h2
theorem nodup_of_map {α β : Type} (f : α → β) {l : List α} (h : (l.map f).Nodup) : l.Nodup := List.Pairwise.of_map f (fun a b hn e => hn (by rw [e])) h
/-- what has been collected -/
structure Col (l : List En) (left : List UInt8 → Bool) (c : List En) : Prop where
  sub : ∀ e ∈ c, e ∈ l
  nd : (c.map (·.nm)).Nodup
  lf : ∀ e ∈ l, left e.nm = false → e ∈ c
  no : ∀ e ∈ c, left e.nm = false
theorem Col.start {l : List En} (hu : (l.map (·.nm)).Nodup) : Col l (fun s => (entF l s).isSome) [] :=
  ⟨fun e he => (by cases he), by simp, fun e he h => (by rw [entF_mem hu he] at h; cases h), fun e he => (by cases he)⟩
theorem Col.next {l c : List En} {left : List UInt8 → Bool} (h : Col l left c) (hu : (l.map (·.nm)).Nodup) {s : List UInt8} {e : En} (hl : left s = true) (he : entF l s = some (enV e)) : Col l (fun x => left x && !decide (x = s)) (c ++ [e]) := by
  obtain ⟨h1, rfl⟩ := entF_at he
  refine ⟨fun x hx => ?_, ?_, fun x hx hf => ?_, fun x hx => ?_⟩
  · rcases List.mem_append.1 hx with hx | hx
    · exact h.sub x hx
    · rw [List.mem_singleton.1 hx]; exact h1
  · rw [List.map_append, List.map_cons, List.map_nil, nodup_snoc]
    refine ⟨h.nd, fun hm => ?_⟩
    obtain ⟨x, hx, hn⟩ := List.mem_map.1 hm
    have := h.no x hx
    rw [hn, hl] at this
    cases this
  · by_cases hxs : x.nm = e.nm
    · rw [uniq_nm hu hx h1 hxs]; simp
    · simp [hxs] at hf
      exact List.mem_append.2 (Or.inl (h.lf x hx hf))
  · rcases List.mem_append.1 hx with hx | hx
    · simp [h.no x hx]
    · rw [List.mem_singleton.1 hx]; simp
theorem Col.done {l c : List En} {left : List UInt8 → Bool} (h : Col l left c) (hu : (l.map (·.nm)).Nodup) (hz : ∀ e ∈ l, e.nm.length ≤ maxLen) (hd : ∀ s, s.length ≤ maxLen → left s = false) : c.Perm l :=
  (List.perm_ext_iff_of_nodup (nodup_of_map _ h.nd) (nodup_of_map _ hu)).2 fun e => ⟨h.sub e, fun he => h.lf e he (hd _ (hz e he))⟩
theorem Col.len {l c : List En} {left : List UInt8 → Bool} (h : Col l left c) (hu : (l.map (·.nm)).Nodup) : c.length ≤ l.length := by
  have hp : c.Perm (l.filter (fun e => !left e.nm)) := (List.perm_ext_iff_of_nodup (nodup_of_map _ h.nd) ((nodup_of_map _ hu).sublist List.filter_sublist)).2 fun e => by
    rw [List.mem_filter]
    exact ⟨fun he => ⟨h.sub e he, by rw [h.no e he]; rfl⟩, fun ⟨he, hl⟩ => h.lf e he (by simpa using hl)⟩
  rw [hp.length_eq]
  exact List.length_filter_le _ _
theorem sortE {t : Tb} (hg : SM.Good t) (hL : t.L.length ≤ 80000) (hz : ∀ e ∈ t.L, e.nm.length ≤ maxLen) {c : List En} (hc : c.Perm t.L) {w : World} {B base : Nat} {q : Value} (hB : B < base) (hw : Whole w B TL #[q]) (ho : w.ownsRow base TE 5 q c.length (eC c)) :
    Calls Try.prog 15 #[.iface TL q, .func (.func 16) #[] #[.pointer (some ⟨B, 0, none⟩)]] w fun e w' => e = .returned (.tuple #[]) ∧ Whole w' B TL #[q] ∧ w'.ownsRow base TE 5 q t.L.length (eC t.L) ∧ w.grownBy w' q.ownBlock := by
  have hl := hc.length_eq
  by_cases h1 : c.length ≤ 1
  · have hct : c = t.L := by
      match c, h1 with
      | [], _ => exact (List.nil_perm.1 hc).symm
      | [x], _ => exact (List.singleton_perm.1 hc)
    obtain ⟨p, cap, rfl⟩ : ∃ p cap, q = .slice p c.length cap := by
      rcases ho.2 with ⟨rfl, h0⟩ | ⟨g, cap, cur, rfl, _⟩
      · exact ⟨none, 0, by rw [h0]⟩
      · exact ⟨_, cap, rfl⟩
    have hf : ∃ f, Try.prog.funcs.findIdx? (·.name == "internal/reflectlite" ++ ".Swapper$" ++ toString (Lib.swapperK c.length SO.infoE 25)) = some f := by
      match c, h1 with
      | [], _ => exact ⟨37, by kernel_rfl⟩
      | [x], _ => exact ⟨38, by kernel_rfl⟩
    obtain ⟨f, hf⟩ := hf
    have ht := Any.sort_Slice_tiny (P := Try.prog) (ρ := Try.laysGg6_ren) { Try.laysGg6 with } 28 33 SO.infoS SO.infoE (by kernel_rfl) (by kernel_rfl) (by kernel_rfl) (by kernel_rfl) 25 (fun _ => by kernel_rfl) p c.length cap h1 f hf (.func 16) #[] #[.pointer (some ⟨B, 0, none⟩)] w
    change Calls Try.prog 15 _ _ _ at ht
    refine ht.mono ?_
    rintro e w' ⟨rfl, os, rfl⟩
    have hb : Go.RowKit.Below w.heap.size w (Sort.grow w os) := ⟨rfl, rfl, rfl, by simp [Sort.grow], fun k hk => Sort.heap_grow_old w os hk⟩
    subst hct
    exact ⟨rfl, hw.belowS hb, owns_below ho hb, grown_below _ hb⟩
  · obtain ⟨d, hd, hcd⟩ := perm_index hc
    have hdl : d.length = t.L.length := by rw [hd.length_eq, List.length_range]
    obtain ⟨g, cap, cs, rfl, hg1, hcell, hsz, hcap, hcm, hH⟩ := own_holds (l := t.L) (d := d.toArray) ho (by omega) (by simpa using hcd) (fun x hx => List.mem_range.1 (hd.mem_iff.1 (by simpa using hx))) (by simp; omega)
    have hne : B ≠ g := by omega
    have hsl := SO.slice_any (encI t.L) (encI_len t.L) (encI_one t.L) (ltI t.L.length) (ltI_swo _) 16 #[.pointer (some ⟨B, 0, none⟩)] (enters_of Try.func16 (by kernel_rfl) rfl) g 0 cap d.toArray (by simp; omega) (by simp; omega) w hcell hH (fun W d' hgW hHW hs i j hi hj => by
      have hs' : d'.size = t.L.length := by rw [hs]; simp [hdl]
      have hn0 : 0 < t.L.length := by omega
      have hi' : i < d'.size := by omega
      have hj' : j < d'.size := by omega
      have hx : d'[i]! % t.L.length < t.L.length := Nat.mod_lt _ hn0
      have hy : d'[j]! % t.L.length < t.L.length := Nat.mod_lt _ hn0
      have k1 := (hHW.cell hi' (c := 0) (by omega)).1
      have k2 := (hHW.cell hj' (c := 0) (by omega)).1
      simp only [Nat.zero_add, Nat.add_zero] at k1 k2
      have kb := hw.as (hgW.block B hw.lt (fun e => hne (Option.some.inj e)))
      exact less_lit (n := c.length) _ _ (by have := hz _ (getD_mem' (d := e0) hx); unfold maxLen at this; exact this) (by have := hz _ (getD_mem' (d := e0) hy); unfold maxLen at this; exact this) (lessB_at hg hx hy) (kb.cell 0) k1 k2 (by omega) (by omega) (by omega) hcap)
    have hsize : d.toArray.size = c.length := by simp; omega
    rw [hsize] at hsl
    refine hsl.mono ?_
    rintro e w' ⟨rfl, d', p1, p2, hgr, hH', cs', hc', hcs⟩
    have hp : d'.toList.Perm (List.range t.L.length) := by
      have h3 := p1.2.2
      have h4 : d'.size = c.length := by rw [p1.1]; exact hsize
      rw [← h4] at h3
      have e1 : d'.extract 0 d'.size = d' := by simp
      have e2 : d.toArray.extract 0 d'.size = d.toArray := by rw [h4, ← hsize]; simp
      rw [e1, e2] at h3
      exact (by simpa using h3 : d'.toList.Perm d).trans hd
    have hd's : d'.size = c.length := by rw [p1.1]; exact hsize
    rw [← hd's] at p2
    have hr := sorted_range hp p2
    refine ⟨rfl, hw.as (hgr.block B hw.lt (fun e => hne (Option.some.inj e))), ?_, hgr⟩
    rw [hl]
    exact holds_own hg1 hc' (by rw [hcs]; exact hsz) (by omega) hcm hr hH'
end Go.Proofs.Ytleggfofgpiabaa.SP
