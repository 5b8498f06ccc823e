/-
  The program's calls of layer 13 that only look (without the list). Nothing here is a statement of the seed.
-/
import Derived.Test.YtajidaicojekdaaSymPT
import Derived.Test.YtajidaicojekdaaNameA
import Derived.Test.YtajidaicojekdaaNameL
set_option linter.unusedSimpArgs false
set_option linter.unusedVariables false
namespace Go.Proofs.Ytajidaicojekdaa.SP
open Go.RowKit WM NR OM OR SM SR MV
set_option maxHeartbeats 4000000
set_option maxRecDepth 10000
theorem has_any {S : Nat → Prop} {w : World} {v : Value} {t : Tb} (h : PT S w v t) (hg : SM.Good t) (hb : t.mods.length ≤ 10000 ∧ t.L.length ≤ 80000) (m : List UInt8) (hm : m.length ≤ 9223372036854775807) :
    Calls Try.prog 32 #[v, .string (bs m)] w fun e u => e = .returned (.bool (hasM t m)) ∧ Below w.heap.size w u := by
  obtain ⟨a, be, bm, fm, rfl, h⟩ := h
  have c1 := h.cell1
  have hl := h.mlook_ok hm
  rw [h.mod_some hm] at hl
  have H := Lib.hid h
  clear hg hb h
  generalize hasM t m = r at *
  generalize (fm m).getD (.slice none 0 0) = z at *
  go_enter Try.func32, Try.ntmps32
  go_wp2_with fail
  go_ret
  exact ⟨rfl, Below.refl _ _⟩
theorem hasEntry_any {S : Nat → Prop} {w : World} {a be bm : Nat} {fm : List UInt8 → Option Value} {t : Tb} (h : Pt S w a be bm fm t) (m : List UInt8) (hm : m.length ≤ 9223372036854775807) :
    Calls Try.prog 33 #[.pointer (some ⟨a, 0, none⟩), .string (bs m)] w fun e u => e = .returned (.bool (decide (0 ≤ plc t.L m))) ∧ Below w.heap.size w u := by
  have c0 := h.cell0
  have hl := h.look_ok hm
  rw [entF_isSome] at hl
  have hz : ∃ (x y : ByteArray) (g i r : Int), (entF t.L m).getD zE = .agg #[.string x, .string y, .int .i64 g, .int .i64 i, .int .i64 r] := by
    by_cases hp : plc t.L m < 0
    · rw [entF_none hp]; exact ⟨_, _, _, _, _, rfl⟩
    · rw [entF_some hp]; exact ⟨_, _, _, _, _, rfl⟩
  obtain ⟨x, y, g, i, r, hz⟩ := hz
  rw [hz] at hl
  clear hz h
  generalize decide (0 ≤ plc t.L m) = q at *
  go_enter Try.func33, Try.ntmps33
  go_wp2_with fail
  go_ret
  exact ⟨rfl, (Below.refl _ _).alloc (Nat.le_refl _) _⟩
theorem find_any {S : Nat → Prop} {w : World} {v : Value} {t : Tb} (h : PT S w v t) (hg : SM.Good t) (hb : t.mods.length ≤ 10000 ∧ t.L.length ≤ 80000) (m : List UInt8) (hm : m.length ≤ 9223372036854775807) :
    Calls Try.prog 39 #[v, .string (bs m)] w fun e u => e = .returned (.tuple #[enV (findM t.L m).1, .int .i64 (findM t.L m).2]) ∧ Below w.heap.size w u := by
  obtain ⟨a, be, bm, fm, rfl, h⟩ := h
  have h1 := h.below ((Below.refl _ _).alloc (Nat.le_refl _) (.cells #[.string ⟨#[]⟩, .string ⟨#[]⟩, .int .i64 0, .int .i64 0, .int .i64 0] 93))
  have c0 := h1.cell0
  have hl := h1.look_ok hm
  rw [entF_isSome] at hl
  unfold findM
  by_cases hp : plc t.L m < 0
  · rw [entF_none hp, show decide (0 ≤ plc t.L m) = false from decide_eq_false (by omega)] at hl
    rw [if_pos hp]
    simp only [Option.getD_none] at hl
    clear h h1 hp hg hb
    go_enter Try.func39, Try.ntmps39
    go_wp2_with fail
    exact bodyPost_ret (v := .tuple #[zE, .int .i64 8]) (by simp [results, Try.results39, go_sem]) rfl ⟨rfl, ((Below.refl _ _).alloc (Nat.le_refl _) _).alloc (by simp) _⟩
  · rw [entF_some hp, show decide (0 ≤ plc t.L m) = true from decide_eq_true (by omega)] at hl
    rw [if_neg hp]
    simp only [Option.getD_some] at hl
    generalize t.L.getD (plc t.L m).toNat e0 = y at *
    obtain ⟨x1, x2, x3, x4, x5⟩ := y
    simp only at hl ⊢
    clear h h1 hp hg hb
    go_enter Try.func39, Try.ntmps39
    go_wp2_with fail
    exact bodyPost_ret (v := .tuple #[.agg #[.string (bs x1), .string (bs x2), .int .i64 x3, .int .i64 x4, .int .i64 x5], .int .i64 0]) (by simp [results, Try.results39, go_sem]) rfl ⟨rfl, ((Below.refl _ _).alloc (Nat.le_refl _) _).alloc (by simp) _⟩
theorem slot_any (x y : ByteArray) (g i r : Int) (hg : 0 ≤ g ∧ g ≤ 7) (hi : 0 ≤ i ∧ i ≤ 7) (w : World) :
    Calls Try.prog 40 #[.agg #[.string x, .string y, .int .i64 g, .int .i64 i, .int .i64 r]] w fun e w' => e = .returned (.int .u32 (8 * g + i)) ∧ Below w.heap.size w w' := by
  obtain ⟨g1, g2⟩ := hg
  obtain ⟨i1, i2⟩ := hi
  go_enter Try.func40, Try.ntmps40
  go_wp2_with fail
  go_ret
  exact ⟨by first | rfl | (refine ret_int ?_; simp [IntKind.wrap, IntKind.bits, IntKind.signed]; omega), (Below.refl _ _).alloc (Nat.le_refl _) _⟩
theorem isNoName_any (l : List UInt8) (hl : l.length ≤ 9223372036854775807) (w : World) : Calls Try.prog 29 #[.string (bs l)] w fun e w' => e = .returned (.bool (decide (NM.chk l ≠ 0))) ∧ Below w.heap.size w w' := by
  have C := Lib.hid (NF.checkS (bs l) (by rw [bs_size]; exact hl) (NM.chk l) rfl)
  generalize bs l = s at *
  obtain ⟨k, hk⟩ : ∃ k : Int, k = NM.chk l := ⟨_, rfl⟩
  rw [← hk] at C ⊢
  clear hk
  by_cases h : k = 0
  · subst h
    go_enter Try.func29, Try.ntmps29
    go_wp2_with (go_at_call 60; (with_reducible refine (C.out.at _).mono ?_); rintro e w1 ⟨rfl, hb⟩)
    go_ret
    exact ⟨rfl, hb⟩
  · rw [decide_eq_true h]
    go_enter Try.func29, Try.ntmps29
    go_wp2_with (go_at_call 60; (with_reducible refine (C.out.at _).mono ?_); rintro e w1 ⟨rfl, hb⟩)
    go_ret
    exact ⟨ret_bool (by first | rfl | (rw [Bool.eq_iff_iff]; simp [h]; done)), hb⟩
theorem new_any (w : World) : Calls Try.prog 10 #[] w fun e u => ∃ v S, e = .returned v ∧ PT S u v ⟨[], []⟩ ∧ (∀ g, S g → w.heap.size ≤ g) ∧ Below w.heap.size w u := by
  have hmm := @run_makeMap Try.prog
  go_enter Try.func10, Try.ntmps10
  go_wp2_with fail
  refine bodyPost_ret (v := .pointer (some ⟨w.heap.size + 1 + 1, 0, none⟩)) (by simp [results, Try.results10, go_sem]) rfl ?_
  have b1 : Below w.heap.size w (w.alloc (.map #[] 0)) := (Below.refl _ _).alloc (Nat.le_refl _) _
  have b2 : Below (w.alloc (.map #[] 0)).heap.size (w.alloc (.map #[] 0)) ((w.alloc (.map #[] 0)).alloc (.map #[] 0)) := (Below.refl _ _).alloc (Nat.le_refl _) _
  have b3 : Below ((w.alloc (.map #[] 0)).alloc (.map #[] 0)).heap.size ((w.alloc (.map #[] 0)).alloc (.map #[] 0)) (((w.alloc (.map #[] 0)).alloc (.map #[] 0)).alloc (.cells #[.map (some w.heap.size), .map (some (w.heap.size + 1))] 84)) := (Below.refl _ _).alloc (Nat.le_refl _) _
  have m1 : ME (w.alloc (.map #[] 0)) w.heap.size (fun _ => none) := MapV.made w
  have m2 : ME ((w.alloc (.map #[] 0)).alloc (.map #[] 0)) (w.heap.size + 1) (fun _ => none) := by
    have := MapV.made (P := Try.prog) (K := 9) (ok := any) (w.alloc (.map #[] 0))
    simpa using this
  have hw := Whole.new ((w.alloc (.map #[] 0)).alloc (.map #[] 0)) 84 #[.map (some w.heap.size), .map (some (w.heap.size + 1))]
  simp only [World.size_alloc] at hw
  refine ⟨_, fun g => g = w.heap.size ∨ g = w.heap.size + 1 ∨ g = w.heap.size + 1 + 1, rfl, ⟨_, _, _, fun _ => none, rfl, ⟨hw, ?_, m2.belowS b3, fun m hm => ⟨fun hi => (by cases hi), fun _ => rfl⟩, by omega, Or.inr (Or.inr rfl), Or.inl rfl, Or.inr (Or.inl rfl), ?_, fun e he => (by cases he), fun m hm => (by cases hm)⟩⟩, ?_, NF.chain3 b1 b2 b3⟩
  · exact ((m1.belowS b2).belowS b3).as fun s hs => (entF_none (by simp [plc])).symm
  · intro g hg
    simp
    omega
  · intro g hg
    omega
/-- which names a module has, as its slice has them -/
theorem Pt.names {S : Nat → Prop} {u : World} {a be bm : Nat} {fm : List UInt8 → Option Value} {t : Tb} (h : Pt S u a be bm fm t) (hg : SM.Good t) {m : List UInt8} (hm : m.length ≤ maxLen) :
    ∃ b n c names, (fm m).getD (.slice none 0 0) = .slice b n c ∧ Reads (fun g => S g ∧ g ≠ be ∧ g ≠ bm) u (.slice b n c) (strs names) ∧ names.Perm (nmsOf t.L m) := by
  by_cases hi : m ∈ t.mods
  · obtain ⟨b, n, c, names, h1, h2, h3⟩ := (h.mi m hm).1 hi
    exact ⟨b, n, c, names, by rw [h1]; rfl, h2, h3⟩
  · refine ⟨none, 0, 0, [], by rw [(h.mi m hm).2 hi]; rfl, Reads.nil _ _, ?_⟩
    have : nmsOf t.L m = [] := by
      unfold nmsOf
      rw [List.filter_eq_nil_iff.2 (fun e he hd => hi (by have := hg.home e he; rw [of_decide_eq_true hd] at this; exact this))]
      rfl
    rw [this]
/-- the refs of names, one behind the other -/
def refL (l : List En) (s : List UInt8) : Int := (l.getD (plc l s).toNat e0).refs
def sumR (l : List En) : List (List UInt8) → Int
  | [] => 0
  | s :: ss => refL l s + sumR l ss
theorem sumR_append (l : List En) : ∀ a b : List (List UInt8), sumR l (a ++ b) = sumR l a + sumR l b
  | [], b => by simp [sumR]
  | s :: a, b => by simp only [List.cons_append, sumR, sumR_append l a b]; omega
theorem sumR_take (l : List En) (ss : List (List UInt8)) (k : Nat) (h : k < ss.length) : sumR l (ss.take (k + 1)) = sumR l (ss.take k) + refL l (ss.getD k []) := by
  rw [take_succ_getD ss [] k h, sumR_append]
  simp [sumR]
theorem sumR_perm (l : List En) {a b : List (List UInt8)} (h : a.Perm b) : sumR l a = sumR l b := by
  induction h with
  | nil => rfl
  | cons x _ ih => simp [sumR, ih]
  | swap x y l => simp only [sumR]; omega
  | trans _ _ h1 h2 => exact h1.trans h2
theorem uniq_nm : ∀ {l : List En}, (l.map (·.nm)).Nodup → ∀ {a b : En}, a ∈ l → b ∈ l → a.nm = b.nm → a = b
  | [], _, _, _, h, _, _ => (by cases h)
  | e :: l, hd, a, b, ha, hb, h => by
    simp only [List.map_cons, List.nodup_cons, List.mem_map, not_exists, not_and] at hd
    rcases List.mem_cons.1 ha with e1 | ha <;> rcases List.mem_cons.1 hb with e2 | hb
    · rw [e1, e2]
    · rw [e1] at h; exact absurd h.symm (hd.1 b hb)
    · rw [e2] at h; exact absurd h (hd.1 a ha)
    · exact uniq_nm hd.2 ha hb h
theorem plc_self {l : List En} (hu : (l.map (·.nm)).Nodup) {e : En} (he : e ∈ l) : 0 ≤ plc l e.nm ∧ l.getD (plc l e.nm).toNat e0 = e := by
  have h0 : 0 ≤ plc l e.nm := plc_mem.2 ⟨e, he, rfl⟩
  refine ⟨h0, ?_⟩
  have h1 := plc_lt l e.nm
  have h2 : (plc l e.nm).toNat < l.length := by omega
  have h3 := plc_at l e.nm h0
  have h4 : l.getD (plc l e.nm).toNat e0 ∈ l := getD_mem h2
  exact uniq_nm hu h4 he h3
theorem sumR_mod {t : Tb} (hg : SM.Good t) (m : List UInt8) : sumR t.L (nmsOf t.L m) = refsM t.L m := by
  have hu := srt_uniq hg.srt
  have : ∀ l : List En, (∀ e ∈ l, e ∈ t.L) → sumR t.L ((l.filter (fun e => decide (e.md = m))).map (·.nm)) = refsM l m := by
    intro l
    induction l with
    | nil => intro _; rfl
    | cons e l ih =>
      intro h
      have ih := ih fun x hx => h x (List.mem_cons_of_mem _ hx)
      have he := (plc_self hu (h e (List.mem_cons_self ..))).2
      simp only [List.filter_cons, refsM]
      by_cases hd : e.md = m
      · simp only [hd, decide_true, if_true, List.map_cons, sumR, ih]
        unfold refL
        rw [he]
      · simp only [hd, decide_false, Bool.false_eq_true, if_false, ih]
        omega
  exact this t.L fun _ h => h
theorem nmsOf_mem {l : List En} {m s : List UInt8} (h : s ∈ nmsOf l m) : ∃ e ∈ l, e.nm = s ∧ e.md = m := by
  obtain ⟨e, he, rfl⟩ := List.mem_map.1 h
  obtain ⟨h1, h2⟩ := List.mem_filter.1 he
  exact ⟨e, h1, rfl, of_decide_eq_true h2⟩
theorem sumR_bd {t : Tb} (hg : SM.Good t) : ∀ ss : List (List UInt8), 0 ≤ sumR t.L ss ∧ sumR t.L ss ≤ 8 * (ss.length : Int)
  | [] => by simp [sumR]
  | s :: ss => by
    have ih := sumR_bd hg ss
    have : 0 ≤ refL t.L s ∧ refL t.L s ≤ 8 := by
      unfold refL
      by_cases h : (plc t.L s).toNat < t.L.length
      · have := hg.bd _ (getD_mem h)
        omega
      · rw [List.getD_eq_getElem?_getD, List.getElem?_eq_none (by omega)]
        simp
    simp only [sumR, List.length_cons]
    omega
end Go.Proofs.Ytajidaicojekdaa.SP
