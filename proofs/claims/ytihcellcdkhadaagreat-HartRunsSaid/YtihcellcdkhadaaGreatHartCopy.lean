/-
  Slices that are read; copies of them, and of harts. Nothing here is a statement of the seed.
-/
import Derived.Test.YtihcellcdkhadaaGreatHartFn4
import Derived.Laws.OwnMore
set_option linter.unusedSimpArgs false
set_option linter.unusedVariables false
namespace Go.Proofs.YtihcellcdkhadaaGreat.HF
open Go.RowKit PM PR PF MM MR MF HM HR
set_option maxHeartbeats 2000000
set_option maxRecDepth 10000
/-- the slice v reads as these cells, in blocks of which G holds -/
def Reads (G : Nat → Prop) (w : World) (v : Value) (xs : List Value) : Prop :=
  ∃ a cap, v = .slice a xs.length cap ∧ xs.length ≤ cap ∧ cap ≤ maxLen ∧ (a = none → cap = 0) ∧
    (xs = [] ∨ ∃ g off, a = some ⟨g, off, none⟩ ∧ G g ∧ ∀ j, j < xs.length → w.cell? ⟨g, off + j, none⟩ = xs[j]?)
section
variable {G : Nat → Prop} {w w' : World} {v : Value} {xs : List Value}
theorem Reads.keep (h : Reads G w v xs) (hk : ∀ g, G g → g < w.heap.size → w'.heap[g]? = w.heap[g]?) : Reads G w' v xs := by
  obtain ⟨a, cap, e, h1, h2, h3, h4⟩ := h
  refine ⟨a, cap, e, h1, h2, h3, ?_⟩
  rcases h4 with h4 | ⟨g, off, ea, hg, hc⟩
  · exact Or.inl h4
  · by_cases h0 : xs = []
    · exact Or.inl h0
    · refine Or.inr ⟨g, off, ea, hg, fun j hj => ?_⟩
      have hc0 := hc j hj
      rw [List.getElem?_eq_getElem hj] at hc0
      have hlt := World.block_lt_of_cell? w _ hc0
      rw [World.cell?_of_block (w := w) (a := ⟨g, off + j, none⟩) (hk g hg hlt)]
      exact hc j hj
theorem Reads.mono {G' : Nat → Prop} (h : Reads G w v xs) (hG : ∀ g, G g → G' g) : Reads G' w v xs := by
  obtain ⟨a, cap, e, h1, h2, h3, h4⟩ := h
  refine ⟨a, cap, e, h1, h2, h3, ?_⟩
  rcases h4 with h4 | ⟨g, off, ea, hg, hc⟩
  · exact Or.inl h4
  · exact Or.inr ⟨g, off, ea, hG g hg, hc⟩
/-- it lies among the blocks that are there -/
theorem Reads.there (h : Reads G w v xs) : Reads (fun g => G g ∧ g < w.heap.size) w v xs := by
  obtain ⟨a, cap, e, h1, h2, h3, h4⟩ := h
  refine ⟨a, cap, e, h1, h2, h3, ?_⟩
  rcases h4 with h4 | ⟨g, off, ea, hg, hc⟩
  · exact Or.inl h4
  · by_cases h0 : xs = []
    · exact Or.inl h0
    · refine Or.inr ⟨g, off, ea, ⟨hg, ?_⟩, hc⟩
      have hj : 0 < xs.length := List.length_pos_iff.2 h0
      have hc0 := hc 0 hj
      rw [List.getElem?_eq_getElem hj] at hc0
      exact World.block_lt_of_cell? w _ hc0
theorem Reads.drewN (h : Reads G w v xs) (n : Nat) : Reads G (w.drewN n) v xs := h.keep fun _ _ _ => rfl
theorem Reads.alloc (h : Reads G w v xs) (o : Obj) : Reads G (w.alloc o) v xs := h.keep fun g _ hg => Below.heap_alloc w o g hg
theorem Reads.below {B : Nat} (h : Reads (· < B) w v xs) (hb : Below B w w') : Reads (· < B) w' v xs := h.keep fun g hg _ => hb.block g hg
theorem Reads.of_owns {B : Nat} {e : TypeId} {n : Nat} (h : w.ownsRow B e 1 v n xs) : Reads (fun g => B ≤ g ∧ v.ownBlock = some g) w v xs := by
  have hl : xs.length = n := by simpa using h.1
  rcases h.2 with ⟨rfl, h0⟩ | ⟨g, cap, cur, rfl, hg, hcell, hcap, hcm, hsz, hcur⟩
  · have hx : xs = [] := List.length_eq_zero_iff.1 (by omega)
    subst hx
    exact ⟨none, 0, rfl, Nat.le_refl _, by simp [maxLen], fun _ => rfl, Or.inl rfl⟩
  · subst hl
    refine ⟨_, cap, rfl, hcap, hcm, (fun h => by cases h), Or.inr ⟨g, 0, rfl, ⟨hg, rfl⟩, fun j hj => ?_⟩⟩
    rw [Nat.zero_add]
    exact h.cellAt j (by simpa using hj)
theorem Reads.nil (G : Nat → Prop) (w : World) : Reads G w (.slice none 0 0) [] := ⟨none, 0, rfl, Nat.le_refl _, by simp [maxLen], fun _ => rfl, Or.inl rfl⟩
/-- what a slice of n is like -/
theorem Reads.shape (h : Reads G w v xs) : ∃ a cap, v = .slice a xs.length cap ∧ xs.length ≤ cap ∧ cap ≤ maxLen := by
  obtain ⟨a, cap, e, h1, h2, _⟩ := h
  exact ⟨a, cap, e, h1, h2⟩
theorem Reads.form (h : Reads G w v xs) : ∃ a n c, v = .slice a n c := by
  obtain ⟨a, cap, e, _⟩ := h
  exact ⟨a, _, cap, e⟩
theorem Reads.cells (h : Reads G w v xs) (h0 : xs ≠ []) : ∃ g off cap, v = .slice (some ⟨g, off, none⟩) xs.length cap ∧ G g ∧ xs.length ≤ cap ∧ cap ≤ maxLen ∧ ∀ j, j < xs.length → w.cell? ⟨g, off + j, none⟩ = xs[j]? := by
  obtain ⟨a, cap, e, h1, h2, h3, h4⟩ := h
  rcases h4 with h4 | ⟨g, off, ea, hg, hc⟩
  · exact absurd h4 h0
  · subst ea
    exact ⟨g, off, cap, e, hg, h1, h2, hc⟩
end
theorem wpList_append_reads {P : Program} (w : World) {ops : Array Oper} {rest : List Oper} {o : Oper} {a : Act} {Q : Exit → Act → World → Prop} (hgd : o.guard = none) (s x : Operand) (t : TypeId)
    (ho : o.op = .call { callee := .builtin .append, args := #[s, x], argTypes := #[t, t] })
    (base : Nat) (e : TypeId) (i : TypeInfo) (z : Value) (bytes : Nat) (ht : P.underlying t = some (.slice e)) (hi : P.info? e = some i) (hz : i.zero = some z)
    (hsize : i.size = 1) (hby : i.bytes = bytes) (hzs : z.cells.size = 1)
    (v : Value) (n : Nat) (xs : List Value) (hs : a.eval s = v) (hown : w.ownsRow base e 1 v n xs)
    (G : Nat → Prop) (v2 : Value) (ys : List Value) (hx : a.eval x = v2) (hr : Reads G w v2 ys) (h1 : ∀ u ∈ ys, u.oneCell' = true)
    (h63 : n + ys.length ≤ maxLen) (hbytes : (n + ys.length) * bytes ≤ 140737488355328) (hbase : base ≤ w.heap.size)
    (h : ∀ v' w', w'.ownsRow base e 1 v' (n + ys.length) (xs ++ ys) → w.grownBy w' v.ownBlock → wpList P ops Q rest (a.put o.dst v') w') : wpList P ops Q (o :: rest) a w := by
  obtain ⟨ao, cap, rfl, h2, h3, h4, h5⟩ := hr
  cases ao with
  | none =>
    have hc := h4 rfl
    subst hc
    have hy : ys = [] := List.length_eq_zero_iff.1 (by omega)
    subst hy
    refine wpList_append_own_none hgd s x t ho base e i 1 ht hi v n xs hs hown hx ?_
    exact h v w (by simpa using hown) ⟨rfl, rfl, rfl, Nat.le_refl _, fun _ _ _ => rfl⟩
  | some p =>
    have hcells : ∀ j u, ys[j]? = some u → w.cell? (p.add j) = some u := by
      intro j u hj
      have hlt := (List.getElem?_eq_some_iff.1 hj).1
      rcases h5 with h5 | ⟨g, off, ea, hg, hc⟩
      · rw [h5] at hj; simp at hj
      · obtain rfl := Option.some.inj ea
        rw [Addr.add_lit, hc j hlt, hj]
    exact wpList_append_own w hgd s x t ho base e i z 1 bytes ht hi hz hsize hby hzs (by decide) v n xs hs hown p ys.length cap ys hx (by simp) hcells h1 h63 hbytes hbase (fun v' w' g1 g2 _ => h v' w' g1 g2)
abbrev Rs (B : Nat) (w : World) (a : Option Addr) (n c : Nat) (l : List Int) : Prop := Reads (· < B) w (.slice a n c) (wcs l)
theorem Reads.len {G : Nat → Prop} {w : World} {a : Option Addr} {n c : Nat} {l : List Int} (h : Reads G w (.slice a n c) (wcs l)) : l.length = n ∧ n ≤ c ∧ c ≤ maxLen := by
  obtain ⟨a', cap, e, h1, h2, _⟩ := h
  rw [wcs_len] at e h1
  simp only [Value.slice.injEq] at e
  omega
/-- a slice as a row of one's own, told by its three parts -/
theorem own_parts {w : World} {B n : Nat} {v : Value} {l : List Int} (h : w.ownsRow B 23 1 v n (wcs l)) : ∃ a c, v = .slice a n c ∧ Sk w B a n c l := by
  rcases id h.2 with ⟨e, h0⟩ | ⟨g, cap, cur, e, hr⟩
  · subst h0
    subst e; exact ⟨none, 0, rfl, h⟩
  · subst e; exact ⟨_, _, rfl, h⟩
/-- a copy told: a slice in a row of its own -/
def Copied (l : List Int) (n : Nat) (f : Option Addr → Nat → Value) (w : World) (e : Ending) (w' : World) : Prop := ∃ a c, e = .returned (f a c) ∧ Sk w' w.heap.size a n c l ∧ Below w.heap.size w w'
theorem cloneU_any {G : Nat → Prop} {w : World} {a : Option Addr} {n c : Nat} {l : List Int} (hr : Reads G w (.slice a n c) (wcs l)) (hn : n * 4 ≤ 140737488355328) : Calls Tryz.prog 69 #[.slice a n c] w (Copied l n (fun a c => .slice a n c) w) := by
  obtain ⟨i0, hi, hz0, hz1, hz2⟩ := info_parts infoU32
  obtain ⟨hl, hnc, hc⟩ := hr.len
  have hq : ∀ u, (binOp .eql 22 (.slice a n c) (.slice none 0 0)).run Tryz.prog u = .ok (.bool a.isNone) u := fun u => by
    have := @Lib.run_eql_slice_nil Tryz.prog u 22 23 a n c 0 0 Tryz.underlying22
    simpa using this
  cases a with
  | none =>
    obtain ⟨a', cap, e, h1, h2, h3, h4⟩ := hr
    simp only [Value.slice.injEq] at e
    have hc0 := h3 e.1.symm
    have hn0 : n = 0 := by omega
    have hl0 : l = [] := List.length_eq_zero_iff.1 (by omega)
    obtain rfl : c = 0 := by omega
    subst hn0 hl0
    clear e h1 h2 h3 h4 hc0 hl hnc hc hn
    simp only [Option.isNone_none] at hq
    go_enter Tryz.func69, Tryz.ntmps69
    go_wp2_with fail
    go_ret
    exact ⟨none, 0, rfl, World.ownsRow_nil _ _ _ _, Below.refl _ _⟩
  | some p =>
    simp only [Option.isNone_some] at hq
    have HR := Lib.hid (hr.alloc (.cells #[] 23))
    have HO := Lib.hid (ownw_empty w)
    have h63 : 0 + (wcs l).length ≤ maxLen := by rw [wcs_len]; omega
    have hby : (0 + (wcs l).length) * 4 ≤ 140737488355328 := by rw [wcs_len]; omega
    have EN : Hid (∀ (v' : Value) (w1 : World), w1.ownsRow w.heap.size 23 1 v' (0 + (wcs l).length) ([] ++ wcs l) → (w.alloc (.cells #[] 23)).grownBy w1 (Value.slice (some ⟨w.heap.size, 0, none⟩) 0 0).ownBlock → ∃ a' c', v' = .slice a' n c' ∧ Sk w1 w.heap.size a' n c' l ∧ Below w.heap.size w w1) := Lib.hid fun v' w1 h1 h2 => by
      rw [Nat.zero_add, List.nil_append, wcs_len, hl] at h1
      obtain ⟨a', c', e, h⟩ := own_parts h1
      exact ⟨a', c', e, h, (below_new w (.cells #[] 23)).grown h2 (by simp) (fun k hk => by simp [Value.ownBlock] at hk; omega)⟩
    have H63 := Lib.hid h63
    have HBY := Lib.hid hby
    clear hr h63 hby hl
    go_enter Tryz.func69, Tryz.ntmps69
    go_wp2_with (at_builtin; refine wpList_append_reads _ rfl _ _ 22 rfl w.heap.size 23 i0 _ 4 Tryz.underlying22 hi hz0 hz1 hz2 rfl (.slice (some ⟨w.heap.size, 0, none⟩) 0 0) 0 [] rfl HO.out _ _ _ rfl HR.out (wcs_one l) H63.out HBY.out (by simp) ?_; intro v' w1 hown hgrow; obtain ⟨a', c', rfl, hsk, hb⟩ := EN.out _ _ hown hgrow; have HS := Lib.hid hsk; clear hown hgrow hsk)
    go_ret
    exact ⟨a', c', rfl, HS.out, hb⟩
theorem one_cells {u : World} {b : Nat} {cs : Array Value} (h : Whole u b 30 cs) (hs : cs.size = 13) : ∀ (pc r0 r1 r2 r3 r4 r5 r6 r7 : Int) (sa : Option Addr) (n c : Nat) (why ep home : Int), (putH u b pc r0 r1 r2 r3 r4 r5 r6 r7 sa n c why ep home).cell? ⟨b, 0, none⟩ = some (.int .u32 pc) ∧ (putH u b pc r0 r1 r2 r3 r4 r5 r6 r7 sa n c why ep home).cell? ⟨b, 1, none⟩ = some (.int .u32 r0) ∧ (putH u b pc r0 r1 r2 r3 r4 r5 r6 r7 sa n c why ep home).cell? ⟨b, 2, none⟩ = some (.int .u32 r1) ∧ (putH u b pc r0 r1 r2 r3 r4 r5 r6 r7 sa n c why ep home).cell? ⟨b, 3, none⟩ = some (.int .u32 r2) ∧ (putH u b pc r0 r1 r2 r3 r4 r5 r6 r7 sa n c why ep home).cell? ⟨b, 4, none⟩ = some (.int .u32 r3) ∧ (putH u b pc r0 r1 r2 r3 r4 r5 r6 r7 sa n c why ep home).cell? ⟨b, 5, none⟩ = some (.int .u32 r4) ∧ (putH u b pc r0 r1 r2 r3 r4 r5 r6 r7 sa n c why ep home).cell? ⟨b, 6, none⟩ = some (.int .u32 r5) ∧ (putH u b pc r0 r1 r2 r3 r4 r5 r6 r7 sa n c why ep home).cell? ⟨b, 7, none⟩ = some (.int .u32 r6) ∧ (putH u b pc r0 r1 r2 r3 r4 r5 r6 r7 sa n c why ep home).cell? ⟨b, 8, none⟩ = some (.int .u32 r7) ∧ (putH u b pc r0 r1 r2 r3 r4 r5 r6 r7 sa n c why ep home).cell? ⟨b, 9, none⟩ = some (.slice sa n c) ∧ (putH u b pc r0 r1 r2 r3 r4 r5 r6 r7 sa n c why ep home).cell? ⟨b, 10, none⟩ = some (.int .u8 why) ∧ (putH u b pc r0 r1 r2 r3 r4 r5 r6 r7 sa n c why ep home).cell? ⟨b, 11, none⟩ = some (.int .u64 ep) ∧ (putH u b pc r0 r1 r2 r3 r4 r5 r6 r7 sa n c why ep home).cell? ⟨b, 12, none⟩ = some (.int .u32 home) := by
  intro pc r0 r1 r2 r3 r4 r5 r6 r7 sa n c why ep home
  have H1 := putH_whole h hs pc r0 r1 r2 r3 r4 r5 r6 r7 sa n c why ep home
  exact ⟨H1.cell 0, H1.cell 1, H1.cell 2, H1.cell 3, H1.cell 4, H1.cell 5, H1.cell 6, H1.cell 7, H1.cell 8, H1.cell 9, H1.cell 10, H1.cell 11, H1.cell 12⟩
theorem copy_any {G : Nat → Prop} {w : World} {a : Option Addr} {n c : Nat} {l : List Int} (hr : Reads G w (.slice a n c) (wcs l)) (hn : n * 4 ≤ 140737488355328) (pc : Int) (R : Nat → Int) (why ep home : Int) : Calls Tryz.prog 27 #[hV pc R a n c why ep home] w (Copied l n (fun a' c' => hV pc R a' n c' why ep home) w) := by
  have hb0 : Below w.heap.size w ((w.alloc (.cells (hCs pc R a n c why ep home) 30)).alloc (.cells hZ 30)) := bl2 ..
  have B1 := (Whole.new w 30 (hCs pc R a n c why ep home)).alloc (.cells hZ 30)
  have B2 := Whole.new (w.alloc (.cells (hCs pc R a n c why ep home) 30)) 30 hZ
  simp only [World.size_alloc] at B2
  have CC := Lib.hid (cloneU_any ((hr.alloc (.cells (hCs pc R a n c why ep home) 30)).alloc (.cells hZ 30)) hn)
  clear hr
  have EN : Hid (∀ (w1 : World) (a' : Option Addr) (c' : Nat), Sk w1 (w.heap.size + 1 + 1) a' n c' l → Below (w.heap.size + 1 + 1) ((w.alloc (.cells (hCs pc R a n c why ep home) 30)).alloc (.cells hZ 30)) w1 → Copied l n (fun a' c' => hV pc R a' n c' why ep home) w (.returned (hV pc R a' n c' why ep home)) (putH (w1.setCell ⟨w.heap.size, 9, none⟩ (.slice a' n c')) (w.heap.size + 1) pc (R 0) (R 1) (R 2) (R 3) (R 4) (R 5) (R 6) (R 7) a' n c' why ep home)) := Lib.hid fun w1 a' c' sk hb => by
    have F : Fr (fun i => i = w.heap.size ∨ i = w.heap.size + 1) w1 (putH (w1.setCell ⟨w.heap.size, 9, none⟩ (.slice a' n c')) (w.heap.size + 1) pc (R 0) (R 1) (R 2) (R 3) (R 4) (R 5) (R 6) (R 7) a' n c' why ep home) := ((Fr.refl (fun i => i = w.heap.size ∨ i = w.heap.size + 1) w1).set (p := ⟨w.heap.size, 9, none⟩) (Or.inl (Or.inl rfl)) _).trans (putH_fr _ _ ..) (fun i hi => Or.inl (Or.inr hi))
    have hs : w.heap.size + 1 + 1 ≤ w1.heap.size := by have := hb.size; simp at this; omega
    refine ⟨a', c', rfl, ?_, PR.Below.fr (hb0.trans (hb.mono (by omega))) F (by omega) (by rintro i (rfl | rfl) <;> omega)⟩
    have := sk.fr F (fun k hk => by have := (World.ownsRow.lt sk k hk).1; omega)
    exact ⟨this.1, this.2.imp id (fun ⟨g, cap, cur, e, hB, hr⟩ => ⟨g, cap, cur, e, by omega, hr⟩)⟩
  have BX := Lib.hid (And.intro B1 B2)
  clear B1 B2 hb0
  go_enter Tryz.func27, Tryz.ntmps27
  go_wp2_with ((go_at_call 69; (with_reducible refine CC.out.mono ?_); rintro e w1 ⟨a', c', rfl, sk, hb⟩; simp only [World.size_alloc] at sk hb; have HY := Lib.hid (And.intro sk hb); have B1' := BX.out.1.below hb (by omega); have B2' := BX.out.2.below hb (by omega); have q9 := B1'.frozen 9; have q1 := B1'.lt; have q2 := B2'.lt; obtain ⟨c0, c1, c2, c3, c4, c5, c6, c7, c8, c9, c10, c11, c12⟩ := hart_cells B1'; obtain ⟨⟨v0, v1, v2, v3, v4, v5, v6, v7, v8, v9, v10, v11, v12, e0, e1, e2, e3, e4, e5, e6, e7, e8, e9, e10, e11, e12⟩, f0, f1, f2, f3, f4, f5, f6, f7, f8, f9, f10, f11, f12⟩ := hart_open B2' rfl; have W2 := Lib.hid (B2'.far (p := ⟨w.heap.size, 9, none⟩) (by simp) (.slice a' n c')); clear sk hb B1' B2'))
  rw [putH_eq]
  refine bodyPost_ret (v := hV pc R a' n c' why ep home) (by simp [results, Tryz.results27, go_sem, one_cells W2.out rfl]) rfl ?_
  exact EN.out _ _ _ HY.out.1 HY.out.2
theorem refCopy_any {G : Nat → Prop} {w : World} {a : Option Addr} {n c : Nat} {l : List Int} (hr : Reads G w (.slice a n c) (wcs l)) (hn : n * 4 ≤ 140737488355328) (pc : Int) (R : Nat → Int) (why ep home : Int) : Calls Tryz.prog 7 #[hV pc R a n c why ep home] w (Copied l n (fun a' c' => hV pc R a' n c' why ep home) w) := by
  obtain ⟨i0, hi, hz0, hz1, hz2⟩ := info_parts infoU32
  obtain ⟨hl, hnc, hc⟩ := hr.len
  have hb0 : Below w.heap.size w ((w.alloc (.cells (hCs pc R a n c why ep home) 30)).alloc (.cells hZ 30)) := bl2 ..
  have B1 := (Whole.new w 30 (hCs pc R a n c why ep home)).alloc (.cells hZ 30)
  have B2 := Whole.new (w.alloc (.cells (hCs pc R a n c why ep home) 30)) 30 hZ
  simp only [World.size_alloc] at B2
  have HR := Lib.hid (((hr.alloc (.cells (hCs pc R a n c why ep home) 30)).alloc (.cells hZ 30)).alloc (.cells #[] 23))
  have HO := Lib.hid (ownw_empty ((w.alloc (.cells (hCs pc R a n c why ep home) 30)).alloc (.cells hZ 30)))
  simp only [World.size_alloc] at HO
  have H63 : Hid (0 + (wcs l).length ≤ maxLen) := Lib.hid (by rw [wcs_len]; omega)
  have HBY : Hid ((0 + (wcs l).length) * 4 ≤ 140737488355328) := Lib.hid (by rw [wcs_len]; omega)
  have AP : Hid (∀ (v' : Value) (w1 : World), w1.ownsRow (w.heap.size + 1 + 1) 23 1 v' (0 + (wcs l).length) ([] ++ wcs l) → (((w.alloc (.cells (hCs pc R a n c why ep home) 30)).alloc (.cells hZ 30)).alloc (.cells #[] 23)).grownBy w1 (Value.slice (some ⟨w.heap.size + 1 + 1, 0, none⟩) 0 0).ownBlock → ∃ a' c', v' = .slice a' n c' ∧ Sk w1 (w.heap.size + 1 + 1) a' n c' l ∧ Below (w.heap.size + 1 + 1) ((w.alloc (.cells (hCs pc R a n c why ep home) 30)).alloc (.cells hZ 30)) w1) := Lib.hid fun v' w1 h1 h2 => by
    rw [Nat.zero_add, List.nil_append, wcs_len, hl] at h1
    obtain ⟨a', c', e, h⟩ := own_parts h1
    have hb := (below_new ((w.alloc (.cells (hCs pc R a n c why ep home) 30)).alloc (.cells hZ 30)) (.cells #[] 23)).grown h2 (by simp) (fun k hk => by simp [Value.ownBlock] at hk; simp; omega)
    simp only [World.size_alloc] at hb
    exact ⟨a', c', e, h, hb⟩
  clear hr hl hnc hc hn
  have EN : Hid (∀ (w1 : World) (a' : Option Addr) (c' : Nat), Sk w1 (w.heap.size + 1 + 1) a' n c' l → Below (w.heap.size + 1 + 1) ((w.alloc (.cells (hCs pc R a n c why ep home) 30)).alloc (.cells hZ 30)) w1 → Copied l n (fun a' c' => hV pc R a' n c' why ep home) w (.returned (hV pc R a' n c' why ep home)) (putH (w1.setCell ⟨w.heap.size, 9, none⟩ (.slice a' n c')) (w.heap.size + 1) pc (R 0) (R 1) (R 2) (R 3) (R 4) (R 5) (R 6) (R 7) a' n c' why ep home)) := Lib.hid fun w1 a' c' sk hb => by
    have F : Fr (fun i => i = w.heap.size ∨ i = w.heap.size + 1) w1 (putH (w1.setCell ⟨w.heap.size, 9, none⟩ (.slice a' n c')) (w.heap.size + 1) pc (R 0) (R 1) (R 2) (R 3) (R 4) (R 5) (R 6) (R 7) a' n c' why ep home) := ((Fr.refl (fun i => i = w.heap.size ∨ i = w.heap.size + 1) w1).set (p := ⟨w.heap.size, 9, none⟩) (Or.inl (Or.inl rfl)) _).trans (putH_fr _ _ ..) (fun i hi => Or.inl (Or.inr hi))
    have hs : w.heap.size + 1 + 1 ≤ w1.heap.size := by have := hb.size; simp at this; omega
    refine ⟨a', c', rfl, ?_, PR.Below.fr (hb0.trans (hb.mono (by omega))) F (by omega) (by rintro i (rfl | rfl) <;> omega)⟩
    have := sk.fr F (fun k hk => by have := (World.ownsRow.lt sk k hk).1; omega)
    exact ⟨this.1, this.2.imp id (fun ⟨g, cap, cur, e, hB, hr⟩ => ⟨g, cap, cur, e, by omega, hr⟩)⟩
  have BX := Lib.hid (And.intro B1 B2)
  clear B1 B2 hb0
  go_enter Tryz.func7, Tryz.ntmps7
  go_wp2_with ((at_builtin; refine wpList_append_reads _ rfl _ _ 22 rfl (w.heap.size + 1 + 1) 23 i0 _ 4 Tryz.underlying22 hi hz0 hz1 hz2 rfl (.slice (some ⟨w.heap.size + 1 + 1, 0, none⟩) 0 0) 0 [] rfl HO.out _ _ _ rfl HR.out (wcs_one l) H63.out HBY.out (by simp) ?_; intro v' w1 hown hgrow; obtain ⟨a', c', rfl, sk, hb⟩ := AP.out _ _ hown hgrow; clear hown hgrow; have HY := Lib.hid (And.intro sk hb); have B1' := BX.out.1.below hb (by omega); have B2' := BX.out.2.below hb (by omega); have q9 := B1'.frozen 9; have q1 := B1'.lt; have q2 := B2'.lt; obtain ⟨c0, c1, c2, c3, c4, c5, c6, c7, c8, c9, c10, c11, c12⟩ := hart_cells B1'; obtain ⟨⟨v0, v1, v2, v3, v4, v5, v6, v7, v8, v9, v10, v11, v12, e0, e1, e2, e3, e4, e5, e6, e7, e8, e9, e10, e11, e12⟩, f0, f1, f2, f3, f4, f5, f6, f7, f8, f9, f10, f11, f12⟩ := hart_open B2' rfl; have W2 := Lib.hid (B2'.far (p := ⟨w.heap.size, 9, none⟩) (by simp) (.slice a' n c')); clear sk hb B1' B2'))
  rw [putH_eq]
  refine bodyPost_ret (v := hV pc R a' n c' why ep home) (by simp [results, Tryz.results7, go_sem, one_cells W2.out rfl]) rfl ?_
  exact EN.out _ _ _ HY.out.1 HY.out.2
end Go.Proofs.YtihcellcdkhadaaGreat.HF
