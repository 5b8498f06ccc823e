/-
  What turns a memory, or a stack: stores, calls, returns. Nothing here is a statement of the seed.
-/
import Derived.Test.YtihcellcdkhadaaGreatHartFn3
set_option linter.unusedSimpArgs false
set_option linter.unusedVariables false
namespace Go.Proofs.YtihcellcdkhadaaGreat.HF
open Go.RowKit PM PR PF MM MR MF HM HR
set_option maxHeartbeats 2000000
set_option maxRecDepth 10000
/-- the stack: words in a row of the step's own -/
abbrev Sk (w : World) (B : Nat) (a : Option Addr) (n c : Nat) (l : List Int) : Prop := w.ownsRow B 23 1 (.slice a n c) n (wcs l)
/-- what a step's part does: the hart and the note told, the stack in a row of the step's own, the memory turned -/
def Does (B p t g gw : Nat) (a : Option Addr) (n c : Nat) (r : Res) (w : World) (e : Ending) (w' : World) : Prop :=
  ∃ a' n' c', e = .returned (.tuple #[hV r.h.pc r.h.r a' n' c' r.h.why r.h.ep r.h.home, nV r.sf r.st r.nt r.nx]) ∧ Sk w' B a' n' c' r.h.sk ∧ Pm w' p t g gw r.m ∧ Fr (fun i => MS p g gw i ∨ (Value.slice a n c).ownBlock = some i) w w'
/-- a memory's blocks lie below -/
abbrev Low (B p t g gw : Nat) : Prop := p < B ∧ t < B ∧ g < B ∧ gw < B
section
variable {w w' : World} {B p t g gw : Nat} {a : Option Addr} {n c : Nat} {l : List Int} {M : Mm}
theorem Sk.len (h : Sk w B a n c l) : l.length = n := by have := h.1; rw [wcs_len] at this; omega
theorem Sk.nmax (h : Sk w B a n c l) : n ≤ maxLen := by
  rcases h.2 with ⟨_, h0⟩ | ⟨_, _, _, e, _, _, h1, h2, _⟩
  · subst h0; simp
  · simp only [Value.slice.injEq, true_and] at e; omega
theorem Sk.fr {S : Nat → Prop} (h : Sk w B a n c l) (hf : Fr S w w') (hS : ∀ k, (Value.slice a n c).ownBlock = some k → ¬ S k) : Sk w' B a n c l := by
  refine ⟨h.1, ?_⟩
  have hlt := World.ownsRow.lt h
  rcases h.2 with hn | ⟨k, cap, cur, e, hk, hc, hr⟩
  · exact Or.inl hn
  · have hb : (Value.slice a n c).ownBlock = some k := by rw [e]; rfl
    exact Or.inr ⟨k, cap, cur, e, hk, (hf.block k (hlt k hb).2 (hS k hb)).trans hc, hr⟩
theorem Sk.belowS (h : Sk w B a n c l) (hb : Below w.heap.size w w') : Sk w' B a n c l := h.fr (S := fun _ => False) (Fr.of_below hb) (fun _ _ h => h)
theorem Sk.ne_ {b : Nat} {ty : TypeId} {cs : Array Value} (h : Sk w B a n c l) (h' : Whole w b ty cs) (hne : ty ≠ 23) : (Value.slice a n c).ownBlock ≠ some b := by
  intro hb
  rcases h.2 with ⟨e, _⟩ | ⟨k, cap, cur, e, hk, hc, hr⟩
  · rw [e] at hb; cases hb
  · rw [e] at hb
    obtain rfl : k = b := Option.some.inj hb
    unfold Whole at h'
    rw [hc] at h'
    simp at h'
    exact hne h'.2.symm
theorem fr_of_grown {row : Option Nat} (h : w.grownBy w' row) : Fr (fun i => row = some i) w w' := ⟨h.os, h.tape, h.output, h.size, fun i hi hn => h.block i hi (fun e => hn e.symm)⟩
theorem Ends.far {u : World} {b : Nat} (E : Ends u b) {q : Addr} (h1 : b ≠ q.block) (h2 : b + 1 ≠ q.block) (v : Value) : Ends (u.setCell q v) b := by
  obtain ⟨c1, x1, s1⟩ := E.hh
  obtain ⟨c2, x2, s2⟩ := E.hn
  exact ⟨⟨c1, x1.far h1 v, s1⟩, ⟨c2, x2.far h2 v, s2⟩⟩
theorem Ends.belowS {u u' : World} {b : Nat} (E : Ends u b) (hb : Below u.heap.size u u') : Ends u' b := by
  obtain ⟨c1, x1, s1⟩ := E.hh
  obtain ⟨c2, x2, s2⟩ := E.hn
  exact ⟨⟨c1, x1.belowS hb, s1⟩, ⟨c2, x2.belowS hb, s2⟩⟩
/-- out of a call that only makes memory -/
theorem does_says {f : FuncId} {args : Array Value} {r : Res} (hc : Calls Tryz.prog f args w fun e w' => e = .returned (.tuple #[hV r.h.pc r.h.r a n c r.h.why r.h.ep r.h.home, nV r.sf r.st r.nt r.nx]) ∧ Below w.heap.size w w') (sk : Sk w B a n c r.h.sk) (pm : Pm w p t g gw r.m) :
    Calls Tryz.prog f args w (Does B p t g gw a n c r w) :=
  hc.mono fun e w' ⟨he, hb⟩ => ⟨a, n, c, he, sk.belowS hb, pm.belowS hb, Fr.of_below hb⟩
/-- the end of a function that told a hart and a note -/
theorem does_end {u : World} {b : Nat} {S : Nat → Prop} {a' : Option Addr} {n' c' : Nat} {r : Res} (sk : Sk u B a' n' c' r.h.sk) (pm : Pm u p t g gw r.m) (E : Ends u b) (hl : w.heap.size ≤ b) (hlt : p < w.heap.size ∧ t < w.heap.size ∧ g < w.heap.size ∧ gw < w.heap.size)
    (hF : Fr S w u) (hS : ∀ i, S i → (MS p g gw i ∨ (Value.slice a n c).ownBlock = some i) ∨ w.heap.size ≤ i) : Does B p t g gw a n c r w (.returned (.tuple #[hV r.h.pc r.h.r a' n' c' r.h.why r.h.ep r.h.home, nV r.sf r.st r.nt r.nx]))
      (end2 u b r.h.pc (r.h.r 0) (r.h.r 1) (r.h.r 2) (r.h.r 3) (r.h.r 4) (r.h.r 5) (r.h.r 6) (r.h.r 7) a' n' c' r.h.why r.h.ep r.h.home r.sf r.st r.nt r.nx) := by
  obtain ⟨c1, x1, s1⟩ := E.hh
  obtain ⟨c2, x2, s2⟩ := E.hn
  have n1 := sk.ne_ x1 (by decide)
  have n2 := sk.ne_ x2 (by decide)
  have F := ends_fr u b r.h.pc (r.h.r 0) (r.h.r 1) (r.h.r 2) (r.h.r 3) (r.h.r 4) (r.h.r 5) (r.h.r 6) (r.h.r 7) a' n' c' r.h.why r.h.ep r.h.home r.sf r.st r.nt r.nx
  refine ⟨a', n', c', rfl, sk.fr F (fun k hk => by rintro (rfl | rfl); exact n1 hk; exact n2 hk), pm.fr F (by omega) (by omega) (by omega) (by omega), (hF.mono hS).trans F (fun i hi => Or.inr (by omega))⟩
end
theorem hstore_any {w : World} {B p t g gw : Nat} {h : Ht} {M : Mm} {a : Option Addr} {n c : Nat} (pm : Pm w p t g gw M) (sk : Sk w B a n c h.sk) (low : Low B p t g gw) (own x y : Int) (hx : B32 x) :
    Calls Tryz.prog 78 #[hV h.pc h.r a n c h.why h.ep h.home, .pointer (some ⟨p, 0, none⟩), .int .u16 own, .int .u32 x, .int .u32 y] w (Does B p t g gw a n c (storeR h M own x y) w) := by
  have hlt := pm.lt
  obtain ⟨hb0, hs0, B1, B2, B3⟩ := w3_facts w (hCs h.pc h.r a n c h.why h.ep h.home)
  have CS := Lib.hid (store_any (pm.belowS hb0) x y h.ep own hx)
  have kOwn : ∀ k, (Value.slice a n c).ownBlock = some k → B ≤ k ∧ k < w.heap.size := World.ownsRow.lt sk
  have EN : Hid (∀ (w1 : World) (M' : Mm), Fr (MS p g gw) (w3 w (hCs h.pc h.r a n c h.why h.ep h.home)) w1 → Pm w1 p t g gw M' → Fr (MS p g gw) w w1 ∧ Sk w1 B a n c h.sk ∧ Ends w1 (w.heap.size + 1) ∧ Whole w1 w.heap.size 30 (hCs h.pc h.r a n c h.why h.ep h.home)) := Lib.hid fun w1 M' hf hP => by
    have hF : Fr (MS p g gw) w w1 := (Fr.of_below hb0).trans hf (fun i hi => Or.inl hi)
    refine ⟨hF, sk.fr hF (fun k hk => by have := kOwn k hk; rintro (e | e | e) <;> omega), ⟨⟨_, B2.fr hf (by rintro (e | e | e) <;> omega), rfl⟩, ⟨_, B3.fr hf (by rintro (e | e | e) <;> omega), rfl⟩⟩, B1.fr hf (by rintro (e | e | e) <;> omega)⟩
  have SKd : Hid (Sk w B a n c h.sk) := Lib.hid sk
  obtain ⟨pc, R, l, why, ep, home⟩ := h
  unfold storeR
  simp only at *
  clear sk hb0 hs0 B1 B2 B3
  cases hsb : stoB M x ep own
  · rw [if_neg (by decide)]
    rw [hsb, sto_no _ hsb] at CS
    clear hsb
    have C := Lib.hid (fun u => stop_any pc R a n c why ep home 5 u)
    go_enter Tryz.func78, Tryz.ntmps78
    go_wp2_with (first | (go_at_call 107; (with_reducible refine CS.out.mono ?_); rintro e wa ⟨rfl, hf, hP⟩; obtain ⟨hF, sk1, E1, B1⟩ := EN.out _ _ hf hP; obtain ⟨c0, c1, c2, c3, c4, c5, c6, c7, c8, c9, c10, c11, c12⟩ := hart_cells B1; have HX := Lib.hid (And.intro hF (And.intro sk1 (And.intro E1 hP))); clear hF sk1 E1 B1 hf hP) | (go_at_call 29; (with_reducible refine (C.out _).mono ?_); rintro e w1 ⟨rfl, hb⟩; obtain ⟨hF, sk1, E1, hP⟩ := HX.out; have E := Lib.hid (E1.belowS hb); have HY := Lib.hid (And.intro (hF.then hb) (And.intro (sk1.belowS hb) (hP.belowS hb))); clear hb hF sk1 E1 hP; obtain ⟨l1, l2, ⟨⟨v0, v1, v2, v3, v4, v5, v6, v7, v8, v9, v10, v11, v12, e0, e1, e2, e3, e4, e5, e6, e7, e8, e9, e10, e11, e12⟩, f0, f1, f2, f3, f4, f5, f6, f7, f8, f9, f10, f11, f12⟩, ⟨⟨z0, z1, z2, z3, g0, g1, g2, g3⟩, i0, i1, i2, i3⟩⟩ := E.out.open_))
    rw [putH_eq, putN_eq]
    refine bodyPost_ret (v := .tuple #[hV pc R a n c 5 ep home, nV false false 0 0]) (by simp [results, Tryz.results78, go_sem, E.out.cells]) rfl ?_
    obtain ⟨y1, y2, y3⟩ := HY.out
    exact does_end (r := stillR ⟨pc, R, l, why, ep, home⟩ M 5) y2 y3 E.out (by omega) hlt y1 (fun i hi => Or.inl (Or.inl hi))
  · rw [if_pos rfl]
    rw [hsb] at CS
    clear hsb
    generalize stoM M x y ep own = M' at *
    go_enter Tryz.func78, Tryz.ntmps78
    go_wp2_with (first | (go_at_call 107; (with_reducible refine CS.out.mono ?_); rintro e wa ⟨rfl, hf, hP⟩; obtain ⟨hF, sk1, E1, B1⟩ := EN.out _ _ hf hP; obtain ⟨c0, c1, c2, c3, c4, c5, c6, c7, c8, c9, c10, c11, c12⟩ := hart_cells B1; have q0 := B1.frozen 0; have q1 := B1.lt; have E := Lib.hid E1; have HX := Lib.hid (And.intro hF (And.intro sk1 (And.intro B1 hP))); clear hF sk1 E1 B1 hf hP; obtain ⟨l1, l2, ⟨⟨v0, v1, v2, v3, v4, v5, v6, v7, v8, v9, v10, v11, v12, e0, e1, e2, e3, e4, e5, e6, e7, e8, e9, e10, e11, e12⟩, f0, f1, f2, f3, f4, f5, f6, f7, f8, f9, f10, f11, f12⟩, ⟨⟨z0, z1, z2, z3, g0, g1, g2, g3⟩, i0, i1, i2, i3⟩⟩ := E.out.open_))
    rw [putH_eq, putN_eq]
    have E2 := Lib.hid (E.out.far (q := ⟨w.heap.size, 0, none⟩) (by simp) (by simp; omega) (.int .u32 ((pc + 1) % 4294967296)))
    refine bodyPost_ret (v := .tuple #[hV (up pc) R a n c why ep home, nV false true x y]) (by simp [results, Tryz.results78, go_sem, E2.out.cells, up]) rfl ?_
    obtain ⟨y1, y2, y3, y4⟩ := HX.out
    have fb := (Fr.refl (fun i => i = w.heap.size) wa).set (p := ⟨w.heap.size, 0, none⟩) (Or.inl rfl) (.int .u32 ((pc + 1) % 4294967296))
    exact does_end (r := ⟨⟨up pc, R, l, why, ep, home⟩, M', false, true, x, y⟩) (y2.fr fb (fun k hk => by have := kOwn k hk; omega)) (y4.fr fb (by omega) (by omega) (by omega) (by omega)) E2.out (by omega) hlt (y1.set (p := ⟨w.heap.size, 0, none⟩) (Or.inr (Nat.le_refl _)) _) (fun i hi => Or.inl (Or.inl hi))
theorem wcs_snoc (l : List Int) (x : Int) : wcs l ++ [.int .u32 x] = wcs (l ++ [x]) := by simp [wcs]
theorem grown_below {B : Nat} {w w' : World} {row : Option Nat} (h : w.grownBy w' row) (hr : ∀ k, row = some k → B ≤ k) (hB : B ≤ w.heap.size) : Below B w w' := ⟨h.os, h.tape, h.output, h.size, fun i hi => h.block i (by omega) (fun e => by have := hr i e.symm; omega)⟩
theorem hcall_any {w : World} {B p t g gw : Nat} {h : Ht} {M : Mm} {a : Option Addr} {n c : Nat} (pm : Pm w p t g gw M) (sk : Sk w B a n c h.sk) (low : Low B p t g gw) (hB : B ≤ w.heap.size) (to : Int) :
    Calls Tryz.prog 80 #[hV h.pc h.r a n c h.why h.ep h.home, .int .u32 to] w (Does B p t g gw a n c (callR h M to) w) := by
  have hlt := pm.lt
  obtain ⟨hb0, hs0, B1, B2, B3⟩ := w3_facts w (hCs h.pc h.r a n c h.why h.ep h.home)
  have kOwn : ∀ k, (Value.slice a n c).ownBlock = some k → B ≤ k ∧ k < w.heap.size := World.ownsRow.lt sk
  have hn := sk.nmax
  unfold maxLen at hn
  have hlen : h.sk.length = n := sk.len
  obtain ⟨pc, R, l, why, ep, home⟩ := h
  unfold callR
  simp only at *
  rw [hlen]
  by_cases h16 : 16 ≤ n
  · rw [if_pos h16]
    have h16' : (16 : Int) ≤ n := by omega
    have SK := Lib.hid sk
    have PM := Lib.hid pm
    have C := Lib.hid (fun u => stop_any pc R a n c why ep home 6 u)
    have HL := Lib.hid hlen
    clear hlen sk pm h16 hb0 hs0 B1 B2 B3
    have D := Lib.hid (fun (w1 : World) (hb : Below (w3 w (hCs pc R a n c why ep home)).heap.size (w3 w (hCs pc R a n c why ep home)) w1) => w3_ends hb)
    have hn' : (n : Int) ≤ 9223372036854775807 := by omega
    go_enter Tryz.func80, Tryz.ntmps80
    go_wp2_with (go_at_call 29; (with_reducible refine (C.out _).mono ?_); rintro e w1 ⟨rfl, hb⟩; have E := Lib.hid (D.out _ hb).1; have BB := Lib.hid (D.out _ hb).2; clear hb; obtain ⟨l1, l2, ⟨⟨v0, v1, v2, v3, v4, v5, v6, v7, v8, v9, v10, v11, v12, e0, e1, e2, e3, e4, e5, e6, e7, e8, e9, e10, e11, e12⟩, f0, f1, f2, f3, f4, f5, f6, f7, f8, f9, f10, f11, f12⟩, ⟨⟨z0, z1, z2, z3, g0, g1, g2, g3⟩, i0, i1, i2, i3⟩⟩ := E.out.open_)
    rw [putH_eq, putN_eq]
    refine bodyPost_ret (v := .tuple #[hV pc R a n c 6 ep home, nV false false 0 0]) (by simp [results, Tryz.results80, go_sem, E.out.cells]) rfl ?_
    exact does_end (r := stillR ⟨pc, R, l, why, ep, home⟩ M 6) (SK.out.belowS BB.out) (PM.out.belowS BB.out) E.out (by omega) hlt (Fr.of_below (S := MS p g gw) BB.out) (fun i hi => Or.inl (Or.inl hi))
  · rw [if_neg h16]
    have h16' : (n : Int) < 16 := by omega
    obtain ⟨i0, hi, hz0, hz1, hz2⟩ := info_parts infoU32
    have C := Lib.hid (fun u a' n' c' => turn_any pc R a' n' c' why ep home to u)
    generalize hX : (pc + 1) % 4294967296 = X at *
    have HX := Lib.hid hX
    have HO := Lib.hid ((sk.belowS hb0).alloc (.cells #[.int .u32 X] 23))
    have HC : Hid (∀ j u, ([.int .u32 X] : List Value)[j]? = some u → ((w3 w (hCs pc R a n c why ep home)).alloc (.cells #[.int .u32 X] 23)).cell? ((⟨w.heap.size + 1 + 1 + 1, 0, none⟩ : Addr).add j) = some u) := Lib.hid fun j u hj => by
      have hw := Whole.new (w3 w (hCs pc R a n c why ep home)) 23 #[.int .u32 X]
      rw [hs0] at hw
      rw [Addr.add_mid, Nat.zero_add, hw.cell, ← hj, List.getElem?_toArray]
    have nb := sk.belowS hb0
    have k1 := nb.ne_ B1 (by decide)
    have k2 := nb.ne_ B2 (by decide)
    have k3 := nb.ne_ B3 (by decide)
    have kk := kOwn
    have D : Hid (∀ (w1 : World) (v : Value), w1.ownsRow B 23 1 v (n + 1) (wcs l ++ [.int .u32 X]) → ((w3 w (hCs pc R a n c why ep home)).alloc (.cells #[.int .u32 X] 23)).grownBy w1 (Value.slice a n c).ownBlock →
        ∃ a' c', v = .slice a' (n + 1) c' ∧ (Value.slice a' (n + 1) c').ownBlock ≠ some w.heap.size ∧ Sk w1 B a' (n + 1) c' (l ++ [X]) ∧ Fr (fun i => (Value.slice a n c).ownBlock = some i) w w1 ∧ Ends w1 (w.heap.size + 1) ∧ Whole w1 w.heap.size 30 (hCs pc R a n c why ep home) ∧ Pm w1 p t g gw M) := Lib.hid fun w1 v ho hg => by
      have hf := fr_of_grown hg
      have hF : Fr (fun i => (Value.slice a n c).ownBlock = some i) w w1 := ((Fr.of_below (S := fun i => (Value.slice a n c).ownBlock = some i) hb0).alloc _).trans hf (fun i hi => Or.inl hi)
      rw [wcs_snoc] at ho
      have own : ∀ i, (Value.slice a n c).ownBlock = some i → B ≤ i := fun i hi => (kk i hi).1
      have E1 : Ends w1 (w.heap.size + 1) := ⟨⟨_, (B2.alloc _).fr hf k2, rfl⟩, ⟨_, (B3.alloc _).fr hf k3, rfl⟩⟩
      have P1 := pm.fr hF (fun e => by have := own _ e; omega) (fun e => by have := own _ e; omega) (fun e => by have := own _ e; omega) (fun e => by have := own _ e; omega)
      rcases ho.2 with ⟨e, h0⟩ | ⟨k, cap, cur, e, hr⟩
      · omega
      · subst e
        exact ⟨_, _, rfl, Sk.ne_ ho ((B1.alloc _).fr hf k1) (by decide), ho, hF, E1, (B1.alloc _).fr hf k1, P1⟩
    have hle : n + 1 ≤ maxLen := by unfold maxLen; omega
    have hby : (n + 1) * 4 ≤ 140737488355328 := by omega
    have hba : B ≤ ((w3 w (hCs pc R a n c why ep home)).alloc (.cells #[.int .u32 X] 23)).heap.size := by simp; omega
    clear hlen sk pm h16 nb k1 k2 k3 hb0 hs0 B1 B2 B3 hn kk hX
    have hX2 : (pc + 1) % 4294967296 = X := HX.out
    go_enter Tryz.func80, Tryz.ntmps80
    go_wp2_with (first | (at_builtin; refine wpList_append_own _ rfl _ _ 22 rfl B 23 i0 _ 1 4 Tryz.underlying22 hi hz0 hz1 hz2 rfl (by decide) (.slice a n c) n (wcs l) rfl HO.out ⟨w.heap.size + 1 + 1 + 1, 0, none⟩ 1 1 [.int .u32 X] rfl rfl HC.out (by simp [Value.oneCell']) hle hby hba ?_; intro v' w1 hown hgrow hnil; obtain ⟨a', c', rfl, hne, sk1, hF1, E1, B1, P1⟩ := D.out _ _ hown hgrow; have HNE := Lib.hid hne; clear hne; obtain ⟨c0, c1, c2, c3, c4, c5, c6, c7, c8, c9, c10, c11, c12⟩ := hart_cells B1; have q9 := B1.frozen 9; have q1 := B1.lt; have HX1 := Lib.hid (And.intro hF1 (And.intro sk1 (And.intro E1 P1))); clear hown hgrow hnil hF1 sk1 E1 B1 P1) | (go_at_call 83; (with_reducible refine (C.out _ _ _ _).mono ?_); rintro e w2 ⟨rfl, hb⟩; have HB2 := Lib.hid hb; obtain ⟨hF1, sk1, E1, P1⟩ := HX1.out; have E := Lib.hid ((E1.far (q := ⟨w.heap.size, 9, none⟩) (by simp) (by simp; omega) (.slice a' (n + 1) c')).belowS hb); clear hF1 sk1 E1 P1 hb; obtain ⟨l1, l2, ⟨⟨v0, v1, v2, v3, v4, v5, v6, v7, v8, v9, v10, v11, v12, e0, e1, e2, e3, e4, e5, e6, e7, e8, e9, e10, e11, e12⟩, f0, f1, f2, f3, f4, f5, f6, f7, f8, f9, f10, f11, f12⟩, ⟨⟨z0, z1, z2, z3, g0, g1, g2, g3⟩, i0, i1, i2, i3⟩⟩ := E.out.open_))
    rw [putH_eq, putN_eq]
    refine bodyPost_ret (v := .tuple #[hV to R a' (n + 1) c' why ep home, nV false false 0 0]) (by simp [results, Tryz.results80, go_sem, E.out.cells]) rfl ?_
    obtain ⟨y1, y2, y3, y4⟩ := HX1.out
    have fb := (Fr.refl (fun i => i = w.heap.size) w1).set (p := ⟨w.heap.size, 9, none⟩) (Or.inl rfl) (.slice a' (n + 1) c')
    have hX3 := HX.out
    subst hX3
    exact does_end (r := ⟨⟨to, R, l ++ [up pc], why, ep, home⟩, M, false, false, 0, 0⟩) ((y2.fr fb (fun k hk e => HNE.out (by rw [hk, e]))).belowS HB2.out) ((y4.fr fb (by omega) (by omega) (by omega) (by omega)).belowS HB2.out) E.out (by omega) hlt ((y1.set (p := ⟨w.heap.size, 9, none⟩) (Or.inr (Nat.le_refl _)) _).then HB2.out) (fun i hi => Or.inl (Or.inr hi))
theorem sk_cut {w : World} {B k c : Nat} {gs : Nat} {l : List Int} (h : Sk w B (some ⟨gs, 0, none⟩) (k + 1) c l) : Sk w B (some ⟨gs, 0, none⟩) k c (l.take k) := by
  have hl := h.len
  rcases h.2 with ⟨e, _⟩ | ⟨g, cap, cur, e, hB, hc, h1, h2, h3, h4⟩
  · simp at e
  · simp only [Value.slice.injEq, true_and] at e
    obtain ⟨e, rfl⟩ := e
    refine ⟨by rw [wcs_len, List.length_take]; omega, Or.inr ⟨g, c, cur, by rw [e], hB, hc, by omega, h2, h3, ?_⟩⟩
    have : (cur.toList.take ((k + 1) * 1)).take k = (wcs l).take k := by rw [h4]
    rw [List.take_take] at this
    rw [Nat.mul_one]
    rw [show min k ((k + 1) * 1) = k by omega] at this
    rw [this]
    simp [wcs, List.map_take]
theorem hback_any {w : World} {B p t g gw : Nat} {h : Ht} {M : Mm} {a : Option Addr} {n c : Nat} (pm : Pm w p t g gw M) (sk : Sk w B a n c h.sk) (low : Low B p t g gw) (hB : B ≤ w.heap.size) (hpos : 0 < n) :
    Calls Tryz.prog 81 #[hV h.pc h.r a n c h.why h.ep h.home] w (Does B p t g gw a n c (backR h M) w) := by
  have hlt := pm.lt
  obtain ⟨hb0, hs0, B1, B2, B3⟩ := w3_facts w (hCs h.pc h.r a n c h.why h.ep h.home)
  have kOwn : ∀ k, (Value.slice a n c).ownBlock = some k → B ≤ k ∧ k < w.heap.size := World.ownsRow.lt sk
  have hn := sk.nmax
  unfold maxLen at hn
  have hlen : h.sk.length = n := sk.len
  obtain ⟨pc, R, l, why, ep, home⟩ := h
  unfold backR
  simp only at *
  rw [hlen]
  obtain ⟨k, rfl⟩ : ∃ k, n = k + 1 := ⟨n - 1, by omega⟩
  rw [Nat.add_sub_cancel]
  obtain ⟨gs, rfl, hkc⟩ : ∃ gs, a = some ⟨gs, 0, none⟩ ∧ k + 1 ≤ c := by
    rcases sk.2 with ⟨e, _⟩ | ⟨g, cap, cur, e, _, _, h1, _⟩
    · simp at e
    · simp only [Value.slice.injEq, true_and] at e
      exact ⟨g, e.1, by omega⟩
  have hcell := World.ownsRow.cellAt (sk.belowS hb0) k (by omega)
  rw [wcs_at (by omega)] at hcell
  obtain ⟨hB0, hgs⟩ := kOwn gs rfl
  have SK := Lib.hid (sk_cut sk)
  have PM := Lib.hid pm
  generalize l.getD k 0 = X at *
  have C := Lib.hid (fun u => turn_any pc R (some ⟨gs, 0, none⟩) k c why ep home X u)
  have D := Lib.hid (fun (w1 : World) (hb : Below (w3 w (hCs pc R (some ⟨gs, 0, none⟩) k c why ep home)).heap.size (w3 w (hCs pc R (some ⟨gs, 0, none⟩) k c why ep home)) w1) => w3_ends hb)
  clear hlen sk pm hb0 hs0 B1 B2 B3 kOwn
  have hn' : (k : Int) + 1 ≤ 9223372036854775807 := by omega
  have hk0 : (0 : Int) ≤ k := by omega
  have hkc' : (k : Int) + 1 ≤ c := by omega
  go_enter Tryz.func81, Tryz.ntmps81
  go_wp2_with (go_at_call 83; (with_reducible refine (C.out _).mono ?_); rintro e w1 ⟨rfl, hb⟩; have E := Lib.hid (D.out _ hb).1; have BB := Lib.hid (D.out _ hb).2; clear hb; obtain ⟨l1, l2, ⟨⟨v0, v1, v2, v3, v4, v5, v6, v7, v8, v9, v10, v11, v12, e0, e1, e2, e3, e4, e5, e6, e7, e8, e9, e10, e11, e12⟩, f0, f1, f2, f3, f4, f5, f6, f7, f8, f9, f10, f11, f12⟩, ⟨⟨z0, z1, z2, z3, g0, g1, g2, g3⟩, i0, i1, i2, i3⟩⟩ := E.out.open_)
  rw [putH_eq, putN_eq]
  refine bodyPost_ret (v := .tuple #[hV X R (some ⟨gs, 0, none⟩) k c why ep home, nV false false 0 0]) (by simp [results, Tryz.results81, go_sem, E.out.cells]) rfl ?_
  exact does_end (r := ⟨⟨X, R, l.take k, why, ep, home⟩, M, false, false, 0, 0⟩) (SK.out.belowS BB.out) (PM.out.belowS BB.out) E.out (by omega) hlt (Fr.of_below (S := MS p g gw) BB.out) (fun i hi => Or.inl (Or.inl hi))
end Go.Proofs.YtihcellcdkhadaaGreat.HF
