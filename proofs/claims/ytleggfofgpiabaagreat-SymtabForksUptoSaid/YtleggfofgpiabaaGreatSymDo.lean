/-
  One call of the program's table and of the reference's: both leave the same. Nothing here is a statement of the seed.
-/
import Derived.Test.YtleggfofgpiabaaGreatSymProg
import Derived.Test.YtleggfofgpiabaaGreatSymAdd
import Derived.Test.YtleggfofgpiabaaGreatSymCnt
set_option linter.unusedSimpArgs false
set_option linter.unusedVariables false
namespace Go.Proofs.YtleggfofgpiabaaGreat.SP
open Go.RowKit WM NR OM OR SM SR SF
set_option maxHeartbeats 4000000
set_option maxRecDepth 10000
/-- what an act leaves, and what it tells -/
def actM (t : Tb) (x : Ac) : Tb × Int := if x.kind % 5 = 2 then removeM t x.nm else if x.kind % 5 = 3 then countM t x.ns 1 else if x.kind % 5 = 4 then countM t x.ns (-1) else addM t x.nm x.gate x.ns
theorem good_act {t : Tb} (h : SM.Good t) (x : Ac) : SM.Good (actM t x).1 := by
  unfold actM
  split
  · exact good_remove h _
  · split
    · exact good_count h _ _ (Or.inl rfl)
    · split
      · exact good_count h _ _ (Or.inr rfl)
      · exact good_add h _ _ _
theorem act_size (t : Tb) (x : Ac) : (actM t x).1.mods.length ≤ t.mods.length + 1 ∧ (actM t x).1.L.length ≤ t.L.length + 8 := by
  unfold actM
  split
  · have := remove_size t x.nm; omega
  · split
    · have := count_size t x.ns 1; omega
    · split
      · have := count_size t x.ns (-1); omega
      · exact add_size t x.nm x.gate x.ns
theorem chk_size {l : List UInt8} (h : NM.chk l = 0) : l.length ≤ 2097152 := by have := NM.chk_short l h; omega
/-- both tables, the same in one and the other; G: where the reference's rows lie -/
structure Duo (G S : Nat → Prop) (u : World) (v : Value) (ma : Option Addr) (mn mc : Nat) (la : Option Addr) (ln lc : Nat) (t : Tb) : Prop where
  P : PT S u v t
  R : RdT G u ma mn mc la ln lc t
  GS : ∀ g, G g → ¬ S g ∧ g < u.heap.size
theorem Duo.belowS {G S : Nat → Prop} {u u' : World} {v : Value} {ma : Option Addr} {mn mc : Nat} {la : Option Addr} {ln lc : Nat} {t : Tb} (h : Duo G S u v ma mn mc la ln lc t) (hb : Below u.heap.size u u') : Duo G S u' v ma mn mc la ln lc t :=
  ⟨h.P.keep hb.size fun g hg => hb.block g (h.P.lt g hg), h.R.keep fun g hg _ => hb.block g (h.GS g hg).2, fun g hg => ⟨(h.GS g hg).1, Nat.lt_of_lt_of_le (h.GS g hg).2 hb.size⟩⟩
/-- a store elsewhere -/
theorem Duo.far {G S : Nat → Prop} {u : World} {v : Value} {ma : Option Addr} {mn mc : Nat} {la : Option Addr} {ln lc : Nat} {t : Tb} (h : Duo G S u v ma mn mc la ln lc t) {p : Addr} (hS : ¬ S p.block) (hG : ¬ G p.block) (y : Value) : Duo G S (u.setCell p y) v ma mn mc la ln lc t :=
  ⟨h.P.keep (by simp) fun g hg => Below.heap_setCell _ _ _ _ (fun e => hS (e ▸ hg)), h.R.keep fun g hg _ => Below.heap_setCell _ _ _ _ (fun e => hG (e ▸ hg)), fun g hg => ⟨(h.GS g hg).1, by simpa using (h.GS g hg).2⟩⟩
/-- a box of the call's own, on the way: r, the act, the result -/
structure DJ (w : World) (c0 c1 c2 : Array Value) (u : World) : Prop where
  X : Whole u w.heap.size 30 c0
  Y : Whole u (w.heap.size + 1) 34 c1
  Z : Whole u (w.heap.size + 2) 30 c2
theorem DJ.fr {w u u' : World} {c0 c1 c2 : Array Value} {S : Nat → Prop} (h : DJ w c0 c1 c2 u) (hf : Fr S u u') (hS : ∀ g, S g → g < w.heap.size ∨ w.heap.size + 3 ≤ g) : DJ w c0 c1 c2 u' :=
  ⟨h.X.fr hf (fun h1 => by have := hS _ h1; omega), h.Y.fr hf (fun h1 => by have := hS _ h1; omega), h.Z.fr hf (fun h1 => by have := hS _ h1; omega)⟩
theorem DJ.belowS {w u u' : World} {c0 c1 c2 : Array Value} (h : DJ w c0 c1 c2 u) (hb : Below u.heap.size u u') : DJ w c0 c1 c2 u' := ⟨h.X.belowS hb, h.Y.belowS hb, h.Z.belowS hb⟩
theorem DJ.new (w : World) (c0 c1 c2 : Array Value) : DJ w c0 c1 c2 (((w.alloc (.cells c0 30)).alloc (.cells c1 34)).alloc (.cells c2 30)) ∧ Below w.heap.size w (((w.alloc (.cells c0 30)).alloc (.cells c1 34)).alloc (.cells c2 30)) ∧ (((w.alloc (.cells c0 30)).alloc (.cells c1 34)).alloc (.cells c2 30)).heap.size = w.heap.size + 3 := by
  have b0 := below_new w (.cells c0 30)
  have b1 := below_new (w.alloc (.cells c0 30)) (.cells c1 34)
  have b2 := below_new ((w.alloc (.cells c0 30)).alloc (.cells c1 34)) (.cells c2 30)
  have s0 : (w.alloc (.cells c0 30)).heap.size = w.heap.size + 1 := by simp
  have s1 : ((w.alloc (.cells c0 30)).alloc (.cells c1 34)).heap.size = w.heap.size + 2 := by simp
  have y := Whole.new (w.alloc (.cells c0 30)) 34 c1
  have z := Whole.new ((w.alloc (.cells c0 30)).alloc (.cells c1 34)) 30 c2
  rw [s0] at y
  rw [s1] at z
  exact ⟨⟨((Whole.new w _ _).belowS b1).belowS b2, y.belowS b2, z⟩, (b0.trans (b1.mono b0.size)).trans (b2.mono (b0.trans (b1.mono b0.size)).size), by simp⟩
theorem four_cells {w : World} {b : Nat} {t : TypeId} {x0 x1 x2 x3 : Value} (h : Whole w b t #[x0, x1, x2, x3]) : w.cell? ⟨b, 0, none⟩ = some x0 ∧ w.cell? ⟨b, 1, none⟩ = some x1 ∧ w.cell? ⟨b, 2, none⟩ = some x2 ∧ w.cell? ⟨b, 3, none⟩ = some x3 := ⟨h.cell 0, h.cell 1, h.cell 2, h.cell 3⟩
/-- what do tells: the reference's table anew, true -/
def IsDo (G S : Nat → Prop) (w : World) (v : Value) (t : Tb) : Ending → World → Prop := fun e u => ∃ ma mn mc la ln lc G' S', e = .returned (.tuple #[tbV ma mn mc la ln lc, .bool true]) ∧ Duo G' S' u v ma mn mc la ln lc t ∧ (∀ g, S' g → S g ∨ w.heap.size ≤ g) ∧ (∀ g, G' g → G g ∨ w.heap.size ≤ g) ∧ Fr S w u
/-- the end of each way: the reference's table is laid in its box, told, and laid in the result's -/
theorem do_post {G S S' : Nat → Prop} {w u2 u3 : World} {v : Value} {t' : Tb} {ma : Option Addr} {mn mc : Nat} {la : Option Addr} {ln lc : Nat} (hP : PT S' u2 v t') (hS' : ∀ g, S' g → S g ∨ w.heap.size + 3 ≤ g) (hS : ∀ g, S g → g < w.heap.size) (hG : ∀ g, G g → ¬ S g ∧ g < w.heap.size) (hF : Fr S w u2) (h2 : w.heap.size + 3 ≤ u2.heap.size)
    (hR : RdT (fun g => (G g ∨ u2.heap.size ≤ g) ∧ g < u3.heap.size) u3 ma mn mc la ln lc t') (hb : Below u2.heap.size u2 u3) (x0 x1 y0 y1 : Value) :
    IsDo G S w v t' (.returned (.tuple #[tbV ma mn mc la ln lc, .bool true])) ((((u3.setCell ⟨w.heap.size, 0, none⟩ x0).setCell ⟨w.heap.size, 1, none⟩ x1).setCell ⟨w.heap.size + 2, 0, none⟩ y0).setCell ⟨w.heap.size + 2, 1, none⟩ y1) := by
  have hb3 := hb.size
  have hl := hP.lt
  have blk : ∀ g, g ≠ w.heap.size → g ≠ w.heap.size + 2 → ((((u3.setCell ⟨w.heap.size, 0, none⟩ x0).setCell ⟨w.heap.size, 1, none⟩ x1).setCell ⟨w.heap.size + 2, 0, none⟩ y0).setCell ⟨w.heap.size + 2, 1, none⟩ y1).heap[g]? = u3.heap[g]? := fun g h1 h2 =>
    (((Below.heap_setCell _ _ _ _ h2).trans (Below.heap_setCell _ _ _ _ h2)).trans (Below.heap_setCell _ _ _ _ h1)).trans (Below.heap_setCell _ _ _ _ h1)
  refine ⟨_, _, _, _, _, _, _, S', rfl, ⟨?_, hR.keep (fun g hg _ => blk g ?_ ?_), fun g hg => ⟨fun h => ?_, by simpa using hg.2⟩⟩, fun g hg => (hS' g hg).imp id (fun h => by omega), fun g hg => hg.1.imp id (fun h => by omega), ?_⟩
  · refine (hP.keep hb3 fun g hg => hb.block g (hl g hg)).keep (by simp) fun g hg => blk g ?_ ?_
    · have := hS' g hg; have := fun h => hS g h; intro e; rcases hS' g hg with h | h
      · have := hS g h; omega
      · omega
    · intro e; rcases hS' g hg with h | h
      · have := hS g h; omega
      · omega
  · rcases hg.1 with h | h
    · have := (hG g h).2; omega
    · omega
  · rcases hg.1 with h | h
    · have := (hG g h).2; omega
    · omega
  · have h4 := hl g h
    rcases hg.1 with h1 | h1
    · rcases hS' g h with h3 | h3
      · exact (hG g h1).1 h3
      · have := (hG g h1).2; omega
    · omega
  · have f3 := hF.then hb
    exact (((f3.set (p := ⟨w.heap.size, 0, none⟩) (Or.inr (Nat.le_refl _)) x0).set (p := ⟨w.heap.size, 1, none⟩) (Or.inr (Nat.le_refl _)) x1).set (p := ⟨w.heap.size + 2, 0, none⟩) (Or.inr (by simp)) y0).set (p := ⟨w.heap.size + 2, 1, none⟩) (Or.inr (by simp)) y1
section
variable {G S : Nat → Prop} {w : World} {v : Value} {ma : Option Addr} {mn mc : Nat} {la : Option Addr} {ln lc : Nat} {t : Tb}
theorem do_rem (h : Duo G S w v ma mn mc la ln lc t) (hg : SM.Good t) (hb : t.mods.length ≤ 10000 ∧ t.L.length ≤ 80000) (x : Ac) (hx : AcOk (fun g => ¬ S g ∧ g < w.heap.size) w x) (hn : x.nm.length ≤ 2097152) (hns : ∀ s ∈ x.ns, s.length ≤ 2097152) (hnl : x.ns.length ≤ 1000) (hk : x.kind % 5 = 2) :
    Calls Tryz.prog 11 #[v, tbV ma mn mc la ln lc, acV x] w (IsDo G S w v (removeM t x.nm).1) := by
  obtain ⟨xk, xn, xg, na, nn, nc, ns⟩ := x
  simp only at hn hns hnl hk
  have hkd := hx.kind
  have hgt := hx.gate
  have hrd := hx.ns
  simp only at hkd hgt hrd
  obtain ⟨lm, ll, _, _⟩ := h.R.lens
  obtain ⟨J0, B0, Z0⟩ := DJ.new w (tbC ma mn mc la ln lc) #[.int .u8 xk, .string (bs xn), .int .i64 xg, .slice na nn nc] #[.slice none 0 0, .slice none 0 0]
  have hlt := h.P.lt
  have J0 := Lib.hid J0
  have B0 := Lib.hid B0
  have Z0 := Lib.hid Z0
  have C1 : Hid (∀ u, Below w.heap.size w u → w.heap.size + 3 ≤ u.heap.size → Calls Tryz.prog 16 #[v, .string (bs xn)] u fun e u' => e = .returned (.int .i64 (removeM t xn).2) ∧ Chg S u v (removeM t xn).1 u') := Lib.hid (fun u hb0 hz => remove_any (h.P.keep hb0.size fun g hg => hb0.block g (h.P.lt g hg)) hg hb xn (by omega))
  have C2 : Hid (∀ u, Fr S w u → Calls Tryz.prog 23 #[tbV ma mn mc la ln lc, .string (bs xn)] u (IsT G (removeM t xn).1 (removeM t xn).2 u)) := Lib.hid (fun u hf => refRemove_any (h.R.keep fun g hg _ => hf.block g (h.GS g hg).2 (h.GS g hg).1) (fun g hg => Nat.lt_of_lt_of_le (h.GS g hg).2 hf.size) (fun e he => ⟨(hg.bd e he).2.2.2.2.1, (hg.bd e he).2.2.2.2.2⟩) (by omega) xn)
  have HS := Lib.hid hlt
  have HGS := Lib.hid h.GS
  obtain ⟨T, hT⟩ : ∃ T, T = removeM t xn := ⟨_, rfl⟩
  rw [← hT] at C1 C2 ⊢
  have hkm : xk % 5 < 5 ∧ 0 ≤ xk % 5 := by omega
  have hkt : xk.tmod 5 = xk % 5 := by rw [Int.tmod_eq_emod_of_nonneg (by omega)]
  have k2 : xk % 5 = 2 := hk
  clear h hg hb hx hn hns hnl hT hrd hlt lm ll hgt
  change Calls _ _ #[v, tbV ma mn mc la ln lc, .agg #[.int .u8 xk, .string (bs xn), .int .i64 xg, .slice na nn nc]] w _
  generalize bs xn = y at *
  generalize xk % 5 = kk at *
  go_enter Tryz.func11, Tryz.ntmps11
  go_upto_region 1 with fail
  generalize ((w.alloc (.cells (tbC ma mn mc la ln lc) 30)).alloc (.cells #[.int .u8 xk, .string y, .int .i64 xg, .slice na nn nc] 34)).alloc (.cells #[.slice none 0 0, .slice none 0 0] 30) = W at *
  have hWz := Z0.out
  obtain ⟨a0, a1, a2, a3⟩ := four_cells J0.out.Y
  have a6 := J0.out.Y.lt
  go_upto_region 7 with (go_at_call 16; (with_reducible refine (C1.out _ B0.out (by omega)).mono ?_); rintro e w2 ⟨rfl, S', hP, hS', hF⟩; have J2 := Lib.hid (J0.out.fr hF (fun g hg => by have := HS.out g hg; omega)); have F2 := Lib.hid ((Fr.of_below (S := S) B0.out).trans hF (fun i hi => Or.inl hi)); have hs2 := hF.size; have HP := Lib.hid (And.intro hP hS'); clear hP hS' hF)
  clear a0 a1 a2 a3 a6
  obtain ⟨a0, a1, a2, a3⟩ := four_cells J2.out.Y
  have a6 := J2.out.Y.lt
  obtain ⟨c0, c1⟩ := two_cells J2.out.X
  have c6 := J2.out.X.lt
  have cf0 := J2.out.X.frozen 0
  have cf1 := J2.out.X.frozen 1
  go_upto_region 14 with (go_at_call 23; (with_reducible refine (C2.out _ F2.out).mono ?_); rintro e w3 ⟨ma', mn', mc', la', ln', lc', rfl, hR, hB⟩; have J3 := Lib.hid (J2.out.belowS hB); have HR := Lib.hid (And.intro hR hB); clear a0 a1 a2 a3 a6 c0 c1 c6 cf0 cf1; obtain ⟨c0, c1⟩ := two_cells J3.out.X; have c6 := J3.out.X.lt; have cf0 := J3.out.X.frozen 0; have cf1 := J3.out.X.frozen 1; obtain ⟨d0, d1⟩ := two_cells J3.out.Z; have d6 := J3.out.Z.lt; have df0 := J3.out.Z.frozen 0; have df1 := J3.out.Z.frozen 1; clear hR hB)
  have X4 := (J3.out.X.set_ 0 (.slice ma' mn' mc')).set_ 1 (.slice la' ln' lc')
  have Z4 := Whole.far (Whole.far J3.out.Z (p := ⟨w.heap.size, 0, none⟩) (show w.heap.size + 2 ≠ w.heap.size by omega) (.slice ma' mn' mc')) (p := ⟨w.heap.size, 1, none⟩) (show w.heap.size + 2 ≠ w.heap.size by omega) (.slice la' ln' lc')
  have FF := Lib.hid (do_post (S := S) HP.out.1 (fun g hg => (HP.out.2 g hg).imp id (fun h => by omega)) HS.out HGS.out F2.out (by omega) HR.out.1 HR.out.2 (.slice ma' mn' mc') (.slice la' ln' lc') (.slice ma' mn' mc') (.slice la' ln' lc'))
  clear c0 c1 c6 cf0 cf1 d0 d1 d6 df0 df1 HR HP J3 J2 F2 HS HGS C1 C2 J0 B0 Z0
  generalize (w3.setCell ⟨w.heap.size, 0, none⟩ (.slice ma' mn' mc')).setCell ⟨w.heap.size, 1, none⟩ (.slice la' ln' lc') = w4 at *
  obtain ⟨c0, c1⟩ := two_cells X4
  have c6 := X4.lt
  have d6 := Z4.lt
  have df0 := Z4.frozen 0
  have df1 := Z4.frozen 1
  obtain ⟨d0, d1⟩ := two_cells Z4
  have HZ := (Z4.set_ 0 (.slice ma' mn' mc')).set_ 1 (.slice la' ln' lc')
  have ett : (T.2 == T.2) = true := by simp
  go_wp2_with fail
  obtain ⟨zz0, zz1⟩ := two_cells HZ
  exact bodyPost_ret (v := .tuple #[tbV ma' mn' mc' la' ln' lc', .bool true]) (by simp [results, Tryz.results11, go_sem, zz0, zz1]) rfl FF.out
theorem do_hold (h : Duo G S w v ma mn mc la ln lc t) (hg : SM.Good t) (hb : t.mods.length ≤ 10000 ∧ t.L.length ≤ 80000) (x : Ac) (hx : AcOk (fun g => ¬ S g ∧ g < w.heap.size) w x) (hn : x.nm.length ≤ 2097152) (hns : ∀ s ∈ x.ns, s.length ≤ 2097152) (hnl : x.ns.length ≤ 1000) (hk : x.kind % 5 = 3) :
    Calls Tryz.prog 11 #[v, tbV ma mn mc la ln lc, acV x] w (IsDo G S w v (countM t x.ns 1).1) := by
  obtain ⟨xk, xn, xg, na, nn, nc, ns⟩ := x
  simp only at hn hns hnl hk
  have hkd := hx.kind
  have hgt := hx.gate
  have hrd := hx.ns
  simp only at hkd hgt hrd
  obtain ⟨lm, ll, _, _⟩ := h.R.lens
  obtain ⟨J0, B0, Z0⟩ := DJ.new w (tbC ma mn mc la ln lc) #[.int .u8 xk, .string (bs xn), .int .i64 xg, .slice na nn nc] #[.slice none 0 0, .slice none 0 0]
  have hlt := h.P.lt
  have J0 := Lib.hid J0
  have B0 := Lib.hid B0
  have Z0 := Lib.hid Z0
  have C1 : Hid (∀ u, Below w.heap.size w u → w.heap.size + 3 ≤ u.heap.size → Calls Tryz.prog 17 #[v, .slice na nn nc] u fun e u' => e = .returned (.int .i64 (countM t ns 1).2) ∧ Chg S u v (countM t ns 1).1 u') := Lib.hid (fun u hb0 hz => hold_any (h.P.keep hb0.size fun g hg => hb0.block g (h.P.lt g hg)) hg hb ((hrd.keep fun g hg _ => hb0.block g hg.2).mono fun g hg => ⟨hg.1, by omega⟩) (fun s hs => Nat.le_trans (hns s hs) (by omega)) hnl)
  have C2 : Hid (∀ u, Fr S w u → Calls Tryz.prog 24 #[tbV ma mn mc la ln lc, .slice na nn nc, .int .i64 1] u (IsT G (countM t ns 1).1 (countM t ns 1).2 u)) := Lib.hid (fun u hf => refCount_any (h.R.keep fun g hg _ => hf.block g (h.GS g hg).2 (h.GS g hg).1) (fun g hg => Nat.lt_of_lt_of_le (h.GS g hg).2 hf.size) (fun e he => ⟨(hg.bd e he).2.2.2.2.1, (hg.bd e he).2.2.2.2.2⟩) (by omega) 1 (Or.inl rfl) ((hrd.keep fun g hg _ => hf.block g hg.2 hg.1).mono fun g hg => Nat.lt_of_lt_of_le hg.2 hf.size))
  have HS := Lib.hid hlt
  have HGS := Lib.hid h.GS
  obtain ⟨T, hT⟩ : ∃ T, T = countM t ns 1 := ⟨_, rfl⟩
  rw [← hT] at C1 C2 ⊢
  have hkm : xk % 5 < 5 ∧ 0 ≤ xk % 5 := by omega
  have hkt : xk.tmod 5 = xk % 5 := by rw [Int.tmod_eq_emod_of_nonneg (by omega)]
  have k3 : xk % 5 = 3 := hk
  clear h hg hb hx hn hns hnl hT hrd hlt lm ll hgt
  change Calls _ _ #[v, tbV ma mn mc la ln lc, .agg #[.int .u8 xk, .string (bs xn), .int .i64 xg, .slice na nn nc]] w _
  generalize bs xn = y at *
  generalize xk % 5 = kk at *
  go_enter Tryz.func11, Tryz.ntmps11
  go_upto_region 1 with fail
  generalize ((w.alloc (.cells (tbC ma mn mc la ln lc) 30)).alloc (.cells #[.int .u8 xk, .string y, .int .i64 xg, .slice na nn nc] 34)).alloc (.cells #[.slice none 0 0, .slice none 0 0] 30) = W at *
  have hWz := Z0.out
  obtain ⟨a0, a1, a2, a3⟩ := four_cells J0.out.Y
  have a6 := J0.out.Y.lt
  go_upto_region 10 with (go_at_call 17; (with_reducible refine (C1.out _ B0.out (by omega)).mono ?_); rintro e w2 ⟨rfl, S', hP, hS', hF⟩; have J2 := Lib.hid (J0.out.fr hF (fun g hg => by have := HS.out g hg; omega)); have F2 := Lib.hid ((Fr.of_below (S := S) B0.out).trans hF (fun i hi => Or.inl hi)); have hs2 := hF.size; have HP := Lib.hid (And.intro hP hS'); clear hP hS' hF)
  clear a0 a1 a2 a3 a6
  obtain ⟨a0, a1, a2, a3⟩ := four_cells J2.out.Y
  have a6 := J2.out.Y.lt
  obtain ⟨c0, c1⟩ := two_cells J2.out.X
  have c6 := J2.out.X.lt
  have cf0 := J2.out.X.frozen 0
  have cf1 := J2.out.X.frozen 1
  go_upto_region 14 with (go_at_call 24; (with_reducible refine (C2.out _ F2.out).mono ?_); rintro e w3 ⟨ma', mn', mc', la', ln', lc', rfl, hR, hB⟩; have J3 := Lib.hid (J2.out.belowS hB); have HR := Lib.hid (And.intro hR hB); clear a0 a1 a2 a3 a6 c0 c1 c6 cf0 cf1; obtain ⟨c0, c1⟩ := two_cells J3.out.X; have c6 := J3.out.X.lt; have cf0 := J3.out.X.frozen 0; have cf1 := J3.out.X.frozen 1; obtain ⟨d0, d1⟩ := two_cells J3.out.Z; have d6 := J3.out.Z.lt; have df0 := J3.out.Z.frozen 0; have df1 := J3.out.Z.frozen 1; clear hR hB)
  have X4 := (J3.out.X.set_ 0 (.slice ma' mn' mc')).set_ 1 (.slice la' ln' lc')
  have Z4 := Whole.far (Whole.far J3.out.Z (p := ⟨w.heap.size, 0, none⟩) (show w.heap.size + 2 ≠ w.heap.size by omega) (.slice ma' mn' mc')) (p := ⟨w.heap.size, 1, none⟩) (show w.heap.size + 2 ≠ w.heap.size by omega) (.slice la' ln' lc')
  have FF := Lib.hid (do_post (S := S) HP.out.1 (fun g hg => (HP.out.2 g hg).imp id (fun h => by omega)) HS.out HGS.out F2.out (by omega) HR.out.1 HR.out.2 (.slice ma' mn' mc') (.slice la' ln' lc') (.slice ma' mn' mc') (.slice la' ln' lc'))
  clear c0 c1 c6 cf0 cf1 d0 d1 d6 df0 df1 HR HP J3 J2 F2 HS HGS C1 C2 J0 B0 Z0
  generalize (w3.setCell ⟨w.heap.size, 0, none⟩ (.slice ma' mn' mc')).setCell ⟨w.heap.size, 1, none⟩ (.slice la' ln' lc') = w4 at *
  obtain ⟨c0, c1⟩ := two_cells X4
  have c6 := X4.lt
  have d6 := Z4.lt
  have df0 := Z4.frozen 0
  have df1 := Z4.frozen 1
  obtain ⟨d0, d1⟩ := two_cells Z4
  have HZ := (Z4.set_ 0 (.slice ma' mn' mc')).set_ 1 (.slice la' ln' lc')
  have ett : (T.2 == T.2) = true := by simp
  go_wp2_with fail
  obtain ⟨zz0, zz1⟩ := two_cells HZ
  exact bodyPost_ret (v := .tuple #[tbV ma' mn' mc' la' ln' lc', .bool true]) (by simp [results, Tryz.results11, go_sem, zz0, zz1]) rfl FF.out
theorem do_drop (h : Duo G S w v ma mn mc la ln lc t) (hg : SM.Good t) (hb : t.mods.length ≤ 10000 ∧ t.L.length ≤ 80000) (x : Ac) (hx : AcOk (fun g => ¬ S g ∧ g < w.heap.size) w x) (hn : x.nm.length ≤ 2097152) (hns : ∀ s ∈ x.ns, s.length ≤ 2097152) (hnl : x.ns.length ≤ 1000) (hk : x.kind % 5 = 4) :
    Calls Tryz.prog 11 #[v, tbV ma mn mc la ln lc, acV x] w (IsDo G S w v (countM t x.ns (-1)).1) := by
  obtain ⟨xk, xn, xg, na, nn, nc, ns⟩ := x
  simp only at hn hns hnl hk
  have hkd := hx.kind
  have hgt := hx.gate
  have hrd := hx.ns
  simp only at hkd hgt hrd
  obtain ⟨lm, ll, _, _⟩ := h.R.lens
  obtain ⟨J0, B0, Z0⟩ := DJ.new w (tbC ma mn mc la ln lc) #[.int .u8 xk, .string (bs xn), .int .i64 xg, .slice na nn nc] #[.slice none 0 0, .slice none 0 0]
  have hlt := h.P.lt
  have J0 := Lib.hid J0
  have B0 := Lib.hid B0
  have Z0 := Lib.hid Z0
  have C1 : Hid (∀ u, Below w.heap.size w u → w.heap.size + 3 ≤ u.heap.size → Calls Tryz.prog 18 #[v, .slice na nn nc] u fun e u' => e = .returned (.int .i64 (countM t ns (-1)).2) ∧ Chg S u v (countM t ns (-1)).1 u') := Lib.hid (fun u hb0 hz => drop_any (h.P.keep hb0.size fun g hg => hb0.block g (h.P.lt g hg)) hg hb ((hrd.keep fun g hg _ => hb0.block g hg.2).mono fun g hg => ⟨hg.1, by omega⟩) (fun s hs => Nat.le_trans (hns s hs) (by omega)) hnl)
  have C2 : Hid (∀ u, Fr S w u → Calls Tryz.prog 24 #[tbV ma mn mc la ln lc, .slice na nn nc, .int .i64 (-1)] u (IsT G (countM t ns (-1)).1 (countM t ns (-1)).2 u)) := Lib.hid (fun u hf => refCount_any (h.R.keep fun g hg _ => hf.block g (h.GS g hg).2 (h.GS g hg).1) (fun g hg => Nat.lt_of_lt_of_le (h.GS g hg).2 hf.size) (fun e he => ⟨(hg.bd e he).2.2.2.2.1, (hg.bd e he).2.2.2.2.2⟩) (by omega) (-1) (Or.inr rfl) ((hrd.keep fun g hg _ => hf.block g hg.2 hg.1).mono fun g hg => Nat.lt_of_lt_of_le hg.2 hf.size))
  have HS := Lib.hid hlt
  have HGS := Lib.hid h.GS
  obtain ⟨T, hT⟩ : ∃ T, T = countM t ns (-1) := ⟨_, rfl⟩
  rw [← hT] at C1 C2 ⊢
  have hkm : xk % 5 < 5 ∧ 0 ≤ xk % 5 := by omega
  have hkt : xk.tmod 5 = xk % 5 := by rw [Int.tmod_eq_emod_of_nonneg (by omega)]
  have k4 : xk % 5 = 4 := hk
  clear h hg hb hx hn hns hnl hT hrd hlt lm ll hgt
  change Calls _ _ #[v, tbV ma mn mc la ln lc, .agg #[.int .u8 xk, .string (bs xn), .int .i64 xg, .slice na nn nc]] w _
  generalize bs xn = y at *
  generalize xk % 5 = kk at *
  go_enter Tryz.func11, Tryz.ntmps11
  go_upto_region 1 with fail
  generalize ((w.alloc (.cells (tbC ma mn mc la ln lc) 30)).alloc (.cells #[.int .u8 xk, .string y, .int .i64 xg, .slice na nn nc] 34)).alloc (.cells #[.slice none 0 0, .slice none 0 0] 30) = W at *
  have hWz := Z0.out
  obtain ⟨a0, a1, a2, a3⟩ := four_cells J0.out.Y
  have a6 := J0.out.Y.lt
  go_upto_region 13 with (go_at_call 18; (with_reducible refine (C1.out _ B0.out (by omega)).mono ?_); rintro e w2 ⟨rfl, S', hP, hS', hF⟩; have J2 := Lib.hid (J0.out.fr hF (fun g hg => by have := HS.out g hg; omega)); have F2 := Lib.hid ((Fr.of_below (S := S) B0.out).trans hF (fun i hi => Or.inl hi)); have hs2 := hF.size; have HP := Lib.hid (And.intro hP hS'); clear hP hS' hF)
  clear a0 a1 a2 a3 a6
  obtain ⟨a0, a1, a2, a3⟩ := four_cells J2.out.Y
  have a6 := J2.out.Y.lt
  obtain ⟨c0, c1⟩ := two_cells J2.out.X
  have c6 := J2.out.X.lt
  have cf0 := J2.out.X.frozen 0
  have cf1 := J2.out.X.frozen 1
  go_upto_region 14 with (go_at_call 24; (with_reducible refine (C2.out _ F2.out).mono ?_); rintro e w3 ⟨ma', mn', mc', la', ln', lc', rfl, hR, hB⟩; have J3 := Lib.hid (J2.out.belowS hB); have HR := Lib.hid (And.intro hR hB); clear a0 a1 a2 a3 a6 c0 c1 c6 cf0 cf1; obtain ⟨c0, c1⟩ := two_cells J3.out.X; have c6 := J3.out.X.lt; have cf0 := J3.out.X.frozen 0; have cf1 := J3.out.X.frozen 1; obtain ⟨d0, d1⟩ := two_cells J3.out.Z; have d6 := J3.out.Z.lt; have df0 := J3.out.Z.frozen 0; have df1 := J3.out.Z.frozen 1; clear hR hB)
  have X4 := (J3.out.X.set_ 0 (.slice ma' mn' mc')).set_ 1 (.slice la' ln' lc')
  have Z4 := Whole.far (Whole.far J3.out.Z (p := ⟨w.heap.size, 0, none⟩) (show w.heap.size + 2 ≠ w.heap.size by omega) (.slice ma' mn' mc')) (p := ⟨w.heap.size, 1, none⟩) (show w.heap.size + 2 ≠ w.heap.size by omega) (.slice la' ln' lc')
  have FF := Lib.hid (do_post (S := S) HP.out.1 (fun g hg => (HP.out.2 g hg).imp id (fun h => by omega)) HS.out HGS.out F2.out (by omega) HR.out.1 HR.out.2 (.slice ma' mn' mc') (.slice la' ln' lc') (.slice ma' mn' mc') (.slice la' ln' lc'))
  clear c0 c1 c6 cf0 cf1 d0 d1 d6 df0 df1 HR HP J3 J2 F2 HS HGS C1 C2 J0 B0 Z0
  generalize (w3.setCell ⟨w.heap.size, 0, none⟩ (.slice ma' mn' mc')).setCell ⟨w.heap.size, 1, none⟩ (.slice la' ln' lc') = w4 at *
  obtain ⟨c0, c1⟩ := two_cells X4
  have c6 := X4.lt
  have d6 := Z4.lt
  have df0 := Z4.frozen 0
  have df1 := Z4.frozen 1
  obtain ⟨d0, d1⟩ := two_cells Z4
  have HZ := (Z4.set_ 0 (.slice ma' mn' mc')).set_ 1 (.slice la' ln' lc')
  have ett : (T.2 == T.2) = true := by simp
  go_wp2_with fail
  obtain ⟨zz0, zz1⟩ := two_cells HZ
  exact bodyPost_ret (v := .tuple #[tbV ma' mn' mc' la' ln' lc', .bool true]) (by simp [results, Tryz.results11, go_sem, zz0, zz1]) rfl FF.out
theorem do_add (h : Duo G S w v ma mn mc la ln lc t) (hg : SM.Good t) (hb : t.mods.length ≤ 10000 ∧ t.L.length ≤ 80000) (x : Ac) (hx : AcOk (fun g => ¬ S g ∧ g < w.heap.size) w x) (hn : x.nm.length ≤ 2097152) (hns : ∀ s ∈ x.ns, s.length ≤ 2097152) (hnl : x.ns.length ≤ 1000) (hk : x.kind % 5 = 0 ∨ x.kind % 5 = 1) :
    Calls Tryz.prog 11 #[v, tbV ma mn mc la ln lc, acV x] w (IsDo G S w v (addM t x.nm x.gate x.ns).1) := by
  obtain ⟨xk, xn, xg, na, nn, nc, ns⟩ := x
  simp only at hn hns hnl hk
  have hkd := hx.kind
  have hgt := hx.gate
  have hrd := hx.ns
  simp only at hkd hgt hrd
  obtain ⟨lm, ll, _, _⟩ := h.R.lens
  obtain ⟨J0, B0, Z0⟩ := DJ.new w (tbC ma mn mc la ln lc) #[.int .u8 xk, .string (bs xn), .int .i64 xg, .slice na nn nc] #[.slice none 0 0, .slice none 0 0]
  have hlt := h.P.lt
  have J0 := Lib.hid J0
  have B0 := Lib.hid B0
  have Z0 := Lib.hid Z0
  have C1 : Hid (∀ u, Below w.heap.size w u → w.heap.size + 3 ≤ u.heap.size → Calls Tryz.prog 15 #[v, .string (bs xn), .int .i64 xg, .slice na nn nc] u fun e u' => e = .returned (.int .i64 (addM t xn xg ns).2) ∧ Chg S u v (addM t xn xg ns).1 u') := Lib.hid (fun u hb0 hz => add_any (h.P.keep hb0.size fun g hg => hb0.block g (h.P.lt g hg)) hg hb xn (by omega) xg hgt ((hrd.keep fun g hg _ => hb0.block g hg.2).mono fun g hg => ⟨hg.1, by omega⟩) (fun s hs => Nat.le_trans (hns s hs) (by omega)))
  have C2 : Hid (∀ u, Fr S w u → Calls Tryz.prog 25 #[tbV ma mn mc la ln lc, .string (bs xn), .int .i64 xg, .slice na nn nc] u (IsT G (addM t xn xg ns).1 (addM t xn xg ns).2 u)) := Lib.hid (fun u hf => refAdd_any (h.R.keep fun g hg _ => hf.block g (h.GS g hg).2 (h.GS g hg).1) (fun g hg => Nat.lt_of_lt_of_le (h.GS g hg).2 hf.size) ((hrd.keep fun g hg _ => hf.block g hg.2 hg.1).mono fun g hg => Nat.lt_of_lt_of_le hg.2 hf.size) (by omega) (fun e he => chk_size (hg.nms e he)) xn hn hns xg hgt)
  have HS := Lib.hid hlt
  have HGS := Lib.hid h.GS
  obtain ⟨T, hT⟩ : ∃ T, T = addM t xn xg ns := ⟨_, rfl⟩
  rw [← hT] at C1 C2 ⊢
  have hkm : xk % 5 < 5 ∧ 0 ≤ xk % 5 := by omega
  have hkt : xk.tmod 5 = xk % 5 := by rw [Int.tmod_eq_emod_of_nonneg (by omega)]
  have k5 : ¬ xk % 5 = 2 ∧ ¬ xk % 5 = 3 ∧ ¬ xk % 5 = 4 := by omega
  obtain ⟨k2, k3, k4⟩ := k5
  clear h hg hb hx hn hns hnl hT hrd hlt lm ll hgt
  change Calls _ _ #[v, tbV ma mn mc la ln lc, .agg #[.int .u8 xk, .string (bs xn), .int .i64 xg, .slice na nn nc]] w _
  generalize bs xn = y at *
  generalize xk % 5 = kk at *
  go_enter Tryz.func11, Tryz.ntmps11
  go_upto_region 1 with fail
  generalize ((w.alloc (.cells (tbC ma mn mc la ln lc) 30)).alloc (.cells #[.int .u8 xk, .string y, .int .i64 xg, .slice na nn nc] 34)).alloc (.cells #[.slice none 0 0, .slice none 0 0] 30) = W at *
  have hWz := Z0.out
  obtain ⟨a0, a1, a2, a3⟩ := four_cells J0.out.Y
  have a6 := J0.out.Y.lt
  go_upto_region 4 with (go_at_call 15; (with_reducible refine (C1.out _ B0.out (by omega)).mono ?_); rintro e w2 ⟨rfl, S', hP, hS', hF⟩; have J2 := Lib.hid (J0.out.fr hF (fun g hg => by have := HS.out g hg; omega)); have F2 := Lib.hid ((Fr.of_below (S := S) B0.out).trans hF (fun i hi => Or.inl hi)); have hs2 := hF.size; have HP := Lib.hid (And.intro hP hS'); clear hP hS' hF)
  clear a0 a1 a2 a3 a6
  obtain ⟨a0, a1, a2, a3⟩ := four_cells J2.out.Y
  have a6 := J2.out.Y.lt
  obtain ⟨c0, c1⟩ := two_cells J2.out.X
  have c6 := J2.out.X.lt
  have cf0 := J2.out.X.frozen 0
  have cf1 := J2.out.X.frozen 1
  go_upto_region 14 with (go_at_call 25; (with_reducible refine (C2.out _ F2.out).mono ?_); rintro e w3 ⟨ma', mn', mc', la', ln', lc', rfl, hR, hB⟩; have J3 := Lib.hid (J2.out.belowS hB); have HR := Lib.hid (And.intro hR hB); clear a0 a1 a2 a3 a6 c0 c1 c6 cf0 cf1; obtain ⟨c0, c1⟩ := two_cells J3.out.X; have c6 := J3.out.X.lt; have cf0 := J3.out.X.frozen 0; have cf1 := J3.out.X.frozen 1; obtain ⟨d0, d1⟩ := two_cells J3.out.Z; have d6 := J3.out.Z.lt; have df0 := J3.out.Z.frozen 0; have df1 := J3.out.Z.frozen 1; clear hR hB)
  have X4 := (J3.out.X.set_ 0 (.slice ma' mn' mc')).set_ 1 (.slice la' ln' lc')
  have Z4 := Whole.far (Whole.far J3.out.Z (p := ⟨w.heap.size, 0, none⟩) (show w.heap.size + 2 ≠ w.heap.size by omega) (.slice ma' mn' mc')) (p := ⟨w.heap.size, 1, none⟩) (show w.heap.size + 2 ≠ w.heap.size by omega) (.slice la' ln' lc')
  have FF := Lib.hid (do_post (S := S) HP.out.1 (fun g hg => (HP.out.2 g hg).imp id (fun h => by omega)) HS.out HGS.out F2.out (by omega) HR.out.1 HR.out.2 (.slice ma' mn' mc') (.slice la' ln' lc') (.slice ma' mn' mc') (.slice la' ln' lc'))
  clear c0 c1 c6 cf0 cf1 d0 d1 d6 df0 df1 HR HP J3 J2 F2 HS HGS C1 C2 J0 B0 Z0
  generalize (w3.setCell ⟨w.heap.size, 0, none⟩ (.slice ma' mn' mc')).setCell ⟨w.heap.size, 1, none⟩ (.slice la' ln' lc') = w4 at *
  obtain ⟨c0, c1⟩ := two_cells X4
  have c6 := X4.lt
  have d6 := Z4.lt
  have df0 := Z4.frozen 0
  have df1 := Z4.frozen 1
  obtain ⟨d0, d1⟩ := two_cells Z4
  have HZ := (Z4.set_ 0 (.slice ma' mn' mc')).set_ 1 (.slice la' ln' lc')
  have ett : (T.2 == T.2) = true := by simp
  go_wp2_with fail
  obtain ⟨zz0, zz1⟩ := two_cells HZ
  exact bodyPost_ret (v := .tuple #[tbV ma' mn' mc' la' ln' lc', .bool true]) (by simp [results, Tryz.results11, go_sem, zz0, zz1]) rfl FF.out
theorem do_any (h : Duo G S w v ma mn mc la ln lc t) (hg : SM.Good t) (hb : t.mods.length ≤ 10000 ∧ t.L.length ≤ 80000) (x : Ac) (hx : AcOk (fun g => ¬ S g ∧ g < w.heap.size) w x) (hn : x.nm.length ≤ 2097152) (hns : ∀ s ∈ x.ns, s.length ≤ 2097152) (hnl : x.ns.length ≤ 1000) :
    Calls Tryz.prog 11 #[v, tbV ma mn mc la ln lc, acV x] w (IsDo G S w v (actM t x).1) := by
  unfold actM
  by_cases h2 : x.kind % 5 = 2
  · rw [if_pos h2]; exact do_rem h hg hb x hx hn hns hnl h2
  rw [if_neg h2]
  by_cases h3 : x.kind % 5 = 3
  · rw [if_pos h3]; exact do_hold h hg hb x hx hn hns hnl h3
  rw [if_neg h3]
  by_cases h4 : x.kind % 5 = 4
  · rw [if_pos h4]; exact do_drop h hg hb x hx hn hns hnl h4
  rw [if_neg h4]
  exact do_add h hg hb x hx hn hns hnl (by omega)
end
end Go.Proofs.YtleggfofgpiabaaGreat.SP
