/-
  One call of the program's clock and of the reference's: both leave the same. Nothing here is a statement of the seed.
-/
import Derived.Test.YtcpkiepdpmaeoaaEpProg
import Derived.Test.YtcpkiepdpmaeoaaEpOwn
import Derived.BigRegion
set_option linter.unusedSimpArgs false
set_option linter.unusedVariables false
namespace Go.Proofs.Ytcpkiepdpmaeoaa.EL
open Go.RowKit WM NR OM OR EM ER EF EP
set_option maxHeartbeats 4000000
set_option maxRecDepth 10000
/-- both clocks, the same in one and the other; G: where the reference's rows lie -/
structure Duo (G S : Nat → Prop) (u : World) (v : Value) (la : Option Addr) (ln lc : Nat) (c : Ck) : Prop where
  P : PT S u v c
  R : ReadsW G u (.slice la ln lc) c.l
  GS : ∀ b, G b → ¬ S b ∧ b < u.heap.size
theorem Duo.belowS {G S : Nat → Prop} {u u' : World} {v : Value} {la : Option Addr} {ln lc : Nat} {c : Ck} (h : Duo G S u v la ln lc c) (hb : Below u.heap.size u u') : Duo G S u' v la ln lc c :=
  ⟨h.P.keep hb.size fun g hg => hb.block g (h.P.lt g hg), h.R.keep fun g hg _ => hb.block g (h.GS g hg).2, fun g hg => ⟨(h.GS g hg).1, Nat.lt_of_lt_of_le (h.GS g hg).2 hb.size⟩⟩
theorem Duo.far {G S : Nat → Prop} {u : World} {v : Value} {la : Option Addr} {ln lc : Nat} {c : Ck} (h : Duo G S u v la ln lc c) {p : Addr} (hS : ¬ S p.block) (hG : ¬ G p.block) (y : Value) : Duo G S (u.setCell p y) v la ln lc c :=
  ⟨h.P.keep (by simp) fun g hg => Below.heap_setCell _ _ _ _ (fun e => hS (e ▸ hg)), h.R.keep fun g hg _ => Below.heap_setCell _ _ _ _ (fun e => hG (e ▸ hg)), fun g hg => ⟨(h.GS g hg).1, by simpa using (h.GS g hg).2⟩⟩
/-- boxes of the call's own, on the way: r, the act, the result -/
structure DJ (w : World) (c0 c1 c2 : Array Value) (u : World) : Prop where
  X : Whole u w.heap.size 29 c0
  Y : Whole u (w.heap.size + 1) 35 c1
  Z : Whole u (w.heap.size + 2) 29 c2
theorem DJ.fr {w u u' : World} {c0 c1 c2 : Array Value} {S : Nat → Prop} (h : DJ w c0 c1 c2 u) (hf : Fr S u u') (hS : ∀ g, S g → g < w.heap.size ∨ w.heap.size + 3 ≤ g) : DJ w c0 c1 c2 u' :=
  ⟨h.X.fr hf (fun h1 => by have := hS _ h1; omega), h.Y.fr hf (fun h1 => by have := hS _ h1; omega), h.Z.fr hf (fun h1 => by have := hS _ h1; omega)⟩
theorem DJ.belowS {w u u' : World} {c0 c1 c2 : Array Value} (h : DJ w c0 c1 c2 u) (hb : Below u.heap.size u u') : DJ w c0 c1 c2 u' := ⟨h.X.belowS hb, h.Y.belowS hb, h.Z.belowS hb⟩
theorem DJ.new (w : World) (c0 c1 c2 : Array Value) : DJ w c0 c1 c2 (((w.alloc (.cells c0 29)).alloc (.cells c1 35)).alloc (.cells c2 29)) ∧ Below w.heap.size w (((w.alloc (.cells c0 29)).alloc (.cells c1 35)).alloc (.cells c2 29)) ∧ (((w.alloc (.cells c0 29)).alloc (.cells c1 35)).alloc (.cells c2 29)).heap.size = w.heap.size + 3 := by
  have b0 := below_new w (.cells c0 29)
  have b1 := below_new (w.alloc (.cells c0 29)) (.cells c1 35)
  have b2 := below_new ((w.alloc (.cells c0 29)).alloc (.cells c1 35)) (.cells c2 29)
  have s0 : (w.alloc (.cells c0 29)).heap.size = w.heap.size + 1 := by simp
  have s1 : ((w.alloc (.cells c0 29)).alloc (.cells c1 35)).heap.size = w.heap.size + 2 := by simp
  have y := Whole.new (w.alloc (.cells c0 29)) 35 c1
  have z := Whole.new ((w.alloc (.cells c0 29)).alloc (.cells c1 35)) 29 c2
  rw [s0] at y
  rw [s1] at z
  exact ⟨⟨((Whole.new w _ _).belowS b1).belowS b2, y.belowS b2, z⟩, (b0.trans (b1.mono b0.size)).trans (b2.mono (b0.trans (b1.mono b0.size)).size), by simp⟩
theorem two_of {w : World} {b : Nat} {t : TypeId} {x0 x1 : Value} (h : Whole w b t #[x0, x1]) : w.cell? ⟨b, 0, none⟩ = some x0 ∧ w.cell? ⟨b, 1, none⟩ = some x1 := ⟨h.cell 0, h.cell 1⟩
theorem three_of {w : World} {b : Nat} {t : TypeId} {x0 x1 x2 : Value} (h : Whole w b t #[x0, x1, x2]) : w.cell? ⟨b, 0, none⟩ = some x0 ∧ w.cell? ⟨b, 1, none⟩ = some x1 ∧ w.cell? ⟨b, 2, none⟩ = some x2 := ⟨h.cell 0, h.cell 1, h.cell 2⟩
/-- what do tells: the reference's clock anew, true -/
def IsDo (G S : Nat → Prop) (w : World) (v : Value) (c : Ck) : Ending → World → Prop := fun e u => ∃ la ln lc G' S', e = .returned (.tuple #[ckV c.now la ln lc, .bool true]) ∧ Duo G' S' u v la ln lc c ∧ (∀ g, S' g → S g ∨ w.heap.size ≤ g) ∧ (∀ g, G' g → G g ∨ w.heap.size ≤ g) ∧ Fr S w u
/-- the end of each way -/
theorem do_post {G S S' Z : Nat → Prop} {w u2 u3 uf : World} {v : Value} {c : Ck} {la : Option Addr} {ln lc m : Nat} (hP : PT S' u2 v c) (hS' : ∀ g, S' g → S g ∨ m ≤ g) (hS : ∀ g, S g → g < w.heap.size) (hG : ∀ g, G g → ¬ S g ∧ g < w.heap.size) (hF : Fr S w u2) (hm : w.heap.size ≤ m) (h2 : m ≤ u2.heap.size)
    (hR : ReadsW (fun g => (G g ∨ u2.heap.size ≤ g) ∧ g < u3.heap.size) u3 (.slice la ln lc) c.l) (hb : Below u2.heap.size u2 u3) (hZ : Fr Z u3 uf) (hz : ∀ g, Z g → w.heap.size ≤ g ∧ g < m) :
    IsDo G S w v c (.returned (.tuple #[ckV c.now la ln lc, .bool true])) uf := by
  have hb3 := hb.size
  have hlt := hP.lt
  refine ⟨_, _, _, _, S', rfl, ⟨?_, hR.keep (fun g hg hgl => hZ.block g hgl (fun hzg => ?_)), fun g hg => ⟨fun h => ?_, Nat.lt_of_lt_of_le hg.2 hZ.size⟩⟩, fun g hg => (hS' g hg).imp id (fun h => by omega), fun g hg => hg.1.imp id (fun h => by omega), (hF.then hb).trans hZ (fun g hg => Or.inr (hz g hg).1)⟩
  · refine (hP.keep hb3 fun g hg => hb.block g (hlt g hg)).keep hZ.size fun g hg => hZ.block g (by have := hlt g hg; omega) (fun hzg => ?_)
    have h1 := hz g hzg
    rcases hS' g hg with h | h
    · have := hS g h; omega
    · omega
  · have h1 := hz g hzg
    rcases hg.1 with h | h
    · have := (hG g h).2; omega
    · omega
  · have h4 := hlt g h
    rcases hg.1 with h1 | h1
    · rcases hS' g h with h3 | h3
      · exact (hG g h1).1 h3
      · have := (hG g h1).2; omega
    · omega
section
variable {G S : Nat → Prop} {w : World} {v : Value} {la : Option Addr} {ln lc : Nat} {c : Ck} {n : Nat}
theorem do_take (h : Duo G S w v la ln lc c) (hg : Gd c n) (hn : n ≤ 1000) (x : Ac) (hx : AcOk (fun g => ¬ S g ∧ g < w.heap.size) w x) (hk : x.kind % 4 = 2) :
    Calls Try.prog 10 #[v, ckV c.now la ln lc, acV x] w (IsDo G S w v (takC x.hs c)) := by
  obtain ⟨xk, xo, ha, hm, hc, hs⟩ := x
  simp only at hk
  have hkd := hx.kind
  have hko := hx.ow
  have hrd := hx.hs
  simp only at hkd hko hrd
  obtain ⟨j0, b0, z0⟩ := DJ.new w (ckC c.now la ln lc) #[.int .u8 xk, .int .u16 xo, .slice ha hm hc] (ckC 0 none 0 0)
  have J0 := Lib.hid j0
  have B0 := Lib.hid b0
  have Z0 := Lib.hid z0
  have HH := Lib.hid h
  have HG := Lib.hid hg
  have HS := Lib.hid h.P.lt
  have HGS := Lib.hid h.GS
  have HRD := Lib.hid hrd
  have HLN := Lib.hid (And.intro h.R.len hg.ln)
  have HEP := Lib.hid (fun x hx => (show 0 ≤ (x : Wt).ep ∧ x.ep ≤ 18446744073709551615 by have := hg.bd x hx; have := hg.now; omega))
  have HNW := Lib.hid hg.now
  have hkm : xk % 4 < 4 ∧ 0 ≤ xk % 4 := by omega
  have hkt : xk.tmod 4 = xk % 4 := by rw [Int.tmod_eq_emod_of_nonneg (by omega)]
  obtain ⟨hk1, hk2⟩ := hkd
  obtain ⟨hkm1, hkm2⟩ := hkm
  show Calls _ _ #[v, ckV c.now la ln lc, .agg #[.int .u8 xk, .int .u16 xo, .slice ha hm hc]] w (IsDo G S w v (takC hs c))
  clear j0 b0 z0 h hg hx hrd
  generalize xk % 4 = kk at *
  obtain ⟨NOW, hNOW⟩ : ∃ q, c.now = q := ⟨_, rfl⟩
  have HNOW := Lib.hid hNOW
  rw [hNOW] at J0 B0 Z0 ⊢
  clear hNOW
  go_enter Try.func10, Try.ntmps10
  go_upto_region 1 with fail
  generalize ((w.alloc (.cells (ckC NOW la ln lc) 29)).alloc (.cells #[.int .u8 xk, .int .u16 xo, .slice ha hm hc] 35)).alloc (.cells (ckC 0 none 0 0) 29) = W at *
  obtain ⟨a0, a1, a2⟩ := three_of J0.out.Y
  have a6 := J0.out.Y.lt
  have C1 := Lib.hid (take_any (HH.out.P.keep B0.out.size fun g hg => B0.out.block g (HS.out g hg)) HG.out hn ((HRD.out.keep (w' := W) (fun g hg hgl => B0.out.block g hgl) B0.out.size).mono fun g hg _ => ⟨hg.1, Nat.lt_of_lt_of_le hg.2 B0.out.size⟩))
  go_upto_region 4 with (go_at_call 20; (with_reducible refine C1.out.mono ?_); rintro e w2 ⟨q, rfl, hq, S', hP, hS', hF⟩; have J2 := Lib.hid (J0.out.fr hF (fun g hg => by have := HS.out g hg; omega)); have F2 := Lib.hid ((Fr.of_below (S := S) B0.out).trans hF (fun i hi => Or.inl hi)); have hs2 := hF.size; have HP := Lib.hid (And.intro hP hS'); have HQ := Lib.hid hq; clear hP hS' hF hq)
  clear a0 a1 a2 a6 C1
  obtain ⟨a0, a1, a2⟩ := three_of J2.out.Y
  have a6 := J2.out.Y.lt
  obtain ⟨c0, c1⟩ := two_of J2.out.X
  have c6 := J2.out.X.lt
  have C2 := Lib.hid (refTake_any (HH.out.R.keep fun g hg _ => F2.out.block g (HGS.out g hg).2 (HGS.out g hg).1) (fun g hg => Nat.lt_of_lt_of_le (HGS.out g hg).2 F2.out.size) (by have := HLN.out; omega) NOW HEP.out ((HRD.out.keep (w' := w2) (fun g hg hgl => F2.out.block g hgl hg.1) F2.out.size).mono fun g hg _ => Nat.lt_of_lt_of_le hg.2 F2.out.size))
  unfold IsTk at C2
  go_upto_region 5 with (go_at_call 24; (with_reducible refine C2.out.mono ?_); rintro e w3 ⟨la', ln', lc', q2, rfl, hR, hO, hB⟩; have J3 := Lib.hid (J2.out.belowS hB); have HR := Lib.hid hR; have HO := Lib.hid hO; have HB := Lib.hid hB; clear hR hO hB)
  clear a0 a1 a2 a6 c0 c1 c6 C2
  obtain ⟨qa, qn, qc, hqf⟩ := Reads.form HQ.out
  obtain ⟨ra, rn, rc, hrf⟩ := Reads.form HO.out
  subst hqf hrf
  have b4 := below_new w3 (.cells (ckC NOW la' ln' lc') 29)
  have t9 := Lib.hid (Whole.new w3 29 (ckC NOW la' ln' lc'))
  have CS : Hid (∀ u, Below (w3.alloc (.cells (ckC NOW la' ln' lc') 29)).heap.size (w3.alloc (.cells (ckC NOW la' ln' lc') 29)) u → Calls Try.prog 23 #[.slice qa qn qc, .slice ra rn rc] u fun e u' => e = .returned (.bool true) ∧ Below u.heap.size u u') := Lib.hid (fun u hu => by
    have hb3 := b4.trans (hu.mono b4.size)
    have h1 := (HQ.out.keep (w' := w3) (fun g hg hgl => HB.out.block g hgl)).keep (w' := u) (fun g hg hgl => hb3.block g hgl)
    have h2 := HO.out.keep (w' := u) (fun g hg hgl => hb3.block g hgl)
    have := sameOwners_any (w := u) (h1.mono fun g hg => (show g < u.heap.size by have := HB.out.size; have := hb3.size; omega)) (h2.mono fun g hg => (show g < u.heap.size by have := hb3.size; omega))
    rwa [decide_eq_true rfl] at this)
  have J4 := Lib.hid (J3.out.belowS b4)
  have B4 := Lib.hid b4
  clear b4 J3 HQ HO
  generalize w3.alloc (.cells (ckC NOW la' ln' lc') 29) = W4 at *
  have hbd0 : Below W4.heap.size W4 W4.drew := (Below.refl _ _).drew
  have K0 := two_of (t9.out.belowS hbd0)
  go_upto_region 5 with fail
  refine wp_region_held_drew (S := fun u => u.cell? ⟨w3.heap.size, 0, none⟩ = some (.int .u64 NOW) ∧ u.cell? ⟨w3.heap.size, 1, none⟩ = some (.slice la' ln' lc')) (by kernel_rfl) K0 (fun hHeld => ?_)
  refine wpAnyH_take (i := 0) (v := ?evv0) rfl (by kernel_rfl) (by kernel_rfl) (by kernel_rfl) (fun _ _ _ h => h) (Or.inl ⟨by rfl, ?ehy0⟩) (by assumption) ?erest0
  case ehy0 =>
    intro u hSu
    obtain ⟨s0, s1⟩ := hSu
    go_simp
    try with_reducible rfl
  try simp only [Act.put, List.getElem_toArray, List.getElem_cons_succ, List.getElem_cons_zero, List.setIfInBounds_toArray, List.set_cons_zero, List.set_cons_succ]
  refine wpAnyH_take (i := 1) (v := ?evv1) rfl (by kernel_rfl) (by kernel_rfl) (by kernel_rfl) (fun _ _ _ h => h) (Or.inl ⟨by rfl, ?ehy1⟩) (by assumption) ?erest1
  case ehy1 =>
    intro u hSu
    obtain ⟨s0, s1⟩ := hSu
    go_simp
    try with_reducible rfl
  try simp only [Act.put, List.getElem_toArray, List.getElem_cons_succ, List.getElem_cons_zero, List.setIfInBounds_toArray, List.set_cons_zero, List.set_cons_succ]
  refine wpAnyH_take (i := 2) (v := ?evv2) rfl (by kernel_rfl) (by kernel_rfl) (by kernel_rfl) (fun _ _ _ h => h) (Or.inl ⟨by rfl, ?ehy2⟩) (by assumption) ?erest2
  case ehy2 =>
    intro u hSu
    obtain ⟨s0, s1⟩ := hSu
    go_simp
    try with_reducible rfl
  try simp only [Act.put, List.getElem_toArray, List.getElem_cons_succ, List.getElem_cons_zero, List.setIfInBounds_toArray, List.set_cons_zero, List.set_cons_succ]
  refine wpAnyH_ready (rs := [3]) (by kernel_rfl) (by simp) ?_
  refine AllReadyH.cons rfl (fun K hK => ?_) AllReadyH.nil
  (go_simp; go_at_call 23; (with_reducible refine (CS.out _ hbd0).mono ?_); rintro e w5 ⟨rfl, hB5⟩; have B5 := hbd0.trans (hB5.mono hbd0.size); have K5 := two_of (t9.out.belowS B5); have J5 := J4.out.belowS B5; have d0 := J5.Z.lt; have d1 := J5.Z.frozen 0; have d2 := J5.Z.frozen 1; obtain ⟨d4, d5⟩ := two_of J5.Z)
  refine hK.out _ _ ?ehS3 (fun hHeld => ?erest3)
  case ehS3 => exact K5
  clear hK K
  try simp only [Act.put, List.getElem_toArray, List.getElem_cons_succ, List.getElem_cons_zero, List.setIfInBounds_toArray, List.set_cons_zero, List.set_cons_succ]
  have z9 := ((t9.out.belowS B5).far (p := ⟨w.heap.size + 2, 0, none⟩) (show w3.heap.size ≠ w.heap.size + 2 by have := HB.out.size; have := Z0.out; omega) (.int .u64 NOW)).far (p := ⟨w.heap.size + 2, 1, none⟩) (show w3.heap.size ≠ w.heap.size + 2 by have := HB.out.size; have := Z0.out; omega) (.slice la' ln' lc')
  have K6 := two_of z9
  have hz0 : ((w5.setCell ⟨w.heap.size + 2, 0, none⟩ (.int .u64 NOW)).setCell ⟨w.heap.size + 2, 1, none⟩ (.slice la' ln' lc')).cell? ⟨w.heap.size + 2, 0, none⟩ = some (.int .u64 NOW) := ((J5.Z.set_ 0 (.int .u64 NOW)).set_ 1 (.slice la' ln' lc')).cell 0
  have hz1 : ((w5.setCell ⟨w.heap.size + 2, 0, none⟩ (.int .u64 NOW)).setCell ⟨w.heap.size + 2, 1, none⟩ (.slice la' ln' lc')).cell? ⟨w.heap.size + 2, 1, none⟩ = some (.slice la' ln' lc') := ((J5.Z.set_ 0 (.int .u64 NOW)).set_ 1 (.slice la' ln' lc')).cell 1
  have R := Lib.hid (do_post (G := G) (m := w.heap.size + 3) HP.out.1 (fun g hg => (HP.out.2 g hg).imp id (fun h => by have := Z0.out; omega)) HS.out HGS.out F2.out (by omega) (by have := Z0.out; omega) (HR.out.mono fun g hg => ⟨Or.inr hg.1, hg.2⟩) HB.out (((Fr.of_below (S := fun g => g = w.heap.size + 2) (B4.out.trans (B5.mono B4.out.size))).set (p := ⟨w.heap.size + 2, 0, none⟩) (Or.inl rfl) (.int .u64 NOW)).set (p := ⟨w.heap.size + 2, 1, none⟩) (Or.inl rfl) (.slice la' ln' lc')) (fun g hg => by omega))
  have R : Hid (IsDo G S w v (takC hs c) (.returned (.tuple #[ckV NOW la' ln' lc', .bool true])) ((w5.setCell ⟨w.heap.size + 2, 0, none⟩ (.int .u64 NOW)).setCell ⟨w.heap.size + 2, 1, none⟩ (.slice la' ln' lc'))) := Lib.hid (by have h := R.out; have e : (takC hs c).now = NOW := HNOW.out; rw [e] at h; exact h)
  refine wpAnyH_ready (rs := [4]) (by kernel_rfl) (by simp) ?_
  refine AllReadyH.cons rfl (fun K hK => ?_) AllReadyH.nil
  go_simp
  refine hK.out _ _ ?fhS4 (fun hHeld => ?frest4)
  case fhS4 => exact K6
  clear hK K
  try simp only [Act.put, List.getElem_toArray, List.getElem_cons_succ, List.getElem_cons_zero, List.setIfInBounds_toArray, List.set_cons_zero, List.set_cons_succ]
  refine wpAnyH_take (i := 5) (v := ?fvv5) rfl (by kernel_rfl) (by kernel_rfl) (by kernel_rfl) (fun _ _ _ h => h) (Or.inl ⟨by rfl, ?fhy5⟩) (by assumption) ?frest5
  case fhy5 =>
    intro u hSu
    obtain ⟨s0, s1⟩ := hSu
    go_simp
    try with_reducible rfl
  try simp only [Act.put, List.getElem_toArray, List.getElem_cons_succ, List.getElem_cons_zero, List.setIfInBounds_toArray, List.set_cons_zero, List.set_cons_succ]
  refine wpAnyH_done (by kernel_rfl) ?_ _
  clear K0 K5 K6 d0 d1 d2 d4 d5 hHeld t9 J4 J5 CS
  go_wp2_with fail
  exact bodyPost_ret (v := .tuple #[ckV NOW la' ln' lc', .bool true]) (by simp [results, Try.results10, go_sem, hz0, hz1]) rfl R.out
theorem do_clear (h : Duo G S w v la ln lc c) (hg : Gd c n) (hn : n ≤ 1000) (x : Ac) (hx : AcOk (fun g => ¬ S g ∧ g < w.heap.size) w x) (hk : x.kind % 4 = 3) :
    Calls Try.prog 10 #[v, ckV c.now la ln lc, acV x] w (IsDo G S w v (takC [] c)) := by
  obtain ⟨xk, xo, ha, hm, hc, hs⟩ := x
  simp only at hk
  have hkd := hx.kind
  have hko := hx.ow
  have hrd := hx.hs
  simp only at hkd hko hrd
  obtain ⟨j0, b0, z0⟩ := DJ.new w (ckC c.now la ln lc) #[.int .u8 xk, .int .u16 xo, .slice ha hm hc] (ckC 0 none 0 0)
  have J0 := Lib.hid j0
  have B0 := Lib.hid b0
  have Z0 := Lib.hid z0
  have HH := Lib.hid h
  have HG := Lib.hid hg
  have HS := Lib.hid h.P.lt
  have HGS := Lib.hid h.GS
  have HRD := Lib.hid hrd
  have HLN := Lib.hid (And.intro h.R.len hg.ln)
  have HEP := Lib.hid (fun x hx => (show 0 ≤ (x : Wt).ep ∧ x.ep ≤ 18446744073709551615 by have := hg.bd x hx; have := hg.now; omega))
  have HNW := Lib.hid hg.now
  have hkm : xk % 4 < 4 ∧ 0 ≤ xk % 4 := by omega
  have hkt : xk.tmod 4 = xk % 4 := by rw [Int.tmod_eq_emod_of_nonneg (by omega)]
  obtain ⟨hk1, hk2⟩ := hkd
  obtain ⟨hkm1, hkm2⟩ := hkm
  show Calls _ _ #[v, ckV c.now la ln lc, .agg #[.int .u8 xk, .int .u16 xo, .slice ha hm hc]] w (IsDo G S w v (takC [] c))
  clear j0 b0 z0 h hg hx hrd
  generalize xk % 4 = kk at *
  obtain ⟨NOW, hNOW⟩ : ∃ q, c.now = q := ⟨_, rfl⟩
  have HNOW := Lib.hid hNOW
  rw [hNOW] at J0 B0 Z0 ⊢
  clear hNOW
  go_enter Try.func10, Try.ntmps10
  go_upto_region 1 with fail
  generalize ((w.alloc (.cells (ckC NOW la ln lc) 29)).alloc (.cells #[.int .u8 xk, .int .u16 xo, .slice ha hm hc] 35)).alloc (.cells (ckC 0 none 0 0) 29) = W at *
  obtain ⟨a0, a1, a2⟩ := three_of J0.out.Y
  have a6 := J0.out.Y.lt
  have C1 := Lib.hid (clear_any (HH.out.P.keep B0.out.size fun g hg => B0.out.block g (HS.out g hg)) HG.out hn)
  go_upto_region 8 with (go_at_call 22; (with_reducible refine C1.out.mono ?_); rintro e w2 ⟨q, rfl, hq, S', hP, hS', hF⟩; have J2 := Lib.hid (J0.out.fr hF (fun g hg => by have := HS.out g hg; omega)); have F2 := Lib.hid ((Fr.of_below (S := S) B0.out).trans hF (fun i hi => Or.inl hi)); have hs2 := hF.size; have HP := Lib.hid (And.intro hP hS'); have HQ := Lib.hid hq; clear hP hS' hF hq)
  clear a0 a1 a2 a6 C1
  obtain ⟨a0, a1, a2⟩ := three_of J2.out.Y
  have a6 := J2.out.Y.lt
  obtain ⟨c0, c1⟩ := two_of J2.out.X
  have c6 := J2.out.X.lt
  have C2 := Lib.hid (refTake_any (hs := []) (HH.out.R.keep fun g hg _ => F2.out.block g (HGS.out g hg).2 (HGS.out g hg).1) (fun g hg => Nat.lt_of_lt_of_le (HGS.out g hg).2 F2.out.size) (by have := HLN.out; omega) NOW HEP.out (ReadsH.nil _ _))
  unfold IsTk at C2
  go_upto_region 9 with (go_at_call 24; (with_reducible refine C2.out.mono ?_); rintro e w3 ⟨la', ln', lc', q2, rfl, hR, hO, hB⟩; have J3 := Lib.hid (J2.out.belowS hB); have HR := Lib.hid hR; have HO := Lib.hid hO; have HB := Lib.hid hB; clear hR hO hB)
  clear a0 a1 a2 a6 c0 c1 c6 C2
  obtain ⟨qa, qn, qc, hqf⟩ := Reads.form HQ.out
  obtain ⟨ra, rn, rc, hrf⟩ := Reads.form HO.out
  subst hqf hrf
  have b4 := below_new w3 (.cells (ckC NOW la' ln' lc') 29)
  have t9 := Lib.hid (Whole.new w3 29 (ckC NOW la' ln' lc'))
  have CS : Hid (∀ u, Below (w3.alloc (.cells (ckC NOW la' ln' lc') 29)).heap.size (w3.alloc (.cells (ckC NOW la' ln' lc') 29)) u → Calls Try.prog 23 #[.slice qa qn qc, .slice ra rn rc] u fun e u' => e = .returned (.bool true) ∧ Below u.heap.size u u') := Lib.hid (fun u hu => by
    have hb3 := b4.trans (hu.mono b4.size)
    have h1 := (HQ.out.keep (w' := w3) (fun g hg hgl => HB.out.block g hgl)).keep (w' := u) (fun g hg hgl => hb3.block g hgl)
    have h2 := HO.out.keep (w' := u) (fun g hg hgl => hb3.block g hgl)
    have := sameOwners_any (w := u) (h1.mono fun g hg => (show g < u.heap.size by have := HB.out.size; have := hb3.size; omega)) (h2.mono fun g hg => (show g < u.heap.size by have := hb3.size; omega))
    rwa [decide_eq_true rfl] at this)
  have J4 := Lib.hid (J3.out.belowS b4)
  have B4 := Lib.hid b4
  clear b4 J3 HQ HO
  generalize w3.alloc (.cells (ckC NOW la' ln' lc') 29) = W4 at *
  have hbd0 : Below W4.heap.size W4 W4.drew := (Below.refl _ _).drew
  have K0 := two_of (t9.out.belowS hbd0)
  go_upto_region 9 with fail
  refine wp_region_held_drew (S := fun u => u.cell? ⟨w3.heap.size, 0, none⟩ = some (.int .u64 NOW) ∧ u.cell? ⟨w3.heap.size, 1, none⟩ = some (.slice la' ln' lc')) (by kernel_rfl) K0 (fun hHeld => ?_)
  refine wpAnyH_take (i := 0) (v := ?evv0) rfl (by kernel_rfl) (by kernel_rfl) (by kernel_rfl) (fun _ _ _ h => h) (Or.inl ⟨by rfl, ?ehy0⟩) (by assumption) ?erest0
  case ehy0 =>
    intro u hSu
    obtain ⟨s0, s1⟩ := hSu
    go_simp
    try with_reducible rfl
  try simp only [Act.put, List.getElem_toArray, List.getElem_cons_succ, List.getElem_cons_zero, List.setIfInBounds_toArray, List.set_cons_zero, List.set_cons_succ]
  refine wpAnyH_take (i := 1) (v := ?evv1) rfl (by kernel_rfl) (by kernel_rfl) (by kernel_rfl) (fun _ _ _ h => h) (Or.inl ⟨by rfl, ?ehy1⟩) (by assumption) ?erest1
  case ehy1 =>
    intro u hSu
    obtain ⟨s0, s1⟩ := hSu
    go_simp
    try with_reducible rfl
  try simp only [Act.put, List.getElem_toArray, List.getElem_cons_succ, List.getElem_cons_zero, List.setIfInBounds_toArray, List.set_cons_zero, List.set_cons_succ]
  refine wpAnyH_take (i := 2) (v := ?evv2) rfl (by kernel_rfl) (by kernel_rfl) (by kernel_rfl) (fun _ _ _ h => h) (Or.inl ⟨by rfl, ?ehy2⟩) (by assumption) ?erest2
  case ehy2 =>
    intro u hSu
    obtain ⟨s0, s1⟩ := hSu
    go_simp
    try with_reducible rfl
  try simp only [Act.put, List.getElem_toArray, List.getElem_cons_succ, List.getElem_cons_zero, List.setIfInBounds_toArray, List.set_cons_zero, List.set_cons_succ]
  refine wpAnyH_ready (rs := [3]) (by kernel_rfl) (by simp) ?_
  refine AllReadyH.cons rfl (fun K hK => ?_) AllReadyH.nil
  (go_simp; go_at_call 23; (with_reducible refine (CS.out _ hbd0).mono ?_); rintro e w5 ⟨rfl, hB5⟩; have B5 := hbd0.trans (hB5.mono hbd0.size); have K5 := two_of (t9.out.belowS B5); have J5 := J4.out.belowS B5; have d0 := J5.Z.lt; have d1 := J5.Z.frozen 0; have d2 := J5.Z.frozen 1; obtain ⟨d4, d5⟩ := two_of J5.Z)
  refine hK.out _ _ ?ehS3 (fun hHeld => ?erest3)
  case ehS3 => exact K5
  clear hK K
  try simp only [Act.put, List.getElem_toArray, List.getElem_cons_succ, List.getElem_cons_zero, List.setIfInBounds_toArray, List.set_cons_zero, List.set_cons_succ]
  have z9 := ((t9.out.belowS B5).far (p := ⟨w.heap.size + 2, 0, none⟩) (show w3.heap.size ≠ w.heap.size + 2 by have := HB.out.size; have := Z0.out; omega) (.int .u64 NOW)).far (p := ⟨w.heap.size + 2, 1, none⟩) (show w3.heap.size ≠ w.heap.size + 2 by have := HB.out.size; have := Z0.out; omega) (.slice la' ln' lc')
  have K6 := two_of z9
  have hz0 : ((w5.setCell ⟨w.heap.size + 2, 0, none⟩ (.int .u64 NOW)).setCell ⟨w.heap.size + 2, 1, none⟩ (.slice la' ln' lc')).cell? ⟨w.heap.size + 2, 0, none⟩ = some (.int .u64 NOW) := ((J5.Z.set_ 0 (.int .u64 NOW)).set_ 1 (.slice la' ln' lc')).cell 0
  have hz1 : ((w5.setCell ⟨w.heap.size + 2, 0, none⟩ (.int .u64 NOW)).setCell ⟨w.heap.size + 2, 1, none⟩ (.slice la' ln' lc')).cell? ⟨w.heap.size + 2, 1, none⟩ = some (.slice la' ln' lc') := ((J5.Z.set_ 0 (.int .u64 NOW)).set_ 1 (.slice la' ln' lc')).cell 1
  have R := Lib.hid (do_post (G := G) (m := w.heap.size + 3) HP.out.1 (fun g hg => (HP.out.2 g hg).imp id (fun h => by have := Z0.out; omega)) HS.out HGS.out F2.out (by omega) (by have := Z0.out; omega) (HR.out.mono fun g hg => ⟨Or.inr hg.1, hg.2⟩) HB.out (((Fr.of_below (S := fun g => g = w.heap.size + 2) (B4.out.trans (B5.mono B4.out.size))).set (p := ⟨w.heap.size + 2, 0, none⟩) (Or.inl rfl) (.int .u64 NOW)).set (p := ⟨w.heap.size + 2, 1, none⟩) (Or.inl rfl) (.slice la' ln' lc')) (fun g hg => by omega))
  have R : Hid (IsDo G S w v (takC [] c) (.returned (.tuple #[ckV NOW la' ln' lc', .bool true])) ((w5.setCell ⟨w.heap.size + 2, 0, none⟩ (.int .u64 NOW)).setCell ⟨w.heap.size + 2, 1, none⟩ (.slice la' ln' lc'))) := Lib.hid (by have h := R.out; have e : (takC [] c).now = NOW := HNOW.out; rw [e] at h; exact h)
  refine wpAnyH_ready (rs := [4]) (by kernel_rfl) (by simp) ?_
  refine AllReadyH.cons rfl (fun K hK => ?_) AllReadyH.nil
  go_simp
  refine hK.out _ _ ?fhS4 (fun hHeld => ?frest4)
  case fhS4 => exact K6
  clear hK K
  try simp only [Act.put, List.getElem_toArray, List.getElem_cons_succ, List.getElem_cons_zero, List.setIfInBounds_toArray, List.set_cons_zero, List.set_cons_succ]
  refine wpAnyH_take (i := 5) (v := ?fvv5) rfl (by kernel_rfl) (by kernel_rfl) (by kernel_rfl) (fun _ _ _ h => h) (Or.inl ⟨by rfl, ?fhy5⟩) (by assumption) ?frest5
  case fhy5 =>
    intro u hSu
    obtain ⟨s0, s1⟩ := hSu
    go_simp
    try with_reducible rfl
  try simp only [Act.put, List.getElem_toArray, List.getElem_cons_succ, List.getElem_cons_zero, List.setIfInBounds_toArray, List.set_cons_zero, List.set_cons_succ]
  refine wpAnyH_done (by kernel_rfl) ?_ _
  clear K0 K5 K6 d0 d1 d2 d4 d5 hHeld t9 J4 J5 CS
  go_wp2_with fail
  exact bodyPost_ret (v := .tuple #[ckV NOW la' ln' lc', .bool true]) (by simp [results, Try.results10, go_sem, hz0, hz1]) rfl R.out
theorem do_ret (h : Duo G S w v la ln lc c) (hg : Gd c n) (hn : n ≤ 1000) (x : Ac) (hx : AcOk (fun g => ¬ S g ∧ g < w.heap.size) w x) (hk : x.kind % 4 ≠ 2 ∧ x.kind % 4 ≠ 3) :
    Calls Try.prog 10 #[v, ckV c.now la ln lc, acV x] w (IsDo G S w v (retC c x.ow)) := by
  obtain ⟨xk, xo, ha, hm, hc, hs⟩ := x
  simp only at hk
  have hkd := hx.kind
  have hko := hx.ow
  have hrd := hx.hs
  simp only at hkd hko hrd
  obtain ⟨j0, b0, z0⟩ := DJ.new w (ckC c.now la ln lc) #[.int .u8 xk, .int .u16 xo, .slice ha hm hc] (ckC 0 none 0 0)
  have J0 := Lib.hid j0
  have B0 := Lib.hid b0
  have Z0 := Lib.hid z0
  have HH := Lib.hid h
  have HG := Lib.hid hg
  have HS := Lib.hid h.P.lt
  have HGS := Lib.hid h.GS
  have HRD := Lib.hid hrd
  have HLN := Lib.hid (And.intro h.R.len hg.ln)
  have HEP := Lib.hid (fun x hx => (show 0 ≤ (x : Wt).ep ∧ x.ep ≤ 18446744073709551615 by have := hg.bd x hx; have := hg.now; omega))
  have HNW := Lib.hid hg.now
  have hkm : xk % 4 < 4 ∧ 0 ≤ xk % 4 := by omega
  have hkt : xk.tmod 4 = xk % 4 := by rw [Int.tmod_eq_emod_of_nonneg (by omega)]
  obtain ⟨hk1, hk2⟩ := hkd
  obtain ⟨hkm1, hkm2⟩ := hkm
  show Calls _ _ #[v, ckV c.now la ln lc, .agg #[.int .u8 xk, .int .u16 xo, .slice ha hm hc]] w (IsDo G S w v (retC c xo))
  clear j0 b0 z0 h hg hx hrd
  generalize xk % 4 = kk at *
  obtain ⟨NOW, hNOW⟩ : ∃ q, c.now = q := ⟨_, rfl⟩
  have HNOW := Lib.hid hNOW
  have HC : Hid ((⟨NOW, c.l⟩ : Ck) = c) := Lib.hid (by rw [← hNOW])
  rw [hNOW] at J0 B0 Z0 ⊢
  clear hNOW
  obtain ⟨hkA, hkB⟩ := hk
  go_enter Try.func10, Try.ntmps10
  go_upto_region 1 with fail
  generalize ((w.alloc (.cells (ckC NOW la ln lc) 29)).alloc (.cells #[.int .u8 xk, .int .u16 xo, .slice ha hm hc] 35)).alloc (.cells (ckC 0 none 0 0) 29) = W at *
  obtain ⟨a0, a1, a2⟩ := three_of J0.out.Y
  have a6 := J0.out.Y.lt
  have C1 := Lib.hid (ret_any (HH.out.P.keep B0.out.size fun g hg => B0.out.block g (HS.out g hg)) HG.out hn xo hko)
  have hf2 : (kk == 2) = false := by simpa using hkA
  have hf3 : (kk == 3) = false := by simpa using hkB
  go_upto_region 11 with (go_at_call 17; (with_reducible refine C1.out.mono ?_); rintro e w2 ⟨rfl, S', hP, hS', hF⟩; have J2 := Lib.hid (J0.out.fr hF (fun g hg => by have := HS.out g hg; omega)); have F2 := Lib.hid ((Fr.of_below (S := S) B0.out).trans hF (fun i hi => Or.inl hi)); have hs2 := hF.size; have HP := Lib.hid (And.intro hP hS'); clear hP hS' hF)
  clear a0 a1 a2 a6 C1
  obtain ⟨a0, a1, a2⟩ := three_of J2.out.Y
  have a6 := J2.out.Y.lt
  obtain ⟨c0, c1⟩ := two_of J2.out.X
  have c6 := J2.out.X.lt
  have C2 := Lib.hid (refRet_any (HH.out.R.keep fun g hg _ => F2.out.block g (HGS.out g hg).2 (HGS.out g hg).1) (fun g hg => Nat.lt_of_lt_of_le (HGS.out g hg).2 F2.out.size) (by have := HLN.out; omega) (t := NOW) (by rw [← HNOW.out]; have := HNW.out; omega) xo)
  unfold IsRt at C2
  rw [HC.out] at C2
  obtain ⟨RV, hRV⟩ : ∃ q, q = retV c := ⟨_, rfl⟩
  obtain ⟨RE, hRE⟩ : ∃ q, q = retE c := ⟨_, rfl⟩
  obtain ⟨RC, hRC⟩ : ∃ q, q = retC c xo := ⟨_, rfl⟩
  rw [← hRV, ← hRE, ← hRC] at C2
  rw [← hRV, ← hRE]
  rw [← hRC] at HP
  have HRC := Lib.hid hRC
  clear hRV hRE hRC
  go_upto_region 12 with (go_at_call 25; (with_reducible refine C2.out.mono ?_); rintro e w3 ⟨la', ln', lc', rfl, hR, hB⟩; have J3 := Lib.hid (J2.out.belowS hB); have HR := Lib.hid hR; have HB := Lib.hid hB; clear hR hB)
  clear a0 a1 a2 a6 c0 c1 c6 C2
  have b4 := below_new w3 (.cells (ckC RC.now la' ln' lc') 29)
  have t9 := Whole.new w3 29 (ckC RC.now la' ln' lc')
  have J4 := Lib.hid (J3.out.belowS b4)
  have B4 := Lib.hid b4
  have z6 := t9.lt
  obtain ⟨z0, z1⟩ := two_of t9
  clear b4 J3 t9
  generalize w3.alloc (.cells (ckC RC.now la' ln' lc') 29) = W4 at *
  obtain ⟨N2, hN2⟩ : ∃ q, RC.now = q := ⟨_, rfl⟩
  have HN2 := Lib.hid hN2
  rw [hN2] at z0
  have d0 := J4.out.Z.lt
  have d1 := J4.out.Z.frozen 0
  have d2 := J4.out.Z.frozen 1
  obtain ⟨d4, d5⟩ := two_of J4.out.Z
  have hz0 : ((W4.setCell ⟨w.heap.size + 2, 0, none⟩ (.int .u64 N2)).setCell ⟨w.heap.size + 2, 1, none⟩ (.slice la' ln' lc')).cell? ⟨w.heap.size + 2, 0, none⟩ = some (.int .u64 N2) := ((J4.out.Z.set_ 0 (.int .u64 N2)).set_ 1 (.slice la' ln' lc')).cell 0
  have hz1 : ((W4.setCell ⟨w.heap.size + 2, 0, none⟩ (.int .u64 N2)).setCell ⟨w.heap.size + 2, 1, none⟩ (.slice la' ln' lc')).cell? ⟨w.heap.size + 2, 1, none⟩ = some (.slice la' ln' lc') := ((J4.out.Z.set_ 0 (.int .u64 N2)).set_ 1 (.slice la' ln' lc')).cell 1
  have R := Lib.hid (do_post (G := G) (m := w.heap.size + 3) HP.out.1 (fun g hg => (HP.out.2 g hg).imp id (fun h => by have := Z0.out; omega)) HS.out HGS.out F2.out (by omega) (by have := Z0.out; omega) (HR.out.mono fun g hg => ⟨hg.1.imp id (fun h => by omega), hg.2⟩) HB.out (((Fr.of_below (S := fun g => g = w.heap.size + 2) B4.out).set (p := ⟨w.heap.size + 2, 0, none⟩) (Or.inl rfl) (.int .u64 N2)).set (p := ⟨w.heap.size + 2, 1, none⟩) (Or.inl rfl) (.slice la' ln' lc')) (fun g hg => by omega))
  rw [hN2, HRC.out] at R
  clear hN2 J4
  have ev : (RV == RV) = true := by simp
  have ee : (RE == RE) = true := by simp
  rw [HN2.out]
  go_wp2_with fail
  exact bodyPost_ret (v := .tuple #[ckV N2 la' ln' lc', .bool true]) (by simp [results, Try.results10, go_sem, hz0, hz1]) rfl R.out
theorem do_any (h : Duo G S w v la ln lc c) (hg : Gd c n) (hn : n ≤ 1000) (x : Ac) (hx : AcOk (fun g => ¬ S g ∧ g < w.heap.size) w x) :
    Calls Try.prog 10 #[v, ckV c.now la ln lc, acV x] w (IsDo G S w v (actM c x)) := by
  unfold actM
  split
  · next h2 => exact do_take h hg hn x hx h2
  · next h2 =>
    split
    · next h3 => exact do_clear h hg hn x hx h3
    · next h3 => exact do_ret h hg hn x hx ⟨h2, h3⟩
end
end Go.Proofs.Ytcpkiepdpmaeoaa.EL
