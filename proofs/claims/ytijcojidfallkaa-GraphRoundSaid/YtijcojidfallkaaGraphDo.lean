/-
  One call of the program's graph and of the reference's: both leave the same. Nothing here is a statement of the seed.
-/
import Derived.Test.YtijcojidfallkaaGraphProg
import Derived.Test.YtijcojidfallkaaGraphActM
import Derived.Test.YtijcojidfallkaaGraphTurn
import Derived.BigRegion
set_option linter.unusedSimpArgs false
set_option linter.unusedVariables false
namespace Go.Proofs.Ytijcojidfallkaa.GL
open Go.RowKit WM NR OM OR GM GR GF GP
set_option maxHeartbeats 4000000
set_option maxRecDepth 10000
/-- both graphs, the same in one and the other; G: where the reference's rows lie -/
structure Duo (G S : Nat → Prop) (u : World) (v : Value) (la : Option Addr) (ln lc : Nat) (l : List Nr) : Prop where
  P : PT S u v (ndL l)
  R : RdG G u la ln lc l
  GS : ∀ b, G b → ¬ S b ∧ b < u.heap.size
theorem Duo.belowS {G S : Nat → Prop} {u u' : World} {v : Value} {la : Option Addr} {ln lc : Nat} {l : List Nr} (h : Duo G S u v la ln lc l) (hb : Below u.heap.size u u') : Duo G S u' v la ln lc l :=
  ⟨h.P.keep hb.size fun g hg => hb.block g (h.P.lt g hg), h.R.keep fun g hg _ => hb.block g (h.GS g hg).2, fun g hg => ⟨(h.GS g hg).1, Nat.lt_of_lt_of_le (h.GS g hg).2 hb.size⟩⟩
theorem Duo.far {G S : Nat → Prop} {u : World} {v : Value} {la : Option Addr} {ln lc : Nat} {l : List Nr} (h : Duo G S u v la ln lc l) {p : Addr} (hS : ¬ S p.block) (hG : ¬ G p.block) (y : Value) : Duo G S (u.setCell p y) v la ln lc l :=
  ⟨h.P.keep (by simp) fun g hg => Below.heap_setCell _ _ _ _ (fun e => hS (e ▸ hg)), h.R.keep fun g hg _ => Below.heap_setCell _ _ _ _ (fun e => hG (e ▸ hg)), fun g hg => ⟨(h.GS g hg).1, by simpa using (h.GS g hg).2⟩⟩
/-- a box of the call's own, on the way: r, the act, the result -/
structure DJ (w : World) (c0 c1 c2 : Array Value) (u : World) : Prop where
  X : Whole u w.heap.size 29 c0
  Y : Whole u (w.heap.size + 1) 34 c1
  Z : Whole u (w.heap.size + 2) 29 c2
theorem DJ.fr {w u u' : World} {c0 c1 c2 : Array Value} {S : Nat → Prop} (h : DJ w c0 c1 c2 u) (hf : Fr S u u') (hS : ∀ g, S g → g < w.heap.size ∨ w.heap.size + 3 ≤ g) : DJ w c0 c1 c2 u' :=
  ⟨h.X.fr hf (fun h1 => by have := hS _ h1; omega), h.Y.fr hf (fun h1 => by have := hS _ h1; omega), h.Z.fr hf (fun h1 => by have := hS _ h1; omega)⟩
theorem DJ.belowS {w u u' : World} {c0 c1 c2 : Array Value} (h : DJ w c0 c1 c2 u) (hb : Below u.heap.size u u') : DJ w c0 c1 c2 u' := ⟨h.X.belowS hb, h.Y.belowS hb, h.Z.belowS hb⟩
theorem DJ.new (w : World) (c0 c1 c2 : Array Value) : DJ w c0 c1 c2 (((w.alloc (.cells c0 29)).alloc (.cells c1 34)).alloc (.cells c2 29)) ∧ Below w.heap.size w (((w.alloc (.cells c0 29)).alloc (.cells c1 34)).alloc (.cells c2 29)) ∧ (((w.alloc (.cells c0 29)).alloc (.cells c1 34)).alloc (.cells c2 29)).heap.size = w.heap.size + 3 := by
  have b0 := below_new w (.cells c0 29)
  have b1 := below_new (w.alloc (.cells c0 29)) (.cells c1 34)
  have b2 := below_new ((w.alloc (.cells c0 29)).alloc (.cells c1 34)) (.cells c2 29)
  have s0 : (w.alloc (.cells c0 29)).heap.size = w.heap.size + 1 := by simp
  have s1 : ((w.alloc (.cells c0 29)).alloc (.cells c1 34)).heap.size = w.heap.size + 2 := by simp
  have y := Whole.new (w.alloc (.cells c0 29)) 34 c1
  have z := Whole.new ((w.alloc (.cells c0 29)).alloc (.cells c1 34)) 29 c2
  rw [s0] at y
  rw [s1] at z
  exact ⟨⟨((Whole.new w _ _).belowS b1).belowS b2, y.belowS b2, z⟩, (b0.trans (b1.mono b0.size)).trans (b2.mono (b0.trans (b1.mono b0.size)).size), by simp⟩
theorem three_cells {w : World} {b : Nat} {t : TypeId} {x0 x1 x2 : Value} (h : Whole w b t #[x0, x1, x2]) : w.cell? ⟨b, 0, none⟩ = some x0 ∧ w.cell? ⟨b, 1, none⟩ = some x1 ∧ w.cell? ⟨b, 2, none⟩ = some x2 := ⟨h.cell 0, h.cell 1, h.cell 2⟩
/-- what do tells: the reference's graph anew, true -/
def IsDo (G S : Nat → Prop) (w : World) (v : Value) (t : List Nd) : Ending → World → Prop := fun e u => ∃ la ln lc l G' S', e = .returned (.tuple #[gV la ln lc, .bool true]) ∧ Duo G' S' u v la ln lc l ∧ ndL l = t ∧ (∀ g, S' g → S g ∨ w.heap.size ≤ g) ∧ (∀ g, G' g → G g ∨ w.heap.size ≤ g) ∧ Fr S w u
/-- the end of each way -/
theorem do_post {G S S' Z : Nat → Prop} {w u2 u3 uf : World} {v : Value} {t' : List Nd} {la : Option Addr} {ln lc m : Nat} {l' : List Nr} (hP : PT S' u2 v t') (hS' : ∀ g, S' g → S g ∨ m ≤ g) (hS : ∀ g, S g → g < w.heap.size) (hG : ∀ g, G g → ¬ S g ∧ g < w.heap.size) (hF : Fr S w u2) (hm : w.heap.size ≤ m) (h2 : m ≤ u2.heap.size)
    (hR : RdG (fun g => (G g ∨ u2.heap.size ≤ g) ∧ g < u3.heap.size) u3 la ln lc l') (hl : ndL l' = t') (hb : Below u2.heap.size u2 u3) (hZ : Fr Z u3 uf) (hz : ∀ g, Z g → w.heap.size ≤ g ∧ g < m) :
    IsDo G S w v t' (.returned (.tuple #[gV la ln lc, .bool true])) uf := by
  subst hl
  have hb3 := hb.size
  have hlt := hP.lt
  refine ⟨_, _, _, l', _, S', rfl, ⟨?_, hR.keep (fun g hg hgl => hZ.block g hgl (fun hzg => ?_)), fun g hg => ⟨fun h => ?_, Nat.lt_of_lt_of_le hg.2 hZ.size⟩⟩, rfl, fun g hg => (hS' g hg).imp id (fun h => by omega), fun g hg => hg.1.imp id (fun h => by omega), (hF.then hb).trans hZ (fun g hg => Or.inr (hz g hg).1)⟩
  · refine (hP.keep hb3 fun g hg => hb.block g (hlt g hg)).keep hZ.size fun g hg => hZ.block g (by have := hlt g hg; omega) (fun hzg => ?_)
    have h1 := hz g hzg
    rcases hS' g hg with h | h
    · have := hS g h; omega
    · omega
  · have h1 := hz g hzg
    rcases hg.1 with h | h
    · have := (hG g h).2; omega
    · omega
  · have h4 := hlt g h
    rcases hg.1 with h1 | h1
    · rcases hS' g h with h3 | h3
      · exact (hG g h1).1 h3
      · have := (hG g h1).2; omega
    · omega
/-- a list of which the first i are a mark -/
def qm (i : Nat) (xs : List Tx) : List Tx := List.replicate i [63] ++ xs.drop i
theorem qm_len {i : Nat} {xs : List Tx} (h : i ≤ xs.length) : (qm i xs).length = xs.length := by unfold qm; rw [List.length_append, List.length_replicate, List.length_drop]; omega
theorem qm_at {i : Nat} {xs : List Tx} (h : i < xs.length) : (qm i xs).getD i [] = xs.getD i [] := by
  unfold qm
  simp [List.getD_eq_getElem?_getD, List.getElem?_append_right]
theorem qm_set {i : Nat} {xs : List Tx} (h : i < xs.length) : (qm i xs).set i [63] = qm (i + 1) xs := by
  unfold qm
  rw [List.set_append, if_neg (by simp), List.length_replicate, Nat.sub_self]
  have e : xs.drop i = xs.getD i [] :: xs.drop (i + 1) := by
    rw [List.drop_eq_getElem_cons h, List.getD_eq_getElem?_getD, List.getElem?_eq_getElem h]
    rfl
  rw [e, List.set_cons_zero, List.replicate_succ', List.append_assoc]
  rfl
section
variable {G S : Nat → Prop} {w : World} {v : Value} {la : Option Addr} {ln lc : Nat} {l : List Nr}
theorem do_rem (h : Duo G S w v la ln lc l) (hg : GM.Good (ndL l)) (hb : ln ≤ 100) (x : Ac) (hx : AcOk (fun g => ¬ S g ∧ g < w.heap.size) w x) (hn : x.nm.length ≤ 140737488351232) (hns : ∀ s ∈ x.ns, s.length ≤ 140737488351232) (hnl : x.ns.length ≤ 1000) (hk : x.kind % 4 = 2) :
    Calls Try.prog 11 #[v, gV la ln lc, acV x] w (IsDo G S w v (removeM (ndL l) x.nm).1) := by
  obtain ⟨xk, xn, na, nn, nc, ns⟩ := x
  simp only at hn hns hnl hk
  have hkd := hx.kind
  have hrd := hx.ns
  simp only at hkd hrd
  obtain ⟨ll, q2, lm⟩ := h.R.len
  have hln : (ndL l).length ≤ 100 := by rw [List.length_map]; omega
  obtain ⟨n1, m1, m2⟩ := reads_len hrd
  rw [strs_len] at n1
  unfold maxLen at m2
  obtain ⟨y, hy⟩ : ∃ y, y = bs xn := ⟨_, rfl⟩
  obtain ⟨j0, b0, z0⟩ := DJ.new w (gC la ln lc) #[.int .u8 xk, .string y, .slice na nn nc] #[.slice none 0 0]
  have hlt := h.P.lt
  have J0 := Lib.hid j0
  have B0 := Lib.hid b0
  have Z0 := Lib.hid z0
  have HH := Lib.hid h
  have HG := Lib.hid hg
  have HLN := Lib.hid hln
  have HN := Lib.hid hn
  have HNS := Lib.hid hns
  have HNL := Lib.hid hnl
  have HRD := Lib.hid hrd
  have HS := Lib.hid hlt
  have HGS := Lib.hid h.GS
  have HN1 := Lib.hid n1
  have hnz : (nn : Int) ≤ 1000 := by omega
  have hnc : (nn : Int) ≤ nc := by omega
  have hkm : xk % 4 < 4 ∧ 0 ≤ xk % 4 := by omega
  have hkt : xk.tmod 4 = xk % 4 := by rw [Int.tmod_eq_emod_of_nonneg (by omega)]
  have k2 : xk % 4 = 2 := hk
  obtain ⟨T, hT⟩ : ∃ T, T = removeM (ndL l) xn := ⟨_, rfl⟩
  have HT := Lib.hid hT
  show Calls _ _ #[v, gV la ln lc, .agg #[.int .u8 xk, .string (bs xn), .slice na nn nc]] w (IsDo G S w v (removeM (ndL l) xn).1)
  rw [← hT]
  clear j0 b0 z0 h hg hb hx hn hns hnl hrd hlt ll q2 lm hln n1 m1 m2 hT hk
  rw [← hy]
  have HY := Lib.hid hy
  clear hy
  generalize xk % 4 = kk at *
  go_enter Try.func11, Try.ntmps11
  go_upto_region 2 with fail
  generalize ((w.alloc (.cells (gC la ln lc) 29)).alloc (.cells #[.int .u8 xk, .string y, .slice na nn nc] 34)).alloc (.cells #[.slice none 0 0] 29) = W at *
  have b5 := below_new W (.cells #[] 9)
  have hown0 := World.ownsRow_lit (e := 9) (base := W.heap.size) (size := 1) W #[] 0 (Nat.le_refl _) (by simp [maxLen]) rfl
  have hb5 := below_of B0.out b5
  obtain ⟨v7, wq, hr7, ho7, hg7⟩ := app_str (ty := 32) (l := []) b5.size hown0 (HRD.out.keep fun g hg _ => hb5.block g hg.2) (by omega)
  have b7 := below_grown b5 b5.size hown0 (Nat.le_refl _) hg7
  rw [Nat.zero_add, List.nil_append] at ho7
  obtain ⟨oa, oc, hv7⟩ := own_form' ho7
  subst hv7
  have a2 := (J0.out.Y.belowS b5).cell 2
  have a6 := (J0.out.Y.belowS b5).lt
  have HO7 := Lib.hid ho7
  have B7 := Lib.hid (below_of B0.out b7)
  have J7 := Lib.hid (J0.out.belowS b7)
  have HW7 := Lib.hid b7.size
  clear b5 hown0 hb5 ho7 hg7 b7
  go_upto_region 3 with (at_builtin; refine Lib.wpList_append_run _ rfl _ _ _ _ rfl _ _ rfl rfl _ _ hr7 ?_)
  clear hr7 a2 a6
  obtain ⟨a0, a1, a2⟩ := three_cells J7.out.Y
  have a6 := J7.out.Y.lt
  have C1' := remove_any (HH.out.P.keep B7.out.size fun g hg => B7.out.block g (HS.out g hg)) HG.out HLN.out xn (by have := HN.out; omega)
  rw [← HT.out, ← HY.out] at C1'
  have C1 := Lib.hid C1'
  clear C1'
  go_upto_region 8 with (go_at_call 15; (with_reducible refine C1.out.mono ?_); rintro e w2 ⟨rfl, S', hP, hS', hF⟩; have J2 := Lib.hid (J7.out.fr hF (fun g hg => by have := HS.out g hg; omega)); have F2 := Lib.hid ((Fr.of_below (S := S) B7.out).trans hF (fun i hi => Or.inl hi)); have F72 := Lib.hid hF; have hs2 := hF.size; have HP := Lib.hid (And.intro hP hS'); clear hP hS' hF)
  clear a0 a1 a2 a6 C1
  obtain ⟨a0, a1, a2⟩ := three_cells J2.out.Y
  have a6 := J2.out.Y.lt
  have c0 := J2.out.X.cell 0
  have c6 := J2.out.X.lt
  have hgl := HH.out.R.len
  have hln9 := HLN.out
  rw [List.length_map] at hln9
  have C2' := refRem_any (HH.out.R.keep fun g hg _ => F2.out.block g (HGS.out g hg).2 (HGS.out g hg).1) (fun g hg => Nat.lt_of_lt_of_le (HGS.out g hg).2 F2.out.size) (by omega) xn
  rw [← HT.out, ← HY.out] at C2'
  have C2 := Lib.hid C2'
  clear C2' hgl hln9
  go_upto_region 12 with (go_at_call 25; (with_reducible refine C2.out.mono ?_); rintro e w3 ⟨la', ln', lc', l', rfl, hR, hl', hB⟩; have J3 := Lib.hid (J2.out.belowS hB); have HR := Lib.hid hR; have HL := Lib.hid hl'; have HB := Lib.hid hB; clear a0 a1 a2 a6 c0 c6; have c0 := J3.out.X.cell 0; have c6 := J3.out.X.lt; have cf0 := J3.out.X.frozen 0; clear hR hl' hB)
  clear c0 c6 cf0 C2
  have hWz := Z0.out
  have hF4 : Fr (fun g => g = w.heap.size) w3 (w3.setCell ⟨w.heap.size, 0, none⟩ (.slice la' ln' lc')) := (Fr.refl (fun g => g = w.heap.size) w3).set (p := ⟨w.heap.size, 0, none⟩) (Or.inl rfl) _
  have hX4 := J3.out.X.set_ 0 (.slice la' ln' lc')
  have hY4 := J3.out.Y.fr hF4 (by omega)
  have hZ4 := J3.out.Z.fr hF4 (by omega)
  have hB73 : ∀ c, W.heap.size ≤ c → c < wq.heap.size → (w3.setCell ⟨w.heap.size, 0, none⟩ (.slice la' ln' lc')).heap[c]? = wq.heap[c]? := fun c h1 h2 => by
    rw [hF4.block c (by have := F72.out.size; have := HB.out.size; omega) (by omega), HB.out.block c (by have := F72.out.size; omega), F72.out.block c h2 (fun hs => by have := HS.out c hs; omega)]
  have HO4 := Lib.hid (GO.own_same HO7.out (u := w3.setCell ⟨w.heap.size, 0, none⟩ (.slice la' ln' lc')) (fun c hc => hB73 c (HO7.out.lt c hc).1 (HO7.out.lt c hc).2))
  have HQ := Lib.hid (fun c (hc : (Value.slice oa nn oc).ownBlock = some c) => HO7.out.lt c hc)
  have HRD4 := Lib.hid (show Reads (fun g => ¬ S g ∧ g < w.heap.size) (w3.setCell ⟨w.heap.size, 0, none⟩ (.slice la' ln' lc')) (.slice na nn nc) (strs ns) from HRD.out.keep fun g hg hgl => by
    rw [hF4.block g (by have := F72.out.size; have := HB.out.size; have := HW7.out; omega) (by omega), HB.out.block g (by have := F72.out.size; have := HW7.out; omega), F2.out.block g hgl hg.1])
  have HX4 := Lib.hid hX4
  have HY4 := Lib.hid hY4
  have HZ4 := Lib.hid hZ4
  have HF4 := Lib.hid hF4
  have hsz4 : (w3.setCell ⟨w.heap.size, 0, none⟩ (.slice la' ln' lc')).heap.size = w3.heap.size := by simp
  have HSZ := Lib.hid (show w.heap.size + 3 ≤ wq.heap.size ∧ wq.heap.size ≤ w2.heap.size by have := HW7.out; omega)
  clear hX4 hY4 hZ4 hF4 hB73 J3 J2 J0 J7 hWz hs2 hsz4
  generalize w3.setCell ⟨w.heap.size, 0, none⟩ (.slice la' ln' lc') = W4 at *
  have ett : (T.2 == T.2) = true := by simp
  go_wp2_with fail
  go_loopw [11] (fun v11 wr => ∃ i : Nat, i ≤ nn ∧ v11 = .int .i64 (i : Int) ∧ Hid (wr.ownsRow W.heap.size 9 1 (.slice oa nn oc) nn (strs (qm i ns))) ∧ Hid (Fr (fun g => (Value.slice oa nn oc).ownBlock = some g) W4 wr)) (fun v11 _ => nn - (intOf v11).toNat)
  case atStart => exact ⟨0, by omega, by go_num, Lib.hid (by have := HO4.out; simpa [qm] using this), Lib.hid (Fr.refl _ _)⟩
  case round =>
    obtain ⟨i, hi, rfl, HOW, HFW⟩ := hrel
    have nq : ∀ c, c < w.heap.size + 3 → ¬ (Value.slice oa nn oc).ownBlock = some c := fun c hc e => by have := (HQ.out c e).1; have := Z0.out; omega
    have xX := HX4.out.fr HFW.out (nq _ (by omega))
    have xY := HY4.out.fr HFW.out (nq _ (by omega))
    have xZ := HZ4.out.fr HFW.out (nq _ (by omega))
    have xR := HRD4.out.keep (w' := wr) (fun g hg hgl => HFW.out.block g hgl (nq _ (by omega)))
    by_cases hlt : i < nn
    · have hiz : (i : Int) < nn := by omega
      have hil : i < ns.length := by rw [HN1.out]; exact hlt
      rcases HOW.out.2 with ⟨e, _⟩ | ⟨gq, cap, cur, e, hbase, hbq, q1, q2, q3, q4⟩
      · simp only [Value.slice.injEq] at e; omega
      · simp only [Value.slice.injEq] at e
        obtain ⟨rfl, _, rfl⟩ := e
        have hoc : (nn : Int) ≤ oc := by omega
        have cq := HOW.out.cellAt i (by omega)
        have fq := HOW.out.frozenAt i
        rw [strs_at (by rw [qm_len (by omega)]; exact hil), qm_at hil] at cq
        obtain ⟨ga, offa, hna, _, ca⟩ := GP.reads_atG xR (u := wr) (fun _ _ _ => rfl) hlt
        subst hna
        rw [strs_at hil] at ca
        obtain ⟨a0, a1, a2⟩ := three_cells xY
        have a6 := xY.lt
        have st := HOW.out.stored i (.string ⟨#[63]⟩)
        have HOW2 := Lib.hid (show (wr.setCell ⟨gq, i, none⟩ (.string ⟨#[63]⟩)).ownsRow W.heap.size 9 1 (.slice (some ⟨gq, 0, none⟩) nn oc) nn (strs (qm (i + 1) ns)) from by
          rw [← qm_set hil]
          have := st.1
          unfold strs at this ⊢
          rw [List.map_set]
          exact this)
        have HFW2 := Lib.hid (HFW.out.set (p := ⟨gq, i, none⟩) (Or.inl rfl) (.string ⟨#[63]⟩))
        have HOW3 := Lib.hid (owns_below HOW2.out (Below.refl _ _).drew)
        have HFW3 := Lib.hid HFW2.out.drew
        clear xX xY xZ xR nq st hbq q1 q2 q3 q4 hbase a0 a1 HOW2 HFW2
        generalize bs (ns.getD i []) = z at *
        have hzz : (z.toList == z.toList) = true := by simp
        go_upto_region 15 with fail
        go_region
        go_wp2_with fail
        go_roundw
        case rel => exact ⟨i + 1, by omega, by go_num, by first | exact HOW3 | (trace_state; fail), by first | exact HFW3 | fail⟩
        case measure => simp [intOf]; omega
    · obtain rfl : i = nn := by omega
      have c0 := xX.cell 0
      have c6 := xX.lt
      have z0 := xZ.cell 0
      have z6 := xZ.lt
      have zf := xZ.frozen 0
      have zz := (xZ.set_ 0 (.slice la' ln' lc')).cell 0
      have FF := Lib.hid (do_post (Z := fun g => (g = w.heap.size ∨ (Value.slice oa i oc).ownBlock = some g) ∨ g = w.heap.size + 2) HP.out.1 HP.out.2 HS.out HGS.out F2.out (m := wq.heap.size) (by have := HSZ.out; omega) (by have := HSZ.out; omega) HR.out HL.out HB.out ((((HF4.out.mono (S' := fun g => (g = w.heap.size ∨ (Value.slice oa i oc).ownBlock = some g) ∨ g = w.heap.size + 2) (fun g hg => Or.inl (Or.inl (Or.inl hg))))).trans HFW.out (fun g hg => Or.inl (Or.inl (Or.inr hg)))).set (p := ⟨w.heap.size + 2, 0, none⟩) (Or.inl (Or.inr rfl)) (.slice la' ln' lc')) (fun g hg => by
        have := HSZ.out
        have := Z0.out
        rcases hg with (rfl | e) | rfl
        · omega
        · have := HQ.out g e; omega
        · omega))
      clear xX xY xZ xR nq HOW HFW
      go_wp2_with fail
      exact bodyPost_ret (v := .tuple #[gV la' ln' lc', .bool true]) (by simp [results, Try.results11, go_sem, zz]) rfl FF.out
theorem do_turn (h : Duo G S w v la ln lc l) (hg : GM.Good (ndL l)) (hb : ln ≤ 100) (x : Ac) (hx : AcOk (fun g => ¬ S g ∧ g < w.heap.size) w x) (hn : x.nm.length ≤ 140737488351232) (hns : ∀ s ∈ x.ns, s.length ≤ 140737488351232) (hnl : x.ns.length ≤ 1000) (hk : x.kind % 4 = 3) :
    Calls Try.prog 11 #[v, gV la ln lc, acV x] w (IsDo G S w v (turnM (ndL l) x.nm x.ns).1) := by
  obtain ⟨xk, xn, na, nn, nc, ns⟩ := x
  simp only at hn hns hnl hk
  have hkd := hx.kind
  have hrd := hx.ns
  simp only at hkd hrd
  obtain ⟨ll, q2, lm⟩ := h.R.len
  have hln : (ndL l).length ≤ 100 := by rw [List.length_map]; omega
  obtain ⟨n1, m1, m2⟩ := reads_len hrd
  rw [strs_len] at n1
  unfold maxLen at m2
  obtain ⟨y, hy⟩ : ∃ y, y = bs xn := ⟨_, rfl⟩
  obtain ⟨j0, b0, z0⟩ := DJ.new w (gC la ln lc) #[.int .u8 xk, .string y, .slice na nn nc] #[.slice none 0 0]
  have hlt := h.P.lt
  have J0 := Lib.hid j0
  have B0 := Lib.hid b0
  have Z0 := Lib.hid z0
  have HH := Lib.hid h
  have HG := Lib.hid hg
  have HLN := Lib.hid hln
  have HN := Lib.hid hn
  have HNS := Lib.hid hns
  have HNL := Lib.hid hnl
  have HRD := Lib.hid hrd
  have HS := Lib.hid hlt
  have HGS := Lib.hid h.GS
  have HN1 := Lib.hid n1
  have hnz : (nn : Int) ≤ 1000 := by omega
  have hnc : (nn : Int) ≤ nc := by omega
  have hkm : xk % 4 < 4 ∧ 0 ≤ xk % 4 := by omega
  have hkt : xk.tmod 4 = xk % 4 := by rw [Int.tmod_eq_emod_of_nonneg (by omega)]
  have k3 : xk % 4 = 3 := hk
  obtain ⟨T, hT⟩ : ∃ T, T = turnM (ndL l) xn ns := ⟨_, rfl⟩
  have HT := Lib.hid hT
  show Calls _ _ #[v, gV la ln lc, .agg #[.int .u8 xk, .string (bs xn), .slice na nn nc]] w (IsDo G S w v (turnM (ndL l) xn ns).1)
  rw [← hT]
  clear j0 b0 z0 h hg hb hx hn hns hnl hrd hlt ll q2 lm hln n1 m1 m2 hT hk
  rw [← hy]
  have HY := Lib.hid hy
  clear hy
  generalize xk % 4 = kk at *
  go_enter Try.func11, Try.ntmps11
  go_upto_region 2 with fail
  generalize ((w.alloc (.cells (gC la ln lc) 29)).alloc (.cells #[.int .u8 xk, .string y, .slice na nn nc] 34)).alloc (.cells #[.slice none 0 0] 29) = W at *
  have b5 := below_new W (.cells #[] 9)
  have hown0 := World.ownsRow_lit (e := 9) (base := W.heap.size) (size := 1) W #[] 0 (Nat.le_refl _) (by simp [maxLen]) rfl
  have hb5 := below_of B0.out b5
  obtain ⟨v7, wq, hr7, ho7, hg7⟩ := app_str (ty := 32) (l := []) b5.size hown0 (HRD.out.keep fun g hg _ => hb5.block g hg.2) (by omega)
  have b7 := below_grown b5 b5.size hown0 (Nat.le_refl _) hg7
  rw [Nat.zero_add, List.nil_append] at ho7
  obtain ⟨oa, oc, hv7⟩ := own_form' ho7
  subst hv7
  have a2 := (J0.out.Y.belowS b5).cell 2
  have a6 := (J0.out.Y.belowS b5).lt
  have HO7 := Lib.hid ho7
  have B7 := Lib.hid (below_of B0.out b7)
  have J7 := Lib.hid (J0.out.belowS b7)
  have HW7 := Lib.hid b7.size
  clear b5 hown0 hb5 ho7 hg7 b7
  go_upto_region 3 with (at_builtin; refine Lib.wpList_append_run _ rfl _ _ _ _ rfl _ _ rfl rfl _ _ hr7 ?_)
  clear hr7 a2 a6
  obtain ⟨a0, a1, a2⟩ := three_cells J7.out.Y
  have a6 := J7.out.Y.lt
  have C1' := turn_any (HH.out.P.keep B7.out.size fun g hg => B7.out.block g (HS.out g hg)) HG.out HLN.out xn (by have := HN.out; omega) ((Reads.of_owns (show wq.ownsRow W.heap.size 9 1 (.slice oa nn oc) (strs ns).length (strs ns) by rw [strs_len, HN1.out]; exact HO7.out)).there.mono fun g hg => ⟨fun hs => by have := HS.out g hs; have := hg.1.1; have := Z0.out; omega, hg.2⟩) (fun s hs => by have := HNS.out s hs; omega) HNL.out
  rw [← HT.out, ← HY.out] at C1'
  have C1 := Lib.hid C1'
  clear C1'
  go_upto_region 11 with (go_at_call 16; (with_reducible refine C1.out.mono ?_); rintro e w2 ⟨rfl, S', hP, hS', hF⟩; have J2 := Lib.hid (J7.out.fr hF (fun g hg => by have := HS.out g hg; omega)); have F2 := Lib.hid ((Fr.of_below (S := S) B7.out).trans hF (fun i hi => Or.inl hi)); have F72 := Lib.hid hF; have hs2 := hF.size; have HP := Lib.hid (And.intro hP hS'); clear hP hS' hF)
  clear a0 a1 a2 a6 C1
  obtain ⟨a0, a1, a2⟩ := three_cells J2.out.Y
  have a6 := J2.out.Y.lt
  have c0 := J2.out.X.cell 0
  have c6 := J2.out.X.lt
  have hgl := HH.out.R.len
  have hln9 := HLN.out
  rw [List.length_map] at hln9
  have C2' := refTurn_any (HH.out.R.keep fun g hg _ => F2.out.block g (HGS.out g hg).2 (HGS.out g hg).1) (fun g hg => Nat.lt_of_lt_of_le (HGS.out g hg).2 F2.out.size) HG.out (by omega) xn ((HRD.out.keep fun g hg _ => F2.out.block g hg.2 hg.1).mono fun g hg => Nat.lt_of_lt_of_le hg.2 F2.out.size) (by omega)
  rw [← HT.out, ← HY.out] at C2'
  have C2 := Lib.hid C2'
  clear C2' hgl hln9
  go_upto_region 12 with (go_at_call 26; (with_reducible refine C2.out.mono ?_); rintro e w3 ⟨la', ln', lc', l', rfl, hR, hl', hB⟩; have J3 := Lib.hid (J2.out.belowS hB); have HR := Lib.hid hR; have HL := Lib.hid hl'; have HB := Lib.hid hB; clear a0 a1 a2 a6 c0 c6; have c0 := J3.out.X.cell 0; have c6 := J3.out.X.lt; have cf0 := J3.out.X.frozen 0; clear hR hl' hB)
  clear c0 c6 cf0 C2
  have hWz := Z0.out
  have hF4 : Fr (fun g => g = w.heap.size) w3 (w3.setCell ⟨w.heap.size, 0, none⟩ (.slice la' ln' lc')) := (Fr.refl (fun g => g = w.heap.size) w3).set (p := ⟨w.heap.size, 0, none⟩) (Or.inl rfl) _
  have hX4 := J3.out.X.set_ 0 (.slice la' ln' lc')
  have hY4 := J3.out.Y.fr hF4 (by omega)
  have hZ4 := J3.out.Z.fr hF4 (by omega)
  have hB73 : ∀ c, W.heap.size ≤ c → c < wq.heap.size → (w3.setCell ⟨w.heap.size, 0, none⟩ (.slice la' ln' lc')).heap[c]? = wq.heap[c]? := fun c h1 h2 => by
    rw [hF4.block c (by have := F72.out.size; have := HB.out.size; omega) (by omega), HB.out.block c (by have := F72.out.size; omega), F72.out.block c h2 (fun hs => by have := HS.out c hs; omega)]
  have HO4 := Lib.hid (GO.own_same HO7.out (u := w3.setCell ⟨w.heap.size, 0, none⟩ (.slice la' ln' lc')) (fun c hc => hB73 c (HO7.out.lt c hc).1 (HO7.out.lt c hc).2))
  have HQ := Lib.hid (fun c (hc : (Value.slice oa nn oc).ownBlock = some c) => HO7.out.lt c hc)
  have HRD4 := Lib.hid (show Reads (fun g => ¬ S g ∧ g < w.heap.size) (w3.setCell ⟨w.heap.size, 0, none⟩ (.slice la' ln' lc')) (.slice na nn nc) (strs ns) from HRD.out.keep fun g hg hgl => by
    rw [hF4.block g (by have := F72.out.size; have := HB.out.size; have := HW7.out; omega) (by omega), HB.out.block g (by have := F72.out.size; have := HW7.out; omega), F2.out.block g hgl hg.1])
  have HX4 := Lib.hid hX4
  have HY4 := Lib.hid hY4
  have HZ4 := Lib.hid hZ4
  have HF4 := Lib.hid hF4
  have hsz4 : (w3.setCell ⟨w.heap.size, 0, none⟩ (.slice la' ln' lc')).heap.size = w3.heap.size := by simp
  have HSZ := Lib.hid (show w.heap.size + 3 ≤ wq.heap.size ∧ wq.heap.size ≤ w2.heap.size by have := HW7.out; omega)
  clear hX4 hY4 hZ4 hF4 hB73 J3 J2 J0 J7 hWz hs2 hsz4
  generalize w3.setCell ⟨w.heap.size, 0, none⟩ (.slice la' ln' lc') = W4 at *
  have ett : (T.2 == T.2) = true := by simp
  go_wp2_with fail
  go_loopw [11] (fun v11 wr => ∃ i : Nat, i ≤ nn ∧ v11 = .int .i64 (i : Int) ∧ Hid (wr.ownsRow W.heap.size 9 1 (.slice oa nn oc) nn (strs (qm i ns))) ∧ Hid (Fr (fun g => (Value.slice oa nn oc).ownBlock = some g) W4 wr)) (fun v11 _ => nn - (intOf v11).toNat)
  case atStart => exact ⟨0, by omega, by go_num, Lib.hid (by have := HO4.out; simpa [qm] using this), Lib.hid (Fr.refl _ _)⟩
  case round =>
    obtain ⟨i, hi, rfl, HOW, HFW⟩ := hrel
    have nq : ∀ c, c < w.heap.size + 3 → ¬ (Value.slice oa nn oc).ownBlock = some c := fun c hc e => by have := (HQ.out c e).1; have := Z0.out; omega
    have xX := HX4.out.fr HFW.out (nq _ (by omega))
    have xY := HY4.out.fr HFW.out (nq _ (by omega))
    have xZ := HZ4.out.fr HFW.out (nq _ (by omega))
    have xR := HRD4.out.keep (w' := wr) (fun g hg hgl => HFW.out.block g hgl (nq _ (by omega)))
    by_cases hlt : i < nn
    · have hiz : (i : Int) < nn := by omega
      have hil : i < ns.length := by rw [HN1.out]; exact hlt
      rcases HOW.out.2 with ⟨e, _⟩ | ⟨gq, cap, cur, e, hbase, hbq, q1, q2, q3, q4⟩
      · simp only [Value.slice.injEq] at e; omega
      · simp only [Value.slice.injEq] at e
        obtain ⟨rfl, _, rfl⟩ := e
        have hoc : (nn : Int) ≤ oc := by omega
        have cq := HOW.out.cellAt i (by omega)
        have fq := HOW.out.frozenAt i
        rw [strs_at (by rw [qm_len (by omega)]; exact hil), qm_at hil] at cq
        obtain ⟨ga, offa, hna, _, ca⟩ := GP.reads_atG xR (u := wr) (fun _ _ _ => rfl) hlt
        subst hna
        rw [strs_at hil] at ca
        obtain ⟨a0, a1, a2⟩ := three_cells xY
        have a6 := xY.lt
        have st := HOW.out.stored i (.string ⟨#[63]⟩)
        have HOW2 := Lib.hid (show (wr.setCell ⟨gq, i, none⟩ (.string ⟨#[63]⟩)).ownsRow W.heap.size 9 1 (.slice (some ⟨gq, 0, none⟩) nn oc) nn (strs (qm (i + 1) ns)) from by
          rw [← qm_set hil]
          have := st.1
          unfold strs at this ⊢
          rw [List.map_set]
          exact this)
        have HFW2 := Lib.hid (HFW.out.set (p := ⟨gq, i, none⟩) (Or.inl rfl) (.string ⟨#[63]⟩))
        have HOW3 := Lib.hid (owns_below HOW2.out (Below.refl _ _).drew)
        have HFW3 := Lib.hid HFW2.out.drew
        clear xX xY xZ xR nq st hbq q1 q2 q3 q4 hbase a0 a1 HOW2 HFW2
        generalize bs (ns.getD i []) = z at *
        have hzz : (z.toList == z.toList) = true := by simp
        go_upto_region 15 with fail
        go_region
        go_wp2_with fail
        go_roundw
        case rel => exact ⟨i + 1, by omega, by go_num, by first | exact HOW3 | (trace_state; fail), by first | exact HFW3 | fail⟩
        case measure => simp [intOf]; omega
    · obtain rfl : i = nn := by omega
      have c0 := xX.cell 0
      have c6 := xX.lt
      have z0 := xZ.cell 0
      have z6 := xZ.lt
      have zf := xZ.frozen 0
      have zz := (xZ.set_ 0 (.slice la' ln' lc')).cell 0
      have FF := Lib.hid (do_post (Z := fun g => (g = w.heap.size ∨ (Value.slice oa i oc).ownBlock = some g) ∨ g = w.heap.size + 2) HP.out.1 HP.out.2 HS.out HGS.out F2.out (m := wq.heap.size) (by have := HSZ.out; omega) (by have := HSZ.out; omega) HR.out HL.out HB.out ((((HF4.out.mono (S' := fun g => (g = w.heap.size ∨ (Value.slice oa i oc).ownBlock = some g) ∨ g = w.heap.size + 2) (fun g hg => Or.inl (Or.inl (Or.inl hg))))).trans HFW.out (fun g hg => Or.inl (Or.inl (Or.inr hg)))).set (p := ⟨w.heap.size + 2, 0, none⟩) (Or.inl (Or.inr rfl)) (.slice la' ln' lc')) (fun g hg => by
        have := HSZ.out
        have := Z0.out
        rcases hg with (rfl | e) | rfl
        · omega
        · have := HQ.out g e; omega
        · omega))
      clear xX xY xZ xR nq HOW HFW
      go_wp2_with fail
      exact bodyPost_ret (v := .tuple #[gV la' ln' lc', .bool true]) (by simp [results, Try.results11, go_sem, zz]) rfl FF.out
theorem do_add (h : Duo G S w v la ln lc l) (hg : GM.Good (ndL l)) (hb : ln ≤ 100) (x : Ac) (hx : AcOk (fun g => ¬ S g ∧ g < w.heap.size) w x) (hn : x.nm.length ≤ 140737488351232) (hns : ∀ s ∈ x.ns, s.length ≤ 140737488351232) (hnl : x.ns.length ≤ 1000) (hk : x.kind % 4 = 0 ∨ x.kind % 4 = 1) :
    Calls Try.prog 11 #[v, gV la ln lc, acV x] w (IsDo G S w v (addM (ndL l) x.nm x.ns).1) := by
  obtain ⟨xk, xn, na, nn, nc, ns⟩ := x
  simp only at hn hns hnl hk
  have hkd := hx.kind
  have hrd := hx.ns
  simp only at hkd hrd
  obtain ⟨ll, q2, lm⟩ := h.R.len
  have hln : (ndL l).length ≤ 100 := by rw [List.length_map]; omega
  obtain ⟨n1, m1, m2⟩ := reads_len hrd
  rw [strs_len] at n1
  unfold maxLen at m2
  obtain ⟨y, hy⟩ : ∃ y, y = bs xn := ⟨_, rfl⟩
  obtain ⟨j0, b0, z0⟩ := DJ.new w (gC la ln lc) #[.int .u8 xk, .string y, .slice na nn nc] #[.slice none 0 0]
  have hlt := h.P.lt
  have J0 := Lib.hid j0
  have B0 := Lib.hid b0
  have Z0 := Lib.hid z0
  have HH := Lib.hid h
  have HG := Lib.hid hg
  have HLN := Lib.hid hln
  have HN := Lib.hid hn
  have HNS := Lib.hid hns
  have HNL := Lib.hid hnl
  have HRD := Lib.hid hrd
  have HS := Lib.hid hlt
  have HGS := Lib.hid h.GS
  have HN1 := Lib.hid n1
  have hnz : (nn : Int) ≤ 1000 := by omega
  have hnc : (nn : Int) ≤ nc := by omega
  have hkm : xk % 4 < 4 ∧ 0 ≤ xk % 4 := by omega
  have hkt : xk.tmod 4 = xk % 4 := by rw [Int.tmod_eq_emod_of_nonneg (by omega)]
  have k5 : ¬ xk % 4 = 2 ∧ ¬ xk % 4 = 3 := by omega
  obtain ⟨k2, k3⟩ := k5
  obtain ⟨T, hT⟩ : ∃ T, T = addM (ndL l) xn ns := ⟨_, rfl⟩
  have HT := Lib.hid hT
  show Calls _ _ #[v, gV la ln lc, .agg #[.int .u8 xk, .string (bs xn), .slice na nn nc]] w (IsDo G S w v (addM (ndL l) xn ns).1)
  rw [← hT]
  clear j0 b0 z0 h hg hb hx hn hns hnl hrd hlt ll q2 lm hln n1 m1 m2 hT hk
  rw [← hy]
  have HY := Lib.hid hy
  clear hy
  generalize xk % 4 = kk at *
  go_enter Try.func11, Try.ntmps11
  go_upto_region 2 with fail
  generalize ((w.alloc (.cells (gC la ln lc) 29)).alloc (.cells #[.int .u8 xk, .string y, .slice na nn nc] 34)).alloc (.cells #[.slice none 0 0] 29) = W at *
  have b5 := below_new W (.cells #[] 9)
  have hown0 := World.ownsRow_lit (e := 9) (base := W.heap.size) (size := 1) W #[] 0 (Nat.le_refl _) (by simp [maxLen]) rfl
  have hb5 := below_of B0.out b5
  obtain ⟨v7, wq, hr7, ho7, hg7⟩ := app_str (ty := 32) (l := []) b5.size hown0 (HRD.out.keep fun g hg _ => hb5.block g hg.2) (by omega)
  have b7 := below_grown b5 b5.size hown0 (Nat.le_refl _) hg7
  rw [Nat.zero_add, List.nil_append] at ho7
  obtain ⟨oa, oc, hv7⟩ := own_form' ho7
  subst hv7
  have a2 := (J0.out.Y.belowS b5).cell 2
  have a6 := (J0.out.Y.belowS b5).lt
  have HO7 := Lib.hid ho7
  have B7 := Lib.hid (below_of B0.out b7)
  have J7 := Lib.hid (J0.out.belowS b7)
  have HW7 := Lib.hid b7.size
  clear b5 hown0 hb5 ho7 hg7 b7
  go_upto_region 3 with (at_builtin; refine Lib.wpList_append_run _ rfl _ _ _ _ rfl _ _ rfl rfl _ _ hr7 ?_)
  clear hr7 a2 a6
  obtain ⟨a0, a1, a2⟩ := three_cells J7.out.Y
  have a6 := J7.out.Y.lt
  have C1' := add_any (HH.out.P.keep B7.out.size fun g hg => B7.out.block g (HS.out g hg)) HG.out HLN.out xn (by have := HN.out; omega) ((Reads.of_owns (show wq.ownsRow W.heap.size 9 1 (.slice oa nn oc) (strs ns).length (strs ns) by rw [strs_len, HN1.out]; exact HO7.out)).there.mono fun g hg => ⟨fun hs => by have := HS.out g hs; have := hg.1.1; have := Z0.out; omega, hg.2⟩) (fun s hs => by have := HNS.out s hs; omega) HNL.out
  rw [← HT.out, ← HY.out] at C1'
  have C1 := Lib.hid C1'
  clear C1'
  go_upto_region 5 with (go_at_call 14; (with_reducible refine C1.out.mono ?_); rintro e w2 ⟨rfl, S', hP, hS', hF⟩; have J2 := Lib.hid (J7.out.fr hF (fun g hg => by have := HS.out g hg; omega)); have F2 := Lib.hid ((Fr.of_below (S := S) B7.out).trans hF (fun i hi => Or.inl hi)); have F72 := Lib.hid hF; have hs2 := hF.size; have HP := Lib.hid (And.intro hP hS'); clear hP hS' hF)
  clear a0 a1 a2 a6 C1
  obtain ⟨a0, a1, a2⟩ := three_cells J2.out.Y
  have a6 := J2.out.Y.lt
  have c0 := J2.out.X.cell 0
  have c6 := J2.out.X.lt
  have hgl := HH.out.R.len
  have hln9 := HLN.out
  rw [List.length_map] at hln9
  have C2' := refAdd_any (HH.out.R.keep fun g hg _ => F2.out.block g (HGS.out g hg).2 (HGS.out g hg).1) (fun g hg => Nat.lt_of_lt_of_le (HGS.out g hg).2 F2.out.size) (by omega) xn ((HRD.out.keep fun g hg _ => F2.out.block g hg.2 hg.1).mono fun g hg => Nat.lt_of_lt_of_le hg.2 F2.out.size) (by omega)
  rw [← HT.out, ← HY.out] at C2'
  have C2 := Lib.hid C2'
  clear C2' hgl hln9
  go_upto_region 12 with (go_at_call 27; (with_reducible refine C2.out.mono ?_); rintro e w3 ⟨la', ln', lc', l', rfl, hR, hl', hB⟩; have J3 := Lib.hid (J2.out.belowS hB); have HR := Lib.hid hR; have HL := Lib.hid hl'; have HB := Lib.hid hB; clear a0 a1 a2 a6 c0 c6; have c0 := J3.out.X.cell 0; have c6 := J3.out.X.lt; have cf0 := J3.out.X.frozen 0; clear hR hl' hB)
  clear c0 c6 cf0 C2
  have hWz := Z0.out
  have hF4 : Fr (fun g => g = w.heap.size) w3 (w3.setCell ⟨w.heap.size, 0, none⟩ (.slice la' ln' lc')) := (Fr.refl (fun g => g = w.heap.size) w3).set (p := ⟨w.heap.size, 0, none⟩) (Or.inl rfl) _
  have hX4 := J3.out.X.set_ 0 (.slice la' ln' lc')
  have hY4 := J3.out.Y.fr hF4 (by omega)
  have hZ4 := J3.out.Z.fr hF4 (by omega)
  have hB73 : ∀ c, W.heap.size ≤ c → c < wq.heap.size → (w3.setCell ⟨w.heap.size, 0, none⟩ (.slice la' ln' lc')).heap[c]? = wq.heap[c]? := fun c h1 h2 => by
    rw [hF4.block c (by have := F72.out.size; have := HB.out.size; omega) (by omega), HB.out.block c (by have := F72.out.size; omega), F72.out.block c h2 (fun hs => by have := HS.out c hs; omega)]
  have HO4 := Lib.hid (GO.own_same HO7.out (u := w3.setCell ⟨w.heap.size, 0, none⟩ (.slice la' ln' lc')) (fun c hc => hB73 c (HO7.out.lt c hc).1 (HO7.out.lt c hc).2))
  have HQ := Lib.hid (fun c (hc : (Value.slice oa nn oc).ownBlock = some c) => HO7.out.lt c hc)
  have HRD4 := Lib.hid (show Reads (fun g => ¬ S g ∧ g < w.heap.size) (w3.setCell ⟨w.heap.size, 0, none⟩ (.slice la' ln' lc')) (.slice na nn nc) (strs ns) from HRD.out.keep fun g hg hgl => by
    rw [hF4.block g (by have := F72.out.size; have := HB.out.size; have := HW7.out; omega) (by omega), HB.out.block g (by have := F72.out.size; have := HW7.out; omega), F2.out.block g hgl hg.1])
  have HX4 := Lib.hid hX4
  have HY4 := Lib.hid hY4
  have HZ4 := Lib.hid hZ4
  have HF4 := Lib.hid hF4
  have hsz4 : (w3.setCell ⟨w.heap.size, 0, none⟩ (.slice la' ln' lc')).heap.size = w3.heap.size := by simp
  have HSZ := Lib.hid (show w.heap.size + 3 ≤ wq.heap.size ∧ wq.heap.size ≤ w2.heap.size by have := HW7.out; omega)
  clear hX4 hY4 hZ4 hF4 hB73 J3 J2 J0 J7 hWz hs2 hsz4
  generalize w3.setCell ⟨w.heap.size, 0, none⟩ (.slice la' ln' lc') = W4 at *
  have ett : (T.2 == T.2) = true := by simp
  go_wp2_with fail
  go_loopw [11] (fun v11 wr => ∃ i : Nat, i ≤ nn ∧ v11 = .int .i64 (i : Int) ∧ Hid (wr.ownsRow W.heap.size 9 1 (.slice oa nn oc) nn (strs (qm i ns))) ∧ Hid (Fr (fun g => (Value.slice oa nn oc).ownBlock = some g) W4 wr)) (fun v11 _ => nn - (intOf v11).toNat)
  case atStart => exact ⟨0, by omega, by go_num, Lib.hid (by have := HO4.out; simpa [qm] using this), Lib.hid (Fr.refl _ _)⟩
  case round =>
    obtain ⟨i, hi, rfl, HOW, HFW⟩ := hrel
    have nq : ∀ c, c < w.heap.size + 3 → ¬ (Value.slice oa nn oc).ownBlock = some c := fun c hc e => by have := (HQ.out c e).1; have := Z0.out; omega
    have xX := HX4.out.fr HFW.out (nq _ (by omega))
    have xY := HY4.out.fr HFW.out (nq _ (by omega))
    have xZ := HZ4.out.fr HFW.out (nq _ (by omega))
    have xR := HRD4.out.keep (w' := wr) (fun g hg hgl => HFW.out.block g hgl (nq _ (by omega)))
    by_cases hlt : i < nn
    · have hiz : (i : Int) < nn := by omega
      have hil : i < ns.length := by rw [HN1.out]; exact hlt
      rcases HOW.out.2 with ⟨e, _⟩ | ⟨gq, cap, cur, e, hbase, hbq, q1, q2, q3, q4⟩
      · simp only [Value.slice.injEq] at e; omega
      · simp only [Value.slice.injEq] at e
        obtain ⟨rfl, _, rfl⟩ := e
        have hoc : (nn : Int) ≤ oc := by omega
        have cq := HOW.out.cellAt i (by omega)
        have fq := HOW.out.frozenAt i
        rw [strs_at (by rw [qm_len (by omega)]; exact hil), qm_at hil] at cq
        obtain ⟨ga, offa, hna, _, ca⟩ := GP.reads_atG xR (u := wr) (fun _ _ _ => rfl) hlt
        subst hna
        rw [strs_at hil] at ca
        obtain ⟨a0, a1, a2⟩ := three_cells xY
        have a6 := xY.lt
        have st := HOW.out.stored i (.string ⟨#[63]⟩)
        have HOW2 := Lib.hid (show (wr.setCell ⟨gq, i, none⟩ (.string ⟨#[63]⟩)).ownsRow W.heap.size 9 1 (.slice (some ⟨gq, 0, none⟩) nn oc) nn (strs (qm (i + 1) ns)) from by
          rw [← qm_set hil]
          have := st.1
          unfold strs at this ⊢
          rw [List.map_set]
          exact this)
        have HFW2 := Lib.hid (HFW.out.set (p := ⟨gq, i, none⟩) (Or.inl rfl) (.string ⟨#[63]⟩))
        have HOW3 := Lib.hid (owns_below HOW2.out (Below.refl _ _).drew)
        have HFW3 := Lib.hid HFW2.out.drew
        clear xX xY xZ xR nq st hbq q1 q2 q3 q4 hbase a0 a1 HOW2 HFW2
        generalize bs (ns.getD i []) = z at *
        have hzz : (z.toList == z.toList) = true := by simp
        go_upto_region 15 with fail
        go_region
        go_wp2_with fail
        go_roundw
        case rel => exact ⟨i + 1, by omega, by go_num, by first | exact HOW3 | (trace_state; fail), by first | exact HFW3 | fail⟩
        case measure => simp [intOf]; omega
    · obtain rfl : i = nn := by omega
      have c0 := xX.cell 0
      have c6 := xX.lt
      have z0 := xZ.cell 0
      have z6 := xZ.lt
      have zf := xZ.frozen 0
      have zz := (xZ.set_ 0 (.slice la' ln' lc')).cell 0
      have FF := Lib.hid (do_post (Z := fun g => (g = w.heap.size ∨ (Value.slice oa i oc).ownBlock = some g) ∨ g = w.heap.size + 2) HP.out.1 HP.out.2 HS.out HGS.out F2.out (m := wq.heap.size) (by have := HSZ.out; omega) (by have := HSZ.out; omega) HR.out HL.out HB.out ((((HF4.out.mono (S' := fun g => (g = w.heap.size ∨ (Value.slice oa i oc).ownBlock = some g) ∨ g = w.heap.size + 2) (fun g hg => Or.inl (Or.inl (Or.inl hg))))).trans HFW.out (fun g hg => Or.inl (Or.inl (Or.inr hg)))).set (p := ⟨w.heap.size + 2, 0, none⟩) (Or.inl (Or.inr rfl)) (.slice la' ln' lc')) (fun g hg => by
        have := HSZ.out
        have := Z0.out
        rcases hg with (rfl | e) | rfl
        · omega
        · have := HQ.out g e; omega
        · omega))
      clear xX xY xZ xR nq HOW HFW
      go_wp2_with fail
      exact bodyPost_ret (v := .tuple #[gV la' ln' lc', .bool true]) (by simp [results, Try.results11, go_sem, zz]) rfl FF.out
theorem do_any (h : Duo G S w v la ln lc l) (hg : GM.Good (ndL l)) (hb : ln ≤ 100) (x : Ac) (hx : AcOk (fun g => ¬ S g ∧ g < w.heap.size) w x) (hn : x.nm.length ≤ 140737488351232) (hns : ∀ s ∈ x.ns, s.length ≤ 140737488351232) (hnl : x.ns.length ≤ 1000) :
    Calls Try.prog 11 #[v, gV la ln lc, acV x] w (IsDo G S w v (actM (ndL l) x).1) := by
  unfold actM
  by_cases h2 : x.kind % 4 = 2
  · rw [if_pos h2]; exact do_rem h hg hb x hx hn hns hnl h2
  rw [if_neg h2]
  by_cases h3 : x.kind % 4 = 3
  · rw [if_pos h3]; exact do_turn h hg hb x hx hn hns hnl h3
  rw [if_neg h3]
  exact do_add h hg hb x hx hn hns hnl (by omega)
end
end Go.Proofs.Ytijcojidfallkaa.GL
