/-
  Texts and relocations read, as the reference reads them. Nothing here is a statement of the seed.
-/
import Derived.Test.YtdlinlkdielmkaaObjGetL
import Derived.Deep.CutRange
set_option linter.unusedSimpArgs false
set_option linter.unusedVariables false
namespace Go.Proofs.Ytdlinlkdielmkaa.OR
open Go.RowKit WM NR OM
set_option maxHeartbeats 4000000
set_option maxRecDepth 10000
/-- a reader in a box, the result's box -/
structure TJ (w : World) (G : Nat → Prop) (a : Option Addr) (n c e : Nat) (l : List UInt8) (u : World) : Prop where
  X : Whole u w.heap.size 75 #[.slice a n c, .int .i64 (e : Int)]
  Y : Whole u (w.heap.size + 1) 75 #[.slice none 0 0, .int .i64 0]
  R : Reads G u (.slice a n c) (u8s l)
  B : Below w.heap.size w u
  sz : w.heap.size + 2 ≤ u.heap.size
section
variable {w : World} {G : Nat → Prop} {a a' : Option Addr} {n c n' c' e e' : Nat} {l l' : List UInt8} {u u' : World}
theorem TJ.belowS (hG : ∀ g, G g → g < w.heap.size) (h : TJ w G a n c e l u) (hb : Below u.heap.size u u') : TJ w G a n c e l u' :=
  ⟨h.X.belowS hb, h.Y.belowS hb, h.R.keep fun g _ hg => hb.block g hg, h.B.trans (hb.mono h.B.size), Nat.le_trans h.sz hb.size⟩
theorem TJ.set2 (hG : ∀ g, G g → g < w.heap.size) (h : TJ w G a n c e l u) (hr : Reads G u (.slice a' n' c') (u8s l')) : TJ w G a' n' c' e' l' ((u.setCell ⟨w.heap.size, 0, none⟩ (.slice a' n' c')).setCell ⟨w.heap.size, 1, none⟩ (.int .i64 (e' : Int))) := by
  refine ⟨(h.X.set_ 0 (.slice a' n' c')).set_ 1 (.int .i64 (e' : Int)), (h.Y.far (p := ⟨w.heap.size, 0, none⟩) (by simp) _).far (p := ⟨w.heap.size, 1, none⟩) (by simp) _, ?_, (h.B.setCell (by simp) _).setCell (by simp) _, by simpa using h.sz⟩
  refine hr.keep fun g hg _ => ?_
  have := hG g hg
  rw [Below.heap_setCell _ _ _ _ (by simp; omega), Below.heap_setCell _ _ _ _ (by simp; omega)]
theorem TJ.grow (hG : ∀ g, G g → g < w.heap.size) (h : TJ w G a n c e l u) {v : Value} {B : Nat} (hb : u.grownBy u' v.ownBlock) (ho : ∀ g, v.ownBlock = some g → w.heap.size + 2 ≤ g) : TJ w G a n c e l u' := by
  have hk : ∀ k, k < w.heap.size + 2 → u'.heap[k]? = u.heap[k]? := fun k hk => hb.block k (by have := h.sz; omega) (fun e => by have := ho k e.symm; omega)
  exact ⟨h.X.as (hk _ (by omega)), h.Y.as (hk _ (by omega)), h.R.keep fun g hg _ => hk g (by have := hG g hg; omega), ⟨hb.os.trans h.B.os, hb.tape.trans h.B.tape, hb.output.trans h.B.output, Nat.le_trans h.B.size hb.size, fun k hk2 => (hk k (by omega)).trans (h.B.block k hk2)⟩, Nat.le_trans h.sz hb.size⟩
theorem TJ.new (h : Reads G w (.slice a n c) (u8s l)) : TJ w G a n c e l ((w.alloc (.cells #[.slice a n c, .int .i64 (e : Int)] 75)).alloc (.cells #[.slice none 0 0, .int .i64 0] 75)) := by
  have b1 := below_new w (.cells #[.slice a n c, .int .i64 (e : Int)] 75)
  have b2 := b1.alloc b1.size (.cells #[.slice none 0 0, .int .i64 0] 75)
  refine ⟨(Whole.new w _ _).alloc _, ?_, h.keep fun g _ hg => b2.block g hg, b2, by simp⟩
  have := Whole.new (w.alloc (.cells #[.slice a n c, .int .i64 (e : Int)] 75)) 75 #[.slice none 0 0, .int .i64 0]
  simpa using this
/-- the reference's reader behind the call, and a list of the call's own -/
def IsRefL (G : Nat → Prop) (w : World) (t : TypeId) (size k : Nat) (xs : List Value) (e : Nat) (l : List UInt8) (en : Ending) (w' : World) : Prop :=
  ∃ v v2, en = .returned (.tuple #[.agg #[v, .int .i64 (e : Int)], v2]) ∧ Reads G w' v (u8s l) ∧ w'.ownsRow w.heap.size t size v2 k xs ∧ Below w.heap.size w w'
theorem below_two {B g : Nat} (h : Below B w u) (hg : B ≤ g) (v0 v1 : Value) : Below B w ((u.setCell ⟨g, 0, none⟩ v0).setCell ⟨g, 1, none⟩ v1) := (h.setCell (p := ⟨g, 0, none⟩) hg v0).setCell (p := ⟨g, 1, none⟩) hg v1
theorem refGetTexts_any {v : Value} {M : Int} (hG : ∀ g, G g → g < w.heap.size) (hM : 0 ≤ M ∧ M ≤ 16) (h : Reads G w v (u8s l)) :
    Calls Try.prog 45 #[.agg #[v, .int .i64 (e : Int)], .int .u32 M] w (IsRefL G w 9 1 (xTexts M.toNat e l).2.1.length (strs (xTexts M.toNat e l).2.1) (xTexts M.toNat e l).1 (xTexts M.toNat e l).2.2) := by
  obtain ⟨i0, hi, hz0, hz1, hz2⟩ := info_parts infoStr
  obtain ⟨hM0, hM1⟩ := hM
  obtain ⟨a, n0, c, rfl⟩ := h.form
  obtain ⟨e1, n, l1, h1⟩ : ∃ e1 n l1, stVar M.toNat e l = (e1, n, l1) := ⟨_, _, _, rfl⟩
  have n1 := stVar_bd (M := M.toNat) (e := e) (l := l)
  rw [h1] at n1
  simp only at n1
  unfold xTexts
  simp only [h1]
  obtain ⟨E, TS, LL, h2⟩ : ∃ E TS LL, xTs n e1 l1 = (E, TS, LL) := ⟨_, _, _, rfl⟩
  simp only [h2]
  have hnI : (n : Int) ≤ 16 := by omega
  have H2 := Lib.hid h2
  have HG := Lib.hid hG
  have J0 := Lib.hid (TJ.new (e := e) h)
  have C1 := Lib.hid (fun (u : World) (hj : TJ w G a n0 c e l u) => xVar_st G u (.slice a n0 c) l l1 e e1 n M (fun g hg => Nat.lt_of_lt_of_le (hG g hg) hj.B.size) hj.R ⟨hM0, by omega⟩ h1)
  have CT := Lib.hid (fun (u : World) (a2 : Option Addr) (n2 c2 : Nat) (l2 l3 x : List UInt8) (e3 : Nat) (hj : TJ w G a2 n2 c2 0 l2 u) (hx : sT 0 l2 = (e3, x, l3)) => xText_st G u (.slice a2 n2 c2) l2 l3 x 0 e3 96 (fun g hg => Nat.lt_of_lt_of_le (hG g hg) hj.B.size) hj.R (by omega) (by rw [capM_96]; exact hx))
  clear h1 h2 n1 h hG
  go_enter Try.func45, Try.ntmps45
  go_upto_region 1 with fail
  generalize (w.alloc (.cells #[.slice a n0 c, .int .i64 (e : Int)] 75)).alloc (.cells #[.slice none 0 0, .int .i64 0] 75) = W0 at *
  have z0 := J0.out.X.cell 0
  have z1 := J0.out.X.cell 1
  simp at z0 z1
  have zf0 := J0.out.X.frozen 0
  have zf1 := J0.out.X.frozen 1
  have zlt := J0.out.X.lt
  go_upto_region 2 with (go_at_call 73; (with_reducible refine (C1.out _ J0.out).mono ?_); rintro en w1 ⟨v1, rfl, hr1, hb1⟩; obtain ⟨a1, n1, c1, rfl⟩ := hr1.form; have K1 := Lib.hid (J0.out.belowS HG.out hb1); have HR1 := Lib.hid hr1; have y0 := K1.out.X.cell 0; have y1 := K1.out.X.cell 1; simp at y0 y1; have yf0 := K1.out.X.frozen 0; have yf1 := K1.out.X.frozen 1; have ylt := K1.out.X.lt; clear hr1 hb1)
  have J1 := Lib.hid (TJ.set2 (e' := e1) HG.out K1.out HR1.out)
  clear C1 J0 z0 z1 zf0 zf1 zlt K1 HR1 y0 y1 yf0 yf1 ylt
  generalize (w1.setCell ⟨w.heap.size, 0, none⟩ (.slice a1 n1 c1)).setCell ⟨w.heap.size, 1, none⟩ (.int .i64 (e1 : Int)) = W1 at *
  go_upto_region 4 with fail
  go_wp2_with fail
  go_loopw [7, 8] (fun s i wr => ∃ (k : Nat) (q : Value) (acc : List (List UInt8)) (a2 : Option Addr) (n2 c2 e2 : Nat) (l2 : List UInt8), k ≤ n ∧ i = .int .i64 (k : Int) ∧ q = s ∧ Hid (acc.length = k) ∧ Hid (TJ w G a2 n2 c2 e2 l2 wr) ∧ Hid (wr.ownsRow (w.heap.size + 2) 9 1 q k (strs acc)) ∧ Hid (∃ T', acc ++ T' = TS ∧ xTs (n - k) e2 l2 = (E, T', LL))) (fun _ i _ => n - (intOf i).toNat)
  case atStart => exact ⟨0, _, [], a1, n1, c1, e1, l1, by omega, rfl, rfl, Lib.hid rfl, J1, Lib.hid rows_none, ⟨TS, rfl, by rw [Nat.sub_zero]; exact H2.out⟩⟩
  case round =>
    obtain ⟨k, q, acc, a2, n2, c2, e2, l2, hk, rfl, rfl, hac, hJ, hown, hit⟩ := hrel
    by_cases hgo : k < n ∧ e2 = 0
    · obtain ⟨hlt, rfl⟩ := hgo
      have hlt' : (k : Int) < n := by omega
      obtain ⟨T', hT1, hT2⟩ := hit.out
      rw [show n - k = (n - (k + 1)) + 1 by omega, xTs, if_pos rfl] at hT2
      obtain ⟨e3, xx, l3, hx⟩ : ∃ e3 xx l3, sT 0 l2 = (e3, xx, l3) := ⟨_, _, _, rfl⟩
      simp only [hx, Prod.mk.injEq] at hT2
      have C := Lib.hid (CT.out wr a2 n2 c2 l2 l3 xx e3 hJ.out hx)
      rw [show ((0 : Nat) : Int) = 0 from rfl] at C
      have HIT2 := Lib.hid (show ∃ T'', (acc ++ [xx]) ++ T'' = TS ∧ xTs (n - (k + 1)) e3 l3 = (E, T'', LL) from ⟨_, by rw [← hT1, ← hT2.2.1, List.append_assoc]; rfl, by rw [← hT2.1, ← hT2.2.2]⟩)
      have hac2 := Lib.hid (show (acc ++ [xx]).length = k + 1 by rw [List.length_append, hac.out]; rfl)
      have happ := Lib.hid (strs_append acc [xx])
      have hcl : Hid (strs [xx] = [.string (bs xx)]) := rfl
      have hcx : Hid (∀ (u : World), ∀ j x, ([.string (bs xx)] : List Value)[j]? = some x → (u.alloc (.cells ([.string (bs xx)] : List Value).toArray 9)).cell? ((⟨u.heap.size, 0, none⟩ : Addr).add j) = some x) := fun u => new_cells u _ _
      clear hT1 hT2 hx
      generalize bs xx = x at *
      have z0 := hJ.out.X.cell 0
      have z1 := hJ.out.X.cell 1
      simp at z0 z1
      have zf0 := hJ.out.X.frozen 0
      have zf1 := hJ.out.X.frozen 1
      have zlt := hJ.out.X.lt
      have zz := hJ.out.sz
      go_upto_region 8 with (go_at_call 44; (with_reducible refine C.out.mono ?_); rintro en w2 ⟨v3, rfl, hr3, hb3⟩; obtain ⟨a3, n3, c3, rfl⟩ := hr3.form; have K3 := Lib.hid (hJ.out.belowS HG.out hb3); have O3 := Lib.hid (owns_below hown.out hb3); have HR3 := Lib.hid hr3; have y0 := K3.out.X.cell 0; have y1 := K3.out.X.cell 1; simp at y0 y1; have yf0 := K3.out.X.frozen 0; have yf1 := K3.out.X.frozen 1; have ylt := K3.out.X.lt; clear hr3 hb3)
      have J3 := Lib.hid (TJ.set2 (e' := e3) HG.out K3.out HR3.out)
      have O4 := Lib.hid (owns_set (owns_set O3.out (p := w.heap.size) (i := 0) (by omega) (.slice a3 n3 c3)) (p := w.heap.size) (i := 1) (by omega) (.int .i64 (e3 : Int)))
      clear C hJ hown z0 z1 zf0 zf1 zlt K3 O3 HR3 y0 y1 yf0 yf1 ylt
      generalize (w2.setCell ⟨w.heap.size, 0, none⟩ (.slice a3 n3 c3)).setCell ⟨w.heap.size, 1, none⟩ (.int .i64 (e3 : Int)) = W3 at *
      have O5 := Lib.hid (owns_below O4.out (below_new W3 (.cells #[.string x] 9)))
      have J5 := Lib.hid (J3.out.belowS HG.out (below_new W3 (.cells #[.string x] 9)))
      have HCX := hcx.out W3
      have hs5 : w.heap.size + 2 ≤ (W3.alloc (.cells #[.string x] 9)).heap.size := J5.out.sz
      go_wp2_with (at_builtin; refine wpList_append_own _ rfl _ _ 22 rfl (w.heap.size + 2) 9 i0 (.string ⟨#[]⟩) 1 16 Try.underlying22 hi hz0 hz1 hz2 rfl (by decide) _ k _ rfl O5.out ⟨W3.heap.size, 0, none⟩ 1 1 [.string x] rfl rfl HCX (by intro u hu; obtain rfl := List.mem_singleton.1 hu; rfl) (by unfold maxLen; omega) (by omega) hs5 ?_; intro v' w4 hown4 hgrow _)
      have J6 := Lib.hid (TJ.grow (B := 0) HG.out J5.out hgrow (fun g hg => (O5.out.lt g hg).1))
      have HO := Lib.hid (show w4.ownsRow (w.heap.size + 2) 9 1 v' (k + 1) (strs (acc ++ [xx])) by rw [happ.out, hcl.out]; exact hown4)
      clear hown4 hgrow J5 O5 J3 O4
      go_roundw
      case rel => exact ⟨k + 1, _, acc ++ [xx], a3, n3, c3, e3, l3, by omega, by go_num, rfl, hac2, J6, HO, HIT2⟩
      case measure => simp [intOf]; omega
    · have hend : Hid (E = e2 ∧ acc = TS ∧ LL = l2) := by
        obtain ⟨T', hT1, hT2⟩ := hit.out
        have e4 : xTs (n - k) e2 l2 = (e2, [], l2) := by
          by_cases h0 : e2 = 0
          · have : k = n := by omega
            subst this
            rw [Nat.sub_self]; rfl
          · exact xTs_dead h0
        rw [e4] at hT2
        simp only [Prod.mk.injEq] at hT2
        obtain ⟨rfl, rfl, rfl⟩ := hT2
        rw [List.append_nil] at hT1
        exact ⟨rfl, hT1, rfl⟩
      clear hit H2
      by_cases hlt : k < n
      · have hlt' : (k : Int) < n := by omega
        have he0 : ¬ e2 = 0 := fun h => hgo ⟨hlt, h⟩
        have he' : ((e2 : Int) == 0) = false := beq_eq_false_iff_ne.2 (by omega)
        clear he0 hgo
        have z0 := hJ.out.X.cell 0
        have z1 := hJ.out.X.cell 1
        simp at z0 z1
        have zf0 := hJ.out.X.frozen 0
        have zf1 := hJ.out.X.frozen 1
        have zlt := hJ.out.X.lt
        have y0 := hJ.out.Y.cell 0
        have y1 := hJ.out.Y.cell 1
        simp at y0 y1
        have yf0 := hJ.out.Y.frozen 0
        have yf1 := hJ.out.Y.frozen 1
        have ylt := hJ.out.Y.lt
        have FY := Lib.hid (show Whole ((wr.setCell ⟨w.heap.size + 1, 0, none⟩ (.slice a2 n2 c2)).setCell ⟨w.heap.size + 1, 1, none⟩ (.int .i64 (e2 : Int))) (w.heap.size + 1) 75 #[.slice a2 n2 c2, .int .i64 (e2 : Int)] from (hJ.out.Y.set_ 0 (.slice a2 n2 c2)).set_ 1 (.int .i64 (e2 : Int)))
        have FB := Lib.hid (below_two hJ.out.B (g := w.heap.size + 1) (by omega) (.slice a2 n2 c2) (.int .i64 (e2 : Int)))
        have FR : Hid (Reads G ((wr.setCell ⟨w.heap.size + 1, 0, none⟩ (.slice a2 n2 c2)).setCell ⟨w.heap.size + 1, 1, none⟩ (.int .i64 (e2 : Int))) (.slice a2 n2 c2) (u8s l2)) := hJ.out.R.keep fun g hg _ => by
          have := HG.out g hg
          rw [Below.heap_setCell _ _ _ _ (by simp; omega), Below.heap_setCell _ _ _ _ (by simp; omega)]
        have FO := Lib.hid (owns_set (owns_set hown.out (p := w.heap.size + 1) (i := 0) (by omega) (.slice a2 n2 c2)) (p := w.heap.size + 1) (i := 1) (by omega) (.int .i64 (e2 : Int)))
        clear hJ hown
        go_wp2_with fail
        generalize (wr.setCell ⟨w.heap.size + 1, 0, none⟩ (.slice a2 n2 c2)).setCell ⟨w.heap.size + 1, 1, none⟩ (.int .i64 (e2 : Int)) = WF at *
        have g0 := FY.out.cell 0
        have g1 := FY.out.cell 1
        simp at g0 g1
        obtain ⟨rfl, rfl, rfl⟩ := hend.out
        exact bodyPost_ret (v := .tuple #[.agg #[.slice a2 n2 c2, .int .i64 (E : Int)], q]) (by simp [results, Try.results45, go_sem, g0, g1]) rfl ⟨_, _, rfl, FR.out, owns_base (by rw [hac.out]; exact FO.out) (by omega), FB.out⟩
      · obtain rfl : k = n := by omega
        clear hgo hlt
        have z0 := hJ.out.X.cell 0
        have z1 := hJ.out.X.cell 1
        simp at z0 z1
        have zf0 := hJ.out.X.frozen 0
        have zf1 := hJ.out.X.frozen 1
        have zlt := hJ.out.X.lt
        have y0 := hJ.out.Y.cell 0
        have y1 := hJ.out.Y.cell 1
        simp at y0 y1
        have yf0 := hJ.out.Y.frozen 0
        have yf1 := hJ.out.Y.frozen 1
        have ylt := hJ.out.Y.lt
        have FY := Lib.hid (show Whole ((wr.setCell ⟨w.heap.size + 1, 0, none⟩ (.slice a2 n2 c2)).setCell ⟨w.heap.size + 1, 1, none⟩ (.int .i64 (e2 : Int))) (w.heap.size + 1) 75 #[.slice a2 n2 c2, .int .i64 (e2 : Int)] from (hJ.out.Y.set_ 0 (.slice a2 n2 c2)).set_ 1 (.int .i64 (e2 : Int)))
        have FB := Lib.hid (below_two hJ.out.B (g := w.heap.size + 1) (by omega) (.slice a2 n2 c2) (.int .i64 (e2 : Int)))
        have FR : Hid (Reads G ((wr.setCell ⟨w.heap.size + 1, 0, none⟩ (.slice a2 n2 c2)).setCell ⟨w.heap.size + 1, 1, none⟩ (.int .i64 (e2 : Int))) (.slice a2 n2 c2) (u8s l2)) := hJ.out.R.keep fun g hg _ => by
          have := HG.out g hg
          rw [Below.heap_setCell _ _ _ _ (by simp; omega), Below.heap_setCell _ _ _ _ (by simp; omega)]
        have FO := Lib.hid (owns_set (owns_set hown.out (p := w.heap.size + 1) (i := 0) (by omega) (.slice a2 n2 c2)) (p := w.heap.size + 1) (i := 1) (by omega) (.int .i64 (e2 : Int)))
        clear hJ hown
        go_wp2_with fail
        generalize (wr.setCell ⟨w.heap.size + 1, 0, none⟩ (.slice a2 n2 c2)).setCell ⟨w.heap.size + 1, 1, none⟩ (.int .i64 (e2 : Int)) = WF at *
        have g0 := FY.out.cell 0
        have g1 := FY.out.cell 1
        simp at g0 g1
        obtain ⟨rfl, rfl, rfl⟩ := hend.out
        exact bodyPost_ret (v := .tuple #[.agg #[.slice a2 n2 c2, .int .i64 (E : Int)], q]) (by simp [results, Try.results45, go_sem, g0, g1]) rfl ⟨_, _, rfl, FR.out, owns_base (by rw [hac.out]; exact FO.out) (by omega), FB.out⟩
theorem refGetRelocs_any {v : Value} (hG : ∀ g, G g → g < w.heap.size) (h : Reads G w v (u8s l)) :
    Calls Try.prog 47 #[.agg #[v, .int .i64 (e : Int)]] w (IsRefL G w 48 3 (xRels e l).2.1.length (relC (xRels e l).2.1) (xRels e l).1 (xRels e l).2.2) := by
  obtain ⟨i0, hi, hz0, hz1, hz2⟩ := info_parts infoRel
  obtain ⟨a, n0, c, rfl⟩ := h.form
  obtain ⟨e1, n, l1, h1⟩ : ∃ e1 n l1, stVar 256 e l = (e1, n, l1) := ⟨_, _, _, rfl⟩
  have n1 := stVar_bd (M := 256) (e := e) (l := l)
  rw [h1] at n1
  simp only at n1
  unfold xRels
  simp only [h1]
  obtain ⟨E, TS, LL, h2⟩ : ∃ E TS LL, xRs n [] e1 l1 = (E, TS, LL) := ⟨_, _, _, rfl⟩
  simp only [h2]
  have hnI : (n : Int) ≤ 256 := by omega
  have H2 := Lib.hid h2
  have HG := Lib.hid hG
  have J0 := Lib.hid (TJ.new (e := e) h)
  have C1 := Lib.hid (fun (u : World) (hj : TJ w G a n0 c e l u) => xVar_st G u (.slice a n0 c) l l1 e e1 n 256 (fun g hg => Nat.lt_of_lt_of_le (hG g hg) hj.B.size) hj.R (by omega) h1)
  have CV := Lib.hid (fun (a2 : Option Addr) (n2 c2 : Nat) (l2 l3 : List UInt8) (e2 e3 x : Nat) (hx : stVar 65535 e2 l2 = (e3, x, l3)) (u : World) (hj : TJ w G a2 n2 c2 e2 l2 u) => xVar_st G u (.slice a2 n2 c2) l2 l3 e2 e3 x 65535 (fun g hg => Nat.lt_of_lt_of_le (hG g hg) hj.B.size) hj.R (by omega) hx)
  clear h1 h2 n1 h hG
  go_enter Try.func47, Try.ntmps47
  go_upto_region 1 with fail
  generalize (w.alloc (.cells #[.slice a n0 c, .int .i64 (e : Int)] 75)).alloc (.cells #[.slice none 0 0, .int .i64 0] 75) = W0 at *
  have z0 := J0.out.X.cell 0
  have z1 := J0.out.X.cell 1
  simp at z0 z1
  have zf0 := J0.out.X.frozen 0
  have zf1 := J0.out.X.frozen 1
  have zlt := J0.out.X.lt
  go_upto_region 2 with (go_at_call 73; (with_reducible refine (C1.out _ J0.out).mono ?_); rintro en w1 ⟨v1, rfl, hr1, hb1⟩; obtain ⟨a1, n1, c1, rfl⟩ := hr1.form; have K1 := Lib.hid (J0.out.belowS HG.out hb1); have HR1 := Lib.hid hr1; have y0 := K1.out.X.cell 0; have y1 := K1.out.X.cell 1; simp at y0 y1; have yf0 := K1.out.X.frozen 0; have yf1 := K1.out.X.frozen 1; have ylt := K1.out.X.lt; clear hr1 hb1)
  have J1 := Lib.hid (TJ.set2 (e' := e1) HG.out K1.out HR1.out)
  clear C1 J0 z0 z1 zf0 zf1 zlt K1 HR1 y0 y1 yf0 yf1 ylt
  generalize (w1.setCell ⟨w.heap.size, 0, none⟩ (.slice a1 n1 c1)).setCell ⟨w.heap.size, 1, none⟩ (.int .i64 (e1 : Int)) = W1 at *
  go_upto_region 4 with fail
  go_wp2_with fail
  go_loopw [5, 6] (fun s i wr => ∃ (k : Nat) (q : Value) (acc : List Rl) (a2 : Option Addr) (n2 c2 e2 : Nat) (l2 : List UInt8), k ≤ n ∧ i = .int .i64 (k : Int) ∧ q = s ∧ Hid (acc.length = k) ∧ Hid (TJ w G a2 n2 c2 e2 l2 wr) ∧ Hid (wr.ownsRow (w.heap.size + 2) 48 3 q k (relC acc)) ∧ Hid (xRs (n - k) acc e2 l2 = (E, TS, LL))) (fun _ i _ => n - (intOf i).toNat)
  case atStart => exact ⟨0, _, [], a1, n1, c1, e1, l1, by omega, rfl, rfl, Lib.hid rfl, J1, Lib.hid rows_none, by rw [Nat.sub_zero]; exact H2⟩
  case round =>
    obtain ⟨k, q, acc, a2, n2, c2, e2, l2, hk, rfl, rfl, hac, hJ, hown, hit⟩ := hrel
    by_cases hgo : k < n ∧ e2 = 0
    · obtain ⟨hlt, rfl⟩ := hgo
      have hlt' : (k : Int) < n := by omega
      have hT2 := hit.out
      rw [show n - k = (n - (k + 1)) + 1 by omega, xRs, if_pos rfl] at hT2
      have hn2 : l2.length = n2 := by have := (reads_len hJ.out.R).1; rwa [u8s_len] at this
      have z0 := hJ.out.X.cell 0
      have z1 := hJ.out.X.cell 1
      simp at z0 z1
      have zf0 := hJ.out.X.frozen 0
      have zf1 := hJ.out.X.frozen 1
      have zlt := hJ.out.X.lt
      have zz := hJ.out.sz
      cases l2 with
      | nil =>
        rw [if_pos rfl] at hT2
        simp only [Prod.mk.injEq] at hT2
        have hend : Hid (E = 3 ∧ TS = [] ∧ LL = []) := ⟨hT2.1.symm, hT2.2.1.symm, hT2.2.2.symm⟩
        have hn0 : n2 = 0 := by rw [← hn2]; rfl
        subst hn0
        clear hT2 hit hn2 CV H2
        have y0 := hJ.out.Y.cell 0
        have y1 := hJ.out.Y.cell 1
        simp at y0 y1
        have yf0 := hJ.out.Y.frozen 0
        have yf1 := hJ.out.Y.frozen 1
        have ylt := hJ.out.Y.lt
        have FY := Lib.hid (show Whole ((wr.setCell ⟨w.heap.size + 1, 0, none⟩ (Value.slice none 0 0)).setCell ⟨w.heap.size + 1, 1, none⟩ (.int .i64 3)) (w.heap.size + 1) 75 #[Value.slice none 0 0, .int .i64 3] from (hJ.out.Y.set_ 0 (Value.slice none 0 0)).set_ 1 (.int .i64 3))
        have FB := Lib.hid (below_two hJ.out.B (g := w.heap.size + 1) (by omega) (Value.slice none 0 0) (.int .i64 3))
        go_wp2_with fail
        generalize (wr.setCell ⟨w.heap.size + 1, 0, none⟩ (Value.slice none 0 0)).setCell ⟨w.heap.size + 1, 1, none⟩ (.int .i64 3) = WF at *
        have g0 := FY.out.cell 0
        have g1 := FY.out.cell 1
        simp at g0 g1
        obtain ⟨rfl, rfl, rfl⟩ := hend.out
        exact bodyPost_ret (v := .tuple #[.agg #[.slice none 0 0, .int .i64 3], .slice none 0 0]) (by simp [results, Try.results47, go_sem, g0, g1]) rfl ⟨_, _, rfl, Reads.nil _ _, rows_none, FB.out⟩
      | cons ch t =>
        rw [if_neg (List.cons_ne_nil ch t), show (ch :: t).headD 0 = ch from rfl, show (ch :: t).tail = t from rfl] at hT2
        obtain ⟨e4, at_, l4, h4⟩ : ∃ y x z, stVar 65535 0 t = (y, x, z) := ⟨_, _, _, rfl⟩
        obtain ⟨e5, wh, l5, h5⟩ : ∃ y x z, stVar 65535 e4 l4 = (y, x, z) := ⟨_, _, _, rfl⟩
        have d4 := stVar_bd (M := 65535) (e := 0) (l := t)
        have d5 := stVar_bd (M := 65535) (e := e4) (l := l4)
        rw [h4] at d4
        rw [h5] at d5
        simp only at d4 d5
        unfold xRel at hT2
        simp only [h4, h5] at hT2
        have HIT := Lib.hid hT2
        have hac2 := Lib.hid (show (acc ++ [(⟨ch.toNat, at_, wh⟩ : Rl)]).length = k + 1 by rw [List.length_append, hac.out]; rfl)
        have happ := Lib.hid (relC_append acc [⟨ch.toNat, at_, wh⟩])
        have hcl : Hid (relC [⟨ch.toNat, at_, wh⟩] = [.int .u8 (ch.toNat : Int), .int .u16 (at_ : Int), .int .u16 (wh : Int)]) := rfl
        obtain ⟨g, off, cap, ev, hg, _, _, hcell⟩ := hJ.out.R.cells (by simp [u8s])
        simp only [Value.slice.injEq] at ev
        obtain ⟨rfl, hnn, rfl⟩ := ev
        clear hnn
        have hc0 := hcell 0 (by simp [u8s])
        rw [Nat.add_zero] at hc0
        have hc0' : wr.cell? ⟨g, off, none⟩ = some (.int .u8 (ch.toNat : Int)) := by rw [hc0]; rfl
        have hn2' : (0 : Int) < n2 := by rw [← hn2]; simp
        have hn2n : ((n2 : Int) == 0) = false := beq_eq_false_iff_ne.2 (by omega)
        obtain ⟨v5, hr5, ht5⟩ := hJ.out.R.drop (P := Try.prog) elemBytes sizeBytes 1 (by simp [u8s])
        rw [← u8s_drop, show (ch :: t).drop 1 = t from rfl] at ht5
        have hsl : ∀ u, (Instr.slice 30 (.slice (some ⟨g, off, none⟩) n2 c2) (some (.int .i64 1)) none none).run Try.prog u = .ok v5 u := fun u => hr5 .i64 u
        obtain ⟨a5, n5, c5, rfl⟩ := ht5.form
        have C4 := Lib.hid (CV.out a5 n5 c5 t l4 0 e4 at_ h4)
        rw [show ((0 : Nat) : Int) = 0 from rfl] at C4
        have HT5 := Lib.hid ht5
        clear hT2 hit hn2 hcell hc0 ht5 hr5 h4 H2
        have k8 : (0 : Int) ≤ (at_ : Int) := by omega
        have k9 : (at_ : Int) ≤ 65535 := by omega
        have k10 : (0 : Int) ≤ (wh : Int) := by omega
        have k11 : (wh : Int) ≤ 65535 := by omega
        have wa : IntKind.u16.wrap (at_ : Int) = at_ := by rw [IntKind.wrap_u16]; omega
        have wd : IntKind.u16.wrap (wh : Int) = wh := by rw [IntKind.wrap_u16]; omega
        go_upto_region 10 with fail
        have J2 := Lib.hid (TJ.set2 (e' := 0) HG.out hJ.out HT5.out)
        have O2 := Lib.hid (owns_set (owns_set hown.out (p := w.heap.size) (i := 0) (by omega) (.slice a5 n5 c5)) (p := w.heap.size) (i := 1) (by omega) (.int .i64 ((0 : Nat) : Int)))
        rw [show ((0 : Nat) : Int) = 0 from rfl] at J2 O2
        clear hJ hown z0 z1 zf0 zf1 zlt HT5 hsl hc0'
        generalize (wr.setCell ⟨w.heap.size, 0, none⟩ (.slice a5 n5 c5)).setCell ⟨w.heap.size, 1, none⟩ (.int .i64 0) = W2 at *
        have z0 := J2.out.X.cell 0
        have z1 := J2.out.X.cell 1
        simp at z0 z1
        have zf0 := J2.out.X.frozen 0
        have zf1 := J2.out.X.frozen 1
        have zlt := J2.out.X.lt
        go_upto_region 12 with (go_at_call 73; (with_reducible refine (C4.out _ J2.out).mono ?_); rintro en w6 ⟨v6, rfl, hr1, hb1⟩; obtain ⟨a6, n6, c6, rfl⟩ := hr1.form; have K6 := Lib.hid (J2.out.belowS HG.out hb1); have Ok6 := Lib.hid (owns_below O2.out hb1); have HR6 := Lib.hid hr1; have y0 := K6.out.X.cell 0; have y1 := K6.out.X.cell 1; simp at y0 y1; have yf0 := K6.out.X.frozen 0; have yf1 := K6.out.X.frozen 1; have ylt := K6.out.X.lt; clear hr1 hb1)
        have J6 := Lib.hid (TJ.set2 (e' := e4) HG.out K6.out HR6.out)
        have O6 := Lib.hid (owns_set (owns_set Ok6.out (p := w.heap.size) (i := 0) (by omega) (.slice a6 n6 c6)) (p := w.heap.size) (i := 1) (by omega) (.int .i64 (e4 : Int)))
        have C5 := Lib.hid (CV.out a6 n6 c6 l4 l5 e4 e5 wh h5)
        clear C4 J2 O2 z0 z1 zf0 zf1 zlt K6 Ok6 HR6 y0 y1 yf0 yf1 ylt h5 CV
        generalize (w6.setCell ⟨w.heap.size, 0, none⟩ (.slice a6 n6 c6)).setCell ⟨w.heap.size, 1, none⟩ (.int .i64 (e4 : Int)) = W6 at *
        have z0 := J6.out.X.cell 0
        have z1 := J6.out.X.cell 1
        simp at z0 z1
        have zf0 := J6.out.X.frozen 0
        have zf1 := J6.out.X.frozen 1
        have zlt := J6.out.X.lt
        go_upto_region 13 with (go_at_call 73; (with_reducible refine (C5.out _ J6.out).mono ?_); rintro en w7 ⟨v7, rfl, hr1, hb1⟩; obtain ⟨a7, n7, c7, rfl⟩ := hr1.form; have K7 := Lib.hid (J6.out.belowS HG.out hb1); have Ok7 := Lib.hid (owns_below O6.out hb1); have HR7 := Lib.hid hr1; have y0 := K7.out.X.cell 0; have y1 := K7.out.X.cell 1; simp at y0 y1; have yf0 := K7.out.X.frozen 0; have yf1 := K7.out.X.frozen 1; have ylt := K7.out.X.lt; clear hr1 hb1)
        have J7 := Lib.hid (TJ.set2 (e' := e5) HG.out K7.out HR7.out)
        have O7 := Lib.hid (owns_set (owns_set Ok7.out (p := w.heap.size) (i := 0) (by omega) (.slice a7 n7 c7)) (p := w.heap.size) (i := 1) (by omega) (.int .i64 (e5 : Int)))
        clear C5 J6 O6 z0 z1 zf0 zf1 zlt K7 Ok7 HR7 y0 y1 yf0 yf1 ylt
        generalize (w7.setCell ⟨w.heap.size, 0, none⟩ (.slice a7 n7 c7)).setCell ⟨w.heap.size, 1, none⟩ (.int .i64 (e5 : Int)) = W7 at *
        have HCX0 := new_cells W7 [.int .u8 (ch.toNat : Int), .int .u16 (at_ : Int), .int .u16 (wh : Int)] 48
        generalize hci : (ch.toNat : Int) = ki at *
        generalize hai : (at_ : Int) = ai at *
        generalize hwi : (wh : Int) = di at *
        have HCX := HCX0
        have O8 := Lib.hid (owns_below O7.out (below_new W7 (.cells #[.int .u8 ki, .int .u16 ai, .int .u16 di] 48)))
        have J8 := Lib.hid (J7.out.belowS HG.out (below_new W7 (.cells #[.int .u8 ki, .int .u16 ai, .int .u16 di] 48)))
        have hs8 : w.heap.size + 2 ≤ (W7.alloc (.cells #[.int .u8 ki, .int .u16 ai, .int .u16 di] 48)).heap.size := J8.out.sz
        have hon : ∀ u ∈ ([.int .u8 ki, .int .u16 ai, .int .u16 di] : List Value), u.oneCell' = true := by
          intro u hu
          simp only [List.mem_cons, List.not_mem_nil, or_false] at hu
          rcases hu with rfl | rfl | rfl <;> rfl
        have hcl' := hcl
        clear hci hai hwi hcl J7 O7 HCX0
        go_wp2_with (at_builtin; refine wpList_append_own _ rfl _ _ 24 rfl (w.heap.size + 2) 48 i0 (.agg #[.int .u8 0, .int .u16 0, .int .u16 0]) 3 6 Try.underlying24 hi hz0 hz1 hz2 rfl (by decide) _ k _ rfl O8.out ⟨W7.heap.size, 0, none⟩ 1 1 [.int .u8 ki, .int .u16 ai, .int .u16 di] rfl rfl HCX hon (by unfold maxLen; omega) (by omega) hs8 ?_; intro v' w9 hown4 hgrow _)
        have J9 := Lib.hid (TJ.grow (B := 0) HG.out J8.out hgrow (fun g hg => (O8.out.lt g hg).1))
        have HO := Lib.hid (show w9.ownsRow (w.heap.size + 2) 48 3 v' (k + 1) (relC (acc ++ [⟨ch.toNat, at_, wh⟩])) by rw [happ.out, hcl'.out]; exact hown4)
        clear hown4 hgrow J8 O8
        go_roundw
        case rel => exact ⟨k + 1, _, _, a7, n7, c7, e5, l5, by omega, by go_num, rfl, hac2, J9, HO, HIT⟩
        case measure => simp [intOf]; omega
    · have hend : Hid (E = e2 ∧ acc = TS ∧ LL = l2) := by
        have hT2 := hit.out
        have e4 : xRs (n - k) acc e2 l2 = (e2, acc, l2) := by
          by_cases h0 : e2 = 0
          · have : k = n := by omega
            subst this
            rw [Nat.sub_self]; rfl
          · exact xRs_dead h0
        rw [e4] at hT2
        simp only [Prod.mk.injEq] at hT2
        obtain ⟨rfl, rfl, rfl⟩ := hT2
        exact ⟨rfl, rfl, rfl⟩
      clear hit H2 CV
      by_cases hlt : k < n
      · have hlt' : (k : Int) < n := by omega
        have he0 : ¬ e2 = 0 := fun h => hgo ⟨hlt, h⟩
        have he' : ((e2 : Int) == 0) = false := beq_eq_false_iff_ne.2 (by omega)
        clear he0 hgo
        have z0 := hJ.out.X.cell 0
        have z1 := hJ.out.X.cell 1
        simp at z0 z1
        have zf0 := hJ.out.X.frozen 0
        have zf1 := hJ.out.X.frozen 1
        have zlt := hJ.out.X.lt
        have y0 := hJ.out.Y.cell 0
        have y1 := hJ.out.Y.cell 1
        simp at y0 y1
        have yf0 := hJ.out.Y.frozen 0
        have yf1 := hJ.out.Y.frozen 1
        have ylt := hJ.out.Y.lt
        have FY := Lib.hid (show Whole ((wr.setCell ⟨w.heap.size + 1, 0, none⟩ (Value.slice a2 n2 c2)).setCell ⟨w.heap.size + 1, 1, none⟩ (.int .i64 (e2 : Int))) (w.heap.size + 1) 75 #[Value.slice a2 n2 c2, .int .i64 (e2 : Int)] from (hJ.out.Y.set_ 0 (Value.slice a2 n2 c2)).set_ 1 (.int .i64 (e2 : Int)))
        have FB := Lib.hid (below_two hJ.out.B (g := w.heap.size + 1) (by omega) (Value.slice a2 n2 c2) (.int .i64 (e2 : Int)))
        have FR : Hid (Reads G ((wr.setCell ⟨w.heap.size + 1, 0, none⟩ (Value.slice a2 n2 c2)).setCell ⟨w.heap.size + 1, 1, none⟩ (.int .i64 (e2 : Int))) (Value.slice a2 n2 c2) (u8s l2)) := hJ.out.R.keep fun g hg _ => by
          have := HG.out g hg
          rw [Below.heap_setCell _ _ _ _ (by simp; omega), Below.heap_setCell _ _ _ _ (by simp; omega)]
        have FO := Lib.hid (owns_set (owns_set hown.out (p := w.heap.size + 1) (i := 0) (by omega) (Value.slice a2 n2 c2)) (p := w.heap.size + 1) (i := 1) (by omega) (.int .i64 (e2 : Int)))
        clear hJ hown
        go_wp2_with fail
        generalize (wr.setCell ⟨w.heap.size + 1, 0, none⟩ (Value.slice a2 n2 c2)).setCell ⟨w.heap.size + 1, 1, none⟩ (.int .i64 (e2 : Int)) = WF at *
        have g0 := FY.out.cell 0
        have g1 := FY.out.cell 1
        simp at g0 g1
        obtain ⟨rfl, rfl, rfl⟩ := hend.out
        exact bodyPost_ret (v := .tuple #[.agg #[Value.slice a2 n2 c2, .int .i64 (E : Int)], q]) (by simp [results, Try.results47, go_sem, g0, g1]) rfl ⟨_, _, rfl, FR.out, owns_base (by rw [hac.out]; exact FO.out) (by omega), FB.out⟩
      · obtain rfl : k = n := by omega
        clear hgo hlt
        have z0 := hJ.out.X.cell 0
        have z1 := hJ.out.X.cell 1
        simp at z0 z1
        have zf0 := hJ.out.X.frozen 0
        have zf1 := hJ.out.X.frozen 1
        have zlt := hJ.out.X.lt
        have y0 := hJ.out.Y.cell 0
        have y1 := hJ.out.Y.cell 1
        simp at y0 y1
        have yf0 := hJ.out.Y.frozen 0
        have yf1 := hJ.out.Y.frozen 1
        have ylt := hJ.out.Y.lt
        have FY := Lib.hid (show Whole ((wr.setCell ⟨w.heap.size + 1, 0, none⟩ (Value.slice a2 n2 c2)).setCell ⟨w.heap.size + 1, 1, none⟩ (.int .i64 (e2 : Int))) (w.heap.size + 1) 75 #[Value.slice a2 n2 c2, .int .i64 (e2 : Int)] from (hJ.out.Y.set_ 0 (Value.slice a2 n2 c2)).set_ 1 (.int .i64 (e2 : Int)))
        have FB := Lib.hid (below_two hJ.out.B (g := w.heap.size + 1) (by omega) (Value.slice a2 n2 c2) (.int .i64 (e2 : Int)))
        have FR : Hid (Reads G ((wr.setCell ⟨w.heap.size + 1, 0, none⟩ (Value.slice a2 n2 c2)).setCell ⟨w.heap.size + 1, 1, none⟩ (.int .i64 (e2 : Int))) (Value.slice a2 n2 c2) (u8s l2)) := hJ.out.R.keep fun g hg _ => by
          have := HG.out g hg
          rw [Below.heap_setCell _ _ _ _ (by simp; omega), Below.heap_setCell _ _ _ _ (by simp; omega)]
        have FO := Lib.hid (owns_set (owns_set hown.out (p := w.heap.size + 1) (i := 0) (by omega) (Value.slice a2 n2 c2)) (p := w.heap.size + 1) (i := 1) (by omega) (.int .i64 (e2 : Int)))
        clear hJ hown
        go_wp2_with fail
        generalize (wr.setCell ⟨w.heap.size + 1, 0, none⟩ (Value.slice a2 n2 c2)).setCell ⟨w.heap.size + 1, 1, none⟩ (.int .i64 (e2 : Int)) = WF at *
        have g0 := FY.out.cell 0
        have g1 := FY.out.cell 1
        simp at g0 g1
        obtain ⟨rfl, rfl, rfl⟩ := hend.out
        exact bodyPost_ret (v := .tuple #[.agg #[Value.slice a2 n2 c2, .int .i64 (E : Int)], q]) (by simp [results, Try.results47, go_sem, g0, g1]) rfl ⟨_, _, rfl, FR.out, owns_base (by rw [hac.out]; exact FO.out) (by omega), FB.out⟩
end
end Go.Proofs.Ytdlinlkdielmkaa.OR
